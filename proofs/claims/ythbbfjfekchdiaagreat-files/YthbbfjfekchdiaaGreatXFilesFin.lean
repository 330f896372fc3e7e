import Derived.Test.YthbbfjfekchdiaaGreatRows
import Derived.Test.YthbbfjfekchdiaaGreatXZPoints
import Derived.Test.YthbbfjfekchdiaaGreatXZUpdate2
import Derived.Test.YthbbfjfekchdiaaGreatXZFetch
import Derived.Test.YthbbfjfekchdiaaGreatXZCreate
import Derived.Test.YthbbfjfekchdiaaGreatXZValues
import Derived.Test.YthbbfjfekchdiaaGreatXHKeepsP
import Derived.Test.YthbbfjfekchdiaaGreatXJOne
import Derived.Test.YthbbfjfekchdiaaGreatXZFirst
import Derived.Test.YthbbfjfekchdiaaGreatXJAgain
import Derived.Test.YthbbfjfekchdiaaGreatXJLawFiles
import Derived.Shelf.SlSortCmp.WholeK
import Derived.Shelf.SlSortCmp.NoneTotal
import Derived.Shelf.SlicesG.Cmp
namespace Go.Proofs.YthbbfjfekchdiaaGreat
open Go.Shelf
def Tryz.sortPt_ren : Go.Shelf.Ren := ⟨fun | 6 => 86 | 15 => 100 | 14 => 99 | 28 => 116 | 29 => 117 | 20 => 108 | 21 => 109 | 22 => 110 | 23 => 111 | 24 => 112 | 25 => 113 | 26 => 114 | 27 => 115 | 46 => 120 | 47 => 121 | 48 => 122 | 49 => 123 | 50 => 124 | 57 => 125 | n => n, fun | 22 => 41 | 24 => 48 | 25 => 154 | 3 => 3 | 39 => 160 | 0 => 0 | 53 => 174 | 55 => 176 | 4 => 4 | 46 => 168 | 45 => 167 | 50 => 149 | 5 => 5 | 9 => 9 | 66 => 177 | 70 => 181 | 76 => 183 | 77 => 184 | n => n, fun | n => n⟩
theorem Tryz.sortPt : Go.Proofs.SlLaysF0.n6 Tryz.prog Tryz.sortPt_ren := {
  mixed := by kernel_rfl
  f6 := ⟨Tryz.f86.name, by decide, Tryz.func86.trans (congrArg some (by kernel_rfl))⟩
  f14 := ⟨Tryz.f99.name, by decide, Tryz.func99.trans (congrArg some (by kernel_rfl))⟩
  f15 := Tryz.func100.trans (congrArg some (by kernel_rfl))
  f20 := ⟨Tryz.f108.name, by decide, Tryz.func108.trans (congrArg some (by kernel_rfl))⟩
  f21 := ⟨Tryz.f109.name, by decide, Tryz.func109.trans (congrArg some (by kernel_rfl))⟩
  f22 := ⟨Tryz.f110.name, by decide, Tryz.func110.trans (congrArg some (by kernel_rfl))⟩
  f23 := ⟨Tryz.f111.name, by decide, Tryz.func111.trans (congrArg some (by kernel_rfl))⟩
  f24 := ⟨Tryz.f112.name, by decide, Tryz.func112.trans (congrArg some (by kernel_rfl))⟩
  f25 := ⟨Tryz.f113.name, by decide, Tryz.func113.trans (congrArg some (by kernel_rfl))⟩
  f26 := ⟨Tryz.f114.name, by decide, Tryz.func114.trans (congrArg some (by kernel_rfl))⟩
  f27 := ⟨Tryz.f115.name, by decide, Tryz.func115.trans (congrArg some (by kernel_rfl))⟩
  f28 := Tryz.func116.trans (congrArg some (by kernel_rfl))
  f29 := Tryz.func117.trans (congrArg some (by kernel_rfl))
  f46 := ⟨Tryz.f120.name, by decide, Tryz.func120.trans (congrArg some (by kernel_rfl))⟩
  f47 := Tryz.func121.trans (congrArg some (by kernel_rfl))
  f48 := Tryz.func122.trans (congrArg some (by kernel_rfl))
  f49 := ⟨Tryz.f123.name, by decide, Tryz.func123.trans (congrArg some (by kernel_rfl))⟩
  f50 := ⟨Tryz.f124.name, by decide, Tryz.func124.trans (congrArg some (by kernel_rfl))⟩
  f57 := ⟨Tryz.f125.name, by decide, Tryz.func125.trans (congrArg some (by kernel_rfl))⟩
  t0 := Tryz.underlying0
  a0 := Tryz.isAgg0
  z0 := Tryz.sizeOf0
  v0 := Tryz.zeroValue0
  t3 := Tryz.underlying3
  a3 := Tryz.isAgg3
  z3 := Tryz.sizeOf3
  v3 := Tryz.zeroValue3
  t4 := Tryz.underlying4
  a4 := Tryz.isAgg4
  z4 := Tryz.sizeOf4
  v4 := Tryz.zeroValue4
  t5 := Tryz.underlying5
  a5 := Tryz.isAgg5
  z5 := Tryz.sizeOf5
  v5 := Tryz.zeroValue5
  t9 := Tryz.underlying9
  a9 := Tryz.isAgg9
  z9 := Tryz.sizeOf9
  v9 := Tryz.zeroValue9
  t22 := Tryz.underlying41
  a22 := Tryz.isAgg41
  z22 := Tryz.sizeOf41
  v22 := Tryz.zeroValue41
  t25 := Tryz.underlying154
  a25 := Tryz.isAgg154
  z25 := Tryz.sizeOf154
  v25 := Tryz.zeroValue154
  t39 := Tryz.underlying160
  a39 := Tryz.isAgg160
  z39 := Tryz.sizeOf160
  v39 := Tryz.zeroValue160
  t45 := Tryz.underlying167
  a45 := Tryz.isAgg167
  z45 := Tryz.sizeOf167
  v45 := Tryz.zeroValue167
  t46 := Tryz.underlying168
  a46 := Tryz.isAgg168
  z46 := Tryz.sizeOf168
  v46 := Tryz.zeroValue168
  t50 := Tryz.underlying149
  a50 := Tryz.isAgg149
  z50 := Tryz.sizeOf149
  v50 := Tryz.zeroValue149
  t53 := Tryz.underlying174
  a53 := Tryz.isAgg174
  z53 := Tryz.sizeOf174
  v53 := Tryz.zeroValue174
  t55 := Tryz.underlying176
  a55 := Tryz.isAgg176
  z55 := Tryz.sizeOf176
  v55 := Tryz.zeroValue176
  t66 := Tryz.underlying177
  a66 := Tryz.isAgg177
  z66 := Tryz.sizeOf177
  v66 := Tryz.zeroValue177
  t70 := Tryz.underlying181
  a70 := Tryz.isAgg181
  z70 := Tryz.sizeOf181
  v70 := Tryz.zeroValue181
  t76 := Tryz.underlying183
  a76 := Tryz.isAgg183
  z76 := Tryz.sizeOf183
  v76 := Tryz.zeroValue183
  t77 := Tryz.underlying184
  a77 := Tryz.isAgg184
  z77 := Tryz.sizeOf184
  v77 := Tryz.zeroValue184 }
def Tryz.cmpInt_ren : Go.Shelf.Ren := ⟨fun | 5 => 88 | 7 => 101 | n => n, fun | 22 => 3 | 3 => 3 | 4 => 4 | n => n, fun | n => n⟩
theorem Tryz.cmpInt : Go.Proofs.SlLaysC2.n5 Tryz.prog Tryz.cmpInt_ren := {
  mixed := by kernel_rfl
  f5 := ⟨Tryz.f88.name, by decide, Tryz.func88.trans (congrArg some (by kernel_rfl))⟩
  f7 := ⟨Tryz.f101.name, by decide, Tryz.func101.trans (congrArg some (by kernel_rfl))⟩
  t3 := Tryz.underlying3
  a3 := Tryz.isAgg3
  z3 := Tryz.sizeOf3
  v3 := Tryz.zeroValue3
  t4 := Tryz.underlying4
  a4 := Tryz.isAgg4
  z4 := Tryz.sizeOf4
  v4 := Tryz.zeroValue4
  t22 := Tryz.underlying3
  a22 := Tryz.isAgg3
  z22 := Tryz.sizeOf3
  v22 := Tryz.zeroValue3 }
end Go.Proofs.YthbbfjfekchdiaaGreat
namespace Go.Proofs.YthbbfjfekchdiaaGreat
open Go.Shelf Go.RowKit Go.Lib Go.Sort
def encP (x : Int × Int) : List Value := [.int .i64 x.1, .int .i64 x.2]
theorem ltP (x y : Int × Int) : ltOf (fun x y : Int × Int => Lib.compareInt x.1 y.1) x y = decide (x.1 < y.1) := by
  unfold ltOf Lib.compareInt
  by_cases h1 : x.1 < y.1
  · simp [h1]
  · by_cases h2 : y.1 < x.1 <;> simp [h1, h2]
theorem swoP : SWO (ltOf fun x y : Int × Int => Lib.compareInt x.1 y.1) where
  irrefl x := by rw [ltP]; simp
  trans x y z h1 h2 := by rw [ltP] at *; simp at *; omega
  ntrans x y z h1 h2 := by rw [ltP] at *; simp at *; omega
set_option maxHeartbeats 1000000 in
theorem zclosure (x y : Int × Int) (W : World) : Calls Tryz.prog 87 #[.agg #[.int .i64 x.1, .int .i64 x.2], .agg #[.int .i64 y.1, .int .i64 y.2]] W fun e w' => e = .returned (.int .i64 (Lib.compareInt x.1 y.1)) ∧ ∃ q os', w' = grow (W.drewN q) os' := by
  have hcon := fun W' => AnyG.cmp_Compare_int Tryz.cmpInt x.1 y.1 W'
  change ∀ W', Calls Tryz.prog 88 _ _ _ at hcon
  generalize Lib.compareInt x.1 y.1 = r at hcon ⊢
  go_enter Tryz.func87, Tryz.ntmps87
  go_wp2_with (go_at_call 88; refine (hcon _).mono ?_; rintro e w' ⟨rfl, rfl⟩)
  go_ret
  exact ⟨rfl, 0, _, by rw [alloc_eq_grow, alloc_eq_grow, grow_grow]; rfl⟩
theorem zcmpLays (blk off size : Nat) (w : World) : CmpLays Tryz.prog 87 #[] encP 2 (fun x y => Lib.compareInt x.1 y.1) blk off size w :=
  fun _ _ _ _ x y => zclosure x y _
theorem ptCells_enc {l : List Pt} {j : Nat} (h : j < l.length * 2) : (ptCells l)[j]? = some ((encP (l.toArray[j / 2]!))[j % 2]!) := by
  induction l generalizing j with
  | nil => simp at h
  | cons a l ih =>
    rw [show ptCells (a :: l) = [i64 a.1, i64 a.2] ++ ptCells l from rfl]
    rcases j with _ | _ | j
    · rfl
    · rfl
    · rw [List.getElem?_append_right (by simp)]
      have e : j + 1 + 1 - [i64 a.1, i64 a.2].length = j := by simp
      rw [e, ih (by simp at h; omega)]
      have e1 : (j + 1 + 1) / 2 = j / 2 + 1 := by omega
      have e2 : (j + 1 + 1) % 2 = j % 2 := by omega
      rw [e1, e2]
      simp
theorem holds_row {w : World} {base g cap : Nat} {l : List Pt} (h : w.ownsRow base 48 2 (.slice (some ⟨g, 0, none⟩) l.length cap) l.length (ptCells l)) (h0 : 0 < l.length) :
    HoldsK encP 2 w g 0 l.toArray ∧ ∃ cur, base ≤ g ∧ w.heap[g]? = some (.cells cur 48) ∧ l.length ≤ cap ∧ cap ≤ maxLen ∧ cur.size = cap * 2 ∧ cur.toList.take (l.length * 2) = ptCells l := by
  obtain ⟨_, ⟨_, hn⟩ | ⟨g', cap', cur, hv, hg, hblk, hc, hm, hs, ht⟩⟩ := h
  · omega
  · simp only [Value.slice.injEq, Option.some.injEq, Addr.mk.injEq, and_true, true_and] at hv
    obtain ⟨rfl, rfl⟩ := hv
    refine ⟨fun j hj => ?_, cur, hg, hblk, hc, hm, hs, ht⟩
    have hj' : j < l.length * 2 := by simpa using hj
    rw [Nat.zero_add, cell_of_blk hblk]
    refine ⟨?_, frozen_of_blk hblk j⟩
    have h1 : (cur.toList.take (l.length * 2))[j]? = some ((encP (l.toArray[j / 2]!))[j % 2]!) := by rw [ht]; exact ptCells_enc hj'
    rw [List.getElem?_take_of_lt hj'] at h1
    rw [← Array.getElem?_toList, h1, get_flatK encP 2 l.toArray j (by simpa using hj')]
    rfl
theorem sort_blk {w : World} {g : Nat} {cur : Array Value} {t : TypeId} (n : Nat) (os : Array Obj) (F : Array Value) (hb : w.heap[g]? = some (.cells cur t)) : (grow (putRow id (Sort.ahead w n) g 0 F) os).heap[g]? = some (.cells (putCells id 0 F cur) t) := by
  unfold grow putRow mapBlock Sort.ahead
  dsimp only
  rw [Array.getElem?_append_left (by rw [Array.size_modify]; exact blk_lt hb), Array.getElem?_modify, if_pos rfl, hb]
  rfl
theorem sort_fr {w : World} {g : Nat} (n : Nat) (os : Array Obj) (F : Array Value) : Fr (fun j => j = g) w (grow (putRow id (Sort.ahead w n) g 0 F) os) := by
  refine ⟨rfl, rfl, rfl, ?_, fun j hj hn => ?_⟩
  · unfold grow putRow mapBlock Sort.ahead
    dsimp only
    rw [Array.size_append, Array.size_modify]
    omega
  · unfold grow putRow mapBlock Sort.ahead
    dsimp only
    rw [Array.getElem?_append_left (by rw [Array.size_modify]; exact hj), Array.getElem?_modify, if_neg (fun e => hn e.symm)]
theorem sortOk : SortOk := by
  refine ⟨fun w => AnyF.slices_SortFunc_none Tryz.sortPt none 0 _ w, fun base g cap l w hl ho => ?_⟩
  by_cases h0 : l.length = 0
  · have e : l = [] := List.length_eq_zero_iff.1 h0
    subst e
    refine (AnyF.slices_SortFunc_none Tryz.sortPt (some ⟨g, 0, none⟩) cap _ w).mono fun e w' ⟨he, hw⟩ => ⟨he, [], List.Perm.refl _, List.Pairwise.nil, ?_, ?_⟩
    · rw [hw]; exact ho
    · rw [hw]; exact Fr.refl _ _
  obtain ⟨hH, cur, hg, hblk, hc, hm, hs, ht⟩ := holds_row ho (by omega)
  have eg : ∀ args w, (callFunc 87 args).run Tryz.prog w = .ok (.enter 87 args) w := enters_of Tryz.func87 (by kernel_rfl) rfl
  have hcon := AnyQ.slices_SortFunc Tryz.sortPt 2 (fun _ => by kernel_rfl) (fun _ => by kernel_rfl) encP (fun _ => rfl) (fun x v hv => by simp [encP] at hv; rcases hv with rfl | rfl <;> rfl) (fun x y => Lib.compareInt x.1 y.1) swoP 87 #[] g 0 cap l.toArray w eg (zcmpLays g 0 l.toArray.size w) hH (blk_lt hblk) (by simp; omega)
  refine hcon.mono fun e w' ⟨he, d', n, os, hp, hsd, hw⟩ => ⟨he, d'.toList, ?_, ?_, ?_, ?_⟩
  · have h := hp.2.2
    have e1 : (d'.extract 0 l.toArray.size) = d' := by rw [← hp.1]; simp
    have e2 : (l.toArray.extract 0 l.toArray.size) = l.toArray := by simp
    rw [e1, e2] at h
    exact h
  · rw [List.pairwise_iff_getElem]
    intro i j hi hj hij
    have h := hsd i j (Nat.zero_le _) hij (by rw [← hp.1]; simpa using hj)
    rw [ltP] at h
    have hi' : i < d'.size := by simpa using hi
    have hj' : j < d'.size := by simpa using hj
    rw [getElem!_pos d' i hi', getElem!_pos d' j hj'] at h
    simp only [decide_eq_false_iff_not] at h
    simp only [Array.getElem_toList]
    omega
  · have hb' := sort_blk n os (flatK encP 2 d') hblk
    rw [show sortWorldK encP 2 w g 0 n d' os = grow (putRow id (Sort.ahead w n) g 0 (flatK encP 2 d')) os from rfl] at hw
    rw [← hw] at hb'
    have hsz : d'.size = l.length := by rw [hp.1]; simp
    refine ⟨by rw [ptCells_length]; simp [hsz], .inr ⟨g, cap, _, rfl, hg, hb', hc, hm, by simpa [putCells] using hs, ?_⟩⟩
    apply List.ext_getElem?
    intro j
    by_cases hj : j < l.length * 2
    · rw [List.getElem?_take_of_lt hj, ptCells_enc (by simpa [hsz] using hj)]
      have hjc : j < cur.size := by omega
      rw [Array.getElem?_toList]
      unfold putCells
      rw [Array.getElem?_mapIdx, Array.getElem?_eq_getElem hjc, Option.map_some, if_pos (by simp [hsz]; omega), Nat.sub_zero, get_flatK encP 2 d' j (by rw [hsz]; exact hj)]
      rfl
    · rw [List.getElem?_eq_none (by rw [List.length_take]; omega), List.getElem?_eq_none (by rw [ptCells_length]; simp [hsz]; omega)]
  · rw [hw]
    exact sort_fr n os (flatK encP 2 d')
end Go.Proofs.YthbbfjfekchdiaaGreat
namespace Go.Proofs.YthbbfjfekchdiaaGreat
theorem progOk : ProgOk ZRep where
  weak := fun h hs => h.weak hs
  lim := fun h => h.lim
  fr := fun h hf hn => h.fr hf hn
  check := fun c w => pcheck_any c w
  createNo := fun c w h => pcreate_no c w h
  create := fun c w h => zcreate_yes c w h
  config := fun p d In w h _ => zconfig_any p d In w h
  update := fun p now v l d In w h _ hr ho hl => (zupdate_any (hid sortOk) p now v l d In w h hr ho hl).mono fun _ _ ⟨a, b, c⟩ => ⟨a, b.weak fun _ x => .inl x, c⟩
  fetch := fun p now fr un d In w h _ => zfetch_any (hid sortOk) p now fr un d In w h
end Go.Proofs.YthbbfjfekchdiaaGreat
namespace Go.Proofs.YthbbfjfekchdiaaGreat
theorem progOk2 : ProgOk2 ZRep where
  base := progOk
  al := fun h => ⟨h.ok, h.al⟩
  save := fun p d In w h => zsave_any p d In w h
  load := fun v b w h1 h2 h3 => zload_any v b w h1 h2 h3
  resize := fun p now c d In w h => zresize_any (hid sortOk) p now c d In w h
  diff := fun p q d o In Jn w h h2 => zdiff_any p q d o In Jn w h h2
end Go.Proofs.YthbbfjfekchdiaaGreat
namespace Go.Proofs.YthbbfjfekchdiaaGreat
open Go.RowKit
theorem progTy : ProgTy ZRep where
  typ := fun {w In p d} h => by
    obtain ⟨gl, cap, cur, gs, h1, h2, h3, h4, h5, h6, h7⟩ := h.mem
    refine ⟨h.ok, h.al, ⟨h.inp, _, _, h2, by decide, by decide⟩, gl, cap, cur, gs, ⟨h1, _, _, h3, by decide, by decide⟩, h2, h3, h4, h5, fun g hg => ?_, h7⟩
    obtain ⟨i, hi⟩ := List.mem_iff_getElem?.1 hg
    have hlt : i < d.L.length := by
      obtain ⟨x, _⟩ := List.getElem?_eq_some_iff.1 hi
      have := h.ok.len
      omega
    obtain ⟨_, _, hb⟩ := h7 i g _ hi (List.getElem?_eq_getElem hlt)
    exact ⟨h6 g hg, _, _, hb, by decide, by decide⟩
end Go.Proofs.YthbbfjfekchdiaaGreat
namespace Go.Proofs.YthbbfjfekchdiaaGreat
theorem filesProved : Rows.FilesSaid := files_of progOk2 progTy
end Go.Proofs.YthbbfjfekchdiaaGreat
