import Derived.Test.YthbbfjfekchdiaaGreatXRRead
import Derived.Test.YthbbfjfekchdiaaGreatXZHead
import Derived.Test.YthbbfjfekchdiaaGreatXHAmong
import Derived.Test.YthbbfjfekchdiaaGreatXTk
import Derived.Test.YthbbfjfekchdiaaGreatXZValues
import Derived.Deep.DeepCutAuto
namespace Go.Proofs.YthbbfjfekchdiaaGreat
open Go.RowKit
theorem ofB_extract (s : ByteArray) (a b : Nat) : ofB (s.extract a b) = ((ofB s).drop a).take (b - a) := by
  unfold ofB
  rw [ByteArray.data_extract, Array.toList_extract]
  simp [List.extract_eq_take_drop, List.map_take, List.map_drop]
theorem ofB_str {l : List Int} (h : ByteL l) : ofB (strOfNums l) = l := by
  unfold ofB
  rw [strOfNums_data, List.map_map]
  have : ∀ x ∈ l, ((fun b : UInt8 => (b.toNat : Int)) ∘ fun n : Int => UInt8.ofNat n.toNat) x = x := by
    intro x hx
    have := h x hx
    simp only [Function.comp, UInt8.toNat_ofNat']
    omega
  rw [List.map_congr_left this]
  simp
theorem str_ofB (s : ByteArray) : strOfNums (ofB s) = s := by
  apply ByteArray.ext
  apply Array.ext'
  rw [strOfNums_data]
  unfold ofB
  rw [List.map_map]
  have : ∀ x ∈ s.data.toList, ((fun n : Int => UInt8.ofNat n.toNat) ∘ fun b : UInt8 => (b.toNat : Int)) x = x := by
    intro x _
    simp
  rw [List.map_congr_left this]
  simp
structure LdO (w wr : World) (p gl : Nat) (vs : Array Value) (c : Cfg) (b : List Int) (i : Nat) (A : List (List (Option Pt))) (r : List Int) : Prop where
  pb : wr.heap[p]? = some (.cells #[i64 c.s0, i64 c.k0, i64 c.s1, i64 c.k1, i64 c.s2, i64 c.k2, i64 c.s3, i64 c.k3, i64 c.m, i64 c.f, .slice (some ⟨gl, 0, none⟩) c.many c.many] 70)
  gb : wr.heap[gl]? = some (.cells vs 41)
  sz : vs.size = c.many
  rows : ∀ (x : Nat) (M : List (Option Pt)), A[x]? = some M → ∃ v, vs[x]? = some v ∧ wr.ownsRow w.heap.size 48 2 v (listOf M).length (ptCells (listOf M))
  nils : ∀ x : Nat, i ≤ x → x < c.many → vs[x]? = some (.slice none 0 0)
  old : Below w.heap.size w wr
  lo : w.heap.size ≤ p ∧ w.heap.size ≤ gl
  got : Got c b i 0 A [] r
theorem LdO.below {w wr w' : World} {p gl : Nat} {vs : Array Value} {c : Cfg} {b : List Int} {i : Nat} {A : List (List (Option Pt))} {r : List Int} (h : LdO w wr p gl vs c b i A r) (hb : Below wr.heap.size wr w') : LdO w w' p gl vs c b i A r :=
  ⟨blk_later hb (blk_lt h.pb) h.pb, blk_later hb (blk_lt h.gb) h.gb, h.sz, fun x M hx => by obtain ⟨v, a, o⟩ := h.rows x M hx; exact ⟨v, a, owns_below o hb⟩, h.nils, h.old.trans (hb.mono h.old.size), h.lo, h.got⟩
theorem LdO.start {w wr : World} {p gl : Nat} {vs : Array Value} {c : Cfg} {b : List Int} (hb : Below w.heap.size w wr) (h1 : wr.heap[p]? = some (.cells #[i64 c.s0, i64 c.k0, i64 c.s1, i64 c.k1, i64 c.s2, i64 c.k2, i64 c.s3, i64 c.k3, i64 c.m, i64 c.f, .slice (some ⟨gl, 0, none⟩) c.many c.many] 70)) (h2 : wr.heap[gl]? = some (.cells vs 41)) (h3 : vs.toList = List.replicate c.many (.slice none 0 0)) (h4 : w.heap.size ≤ p) (h5 : w.heap.size ≤ gl) : LdO w wr p gl vs c b 0 [] b := by
  refine ⟨h1, h2, ?_, fun x M hx => by simp at hx, fun x _ hx => ?_, hb, ⟨h4, h5⟩, Got.start c b⟩
  · have := congrArg List.length h3
    rw [List.length_replicate, Array.length_toList] at this
    exact this
  · rw [← Array.getElem?_toList, h3, List.getElem?_replicate_of_lt hx]
theorem LdO.done {w wr : World} {p gl : Nat} {vs : Array Value} {c : Cfg} {b : List Int} {A : List (List (Option Pt))} {r : List Int} (h : LdO w wr p gl vs c b c.many A r) : RRep wr (fun k => w.heap.size ≤ k) p ⟨c, A.map listOf⟩ := by
  refine ⟨h.lo.1, gl, vs, h.pb, h.gb, h.sz, h.lo.2, fun i l hl => ?_⟩
  have hl' : (A.map listOf)[i]? = some l := hl
  rw [List.getElem?_map] at hl'
  cases hx : A[i]? with
  | none => rw [hx] at hl'; cases hl'
  | some M =>
    rw [hx] at hl'
    obtain ⟨v, a, o⟩ := h.rows i M hx
    have e : l = listOf M := (Option.some.inj hl').symm
    subst e
    exact ⟨v, a, owns_base o (Nat.zero_le _), fun k hk => (o.lt k hk).1⟩
structure LdI (w wr : World) (p gl B : Nat) (vs : Array Value) (c : Cfg) (b : List Int) (i j : Nat) (A : List (List (Option Pt))) (L : List (Option Pt)) (r : List Int) : Prop where
  pb : wr.heap[p]? = some (.cells #[i64 c.s0, i64 c.k0, i64 c.s1, i64 c.k1, i64 c.s2, i64 c.k2, i64 c.s3, i64 c.k3, i64 c.m, i64 c.f, .slice (some ⟨gl, 0, none⟩) c.many c.many] 70)
  gb : wr.heap[gl]? = some (.cells vs 41)
  sz : vs.size = c.many
  rows : ∀ (x : Nat) (M : List (Option Pt)), A[x]? = some M → ∃ v, vs[x]? = some v ∧ wr.ownsRow w.heap.size 48 2 v (listOf M).length (ptCells (listOf M)) ∧ ∀ k, v.ownBlock = some k → k < B
  cur : ∃ v, vs[i]? = some v ∧ wr.ownsRow B 48 2 v (listOf L).length (ptCells (listOf L))
  nils : ∀ x : Nat, i < x → x < c.many → vs[x]? = some (.slice none 0 0)
  old : Below w.heap.size w wr
  lo : w.heap.size ≤ p ∧ w.heap.size ≤ gl ∧ p < B ∧ gl < B ∧ w.heap.size ≤ B ∧ B ≤ wr.heap.size
  got : Got c b i j A L r
theorem LdO.into {w wr : World} {p gl : Nat} {vs : Array Value} {c : Cfg} {b : List Int} {i : Nat} {A : List (List (Option Pt))} {r : List Int} (h : LdO w wr p gl vs c b i A r) (hi : i < c.many) : LdI w wr p gl wr.heap.size vs c b i 0 A [] r :=
  ⟨h.pb, h.gb, h.sz, fun x M hx => by obtain ⟨v, a, o⟩ := h.rows x M hx; exact ⟨v, a, o, fun k hk => (o.lt k hk).2⟩, ⟨.slice none 0 0, h.nils i (Nat.le_refl _) hi, World.ownsRow_nil _ _ _ _⟩, fun x hx hxn => h.nils x (by omega) hxn, h.old, ⟨h.lo.1, h.lo.2, blk_lt h.pb, blk_lt h.gb, h.old.size, Nat.le_refl _⟩, h.got⟩
theorem LdI.below {w wr w' : World} {p gl B : Nat} {vs : Array Value} {c : Cfg} {b : List Int} {i j : Nat} {A : List (List (Option Pt))} {L : List (Option Pt)} {r : List Int} (h : LdI w wr p gl B vs c b i j A L r) (hb : Below wr.heap.size wr w') : LdI w w' p gl B vs c b i j A L r := by
  obtain ⟨l1, l2, l3, l4, l5, l6⟩ := h.lo
  refine ⟨blk_later hb (blk_lt h.pb) h.pb, blk_later hb (blk_lt h.gb) h.gb, h.sz, fun x M hx => ?_, ?_, h.nils, h.old.trans (hb.mono h.old.size), ⟨l1, l2, l3, l4, l5, Nat.le_trans l6 hb.size⟩, h.got⟩
  · obtain ⟨v, a, o, k⟩ := h.rows x M hx
    exact ⟨v, a, owns_below o hb, k⟩
  · obtain ⟨v, a, o⟩ := h.cur
    exact ⟨v, a, owns_below o hb⟩
theorem LdI.out' {w wr : World} {p gl B : Nat} {vs : Array Value} {c : Cfg} {b : List Int} {i : Nat} {A : List (List (Option Pt))} {L : List (Option Pt)} {r : List Int} (h : LdI w wr p gl B vs c b i (c.k i).toNat A L r) : LdO w wr p gl vs c b (i + 1) (A ++ [L]) r := by
  obtain ⟨l1, l2, l3, l4, l5, l6⟩ := h.lo
  have hA := h.got.len.1
  refine ⟨h.pb, h.gb, h.sz, fun x M hx => ?_, fun x hx hn => h.nils x (by omega) hn, h.old, ⟨l1, l2⟩, h.got.arc⟩
  by_cases e : x < i
  · rw [List.getElem?_append_left (by omega)] at hx
    obtain ⟨v, a, o, _⟩ := h.rows x M hx
    exact ⟨v, a, o⟩
  · have ex : x = i := by
      have := (List.getElem?_eq_some_iff.1 hx).1
      rw [List.length_append, List.length_singleton] at this
      omega
    subst ex
    rw [List.getElem?_append_right (by omega), hA, Nat.sub_self] at hx
    simp at hx
    subst hx
    obtain ⟨v, a, o⟩ := h.cur
    exact ⟨v, a, owns_base o l5⟩
theorem LdI.free {w wr : World} {p gl B : Nat} {vs : Array Value} {c : Cfg} {b : List Int} {i j : Nat} {A : List (List (Option Pt))} {L : List (Option Pt)} {r : List Int} (h : LdI w wr p gl B vs c b i j A L r) (hr : slotRead c i j (readU (r.take 4)) (readN ((r.drop 4).take 8)) = some none) : LdI w wr p gl B vs c b i (j + 1) A (L ++ [none]) (r.drop 12) := by
  refine ⟨h.pb, h.gb, h.sz, h.rows, ?_, h.nils, h.old, h.lo, h.got.slot hr⟩
  rw [listOf_snoc]
  simpa using h.cur
theorem LdI.app {w wr w3 : World} {p gl B : Nat} {vs : Array Value} {c : Cfg} {b : List Int} {i j : Nat} {A : List (List (Option Pt))} {L : List (Option Pt)} {r : List Int} {q : Pt} {O : Obj} {g cap : Nat} {v : Value} (h : LdI w wr p gl B vs c b i j A L r) (hi : i < c.many) (ho : wr.ownsRow B 48 2 v (listOf L).length (ptCells (listOf L)))
    (hr : slotRead c i j (readU (r.take 4)) (readN ((r.drop 4).take 8)) = some (some q))
    (hown : w3.ownsRow B 48 2 (.slice (some ⟨g, 0, none⟩) ((listOf L).length + 1) cap) ((listOf L).length + 1) (ptCells (listOf L) ++ [i64 q.1, i64 q.2])) (hgrow : (wr.alloc O).grownBy w3 v.ownBlock) :
    LdI w (w3.setCell ⟨gl, i, none⟩ (.slice (some ⟨g, 0, none⟩) ((listOf L).length + 1) cap)) p gl B (vs.setIfInBounds i (.slice (some ⟨g, 0, none⟩) ((listOf L).length + 1) cap)) c b i (j + 1) A (L ++ [some q]) (r.drop 12) := by
  obtain ⟨l1, l2, l3, l4, l5, l6⟩ := h.lo
  have far : ∀ k, k < B → w3.heap[k]? = wr.heap[k]? := by
    intro k hk
    rw [hgrow.block k (by simp; omega) (owns_not ho hk), Below.heap_alloc wr O k (by omega)]
  have hne : p ≠ gl := by
    intro e
    have h1 := h.pb
    rw [e, h.gb] at h1
    simp at h1
  have hA := h.got.len.1
  refine ⟨?_, blk_setCell ((far gl l4).trans h.gb) i _, by simpa using h.sz, fun x M hx => ?_, ?_, fun x hx hn => ?_, ?_, ⟨l1, l2, l3, l4, l5, ?_⟩, h.got.slot hr⟩
  · rw [blk_setCell_far (by show p ≠ gl; exact hne)]
    exact (far p l3).trans h.pb
  · obtain ⟨u, a, o, k⟩ := h.rows x M hx
    have hxi : x ≠ i := by
      have := (List.getElem?_eq_some_iff.1 hx).1
      omega
    refine ⟨u, by rw [Array.getElem?_setIfInBounds_ne (fun e => hxi e.symm)]; exact a, ?_, k⟩
    refine owns_far o fun b' hb' hlt => ?_
    have hgl : b' ≠ gl := fun e => by
      subst e
      obtain ⟨_, ⟨hu, _⟩ | ⟨g', cap', cur', hu, _, hblk, _⟩⟩ := o
      · rw [hu] at hb'; simp [Value.ownBlock] at hb'
      · rw [hu] at hb'
        simp only [Value.ownBlock, Option.some.injEq] at hb'
        rw [hb', h.gb] at hblk
        simp at hblk
    rw [blk_setCell_far (by show b' ≠ gl; exact hgl)]
    exact far b' (k b' hb')
  · rw [listOf_snoc]
    refine ⟨_, by rw [Array.getElem?_setIfInBounds_self, if_pos (by rw [h.sz]; exact hi)], ?_⟩
    rw [ptCells_snoc, List.length_append]
    exact ownsRow_setCell_below hown (by show gl < B; exact l4) _
  · rw [Array.getElem?_setIfInBounds_ne (by omega)]
    exact h.nils x hx hn
  · refine Below.setCell (p := ⟨gl, i, none⟩) (Below.grown (h.old.alloc (by omega) O) hgrow (by simp; omega) fun k hk => ?_) l2 _
    have := (ho.lt k hk).1
    omega
  · rw [size_setCell]
    have := hgrow.size
    simp at this
    omega
end Go.Proofs.YthbbfjfekchdiaaGreat
namespace Go.Proofs.YthbbfjfekchdiaaGreat
open Go.RowKit
set_option linter.unusedSimpArgs false
attribute [local go_sem] Go.wp_at_zero Go.wp_at_succ
def RLPost (w : World) (b : List Int) (e : Ending) (w' : World) : Prop :=
  Below w.heap.size w w' ∧ (loadL b = none → e = .returned (.pointer none)) ∧ ∀ d, loadL b = some d → ∃ p, e = .returned (.pointer (some ⟨p, 0, none⟩)) ∧ RRep w' (fun k => w.heap.size ≤ k) p d
theorem RLPost.bad {w w' : World} {b : List Int} (h : Below w.heap.size w w') (hn : loadL b = none) : RLPost w b (.returned (.pointer none)) w' :=
  ⟨h, fun _ => rfl, fun d hd => by rw [hn] at hd; cases hd⟩
theorem mark_ofB {s : ByteArray} : s.toList = [83, 85, 78, 1] ↔ ofB s = sunL := by
  rw [← mark_iff (ofB_byte s), str_ofB]
set_option maxRecDepth 4000 in
set_option maxHeartbeats 2000000 in
theorem rload_short (s : ByteArray) (w : World) (h7 : s.size < 7) :
    Calls Tryz.prog 26 #[.string s] w fun e w' => RLPost w (ofB s) e w' := by
  have HP := hid (fun (w' : World) (h : Below w.heap.size w w') => RLPost.bad (b := ofB s) h (loadL_head (.inl (by rw [ofB_len]; exact h7))))
  have h7' : (s.size : Int) < 7 := by omega
  go_enter Tryz.func26, Tryz.ntmps26
  go_wp2
  go_ret
  exact HP.out _ (Below.refl _ _)
set_option maxRecDepth 4000 in
set_option maxHeartbeats 2000000 in
theorem rload_mark (s : ByteArray) (w : World) (h7 : 7 ≤ s.size) (hm : (ofB s).take 4 ≠ sunL) :
    Calls Tryz.prog 26 #[.string s] w fun e w' => RLPost w (ofB s) e w' := by
  have HP := hid (fun (w' : World) (h : Below w.heap.size w w') => RLPost.bad (b := ofB s) h (loadL_head (.inr (.inl hm))))
  have h7' : ¬ (s.size : Int) < 7 := by omega
  have h4 : (4 : Int) ≤ (s.size : Int) := by omega
  have h4' : ¬ (s.size : Int) < 4 := by omega
  have hne : ((s.extract 0 4).toList == [83, 85, 78, 1]) = false := beq_eq_false_iff_ne.2 fun e => hm (by
    rw [mark_ofB, ofB_extract] at e
    simpa using e)
  clear hm
  go_enter Tryz.func26, Tryz.ntmps26
  go_wp2
  go_ret
  exact HP.out _ (Below.refl _ _)
set_option maxRecDepth 4000 in
set_option maxHeartbeats 2000000 in
theorem rload_count (s : ByteArray) (w : World) (h7 : 7 ≤ s.size) (hm : (ofB s).take 4 = sunL) (hx : (ofB s).getD 6 0 < 1 ∨ 4 < (ofB s).getD 6 0) :
    Calls Tryz.prog 26 #[.string s] w fun e w' => RLPost w (ofB s) e w' := by
  have h7' : ¬ (s.size : Int) < 7 := by omega
  have h4 : (4 : Int) ≤ (s.size : Int) := by omega
  have h4' : ¬ (s.size : Int) < 4 := by omega
  have i6 : (6 : Int) < (s.size : Int) := by omega
  have hne : ((s.extract 0 4).toList == [83, 85, 78, 1]) = true := beq_iff_eq.2 (by
    rw [mark_ofB, ofB_extract]
    simpa using hm)
  have e6 : (ofB s).getD 6 0 = ((s[6]'(by omega)).toNat : Int) := by rw [List.getD, ofB_at (by omega)]; rfl
  have HP := hid (fun (w' : World) (h : Below w.heap.size w w') => RLPost.bad (b := ofB s) h (by
    unfold loadL
    rw [if_pos]
    rcases hx with hx | hx
    · exact .inr (.inr (.inl hx))
    · exact .inr (.inr (.inr (.inl hx)))))
  rw [e6] at hx
  have b0 : (0 : Int) ≤ ((s[6]'(by omega)).toNat : Int) := by omega
  clear hm e6
  by_cases h1 : ((s[6]'(by omega)).toNat : Int) < 1
  · clear hx
    go_enter Tryz.func26, Tryz.ntmps26
    go_wp2
    go_ret
    exact HP.out _ (Below.refl _ _)
  · have h2 : 4 < ((s[6]'(by omega)).toNat : Int) := hx.resolve_left h1
    clear hx
    go_enter Tryz.func26, Tryz.ntmps26
    go_wp2
    go_ret
    exact HP.out _ (Below.refl _ _)
theorem read_part (s : ByteArray) (a m : Nat) (w : World) (hm : m ≤ 8) :
    Calls Tryz.prog 47 #[.string (s.extract a (a + m))] w fun e w' => e = .returned (i64 (readN (((ofB s).drop a).take m))) ∧ w' = w := by
  have h := read_any (s.extract a (a + m)) w (by rw [ByteArray.size_extract]; omega)
  rw [ofB_extract, Nat.add_sub_cancel_left] at h
  exact h
theorem readN_four (l : List Int) (a : Nat) : readN ((l.drop a).take 4) = readU ((l.drop a).take 4) := readN_short (by rw [List.length_take]; omega)
theorem slice_formR {w : World} {base e size n : Nat} {v : Value} {xs : List Value} (h : w.ownsRow base e size v n xs) : ∃ a c, v = .slice a n c := by
  obtain ⟨_, ⟨hv, h0⟩ | ⟨g, cap, cur, hv, _⟩⟩ := h
  · exact ⟨none, 0, by rw [hv, h0]⟩
  · exact ⟨_, _, hv⟩
theorem cfg_at (c : Cfg) {i : Nat} (hi : i < 4) : c.cells[i * 2]? = some (i64 (c.s i)) ∧ c.cells[i * 2 + 1]? = some (i64 (c.k i)) := by
  have h : i = 0 ∨ i = 1 ∨ i = 2 ∨ i = 3 := by omega
  rcases h with rfl | rfl | rfl | rfl <;> exact ⟨rfl, rfl⟩
theorem slotLen_room {c : Cfg} {i j n : Nat} (hi : i < n) (hj : j < (c.k i).toNat) : slotLen c 0 i + 12 * j + 12 ≤ slotLen c 0 n := by
  obtain ⟨m, rfl⟩ : ∃ m, n = i + (1 + m) := ⟨n - i - 1, by omega⟩
  rw [slotLen_add i (1 + m) 0, Nat.zero_add, slotLen_add 1 m i, slotLen_one]
  omega
theorem blk_ne {w : World} {x y : Nat} {A B : Array Value} {s t : Nat} (h1 : w.heap[x]? = some (.cells A s)) (h2 : w.heap[y]? = some (.cells B t)) (h : s ≠ t) : x ≠ y := by
  intro e
  rw [e, h2] at h1
  simp only [Option.some.injEq, Obj.cells.injEq] at h1
  exact h h1.2.1.symm
def slotSum (c : Cfg) : Nat → Int
  | 0 => 0
  | i + 1 => slotSum c i + c.k i
theorem slotSum_len {c : Cfg} : ∀ i, (∀ j, j < i → 1 ≤ c.k j ∧ c.k j ≤ 60) → (slotLen c 0 i : Int) = 12 * slotSum c i ∧ 0 ≤ slotSum c i ∧ slotSum c i ≤ 60 * i
  | 0, _ => by simp [slotSum, slotLen]
  | i + 1, h => by
    obtain ⟨h1, h2, h3⟩ := slotSum_len i fun j hj => h j (by omega)
    have h4 := h i (by omega)
    rw [slotLen_add i 1 0, Nat.zero_add, slotLen_one, slotSum]
    omega
set_option maxRecDepth 4000 in
set_option maxHeartbeats 8000000 in
theorem rload_main (s : ByteArray) (n : Nat) (w : World) (h7 : 7 ≤ s.size) (hm : (ofB s).take 4 = sunL) (hn : (ofB s).getD 6 0 = (n : Int)) (hn1 : 1 ≤ n) (hn4 : n ≤ 4) (hsz : s.size ≤ 140737488355328) :
    Calls Tryz.prog 26 #[.string s] w fun e w' => RLPost w (ofB s) e w' := by
  have h7' : ¬ (s.size : Int) < 7 := by omega
  have h4 : (4 : Int) ≤ (s.size : Int) := by omega
  have h4' : ¬ (s.size : Int) < 4 := by omega
  have i4 : (4 : Int) < (s.size : Int) := by omega
  have i5 : (5 : Int) < (s.size : Int) := by omega
  have i6 : (6 : Int) < (s.size : Int) := by omega
  have hne : ((s.extract 0 4).toList == [83, 85, 78, 1]) = true := beq_iff_eq.2 (by
    rw [mark_ofB, ofB_extract]
    simpa using hm)
  have e4 : (ofB s).getD 4 0 = ((s[4]'(by omega)).toNat : Int) := by rw [List.getD, ofB_at (by omega)]; rfl
  have e5 : (ofB s).getD 5 0 = ((s[5]'(by omega)).toNat : Int) := by rw [List.getD, ofB_at (by omega)]; rfl
  have e6 : ((s[6]'(by omega)).toNat : Int) = (n : Int) := by rw [← hn, List.getD, ofB_at (by omega)]; rfl
  have n1 : ¬ ((n : Nat) : Int) < 1 := by omega
  have n4 : ¬ (4 : Int) < ((n : Nat) : Int) := by omega
  have HM := hid hm
  have HBY := hid (ofB_byte s)
  have HLN := hid (ofB_len s)
  have b4 : ((s[4]'(by omega)).toNat : Int) < 256 := by have := (s[4]'(by omega)).toNat_lt; omega
  have b5 : ((s[5]'(by omega)).toNat : Int) < 256 := by have := (s[5]'(by omega)).toNat_lt; omega
  have p4 : 0 ≤ ((s[4]'(by omega)).toNat : Int) := by omega
  have p5 : 0 ≤ ((s[5]'(by omega)).toNat : Int) := by omega
  have HC0 := hid (show (cfgRead (ofB s) 0).cells = #[i64 0, i64 0, i64 0, i64 0, i64 0, i64 0, i64 0, i64 0, i64 ((s[4]'(by omega)).toNat : Int), i64 ((s[5]'(by omega)).toNat : Int)] by rw [cfgRead_zero, e4, e5])
  have HNN := hid hn
  clear hm hn e4 e5
  obtain ⟨x4, hx4⟩ : ∃ x, x = ((s[4]'(by omega)).toNat : Int) := ⟨_, rfl⟩
  obtain ⟨x5, hx5⟩ : ∃ x, x = ((s[5]'(by omega)).toNat : Int) := ⟨_, rfl⟩
  rw [← hx4] at b4 p4 HC0
  rw [← hx5] at b5 p5 HC0
  have HX4 := hid hx4
  have HX5 := hid hx5
  clear hx4 hx5
  go_enter Tryz.func26, Tryz.ntmps26
  go_upto_region 4 with fail
  refine wp_region_held_drew (S := (fun _ => True)) (by kernel_rfl) ?_ (fun hHeld => ?_)
  · trivial
  refine tkI (i := 0) (oi := ⟨some 37, .move (.tmp 0), 9, _, #[], none⟩) ?_
  try simp only [Act.put, tkA, tkB, tkC]
  refine tkI (i := 1) (oi := ⟨some 38, .index 9 (.tmp 37) (.const (Value.int .i64 4)), 5, _, #[⟨0, .data⟩], none⟩) ?_
  try simp only [Act.put, tkA, tkB, tkC]
  refine tkI (i := 2) (oi := ⟨some 39, .convert 5 3 (.tmp 38), 3, _, #[⟨1, .data⟩], none⟩) ?_
  try simp only [Act.put, tkA, tkB, tkC]
  refine tkI (i := 3) (oi := ⟨some 40, .move (.tmp 0), 9, _, #[], none⟩) ?_
  try simp only [Act.put, tkA, tkB, tkC]
  refine tkI (i := 4) (oi := ⟨some 41, .index 9 (.tmp 40) (.const (Value.int .i64 5)), 5, _, #[⟨3, .data⟩], none⟩) ?_
  try simp only [Act.put, tkA, tkB, tkC]
  refine tkI (i := 5) (oi := ⟨some 42, .convert 5 3 (.tmp 41), 3, _, #[⟨4, .data⟩], none⟩) ?_
  try simp only [Act.put, tkA, tkB, tkC]
  refine tkI (i := 6) (oi := ⟨some 43, .build 40 #[(1, .tmp 39), (2, .tmp 42)], 40, _, #[⟨2, .data⟩, ⟨5, .data⟩], none⟩) ?_
  try simp only [Act.put, tkA, tkB, tkC]
  refine wpAnyH_ready (rs := [7]) (by kernel_rfl) (by simp) ?_
  refine AllReadyH.cons rfl (fun K' hK => ?_) AllReadyH.nil
  go_simp
  refine hK.out _ _ trivial (fun hHeld => ?_)
  clear hK K'
  refine wpAnyH_ready (rs := [8]) (by kernel_rfl) (by simp) ?_
  refine AllReadyH.cons rfl (fun K' hK => ?_) AllReadyH.nil
  go_simp
  refine hK.out _ _ trivial (fun hHeld => ?_)
  clear hK K'
  refine wpAnyH_done (by kernel_rfl) ?_ _
  have wx4 : IntKind.i64.wrap x4 = x4 := by rw [IntKind.wrap_i64]; omega
  have wx5 : IntKind.i64.wrap x5 = x5 := by rw [IntKind.wrap_i64]; omega
  rw [← HX4.out, ← HX5.out, wx4, wx5]
  clear wx4 wx5 hne hHeld
  have HW0 := hid (show (w.alloc (.cells #[i64 0, i64 0, i64 0, i64 0, i64 0, i64 0, i64 0, i64 0, i64 x4, i64 x5] 40)).drew.heap[w.heap.size]? = some (.cells (cfgRead (ofB s) 0).cells 40) by rw [HC0.out]; exact blk_new w _)
  have HB0 := hid (show Below w.heap.size w (w.alloc (.cells #[i64 0, i64 0, i64 0, i64 0, i64 0, i64 0, i64 0, i64 0, i64 x4, i64 x5] 40)).drew from ((Below.refl _ w).alloc (Nat.le_refl _) _).drew)
  by_cases hl : s.size < 7 + 8 * n
  · have HP := hid (fun (w' : World) (h : Below w.heap.size w w') => RLPost.bad (b := ofB s) h (loadL_head (.inr (.inr (.inr (by rw [HNN.out, HLN.out, Int.toNat_natCast]; exact hl))))))
    have hl' : (s.size : Int) < 7 + 8 * (n : Int) := by omega
    go_wp2
    go_ret
    exact HP.out _ HB0.out
  have hl' : ¬ (s.size : Int) < 7 + 8 * (n : Int) := by omega
  go_wp2
  go_loopw [6] (fun i' wr => ∃ k : Nat, k ≤ n ∧ i' = i64 k ∧ wr.heap[w.heap.size]? = some (.cells (cfgRead (ofB s) k).cells 40) ∧ Below w.heap.size w wr) (fun i' _ => n - (intOf i').toNat)
  case atStart => exact ⟨0, by omega, rfl, HW0.out, HB0.out⟩
  clear HW0 HB0 hl'
  case round =>
    obtain ⟨k, hk, rfl, hcb, hold⟩ := hrel
    have HCB := hid hcb
    have HOLD := hid hold
    have hzC : w.heap.size < wr.heap.size := blk_lt hcb
    by_cases hlt : k < n
    · have hsz10 : (cfgRead (ofB s) k).cells.size = 10 := rfl
      obtain ⟨z0, hz0⟩ : ∃ x, wr.cell? ⟨w.heap.size, k * 2, none⟩ = some x := ⟨_, by rw [cell_of_blk hcb, Array.getElem?_eq_getElem (by omega)]⟩
      obtain ⟨z1, hz1⟩ : ∃ x, wr.cell? ⟨w.heap.size, k * 2 + 1, none⟩ = some x := ⟨_, by rw [cell_of_blk hcb, Array.getElem?_eq_getElem (by omega)]⟩
      have f0 : wr.frozen? ⟨w.heap.size, k * 2, none⟩ = false := frozen_of_blk hcb _
      have f1 : wr.frozen? ⟨w.heap.size, k * 2 + 1, none⟩ = false := frozen_of_blk hcb _
      have k0 : (0 : Int) ≤ (k : Int) := by omega
      have kn : (k : Int) < (n : Int) := by omega
      have k4 : (k : Int) < 4 := by omega
      have ks : 7 + 8 * (k : Int) + 8 ≤ (s.size : Int) := by omega
      have HNX := hid (cfgRead_next (l := ofB s) (k := k) (by omega))
      clear hcb hold hsz10
      go_upto_region 12 with fail
      obtain ⟨a, ha⟩ : ∃ a : Nat, a = 7 + 8 * k := ⟨_, rfl⟩
      have ha' : 7 + 8 * (k : Int) = (a : Int) := by omega
      rw [ha']
      have HAA := hid ha
      have a0 : (0 : Int) ≤ (a : Int) := by omega
      have a4 : (a : Int) ≤ (a : Int) + 4 := by omega
      have a8 : (a : Int) + 4 ≤ (a : Int) + 8 := by omega
      have p4' : (0 : Int) ≤ (a : Int) + 4 := by omega
      have p8' : (0 : Int) ≤ (a : Int) + 8 := by omega
      have q4' : (a : Int) + 4 ≤ (s.size : Int) := by omega
      have q8' : (a : Int) + 8 ≤ (s.size : Int) := by omega
      have w4' : IntKind.i64.wrap ((a : Int) + 4) = (a : Int) + 4 := by rw [IntKind.wrap_i64]; omega
      have w8' : IntKind.i64.wrap ((a : Int) + 8) = (a : Int) + 8 := by rw [IntKind.wrap_i64]; omega
      have t4' : ((a : Int) + 4).toNat = a + 4 := by omega
      have t8' : ((a : Int) + 8).toNat = a + 8 := by omega
      clear ha ha'
      refine wp_region_held_drew (S := (fun _ => True)) (by kernel_rfl) ?_ (fun hHeld => ?_)
      · trivial
      refine tkI (i := 0) (oi := ⟨some 58, .move (.tmp 6), 3, _, #[], none⟩) ?_
      try simp only [Act.put, tkA, tkB, tkC]
      refine tkI (i := 1) (oi := ⟨some 59, .move (.tmp 0), 9, _, #[], none⟩) ?_
      try simp only [Act.put, tkA, tkB, tkC]
      refine tkI (i := 2) (oi := ⟨some 60, .move (.tmp 7), 3, _, #[], none⟩) ?_
      try simp only [Act.put, tkA, tkB, tkC]
      refine tkI (i := 3) (oi := ⟨some 61, .move (.tmp 7), 3, _, #[], none⟩) ?_
      try simp only [Act.put, tkA, tkB, tkC]
      refine tkI (i := 4) (oi := ⟨some 62, .binOp .add 3 (.tmp 61) (.const (Value.int .i64 4)) 3, 3, _, #[⟨3, .data⟩], none⟩) ?_
      try simp only [Act.put, tkA, tkB, tkC]
      refine tkI (i := 5) (oi := ⟨some 63, .slice 9 (.tmp 59) (some (.tmp 60)) (some (.tmp 62)) none, 9, _, #[⟨1, .data⟩, ⟨2, .data⟩, ⟨4, .data⟩], none⟩) ?_
      try simp only [Act.put, tkA, tkB, tkC]
      refine tkI (i := 7) (oi := ⟨some 65, .move (.tmp 0), 9, _, #[], none⟩) ?_
      try simp only [Act.put, tkA, tkB, tkC]
      refine tkI (i := 8) (oi := ⟨some 66, .move (.tmp 7), 3, _, #[], none⟩) ?_
      try simp only [Act.put, tkA, tkB, tkC]
      refine tkI (i := 9) (oi := ⟨some 67, .binOp .add 3 (.tmp 66) (.const (Value.int .i64 4)) 3, 3, _, #[⟨8, .data⟩], none⟩) ?_
      try simp only [Act.put, tkA, tkB, tkC]
      refine tkI (i := 10) (oi := ⟨some 68, .move (.tmp 7), 3, _, #[], none⟩) ?_
      try simp only [Act.put, tkA, tkB, tkC]
      refine tkI (i := 11) (oi := ⟨some 69, .binOp .add 3 (.tmp 68) (.const (Value.int .i64 8)) 3, 3, _, #[⟨10, .data⟩], none⟩) ?_
      try simp only [Act.put, tkA, tkB, tkC]
      refine tkI (i := 12) (oi := ⟨some 70, .slice 9 (.tmp 65) (some (.tmp 67)) (some (.tmp 69)) none, 9, _, #[⟨7, .data⟩, ⟨9, .data⟩, ⟨11, .data⟩], none⟩) ?_
      try simp only [Act.put, tkA, tkB, tkC]
      refine tkI (i := 15) (oi := ⟨some 73, .fieldAddr 40 (.tmp 4) 0, 0, _, #[], none⟩) ?_
      try simp only [Act.put, tkA, tkB, tkC]
      refine wpAnyH_ready (rs := [6]) (by kernel_rfl) (by simp) ?_
      refine AllReadyH.cons rfl (fun K' hK => ?_) AllReadyH.nil
      go_simp
      refine (read_part s a 4 _ (by omega)).mono ?_
      rintro e w1 ⟨rfl, rfl⟩
      rw [readN_four, HAA.out]
      obtain ⟨ss, hss⟩ : ∃ x, x = readU (((ofB s).drop (7 + 8 * k)).take 4) := ⟨_, rfl⟩
      rw [← hss] at HNX ⊢
      clear hss
      go_wp2_with fail
      refine hK.out _ _ trivial (fun hHeld => ?_)
      clear hK K'
      rw [← HAA.out]
      refine wpAnyH_ready (rs := [13]) (by kernel_rfl) (by simp) ?_
      refine AllReadyH.cons rfl (fun K' hK => ?_) AllReadyH.nil
      go_simp
      refine (show Calls Tryz.prog 47 #[.string (s.extract (a + 4) (a + 8))] _ _ from read_part s (a + 4) 4 _ (by omega)).mono ?_
      rintro e w1 ⟨rfl, rfl⟩
      rw [readN_four, HAA.out]
      obtain ⟨kk, hkk⟩ : ∃ x, x = readU (((ofB s).drop (7 + 8 * k + 4)).take 4) := ⟨_, rfl⟩
      rw [← hkk] at HNX ⊢
      clear hkk
      go_wp2_with fail
      refine hK.out _ _ trivial (fun hHeld => ?_)
      clear hK K'
      refine tkI (i := 14) (oi := ⟨some 72, .build 37 #[(0, .tmp 64), (1, .tmp 71)], 37, _, #[⟨6, .data⟩, ⟨13, .data⟩], none⟩) ?_
      try simp only [Act.put, tkA, tkB, tkC]
      refine tkI (i := 16) (oi := ⟨some 74, .indexAddr 38 (.tmp 73) (.tmp 58), 0, _, #[⟨15, .data⟩, ⟨0, .data⟩, ⟨0, .phase⟩, ⟨1, .phase⟩, ⟨2, .phase⟩, ⟨3, .phase⟩, ⟨4, .phase⟩, ⟨5, .phase⟩, ⟨6, .phase⟩, ⟨7, .phase⟩, ⟨8, .phase⟩, ⟨9, .phase⟩, ⟨10, .phase⟩, ⟨11, .phase⟩, ⟨12, .phase⟩, ⟨13, .phase⟩, ⟨14, .phase⟩], none⟩) ?_
      try simp only [Act.put, tkA, tkB, tkC]
      refine wpAnyH_ready (rs := [17]) (by kernel_rfl) (by simp) ?_
      refine AllReadyH.cons rfl (fun K' hK => ?_) AllReadyH.nil
      go_simp
      refine hK.out _ _ trivial (fun hHeld => ?_)
      clear hK K'
      refine wpAnyH_done (by kernel_rfl) ?_ _
      have HN := hid (show ((wr.setCell ⟨w.heap.size, k * 2, none⟩ (i64 ss)).setCell ⟨w.heap.size, k * 2 + 1, none⟩ (i64 kk)).drew.heap[w.heap.size]? = some (.cells (cfgRead (ofB s) (k + 1)).cells 40) ∧ Below w.heap.size w ((wr.setCell ⟨w.heap.size, k * 2, none⟩ (i64 ss)).setCell ⟨w.heap.size, k * 2 + 1, none⟩ (i64 kk)).drew from ⟨by
        rw [← HNX.out]
        exact blk_setCell (blk_setCell HCB.out _ _) _ _, Below.drew (Below.setCell (p := ⟨w.heap.size, k * 2 + 1, none⟩) (Below.setCell (p := ⟨w.heap.size, k * 2, none⟩) HOLD.out (Nat.le_refl _) _) (Nat.le_refl _) _)⟩)
      go_wp2
      exact ⟨⟨k + 1, by omega, by go_num, HN.out⟩, by simp [intOf]; omega⟩
    have ek : n = k := by omega
    subst ek
    obtain ⟨c, hc⟩ : ∃ c, c = cfgRead (ofB s) n := ⟨_, rfl⟩
    rw [← hc] at HCB hcb
    have HC := hid hc
    have x0 : wr.cell? ⟨w.heap.size, 0, none⟩ = some (i64 c.s0) := cell_of_blk hcb 0
    have x1 : wr.cell? ⟨w.heap.size, 1, none⟩ = some (i64 c.k0) := cell_of_blk hcb 1
    have x2 : wr.cell? ⟨w.heap.size, 2, none⟩ = some (i64 c.s1) := cell_of_blk hcb 2
    have x3 : wr.cell? ⟨w.heap.size, 3, none⟩ = some (i64 c.k1) := cell_of_blk hcb 3
    have y4 : wr.cell? ⟨w.heap.size, 4, none⟩ = some (i64 c.s2) := cell_of_blk hcb 4
    have y5 : wr.cell? ⟨w.heap.size, 5, none⟩ = some (i64 c.k2) := cell_of_blk hcb 5
    have x6 : wr.cell? ⟨w.heap.size, 6, none⟩ = some (i64 c.s3) := cell_of_blk hcb 6
    have x7 : wr.cell? ⟨w.heap.size, 7, none⟩ = some (i64 c.k3) := cell_of_blk hcb 7
    have x8 : wr.cell? ⟨w.heap.size, 8, none⟩ = some (i64 c.m) := cell_of_blk hcb 8
    have x9 : wr.cell? ⟨w.heap.size, 9, none⟩ = some (i64 c.f) := cell_of_blk hcb 9
    have HXN := hid (show (ofB s).getD 6 0 = (n : Int) ∧ ((ofB s).getD 6 0).toNat = n from ⟨HNN.out, by rw [HNN.out]; rfl⟩)
    clear hcb hold hc hlt
    by_cases hok : c.Ok
    case neg =>
      have HP := hid (fun (w' : World) (h : Below w.heap.size w w') => RLPost.bad (b := ofB s) h (loadL_cfg (.inl (by rw [HXN.out.2, ← HC.out]; exact hok))))
      have HNO := hid hok
      clear hok
      go_wp2_with fail
      refine (show Calls Tryz.prog 23 #[.agg #[i64 c.s0, i64 c.k0, i64 c.s1, i64 c.k1, i64 c.s2, i64 c.k2, i64 c.s3, i64 c.k3, i64 c.m, i64 c.f]] _ _ from rcreate_no c _ HNO.out).mono ?_
      rintro e w1 ⟨rfl, hb1⟩
      have HB1 := hid (HOLD.out.trans (hb1.mono HOLD.out.size))
      clear hb1
      go_wp2
      go_ret
      exact HP.out _ HB1.out
    have HOK := hid hok
    have hm4 := c.many_le
    have HBD := hid (bdB_all (c.ok_iff.1 hok).2.2.2.2.1)
    clear hok
    go_wp2_with fail
    refine (show Calls Tryz.prog 23 #[.agg #[i64 c.s0, i64 c.k0, i64 c.s1, i64 c.k1, i64 c.s2, i64 c.k2, i64 c.s3, i64 c.k3, i64 c.m, i64 c.f]] _ _ from rcreate_full c _ HOK.out).mono ?_
    rintro e w1 ⟨p, gl, vs, rfl, hb1, hr1, hr2, hr3, hr4, hr5⟩
    have HB1 := hid (HOLD.out.trans (hb1.mono HOLD.out.size))
    have HLD := hid (fun (b : List Int) => LdO.start (w := w) (b := b) HB1.out hr1 hr2 hr3 (Nat.le_trans HOLD.out.size hr4) (Nat.le_trans HOLD.out.size hr5))
    have HCB1 := hid (blk_later hb1 hzC HCB.out)
    have z0 : w1.cell? ⟨w.heap.size, 0, none⟩ = some (i64 c.s0) := cell_later hb1 x0
    have z1 : w1.cell? ⟨w.heap.size, 1, none⟩ = some (i64 c.k0) := cell_later hb1 x1
    have z2 : w1.cell? ⟨w.heap.size, 2, none⟩ = some (i64 c.s1) := cell_later hb1 x2
    have z3 : w1.cell? ⟨w.heap.size, 3, none⟩ = some (i64 c.k1) := cell_later hb1 x3
    have z4 : w1.cell? ⟨w.heap.size, 4, none⟩ = some (i64 c.s2) := cell_later hb1 y4
    have z5 : w1.cell? ⟨w.heap.size, 5, none⟩ = some (i64 c.k2) := cell_later hb1 y5
    have z6 : w1.cell? ⟨w.heap.size, 6, none⟩ = some (i64 c.s3) := cell_later hb1 x6
    have z7 : w1.cell? ⟨w.heap.size, 7, none⟩ = some (i64 c.k3) := cell_later hb1 x7
    have z8 : w1.cell? ⟨w.heap.size, 8, none⟩ = some (i64 c.m) := cell_later hb1 x8
    have z9 : w1.cell? ⟨w.heap.size, 9, none⟩ = some (i64 c.f) := cell_later hb1 x9
    have hzC1 : w.heap.size < w1.heap.size := blk_lt HCB1.out
    clear hb1 hr1 hr2 hr3 hr4 hr5 x0 x1 x2 x3 y4 y5 x6 x7 x8 x9 HCB HOLD hzC
    go_wp2_with fail
    refine (show Calls Tryz.prog 39 #[.agg #[i64 c.s0, i64 c.k0, i64 c.s1, i64 c.k1, i64 c.s2, i64 c.k2, i64 c.s3, i64 c.k3, i64 c.m, i64 c.f]] _ _ from many_any c _).mono ?_
    rintro e w2 ⟨rfl, hb2⟩
    have HB2 := hid (HB1.out.trans (hb2.mono HB1.out.size))
    have HLD2 := hid (fun (b : List Int) => (HLD.out b).below hb2)
    have HCB2 := hid (blk_later hb2 hzC1 HCB1.out)
    clear hb2 z0 z1 z2 z3 z4 z5 z6 z7 z8 z9 hzC1 HCB1 HLD HB1
    by_cases hmn : c.many = n
    case neg =>
      have HP := hid (fun (w' : World) (h : Below w.heap.size w w') => RLPost.bad (b := ofB s) h (loadL_cfg (.inr (by rw [HXN.out.2, ← HC.out]; exact hmn))))
      have hmn' : ((c.many : Int) == (n : Int)) = false := beq_eq_false_iff_ne.2 (by omega)
      go_wp2
      go_ret
      exact HP.out _ HB2.out
    have hmn' : ((c.many : Int) == (n : Int)) = true := beq_iff_eq.2 (by omega)
    have HMN := hid hmn
    clear hmn
    go_upto_region 17 with fail
    rw [show ((c.many : Int) != (n : Int)) = false by rw [bne, hmn']; rfl]
    have hzC2 : w.heap.size < w2.heap.size := blk_lt HCB2.out
    have HSUM := hid (fun i (hi : i ≤ n) => slotSum_len (c := c) i fun j hj => by
      have := HBD.out j (by rw [HMN.out]; omega)
      exact ⟨this.2.2.1, this.2.2.2⟩)
    clear hmn'
    go_loopw [5, 9] (fun a' i' wr => ∃ i : Nat, i ≤ n ∧ i' = i64 i ∧ a' = i64 (slotSum c i) ∧ wr = w2) (fun _ i' _ => n - (intOf i').toNat)
    case atStart => exact ⟨0, by omega, rfl, rfl, rfl⟩
    case round =>
      obtain ⟨i, hi, rfl, rfl, hw⟩ := hrel
      subst hw
      obtain ⟨sm1, sm2, sm3⟩ := HSUM.out i hi
      by_cases hlt : i < n
      · have y1 : wr.cell? ⟨w.heap.size, i * 2 + 1, none⟩ = some (i64 (c.k i)) := by
          rw [cell_of_blk HCB2.out]
          exact (cfg_at c (by omega)).2
        have i0 : (0 : Int) ≤ (i : Int) := by omega
        have i1 : (i : Int) < (n : Int) := by omega
        have i4' : (i : Int) < 4 := by omega
        obtain ⟨_, _, kb1, kb2⟩ := (show 1 ≤ c.s i ∧ c.s i ≤ 86400 ∧ 1 ≤ c.k i ∧ c.k i ≤ 60 from HBD.out i (by rw [HMN.out]; exact hlt))
        have HSS := hid (show slotSum c (i + 1) = slotSum c i + c.k i from rfl)
        go_wp2
        exact ⟨⟨i + 1, by omega, by go_num, by rw [HSS.out], trivial⟩, by simp [intOf]; omega⟩
      have ei : n = i := by omega
      subst ei
      have HSL := hid sm1
      clear sm1
      by_cases hlen : (s.size : Int) = 7 + 8 * (n : Int) + 12 * slotSum c n
      case neg =>
        have HP := hid (fun (w' : World) (h : Below w.heap.size w w') => RLPost.bad (b := ofB s) h (loadL_slots (.inr (by
          rw [HXN.out.2, ← HC.out, List.length_drop, HLN.out]
          have := HSL.out
          omega))))
        have hlen' : ((s.size : Int) == 7 + 8 * (n : Int) + 12 * slotSum c n) = false := beq_eq_false_iff_ne.2 hlen
        clear hlt
        go_wp2
        go_ret
        exact HP.out _ HB2.out
      have hlen' : ((s.size : Int) == 7 + 8 * (n : Int) + 12 * slotSum c n) = true := beq_iff_eq.2 hlen
      have HLE := hid hlen
      clear hlen hlt
      go_upto_region 24 with fail
      have HST := hid (HLD2.out ((ofB s).drop (7 + 8 * n)))
      obtain ⟨A0, hA0⟩ : ∃ A0 : Nat, A0 = 7 + 8 * n := ⟨_, rfl⟩
      have HTOT := hid (show A0 + slotLen c 0 n = s.size by have h1 := HLE.out; have h2 := HSL.out; omega)
      have e0 : 7 + 8 * (n : Int) = (A0 : Int) := by omega
      have b0 : ((s.size : Int) != 7 + 8 * (n : Int) + 12 * slotSum c n) = false := by rw [bne, hlen']; rfl
      rw [b0, e0]
      have HA0 := hid hA0
      rw [← hA0] at HST
      clear HLE HSL hlen' sm2 sm3 e0 b0 hA0
      go_loopw [10, 11] (fun at' i' wx => ∃ (i : Nat) (A : List (List (Option Pt))) (r : List Int) (vs : Array Value) (a : Nat), i ≤ n ∧ i' = i64 i ∧ at' = i64 a ∧ Hid (a = A0 + slotLen c 0 i) ∧ LdO w wx p gl vs c ((ofB s).drop A0) i A r ∧ wx.heap[w.heap.size]? = some (.cells c.cells 40)) (fun _ i' _ => n - (intOf i').toNat)
      case atStart => exact ⟨0, [], _, vs, A0, by omega, rfl, rfl, hid rfl, HST.out, HCB2.out⟩
      clear HST HLD2 HB2 HCB2 hzC2
      case round =>
        obtain ⟨i, A, r, vs, a0, hi, rfl, rfl, HAO, I, hcb⟩ := hrel
        have HI := hid I
        have HCB := hid hcb
        clear I
        by_cases hlt : i < n
        case neg =>
          have ei : n = i := by omega
          subst ei
          have HF := hid (show RLPost w (ofB s) (.returned (.pointer (some ⟨p, 0, none⟩))) wr from by
            have hgot := HI.out.got
            rw [← HMN.out] at hgot
            have hA := hgot.done
            have hld : loadL (ofB s) = some ⟨c, A.map listOf⟩ := by
              have := loadL_ok (b := ofB s) (A := A) (r := r) (by rw [HLN.out]; exact h7) HM.out (by
                rw [HXN.out.2, HNN.out, HLN.out]
                have := HTOT.out
                have := HA0.out
                omega) (by rw [HXN.out.2, ← HC.out]; exact HOK.out) (by rw [HXN.out.2, ← HC.out]; exact HMN.out) (by
                rw [HXN.out.2, ← HC.out, List.length_drop, HLN.out]
                have := HTOT.out
                have := HA0.out
                omega) (by rw [HXN.out.2, ← HC.out, ← HA0.out]; rw [HMN.out] at hA; exact hA)
              rw [HXN.out.2, ← HC.out] at this
              exact this
            refine ⟨HI.out.old, (fun hn => by rw [hld] at hn; cases hn), fun d hd => ?_⟩
            rw [hld] at hd
            cases hd
            refine ⟨p, rfl, ?_⟩
            have hI := HI.out
            rw [← HMN.out] at hI
            exact hI.done)
          clear hcb
          go_wp2
          go_ret
          exact HF.out
        obtain ⟨sb1, sb2, kb1, kb2⟩ := (show 1 ≤ c.s i ∧ c.s i ≤ 86400 ∧ 1 ≤ c.k i ∧ c.k i ≤ 60 from HBD.out i (by rw [HMN.out]; exact hlt))
        have y0 : wr.cell? ⟨w.heap.size, i * 2, none⟩ = some (i64 (c.s i)) := by rw [cell_of_blk hcb]; exact (cfg_at c (by omega)).1
        have y1 : wr.cell? ⟨w.heap.size, i * 2 + 1, none⟩ = some (i64 (c.k i)) := by rw [cell_of_blk hcb]; exact (cfg_at c (by omega)).2
        have hzc : w.heap.size < wr.heap.size := blk_lt hcb
        have i0 : (0 : Int) ≤ (i : Int) := by omega
        have i1 : (i : Int) < (n : Int) := by omega
        have i4' : (i : Int) < 4 := by omega
        obtain ⟨st, hst⟩ : ∃ x, x = c.s i := ⟨_, rfl⟩
        obtain ⟨k, hk⟩ : ∃ k, k = (c.k i).toNat := ⟨_, rfl⟩
        have hck : c.k i = (k : Int) := by omega
        rw [hck] at y1
        rw [← hst] at y0 sb1 sb2
        have HSTP := hid hst
        have HK := hid hk
        have HCK := hid hck
        have k1 : 1 ≤ k := by omega
        have k2 : k ≤ 60 := by omega
        clear hst hk hck kb1 kb2 hcb
        go_upto_region 28 with fail
        have HO1 := hid (HI.out.below ((Below.refl _ wr).alloc (Nat.le_refl _) (.cells #[i64 st, i64 k] 37)))
        have HI1 := hid (HO1.out.into (by rw [HMN.out]; exact hlt))
        have HBX := hid (blk_new wr (.cells #[i64 st, i64 k] 37))
        have HCB1 := hid (blk_alloc (o' := .cells #[i64 st, i64 k] 37) HCB.out)
        obtain ⟨bx, hbx⟩ : ∃ bx, bx = wr.heap.size := ⟨_, rfl⟩
        obtain ⟨B, hB⟩ : ∃ B, B = (wr.alloc (.cells #[i64 st, i64 k] 37)).heap.size := ⟨_, rfl⟩
        rw [← hB] at HI1
        have hbB : bx < B := by rw [hB, hbx]; simp
        have hcB : w.heap.size < B := by rw [hB]; simp; omega
        rw [← hbx] at HBX ⊢
        clear HO1 HI y0 y1 hzc hbx hB
        go_loopw [10, 13] (fun at' j' wy => ∃ (j : Nat) (L : List (Option Pt)) (r : List Int) (vs : Array Value) (a : Nat), j ≤ k ∧ j' = i64 j ∧ at' = i64 a ∧ Hid (a = A0 + slotLen c 0 i + 12 * j) ∧ LdI w wy p gl B vs c ((ofB s).drop A0) i j A L r ∧ wy.heap[bx]? = some (.cells #[i64 st, i64 k] 37) ∧ wy.heap[w.heap.size]? = some (.cells c.cells 40)) (fun _ j' _ => k - (intOf j').toNat)
        case atStart => exact ⟨0, [], r, vs, a0, by omega, rfl, rfl, hid (by rw [HAO.out]; rfl), HI1.out, HBX.out, HCB1.out⟩
        clear HI1 HBX HCB1 HCB
        case round =>
          obtain ⟨j, L, r, vs, a, hj, rfl, rfl, HAA, I, hbx, hcb⟩ := hrel
          have HI := hid I
          have HBX := hid hbx
          have HCB := hid hcb
          have z0 : wr.cell? ⟨bx, 0, none⟩ = some (i64 st) := cell_of_blk hbx 0
          have z1 : wr.cell? ⟨bx, 1, none⟩ = some (i64 k) := cell_of_blk hbx 1
          have hbz : bx < wr.heap.size := blk_lt hbx
          clear I hbx hcb
          by_cases hlj : j < k
          case neg =>
            have ej : k = j := by omega
            subst ej
            have HO := hid (show LdO w wr p gl vs c ((ofB s).drop A0) (i + 1) (A ++ [L]) r from LdI.out' (by rw [← HK.out]; exact HI.out))
            have HE := hid (show a = A0 + slotLen c 0 (i + 1) by rw [slotLen_add i 1 0, Nat.zero_add, slotLen_one, ← HK.out, HAA.out]; omega)
            go_wp2
            go_roundw
            case rel => first | exact ⟨i + 1, A ++ [L], r, vs, a, by omega, by go_num, rfl, HE, HO.out, HCB.out⟩ | ((repeat apply Exists.intro); exact ⟨⟨i + 1, A ++ [L], r, vs, a, by omega, by go_num, rfl, HE, HO.out, HCB.out⟩, rfl⟩)
            case measure => simp [intOf]; omega
          have hroom := slotLen_room (c := c) (i := i) (j := j) (n := n) hlt (by rw [← HK.out]; exact hlj)
          have htot := HTOT.out
          have HRR := hid (show r = (ofB s).drop a by
            rw [HI.out.got.len.2.2, List.drop_drop, HAA.out]
            congr 1
            omega)
          have HA12 := hid (show a + 12 = A0 + slotLen c 0 i + 12 * (j + 1) by have := HAA.out; omega)
          have haa := HAA.out
          have a0' : (0 : Int) ≤ (a : Int) := by omega
          have a4 : (a : Int) ≤ (a : Int) + 4 := by omega
          have a8 : (a : Int) + 4 ≤ (a : Int) + 12 := by omega
          have p4' : (0 : Int) ≤ (a : Int) + 4 := by omega
          have p8' : (0 : Int) ≤ (a : Int) + 12 := by omega
          have q4' : (a : Int) + 4 ≤ (s.size : Int) := by omega
          have q8' : (a : Int) + 12 ≤ (s.size : Int) := by omega
          have w4' : IntKind.i64.wrap ((a : Int) + 4) = (a : Int) + 4 := by rw [IntKind.wrap_i64]; omega
          have w8' : IntKind.i64.wrap ((a : Int) + 12) = (a : Int) + 12 := by rw [IntKind.wrap_i64]; omega
          have t4' : ((a : Int) + 4).toNat = a + 4 := by omega
          have t8' : ((a : Int) + 12).toNat = a + 12 := by omega
          have j0 : (0 : Int) ≤ (j : Int) := by omega
          have j1 : (j : Int) < (k : Int) := by omega
          clear haa hroom htot
          go_upto_region 30 with fail
          obtain ⟨t, ht⟩ : ∃ t, t = readN (((ofB s).drop a).take 4) := ⟨_, rfl⟩
          obtain ⟨v, hv⟩ : ∃ v, v = readN (((ofB s).drop (a + 4)).take 8) := ⟨_, rfl⟩
          have HT := hid ht
          have HV := hid hv
          clear ht hv
          go_cut [14] (fun z wx => z = .pointer (some ⟨wr.heap.size, 0, none⟩) ∧ Below wr.heap.size wr wx ∧ wx.heap[wr.heap.size]? = some (.cells #[i64 t, i64 v] 48))
          case first =>
            as_aux_lemma =>
            refine wp_region_held_drew (S := (fun _ => True)) (by kernel_rfl) ?_ (fun hHeld => ?_)
            · trivial
            refine tkI (i := 0) (oi := ⟨some 124, .move (.tmp 0), 9, _, #[], none⟩) ?_
            try simp only [Act.put, tkA, tkB, tkC]
            refine tkI (i := 1) (oi := ⟨some 125, .move (.tmp 10), 3, _, #[], none⟩) ?_
            try simp only [Act.put, tkA, tkB, tkC]
            refine tkI (i := 2) (oi := ⟨some 126, .move (.tmp 10), 3, _, #[], none⟩) ?_
            try simp only [Act.put, tkA, tkB, tkC]
            refine tkI (i := 3) (oi := ⟨some 127, .binOp .add 3 (.tmp 126) (.const (Value.int .i64 4)) 3, 3, _, #[⟨2, .data⟩], none⟩) ?_
            try simp only [Act.put, tkA, tkB, tkC]
            refine tkI (i := 4) (oi := ⟨some 128, .slice 9 (.tmp 124) (some (.tmp 125)) (some (.tmp 127)) none, 9, _, #[⟨0, .data⟩, ⟨1, .data⟩, ⟨3, .data⟩], none⟩) ?_
            try simp only [Act.put, tkA, tkB, tkC]
            refine tkI (i := 6) (oi := ⟨some 130, .move (.tmp 0), 9, _, #[], none⟩) ?_
            try simp only [Act.put, tkA, tkB, tkC]
            refine tkI (i := 7) (oi := ⟨some 131, .move (.tmp 10), 3, _, #[], none⟩) ?_
            try simp only [Act.put, tkA, tkB, tkC]
            refine tkI (i := 8) (oi := ⟨some 132, .binOp .add 3 (.tmp 131) (.const (Value.int .i64 4)) 3, 3, _, #[⟨7, .data⟩], none⟩) ?_
            try simp only [Act.put, tkA, tkB, tkC]
            refine tkI (i := 9) (oi := ⟨some 133, .move (.tmp 10), 3, _, #[], none⟩) ?_
            try simp only [Act.put, tkA, tkB, tkC]
            refine tkI (i := 10) (oi := ⟨some 134, .binOp .add 3 (.tmp 133) (.const (Value.int .i64 12)) 3, 3, _, #[⟨9, .data⟩], none⟩) ?_
            try simp only [Act.put, tkA, tkB, tkC]
            refine tkI (i := 11) (oi := ⟨some 135, .slice 9 (.tmp 130) (some (.tmp 132)) (some (.tmp 134)) none, 9, _, #[⟨6, .data⟩, ⟨8, .data⟩, ⟨10, .data⟩], none⟩) ?_
            try simp only [Act.put, tkA, tkB, tkC]
            refine wpAnyH_ready (rs := [5, 14]) (by kernel_rfl) (by simp) ?_
            refine AllReadyH.cons rfl (fun K' hK => ?_) (AllReadyH.cons rfl (fun K' hK => ?_) AllReadyH.nil)
            · go_simp
              refine (read_part s a 4 _ (by omega)).mono ?_
              rintro e w1 ⟨rfl, rfl⟩
              rw [← HT.out]
              go_wp2_with fail
              refine hK.out _ _ trivial (fun hHeld => ?_)
              clear hK K'
              refine wpAnyH_ready (rs := [12, 14]) (by kernel_rfl) (by simp) ?_
              refine AllReadyH.cons rfl (fun K' hK => ?_) (AllReadyH.cons rfl (fun K' hK => ?_) AllReadyH.nil)
              · go_simp
                refine (show Calls Tryz.prog 47 #[.string (s.extract (a + 4) (a + 12))] _ _ from read_part s (a + 4) 8 _ (by omega)).mono ?_
                rintro e w1 ⟨rfl, rfl⟩
                rw [← HV.out]
                go_wp2_with fail
                refine hK.out _ _ trivial (fun hHeld => ?_)
                clear hK K'
                refine tkI (i := 13) (oi := ⟨some 137, .build 48 #[(0, .tmp 129), (1, .tmp 136)], 48, _, #[⟨5, .data⟩, ⟨12, .data⟩], none⟩) ?_
                try simp only [Act.put, tkA, tkB, tkC]
                refine wpAnyH_ready (rs := [14]) (by kernel_rfl) (by simp) ?_
                refine AllReadyH.cons rfl (fun K' hK => ?_) AllReadyH.nil
                go_simp
                refine hK.out _ _ trivial (fun hHeld => ?_)
                clear hK K'
                refine wpAnyH_ready (rs := [15]) (by kernel_rfl) (by simp) ?_
                refine AllReadyH.cons rfl (fun K' hK => ?_) AllReadyH.nil
                go_simp
                refine hK.out _ _ trivial (fun hHeld => ?_)
                clear hK K'
                refine wpAnyH_done (by kernel_rfl) ?_ _
                go_wp2
                go_meet
                exact ⟨rfl, ((Below.refl _ wr).alloc (Nat.le_refl _) _).drew, blk_new wr _⟩
              · go_simp
                refine hK.out _ _ trivial (fun hHeld => ?_)
                clear hK K'
                refine wpAnyH_ready (rs := [12]) (by kernel_rfl) (by simp) ?_
                refine AllReadyH.cons rfl (fun K' hK => ?_) AllReadyH.nil
                go_simp
                refine (show Calls Tryz.prog 47 #[.string (s.extract (a + 4) (a + 12))] _ _ from read_part s (a + 4) 8 _ (by omega)).mono ?_
                rintro e w1 ⟨rfl, rfl⟩
                rw [← HV.out]
                go_wp2_with fail
                refine hK.out _ _ trivial (fun hHeld => ?_)
                clear hK K'
                refine tkI (i := 13) (oi := ⟨some 137, .build 48 #[(0, .tmp 129), (1, .tmp 136)], 48, _, #[⟨5, .data⟩, ⟨12, .data⟩], none⟩) ?_
                try simp only [Act.put, tkA, tkB, tkC]
                refine wpAnyH_ready (rs := [15]) (by kernel_rfl) (by simp) ?_
                refine AllReadyH.cons rfl (fun K' hK => ?_) AllReadyH.nil
                go_simp
                refine hK.out _ _ trivial (fun hHeld => ?_)
                clear hK K'
                refine wpAnyH_done (by kernel_rfl) ?_ _
                go_wp2
                go_meet
                exact ⟨rfl, ((Below.refl _ wr).alloc (Nat.le_refl _) _).drew, blk_new wr _⟩
            · go_simp
              refine hK.out _ _ trivial (fun hHeld => ?_)
              clear hK K'
              refine wpAnyH_ready (rs := [5]) (by kernel_rfl) (by simp) ?_
              refine AllReadyH.cons rfl (fun K' hK => ?_) AllReadyH.nil
              go_simp
              refine (read_part s a 4 _ (by omega)).mono ?_
              rintro e w1 ⟨rfl, rfl⟩
              rw [← HT.out]
              go_wp2_with fail
              refine hK.out _ _ trivial (fun hHeld => ?_)
              clear hK K'
              refine wpAnyH_ready (rs := [12]) (by kernel_rfl) (by simp) ?_
              refine AllReadyH.cons rfl (fun K' hK => ?_) AllReadyH.nil
              go_simp
              refine (show Calls Tryz.prog 47 #[.string (s.extract (a + 4) (a + 12))] _ _ from read_part s (a + 4) 8 _ (by omega)).mono ?_
              rintro e w1 ⟨rfl, rfl⟩
              rw [← HV.out]
              go_wp2_with fail
              refine hK.out _ _ trivial (fun hHeld => ?_)
              clear hK K'
              refine tkI (i := 13) (oi := ⟨some 137, .build 48 #[(0, .tmp 129), (1, .tmp 136)], 48, _, #[⟨5, .data⟩, ⟨12, .data⟩], none⟩) ?_
              try simp only [Act.put, tkA, tkB, tkC]
              refine wpAnyH_ready (rs := [15]) (by kernel_rfl) (by simp) ?_
              refine AllReadyH.cons rfl (fun K' hK => ?_) AllReadyH.nil
              go_simp
              refine hK.out _ _ trivial (fun hHeld => ?_)
              clear hK K'
              refine wpAnyH_done (by kernel_rfl) ?_ _
              go_wp2
              go_meet
              exact ⟨rfl, ((Below.refl _ wr).alloc (Nat.le_refl _) _).drew, blk_new wr _⟩
          case rest =>
          as_aux_lemma =>
          obtain ⟨rfl, hwc, hpt⟩ := hcut
          revert hwc hpt
          generalize wc = wz
          intro hwc hpt
          obtain ⟨bt, hbt⟩ : ∃ bt, bt = wr.heap.size := ⟨_, rfl⟩
          rw [← hbt] at hpt ⊢
          have HIZ := hid (HI.out.below hwc)
          have HBXZ := hid (blk_later hwc (blk_lt HBX.out) HBX.out)
          have HCBZ := hid (blk_later hwc (blk_lt HCB.out) HCB.out)
          have HPT := hid hpt
          have HBT := hid (show B ≤ bt by rw [hbt]; exact HI.out.lo.2.2.2.2.2)
          have x0 : wz.cell? ⟨bt, 0, none⟩ = some (i64 t) := cell_of_blk hpt 0
          have x1 : wz.cell? ⟨bt, 1, none⟩ = some (i64 v) := cell_of_blk hpt 1
          have y0 : wz.cell? ⟨bx, 0, none⟩ = some (i64 st) := cell_of_blk HBXZ.out 0
          have y1 : wz.cell? ⟨bx, 1, none⟩ = some (i64 k) := cell_of_blk HBXZ.out 1
          have hbtz : bt < wz.heap.size := blk_lt hpt
          have hbxz : bx < wz.heap.size := blk_lt HBXZ.out
          have hbd := readU_bd (l := ((ofB s).drop a).take 4) fun x hx => HBY.out x (List.mem_of_mem_drop (List.mem_of_mem_take hx))
          rw [show (((ofB s).drop a).take 4).length = 4 by rw [List.length_take, List.length_drop, HLN.out]; omega, ← readN_four, ← HT.out, show (256 : Int) ^ 4 = 4294967296 from by decide] at hbd
          obtain ⟨t0, t1⟩ := hbd
          have HSR := hid (show slotRead c i j (readU (r.take 4)) (readN ((r.drop 4).take 8)) = slotRead c i j t v by rw [HRR.out, List.drop_drop, ← HV.out, ← readN_four, ← HT.out])
          have n1 : ¬ st = 0 := by omega
          have n2 : ¬ (k : Int) = 0 := by omega
          have n3 : ¬ k = 0 := by omega
          obtain ⟨dd, hdd⟩ : ∃ x, x = t / st := ⟨_, rfl⟩
          obtain ⟨mm, hmm⟩ : ∃ x, x = t % st := ⟨_, rfl⟩
          obtain ⟨ee, hee⟩ : ∃ x, x = dd % (k : Int) := ⟨_, rfl⟩
          have d0 : 0 ≤ dd := by rw [hdd]; exact Int.ediv_nonneg t0 (by omega)
          have d1 : dd ≤ 4294967296 := by rw [hdd]; exact Int.le_trans (Int.ediv_le_self _ t0) (by omega)
          have m1 : IntKind.i64.wrap (t.tdiv st) = dd := by rw [hdd]; exact IntWalk.i64_quo _ _ ⟨t0, by omega, sb1⟩
          have m2 : dd.tmod (k : Int) = ee := by rw [hee]; exact IntWalk.rem_in _ _ d0
          have m3 : t.tmod st = mm := by rw [hmm]; exact IntWalk.rem_in _ _ t0
          have HDD := hid hdd
          have HMM := hid hmm
          have HEE := hid hee
          clear hdd hmm hee
          have wa : IntKind.i64.wrap ((a : Int) + 12) = (a : Int) + 12 := w8'
          have HBAD := hid (fun (hn : slotRead c i j t v = none) (w' : World) (h : Below w.heap.size w w') => RLPost.bad (b := ofB s) h (loadL_slots (.inl (by
            rw [HXN.out.2, ← HC.out, ← HA0.out]
            exact HIZ.out.got.bad (by rw [HSR.out]; exact hn) hlt (by rw [← HK.out]; exact hlj)))))
          obtain ⟨vi, hvi, hown⟩ := HI.out.cur
          have HVB := hid (show ∀ k, vi.ownBlock = some k → k < bt from fun k hk => by rw [hbt]; exact (hown.lt k hk).2)
          have HOWN := hid (owns_below hown hwc)
          have HVI := hid hvi
          have HLL := hid (show (listOf L).length ≤ 60 by
            unfold listOf
            refine Nat.le_trans (List.length_filterMap_le _ _) ?_
            rw [HI.out.got.len.2.1]
            omega)
          clear hown hvi
          clear hwc hpt hbt HI HBX HCB a4 a8 p4' q4' w4' t4' z0 z1 hbz
          by_cases h1 : t = 4294967295 ∧ v = 0
          · obtain ⟨ht1, hv1⟩ := h1
            have HN := hid (show LdI w wz p gl B vs c ((ofB s).drop A0) i (j + 1) A (L ++ [none]) (r.drop 12) from HIZ.out.free (by
              rw [HSR.out]
              unfold slotRead
              rw [if_pos ⟨ht1, hv1⟩]))
            have q1 : (t == 4294967295) = true := beq_iff_eq.2 ht1
            have q2 : (v == 0) = true := beq_iff_eq.2 hv1
            clear ht1 hv1
            go_wp2
            go_roundw
            case rel => first | exact ⟨j + 1, _, _, vs, a + 12, by omega, by go_num, by go_num, HA12, HN.out, HBXZ.out, HCBZ.out⟩ | ((repeat apply Exists.intro); exact ⟨⟨j + 1, _, _, vs, a + 12, by omega, by go_num, by go_num, HA12, HN.out, HBXZ.out, HCBZ.out⟩, rfl⟩)
            case measure => simp [intOf]; omega
          by_cases h2 : 2147483647 < t
          · have HP := hid (HBAD.out (by
              unfold slotRead
              rw [if_neg h1, if_neg (by omega)]))
            by_cases ht1 : t = 4294967295
            · have hv1 : v ≠ 0 := fun e => h1 ⟨ht1, e⟩
              have q1 : (t == 4294967295) = true := beq_iff_eq.2 ht1
              have q2 : (v == 0) = false := beq_eq_false_iff_ne.2 hv1
              clear ht1 hv1 h1
              go_wp2_with fail
              refine (in_any v (-1000000000) 1000000000 _).mono ?_
              rintro e w1 ⟨rfl, rfl⟩
              go_wp2_with fail
              go_quiet (fail)
              go_wp2
              go_ret
              exact HP.out _ (below_drewN HIZ.out.old _)
            · have q1 : (t == 4294967295) = false := beq_eq_false_iff_ne.2 ht1
              clear ht1 h1
              go_wp2_with fail
              refine (in_any v (-1000000000) 1000000000 _).mono ?_
              rintro e w1 ⟨rfl, rfl⟩
              go_wp2_with fail
              go_quiet (fail)
              go_wp2
              go_ret
              exact HP.out _ (below_drewN HIZ.out.old _)
          have q1 : (t == 4294967295) = false := beq_eq_false_iff_ne.2 (by omega)
          have h2' : ¬ (2147483647 : Int) < t := h2
          by_cases h3 : mm = 0
          case neg =>
            have HP := hid (HBAD.out (by
              unfold slotRead
              rw [if_neg h1, if_neg]
              rintro ⟨_, x, _⟩
              rw [← HSTP.out, ← HMM.out] at x
              exact h3 x))
            have h2d : decide ((2147483647 : Int) < t) = false := decide_eq_false h2
            have q3 : (mm != 0) = true := bne_iff_ne.2 h3
            clear h1 h3
            go_wp2_with fail
            refine (in_any v (-1000000000) 1000000000 _).mono ?_
            rintro e w1 ⟨rfl, rfl⟩
            go_wp2_with fail
            refine wp_region_held_drew (S := (fun w' => w'.cell? ⟨bt, 0, none⟩ = some (i64 t) ∧ w'.cell? ⟨bt, 1, none⟩ = some (i64 v) ∧ w'.cell? ⟨bx, 0, none⟩ = some (i64 st) ∧ w'.cell? ⟨bx, 1, none⟩ = some (i64 k))) (by kernel_rfl) ?_ (fun hHeld => ?_)
            · exact ⟨x0, x1, y0, y1⟩
            refine tkI (i := 0) (oi := ⟨some 151, .fieldAddr 48 (.tmp 14) 0, 0, _, #[], none⟩) ?_
            try simp only [Act.put, tkA, tkB, tkC]
            refine tkI (i := 1) (oi := ⟨some 152, .load 3 (.tmp 151), 3, _, #[⟨0, .data⟩], none⟩) ?_
            try simp only [Act.put, tkA, tkB, tkC]
            refine tkI (i := 2) (oi := ⟨some 153, .binOp .gtr 3 (.tmp 152) (.const (Value.int .i64 2147483647)) 3, 4, _, #[⟨1, .data⟩], none⟩) ?_
            try simp only [Act.put, tkA, tkB, tkC]
            refine tkI (i := 3) (oi := ⟨some 154, .move (.tmp 153), 4, _, #[⟨2, .data⟩], none⟩) ?_
            try simp only [Act.put, tkA, tkB, tkC]
            refine tkI (i := 4) (oi := ⟨some 155, .fieldAddr 48 (.tmp 14) 0, 0, _, #[⟨3, .guard⟩], some (3, false)⟩) ?_
            try simp only [Act.put, tkA, tkB, tkC]
            refine tkI (i := 5) (oi := ⟨some 156, .load 3 (.tmp 155), 3, _, #[⟨4, .data⟩, ⟨3, .guard⟩], some (3, false)⟩) ?_
            try simp only [Act.put, tkA, tkB, tkC]
            refine tkI (i := 6) (oi := ⟨some 157, .fieldAddr 37 (.tmp 12) 0, 0, _, #[⟨3, .guard⟩], some (3, false)⟩) ?_
            try simp only [Act.put, tkA, tkB, tkC]
            refine tkI (i := 7) (oi := ⟨some 158, .load 3 (.tmp 157), 3, _, #[⟨6, .data⟩, ⟨3, .guard⟩], some (3, false)⟩) ?_
            try simp only [Act.put, tkA, tkB, tkC]
            refine tkI (i := 8) (oi := ⟨some 159, .binOp .rem 3 (.tmp 156) (.tmp 158) 3, 3, _, #[⟨5, .data⟩, ⟨7, .data⟩, ⟨3, .guard⟩], some (3, false)⟩) ?_
            try simp only [Act.put, tkA, tkB, tkC]
            refine tkI (i := 9) (oi := ⟨some 160, .binOp .neq 3 (.tmp 159) (.const (Value.int .i64 0)) 3, 4, _, #[⟨8, .data⟩, ⟨3, .guard⟩], some (3, false)⟩) ?_
            try simp only [Act.put, tkA, tkB, tkC]
            refine tkI (i := 10) (oi := ⟨some 161, .pick (.tmp 154) (.const (Value.bool true)) (.tmp 160), 4, _, #[⟨3, .data⟩, ⟨9, .data⟩], none⟩) ?_
            try simp only [Act.put, tkA, tkB, tkC]
            refine tkI (i := 11) (oi := ⟨some 162, .move (.tmp 161), 4, _, #[⟨10, .data⟩, ⟨3, .chain⟩], none⟩) ?_
            try simp only [Act.put, tkA, tkB, tkC]
            refine tkJ (i := 12) (oi := ⟨some 163, .fieldAddr 48 (.tmp 14) 0, 0, _, #[⟨11, .guard⟩], some (11, false)⟩) ?_
            try simp only [Act.put, tkA, tkB, tkC]
            refine tkJ (i := 13) (oi := ⟨some 164, .load 3 (.tmp 163), 3, _, #[⟨12, .data⟩, ⟨11, .guard⟩], some (11, false)⟩) ?_
            try simp only [Act.put, tkA, tkB, tkC]
            refine tkJ (i := 14) (oi := ⟨some 165, .fieldAddr 37 (.tmp 12) 0, 0, _, #[⟨11, .guard⟩], some (11, false)⟩) ?_
            try simp only [Act.put, tkA, tkB, tkC]
            refine tkJ (i := 15) (oi := ⟨some 166, .load 3 (.tmp 165), 3, _, #[⟨14, .data⟩, ⟨11, .guard⟩], some (11, false)⟩) ?_
            try simp only [Act.put, tkA, tkB, tkC]
            refine tkJ (i := 16) (oi := ⟨some 167, .binOp .quo 3 (.tmp 164) (.tmp 166) 3, 3, _, #[⟨13, .data⟩, ⟨15, .data⟩, ⟨11, .guard⟩], some (11, false)⟩) ?_
            try simp only [Act.put, tkA, tkB, tkC]
            refine tkJ (i := 17) (oi := ⟨some 168, .fieldAddr 37 (.tmp 12) 1, 0, _, #[⟨11, .guard⟩], some (11, false)⟩) ?_
            try simp only [Act.put, tkA, tkB, tkC]
            refine tkJ (i := 18) (oi := ⟨some 169, .load 3 (.tmp 168), 3, _, #[⟨17, .data⟩, ⟨11, .guard⟩], some (11, false)⟩) ?_
            try simp only [Act.put, tkA, tkB, tkC]
            refine tkJ (i := 19) (oi := ⟨some 170, .binOp .rem 3 (.tmp 167) (.tmp 169) 3, 3, _, #[⟨16, .data⟩, ⟨18, .data⟩, ⟨11, .guard⟩], some (11, false)⟩) ?_
            try simp only [Act.put, tkA, tkB, tkC]
            refine tkJ (i := 20) (oi := ⟨some 171, .move (.tmp 13), 3, _, #[⟨11, .guard⟩], some (11, false)⟩) ?_
            try simp only [Act.put, tkA, tkB, tkC]
            refine tkJ (i := 21) (oi := ⟨some 172, .binOp .neq 3 (.tmp 170) (.tmp 171) 3, 4, _, #[⟨19, .data⟩, ⟨20, .data⟩, ⟨11, .guard⟩], some (11, false)⟩) ?_
            try simp only [Act.put, tkA, tkB, tkC]
            refine tkI (i := 22) (oi := ⟨some 173, .pick (.tmp 162) (.const (Value.bool true)) (.tmp 172), 4, _, #[⟨11, .data⟩, ⟨21, .data⟩], none⟩) ?_
            try simp only [Act.put, tkA, tkB, tkC]
            refine tkI (i := 23) (oi := ⟨some 174, .move (.tmp 173), 4, _, #[⟨22, .data⟩, ⟨11, .chain⟩], none⟩) ?_
            try simp only [Act.put, tkA, tkB, tkC]
            refine tkJ (i := 24) (oi := ⟨some 175, .move (.tmp 15), 4, _, #[⟨23, .guard⟩], some (23, false)⟩) ?_
            try simp only [Act.put, tkA, tkB, tkC]
            refine tkJ (i := 25) (oi := ⟨some 176, .unOp UnOp.not 4 (.tmp 175), 4, _, #[⟨24, .data⟩, ⟨23, .guard⟩], some (23, false)⟩) ?_
            try simp only [Act.put, tkA, tkB, tkC]
            refine tkI (i := 26) (oi := ⟨some 177, .pick (.tmp 174) (.const (Value.bool true)) (.tmp 176), 4, _, #[⟨23, .data⟩, ⟨25, .data⟩], none⟩) ?_
            try simp only [Act.put, tkA, tkB, tkC]
            refine wpAnyH_done (by kernel_rfl) ?_ _
            go_wp2
            go_ret
            exact HP.out _ (Below.drew HIZ.out.old)
          have q3 : (mm != 0) = false := by rw [h3]; rfl
          by_cases h4x : ee = (j : Int)
          case neg =>
            have HP := hid (HBAD.out (by
              unfold slotRead
              rw [if_neg h1, if_neg]
              rintro ⟨_, _, x, _⟩
              unfold slotOf at x
              rw [← HSTP.out, HCK.out, ← HDD.out, ← HEE.out] at x
              exact h4x x))
            have q4 : (ee != (j : Int)) = true := bne_iff_ne.2 h4x
            clear h1 h3 h4x
            go_wp2_with fail
            refine (in_any v (-1000000000) 1000000000 _).mono ?_
            rintro e w1 ⟨rfl, rfl⟩
            go_wp2_with fail
            go_quiet (fail)
            go_wp2
            go_ret
            exact HP.out _ (below_drewN HIZ.out.old _)
          have q4 : (ee != (j : Int)) = false := by rw [h4x]; simp
          by_cases h5 : -1000000000 ≤ v ∧ v ≤ 1000000000
          case neg =>
            have HP := hid (HBAD.out (by
              unfold slotRead
              rw [if_neg h1, if_neg]
              rintro ⟨_, _, _, x⟩
              exact h5 x))
            have q5 : (decide (-1000000000 ≤ v) && decide (v ≤ 1000000000)) = false := by
              rw [Bool.and_eq_false_iff, decide_eq_false_iff_not, decide_eq_false_iff_not]; omega
            clear h1 h3 h4x h5
            go_wp2_with fail
            refine (in_any v (-1000000000) 1000000000 _).mono ?_
            rintro e w1 ⟨rfl, rfl⟩
            rw [q5]
            clear q5
            go_wp2_with fail
            go_quiet (fail)
            go_wp2
            go_ret
            exact HP.out _ (below_drewN HIZ.out.old _)
          have q5 : (decide (-1000000000 ≤ v) && decide (v ≤ 1000000000)) = true := by rw [Bool.and_eq_true, decide_eq_true_iff, decide_eq_true_iff]; exact h5
          have HGOOD := hid (show slotRead c i j (readU (r.take 4)) (readN ((r.drop 4).take 8)) = some (some (t, v)) by
            rw [HSR.out]
            unfold slotRead slotOf
            rw [if_neg h1, if_pos ⟨by omega, by rw [← HSTP.out, ← HMM.out]; exact h3, by rw [← HSTP.out, HCK.out, ← HDD.out, ← HEE.out]; exact h4x, h5.1, h5.2⟩])
          clear h1 h3 h4x h5
          go_wp2_with fail
          refine (in_any v (-1000000000) 1000000000 _).mono ?_
          rintro e w1 ⟨rfl, hw1⟩
          have hw1 := hw1.symm
          subst hw1
          rw [q5]
          clear q5
          go_wp2_with fail
          go_quiet (fail)
          go_wp2_with fail
          have hbq := below_drewN (Below.refl wz.heap.size wz) nq
          obtain ⟨wq, hwq⟩ : ∃ wq, wq = wz.drewN nq := ⟨_, rfl⟩
          rw [← hwq] at hbq ⊢
          have HIQ := hid (HIZ.out.below hbq)
          have HPTQ := hid (blk_later hbq (blk_lt HPT.out) HPT.out)
          have HOWNQ := hid (owns_below HOWN.out hbq)
          have HBXQ := hid (blk_later hbq (blk_lt HBXZ.out) HBXZ.out)
          have HCBQ := hid (blk_later hbq (blk_lt HCBZ.out) HCBZ.out)
          clear hbq hwq HIZ HPT HOWN HBXZ HCBZ HBAD x0 x1 y0 y1 hbtz hbxz
          have x0 : wq.cell? ⟨bt, 0, none⟩ = some (i64 t) := cell_of_blk HPTQ.out 0
          have x1 : wq.cell? ⟨bt, 1, none⟩ = some (i64 v) := cell_of_blk HPTQ.out 1
          have hbtz : bt < wq.heap.size := blk_lt HPTQ.out
          have xi0 : wq.cell? ⟨gl, i, none⟩ = some vi := (cell_of_blk HIQ.out.gb i).trans HVI.out
          have fi : wq.frozen? ⟨gl, i, none⟩ = false := frozen_of_blk HIQ.out.gb i
          have x10 : wq.cell? ⟨p, 10, none⟩ = some (.slice (some ⟨gl, 0, none⟩) c.many c.many) := cell_of_blk HIQ.out.pb 10
          have hpz : p < wq.heap.size := blk_lt HIQ.out.pb
          have hglz : gl < wq.heap.size := blk_lt HIQ.out.gb
          have HLO := hid HIQ.out.lo
          have HNE1 := hid (blk_ne HBXQ.out HIQ.out.gb (by decide))
          have HNE2 := hid (blk_ne HCBQ.out HIQ.out.gb (by decide))
          have HPG := hid (blk_ne HIQ.out.pb HIQ.out.gb (by decide))
          have HBG := hid (show gl ≠ bt from fun e => blk_ne HIQ.out.gb HPTQ.out (by decide) e)
          have hmi : (i : Int) < (c.many : Int) := by rw [HMN.out]; exact i1
          have hBz : B ≤ wq.heap.size := HLO.out.2.2.2.2.2
          have HFP := hid (show some p ≠ vi.ownBlock from owns_not HOWNQ.out HLO.out.2.2.1)
          have HFG := hid (show some gl ≠ vi.ownBlock from owns_not HOWNQ.out HLO.out.2.2.2.1)
          have HFW := hid (show some bt ≠ vi.ownBlock from fun e => by have := HVB.out bt e.symm; omega)
          obtain ⟨ai, capi, hvf⟩ := slice_formR HOWNQ.out
          rw [hvf] at HOWNQ xi0 HFP HFG HFW
          have xi := xi0
          obtain ⟨q0, hi0, hz0, hz1, hz2⟩ := info_parts Tryz.infoPoint
          have HI0 := hid (And.intro hi0 (And.intro hz0 (And.intro hz1 hz2)))
          have HALD := hid (fun (O : Obj) => ((Below.refl wq.heap.size wq).alloc (Nat.le_refl _) O).drew)
          clear xi0 hvf hi0 hz0 hz1 hz2 HVB HVI
          refine wp_region_held_drew (S := (fun w' => w'.cell? ⟨p, 10, none⟩ = some (.slice (some ⟨gl, 0, none⟩) c.many c.many) ∧ w'.cell? ⟨bt, 0, none⟩ = some (i64 t) ∧ w'.cell? ⟨bt, 1, none⟩ = some (i64 v))) (by kernel_rfl) ?_ (fun hHeld => ?_)
          · go_keep
          refine tkI (i := 0) (oi := ⟨some 178, .move (.tmp 8), 51, _, #[], none⟩) ?_
          try simp only [Act.put, tkA, tkB, tkC]
          refine tkI (i := 1) (oi := ⟨some 179, .nilCheck (.tmp 178), 0, _, #[⟨0, .data⟩], none⟩) ?_
          try simp only [Act.put, tkA, tkB, tkC]
          refine tkI (i := 2) (oi := ⟨some 180, .fieldAddr 70 (.tmp 179) 1, 0, _, #[⟨1, .data⟩], none⟩) ?_
          try simp only [Act.put, tkA, tkB, tkC]
          refine tkI (i := 3) (oi := ⟨some 181, .load 31 (.tmp 180), 31, _, #[⟨2, .data⟩], none⟩) ?_
          try simp only [Act.put, tkA, tkB, tkC]
          refine tkI (i := 4) (oi := ⟨some 182, .move (.tmp 11), 3, _, #[], none⟩) ?_
          try simp only [Act.put, tkA, tkB, tkC]
          refine tkI (i := 5) (oi := ⟨some 183, .move (.tmp 8), 51, _, #[], none⟩) ?_
          try simp only [Act.put, tkA, tkB, tkC]
          refine tkI (i := 6) (oi := ⟨some 184, .nilCheck (.tmp 183), 0, _, #[⟨5, .data⟩], none⟩) ?_
          try simp only [Act.put, tkA, tkB, tkC]
          refine tkI (i := 7) (oi := ⟨some 185, .fieldAddr 70 (.tmp 184) 1, 0, _, #[⟨6, .data⟩], none⟩) ?_
          try simp only [Act.put, tkA, tkB, tkC]
          refine tkI (i := 8) (oi := ⟨some 186, .load 31 (.tmp 185), 31, _, #[⟨7, .data⟩], none⟩) ?_
          try simp only [Act.put, tkA, tkB, tkC]
          refine tkI (i := 9) (oi := ⟨some 187, .move (.tmp 11), 3, _, #[], none⟩) ?_
          try simp only [Act.put, tkA, tkB, tkC]
          refine tkI (i := 10) (oi := ⟨some 188, .indexAddr 31 (.tmp 186) (.tmp 187), 0, _, #[⟨8, .data⟩, ⟨9, .data⟩], none⟩) ?_
          try simp only [Act.put, tkA, tkB, tkC]
          refine tkI (i := 12) (oi := ⟨some 190, .load 48 (.tmp 14), 48, _, #[], none⟩) ?_
          try simp only [Act.put, tkA, tkB, tkC]
          refine wpAnyH_ready (rs := [11, 13]) (by kernel_rfl) (by simp) ?_
          refine AllReadyH.cons rfl (fun K' hK => ?_) (AllReadyH.cons rfl (fun K' hK => ?_) AllReadyH.nil)
          · go_simp
            refine hK.out _ _ hHeld (fun hHeld => ?_)
            clear hK K'
            refine wpAnyH_ready (rs := [13]) (by kernel_rfl) (by simp) ?_
            refine AllReadyH.cons rfl (fun K' hK => ?_) AllReadyH.nil
            go_simp
            refine hK.out _ _ ?_ (fun hHeld => ?_)
            · go_keep
            clear hK K'
            refine wpAnyH_ready (rs := [14]) (by kernel_rfl) (by simp) ?_
            refine AllReadyH.cons rfl (fun K' hK => ?_) AllReadyH.nil
            refine step_append_lies _ (by rfl) (.tmp 189) (.tmp 191) 41 (by rfl) B 48 q0 _ 2 16 Tryz.underlying41 HI0.out.1 HI0.out.2.1 HI0.out.2.2.1 HI0.out.2.2.2 rfl (by decide) (.slice ai (listOf L).length capi) _ _ (by kernel_rfl) (HOWNQ.out.alloc _) ⟨wq.heap.size, 0, none⟩ 1 1 [i64 t, i64 v] (by kernel_rfl) rfl (World.news_of_block (heap_alloc_new wq _)) (by simp [Value.oneCell']) (by decide) (by unfold maxLen; have := HLL.out; omega) (by have := HLL.out; omega) (by show B ≤ (wq.alloc _).heap.size; simp; omega) (wq.heap.size + 1) (by show (wq.alloc _).heap.size = _; simp) ?_
            intro g cap w3 hown3 hgrow hat hlt3
            refine hK.out _ _ ?_ (fun hHeld => ?_)
            · exact ⟨hgrow.cell (cell_later (HALD.out _) x10) HFP.out, hgrow.cell (cell_later (HALD.out _) x0) HFW.out, hgrow.cell (cell_later (HALD.out _) x1) HFW.out⟩
            clear hK K'
            have hg' := grown_undrew hgrow
            have hal := (Below.refl wq.heap.size wq).alloc (Nat.le_refl _) (.cells #[i64 t, i64 v] 48)
            have gi : w3.cell? ⟨gl, i, none⟩ = some (.slice ai (listOf L).length capi) := hg'.cell (cell_later hal xi) HFG.out
            have gf : w3.frozen? ⟨gl, i, none⟩ = false := (hg'.frozen_far _ (Nat.lt_of_lt_of_le hglz hal.size) HFG.out).trans ((hal.frozen (p := ⟨gl, i, none⟩) hglz).trans fi)
            have hgl3 : gl < w3.heap.size := World.block_lt_of_cell? _ _ gi
            have HFIN := hid (HIQ.out.app (q := (t, v)) (by rw [HMN.out]; exact hlt) HOWNQ.out HGOOD.out hown3 hg')
            have HFAR := hid (show ∀ x, x < B → x ≠ gl → (w3.setCell ⟨gl, i, none⟩ (.slice (some ⟨g, 0, none⟩) ((listOf L).length + 1) cap)).heap[x]? = wq.heap[x]? from fun x hx hne => by
              rw [blk_setCell_far (by show x ≠ gl; exact hne), hg'.block x (by simp; omega) (owns_not HOWNQ.out hx), Below.heap_alloc wq _ x (by omega)])
            have HBXN := hid ((HFAR.out bx hbB HNE1.out).trans HBXQ.out)
            have HCBN := hid ((HFAR.out w.heap.size hcB HNE2.out).trans HCBQ.out)
            clear hown3 hgrow hat hlt3 hg' hal HFAR
            refine tkI (i := 15) (oi := ⟨some 193, .indexAddr 31 (.tmp 181) (.tmp 182), 0, _, #[⟨3, .data⟩, ⟨4, .data⟩, ⟨0, .phase⟩, ⟨1, .phase⟩, ⟨2, .phase⟩, ⟨3, .phase⟩, ⟨4, .phase⟩, ⟨5, .phase⟩, ⟨6, .phase⟩, ⟨7, .phase⟩, ⟨8, .phase⟩, ⟨9, .phase⟩, ⟨10, .phase⟩, ⟨11, .phase⟩, ⟨12, .phase⟩, ⟨13, .phase⟩, ⟨14, .phase⟩], none⟩) ?_
            try simp only [Act.put, tkA, tkB, tkC]
            refine wpAnyH_ready (rs := [16]) (by kernel_rfl) (by simp) ?_
            refine AllReadyH.cons rfl (fun K' hK => ?_) AllReadyH.nil
            go_simp
            refine hK.out _ _ ?_ (fun hHeld => ?_)
            · exact ⟨(World.cell?_setCell_far _ _ _ _ (by exact fun e => HPG.out e.symm)).trans hHeld.1, (World.cell?_setCell_far _ _ _ _ (by exact HBG.out)).trans hHeld.2.1, (World.cell?_setCell_far _ _ _ _ (by exact HBG.out)).trans hHeld.2.2⟩
            clear hK K'
            refine wpAnyH_done (by kernel_rfl) ?_ _
            go_wp2
            go_roundw
            case rel => first | exact ⟨j + 1, _, _, _, a + 12, by omega, by go_num, by go_num, HA12, HFIN.out, HBXN.out, HCBN.out⟩ | ((repeat apply Exists.intro); exact ⟨⟨j + 1, _, _, _, a + 12, by omega, by go_num, by go_num, HA12, HFIN.out, HBXN.out, HCBN.out⟩, rfl⟩)
            case measure => simp [intOf]; omega
          · go_simp
            refine hK.out _ _ ?_ (fun hHeld => ?_)
            · go_keep
            clear hK K'
            refine wpAnyH_ready (rs := [11]) (by kernel_rfl) (by simp) ?_
            refine AllReadyH.cons rfl (fun K' hK => ?_) AllReadyH.nil
            go_simp
            refine hK.out _ _ hHeld (fun hHeld => ?_)
            clear hK K'
            refine wpAnyH_ready (rs := [14]) (by kernel_rfl) (by simp) ?_
            refine AllReadyH.cons rfl (fun K' hK => ?_) AllReadyH.nil
            refine step_append_lies _ (by rfl) (.tmp 189) (.tmp 191) 41 (by rfl) B 48 q0 _ 2 16 Tryz.underlying41 HI0.out.1 HI0.out.2.1 HI0.out.2.2.1 HI0.out.2.2.2 rfl (by decide) (.slice ai (listOf L).length capi) _ _ (by kernel_rfl) (HOWNQ.out.alloc _) ⟨wq.heap.size, 0, none⟩ 1 1 [i64 t, i64 v] (by kernel_rfl) rfl (World.news_of_block (heap_alloc_new wq _)) (by simp [Value.oneCell']) (by decide) (by unfold maxLen; have := HLL.out; omega) (by have := HLL.out; omega) (by show B ≤ (wq.alloc _).heap.size; simp; omega) (wq.heap.size + 1) (by show (wq.alloc _).heap.size = _; simp) ?_
            intro g cap w3 hown3 hgrow hat hlt3
            refine hK.out _ _ ?_ (fun hHeld => ?_)
            · exact ⟨hgrow.cell (cell_later (HALD.out _) x10) HFP.out, hgrow.cell (cell_later (HALD.out _) x0) HFW.out, hgrow.cell (cell_later (HALD.out _) x1) HFW.out⟩
            clear hK K'
            have hg' := grown_undrew hgrow
            have hal := (Below.refl wq.heap.size wq).alloc (Nat.le_refl _) (.cells #[i64 t, i64 v] 48)
            have gi : w3.cell? ⟨gl, i, none⟩ = some (.slice ai (listOf L).length capi) := hg'.cell (cell_later hal xi) HFG.out
            have gf : w3.frozen? ⟨gl, i, none⟩ = false := (hg'.frozen_far _ (Nat.lt_of_lt_of_le hglz hal.size) HFG.out).trans ((hal.frozen (p := ⟨gl, i, none⟩) hglz).trans fi)
            have hgl3 : gl < w3.heap.size := World.block_lt_of_cell? _ _ gi
            have HFIN := hid (HIQ.out.app (q := (t, v)) (by rw [HMN.out]; exact hlt) HOWNQ.out HGOOD.out hown3 hg')
            have HFAR := hid (show ∀ x, x < B → x ≠ gl → (w3.setCell ⟨gl, i, none⟩ (.slice (some ⟨g, 0, none⟩) ((listOf L).length + 1) cap)).heap[x]? = wq.heap[x]? from fun x hx hne => by
              rw [blk_setCell_far (by show x ≠ gl; exact hne), hg'.block x (by simp; omega) (owns_not HOWNQ.out hx), Below.heap_alloc wq _ x (by omega)])
            have HBXN := hid ((HFAR.out bx hbB HNE1.out).trans HBXQ.out)
            have HCBN := hid ((HFAR.out w.heap.size hcB HNE2.out).trans HCBQ.out)
            clear hown3 hgrow hat hlt3 hg' hal HFAR
            refine tkI (i := 15) (oi := ⟨some 193, .indexAddr 31 (.tmp 181) (.tmp 182), 0, _, #[⟨3, .data⟩, ⟨4, .data⟩, ⟨0, .phase⟩, ⟨1, .phase⟩, ⟨2, .phase⟩, ⟨3, .phase⟩, ⟨4, .phase⟩, ⟨5, .phase⟩, ⟨6, .phase⟩, ⟨7, .phase⟩, ⟨8, .phase⟩, ⟨9, .phase⟩, ⟨10, .phase⟩, ⟨11, .phase⟩, ⟨12, .phase⟩, ⟨13, .phase⟩, ⟨14, .phase⟩], none⟩) ?_
            try simp only [Act.put, tkA, tkB, tkC]
            refine wpAnyH_ready (rs := [16]) (by kernel_rfl) (by simp) ?_
            refine AllReadyH.cons rfl (fun K' hK => ?_) AllReadyH.nil
            go_simp
            refine hK.out _ _ ?_ (fun hHeld => ?_)
            · exact ⟨(World.cell?_setCell_far _ _ _ _ (by exact fun e => HPG.out e.symm)).trans hHeld.1, (World.cell?_setCell_far _ _ _ _ (by exact HBG.out)).trans hHeld.2.1, (World.cell?_setCell_far _ _ _ _ (by exact HBG.out)).trans hHeld.2.2⟩
            clear hK K'
            refine wpAnyH_done (by kernel_rfl) ?_ _
            go_wp2
            go_roundw
            case rel => first | exact ⟨j + 1, _, _, _, a + 12, by omega, by go_num, by go_num, HA12, HFIN.out, HBXN.out, HCBN.out⟩ | ((repeat apply Exists.intro); exact ⟨⟨j + 1, _, _, _, a + 12, by omega, by go_num, by go_num, HA12, HFIN.out, HBXN.out, HCBN.out⟩, rfl⟩)
            case measure => simp [intOf]; omega
theorem rload_any (s : ByteArray) (w : World) (hsz : s.size ≤ 140737488355328) :
    Calls Tryz.prog 26 #[.string s] w fun e w' => RLPost w (ofB s) e w' := by
  by_cases h7 : s.size < 7
  · exact rload_short s w h7
  by_cases hm : (ofB s).take 4 = sunL
  · by_cases hx : (ofB s).getD 6 0 < 1 ∨ 4 < (ofB s).getD 6 0
    · exact rload_count s w (by omega) hm hx
    · exact rload_main s ((ofB s).getD 6 0).toNat w (by omega) hm (by omega) (by omega) (by omega) hsz
  · exact rload_mark s w (by omega) hm
end Go.Proofs.YthbbfjfekchdiaaGreat
