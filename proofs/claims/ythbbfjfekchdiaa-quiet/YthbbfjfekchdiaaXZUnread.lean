import Derived.Test.YthbbfjfekchdiaaXKFilled
import Derived.Test.YthbbfjfekchdiaaXKQuiet
import Derived.Test.YthbbfjfekchdiaaXZFirst
import Derived.ProofKit
import Derived.OpenShut
import Derived.SizedLaws
import Derived.Deep.Slices
/-
  What the keep functions are handed, read: six raw numbers, a list of moves.
-/
namespace Go.Proofs.Ythbbfjfekchdiaa
open Go.ChangeShapes Go.WideShapes Go.ChangeAt Go.RowKit

theorem Try.cellsIntK : Try.prog.cellsOf 3 = 1 := by kernel_rfl
theorem Try.cellsRaw : Try.prog.cellsOf 22 = 6 := by kernel_rfl
theorem Try.cellsMove : Try.prog.cellsOf 37 = 3 := by kernel_rfl
theorem Try.bytesMove : Try.prog.bytesOf 37 = 24 := by kernel_rfl
theorem Try.ownK : ownKnob Try.prog.godebug = none := by kernel_rfl
theorem Try.laidOutK : laidOutB Try.prog = true := by kernel_rfl

theorem list3K {α : Type} {l : List α} (h : l.length = 3) : ∃ a0 a1 a2, l = [a0, a1, a2] := by
  obtain _ | ⟨a0, l⟩ := l
  · simp at h
  obtain _ | ⟨a1, l⟩ := l
  · simp at h
  obtain _ | ⟨a2, l⟩ := l
  · simp at h
  obtain _ | ⟨b, l⟩ := l
  · exact ⟨a0, a1, a2, rfl⟩
  · simp at h
theorem list6K {α : Type} {l : List α} (h : l.length = 6) : ∃ a0 a1 a2 a3 a4 a5, l = [a0, a1, a2, a3, a4, a5] := by
  obtain _ | ⟨a0, l⟩ := l
  · simp at h
  obtain _ | ⟨a1, l⟩ := l
  · simp at h
  obtain _ | ⟨a2, l⟩ := l
  · simp at h
  obtain _ | ⟨a3, l⟩ := l
  · simp at h
  obtain _ | ⟨a4, l⟩ := l
  · simp at h
  obtain _ | ⟨a5, l⟩ := l
  · simp at h
  obtain _ | ⟨b, l⟩ := l
  · exact ⟨a0, a1, a2, a3, a4, a5, rfl⟩
  · simp at h
theorem list_chooseK {α : Type} {p : Nat → α → Prop} : ∀ (n : Nat), (∀ i, i < n → ∃ q, p i q) → ∃ l : List α, l.length = n ∧ ∀ (i : Nat) (q : α), l[i]? = some q → p i q
  | 0, _ => ⟨[], rfl, fun i q h => by simp at h⟩
  | n + 1, h => by
    obtain ⟨l, hl, hp⟩ := list_chooseK n fun i hi => h i (by omega)
    obtain ⟨q, hq⟩ := h n (by omega)
    refine ⟨l ++ [q], by simp [hl], fun i x hx => ?_⟩
    by_cases e : i < n
    · rw [List.getElem?_append_left (by omega)] at hx
      exact hp i x hx
    · have hi : i = n := by
        obtain ⟨y, _⟩ := List.getElem?_eq_some_iff.1 hx
        simp at y; omega
      subst hi
      rw [List.getElem?_append_right (by omega), hl] at hx
      simp at hx
      subst hx
      exact hq
theorem okWide_arr {P : Program} {w : World} {r : Reach} {base : Nat} {t e : TypeId} {v : Value} {n : Nat} (ht : P.underlying t = some (.array n e)) (h : Value.okWide P w r base t v) : ∃ cs, v = .agg cs ∧ cs.size = P.cellsOf t := by
  simp only [Value.okWide, ht] at h
  obtain ⟨cs, h1, h2, _⟩ := h
  exact ⟨cs, h1, h2⟩
theorem in64_wf {z : Int} (h : (Lit.int .i64 z).wf = true) : In64 z := by
  have := bounds_i64 h
  exact ⟨by omega, by omega⟩

theorem Try.trodAll_belowK {H : Type} {enc : TypeId × Value → H} {W W' : World} (hb : Below W.heap.size W W') : ∀ {ts : List TypeId} {vs : List Value} {ds : List (DataW H)} {ps : List MemPlace},
    (∀ t ∈ ts, Try.prog.readableRec t = true ∧ t < Try.prog.types.size) → DataW.TrodAll enc Try.prog W 0 (fun _ => true) true ts vs ds ps → (∀ x ∈ ps, x.block < W.heap.size) →
    DataW.TrodAll enc Try.prog W' 0 (fun b => decide (b < W.heap.size)) true ts vs ds ps
  | [], vs, ds, ps, _, h, _ => by
    obtain ⟨rfl, rfl, rfl⟩ := trodAll_nil h
    exact trodAll_mk0
  | t :: ts, vs, ds, ps, ht, h, hl => by
    obtain ⟨v, vs', d, ds', p, q, rfl, rfl, rfl, h1, h2⟩ := trodAll_cons h
    exact trodAll_cons_mk (Below.trod Try.laidOutK (ht t (by simp)).1 (ht t (by simp)).2 h1 hb fun x hx => hl x (by simp [hx])) (Try.trodAll_belowK hb (fun t' h' => ht t' (by simp [h'])) h2 fun x hx => hl x (by simp [hx]))

section
variable {H : Type} {enc : TypeId × Value → H} {w : World} {base : Nat} {spare : Nat → Bool} {held : Bool}

theorem int_atK {n i : Nat} {c : Value} {xs : List (DataW H × List MemPlace)} (hi : i < xs.length) (h : DataW.trod enc Try.prog w base spare held n 3 [c] = xs[i]?) : ∃ z, c = i64 z ∧ In64 z := by
  rw [List.getElem?_eq_getElem hi] at h
  obtain ⟨z, h1, _, h2⟩ := DataW.trod_int Try.underlying3 h
  exact ⟨z, by simpa using h1, in64_wf h2⟩

theorem raw_readK {n : Nat} {cs : List Value} {x : DataW H × List MemPlace} (h : DataW.trod enc Try.prog w base spare held n 22 cs = some x) :
    ∃ r0 r1 r2 r3 r4 r5, cs = [i64 r0, i64 r1, i64 r2, i64 r3, i64 r4, i64 r5] ∧ In64 r0 ∧ In64 r1 ∧ In64 r2 ∧ In64 r3 ∧ In64 r4 ∧ In64 r5 := by
  obtain ⟨xs, m, _, _, hc, hl, hf⟩ := DataW.trod_array Try.underlying22 h
  rw [Try.cellsRaw] at hc
  obtain ⟨a0, a1, a2, a3, a4, a5, rfl⟩ := list6K hc
  have f0 := hf 0 (by omega)
  have f1 := hf 1 (by omega)
  have f2 := hf 2 (by omega)
  have f3 := hf 3 (by omega)
  have f4 := hf 4 (by omega)
  have f5 := hf 5 (by omega)
  simp only [Try.cellsIntK] at f0 f1 f2 f3 f4 f5
  obtain ⟨r0, rfl, i0⟩ := int_atK (by omega) f0
  obtain ⟨r1, rfl, i1⟩ := int_atK (by omega) f1
  obtain ⟨r2, rfl, i2⟩ := int_atK (by omega) f2
  obtain ⟨r3, rfl, i3⟩ := int_atK (by omega) f3
  obtain ⟨r4, rfl, i4⟩ := int_atK (by omega) f4
  obtain ⟨r5, rfl, i5⟩ := int_atK (by omega) f5
  exact ⟨r0, r1, r2, r3, r4, r5, rfl, i0, i1, i2, i3, i4, i5⟩

theorem move_readK {n : Nat} {cs : List Value} {x : DataW H × List MemPlace} (h : DataW.trod enc Try.prog w base spare held n 37 cs = some x) : ∃ q : Mv, cs = [i64 q.1, i64 q.2.1, i64 q.2.2] ∧ In64 q.1 ∧ In64 q.2.1 ∧ In64 q.2.2 := by
  obtain ⟨xs, m, _, _, hc, hl, hf⟩ := DataW.trod_struct Try.underlying37 h
  rw [Try.cellsMove] at hc
  obtain ⟨a, b, c, rfl⟩ := list3K hc
  have hl' : xs.length = 3 := hl
  have f0 : DataW.trod enc Try.prog w base spare held m 3 (([a, b, c].drop 0).take (Try.prog.cellsOf 3)) = xs[0]? := hf 0 _ rfl
  have f1 : DataW.trod enc Try.prog w base spare held m 3 (([a, b, c].drop 1).take (Try.prog.cellsOf 3)) = xs[1]? := hf 1 _ rfl
  have f2 : DataW.trod enc Try.prog w base spare held m 3 (([a, b, c].drop 2).take (Try.prog.cellsOf 3)) = xs[2]? := hf 2 _ rfl
  rw [Try.cellsIntK] at f0 f1 f2
  obtain ⟨s, rfl, i0⟩ := int_atK (by omega) f0
  obtain ⟨k, rfl, i1⟩ := int_atK (by omega) f1
  obtain ⟨j, rfl, i2⟩ := int_atK (by omega) f2
  exact ⟨(s, k, j), rfl, i0, i1, i2⟩

theorem cell_plainK {w : World} {a : Addr} {v : Value} (h : w.cell? a = some v) : a = ⟨a.block, a.off, none⟩ := by
  unfold World.cell? at h
  split at h
  · split at h
    · cases h
    · rename_i hs
      cases a with
      | mk b o s => cases s with
        | none => rfl
        | some _ => simp at hs
  · cases h

/-- a list of moves that is read -/
theorem moves_readK {n : Nat} {v : Value} {x : DataW H × List MemPlace} (h : DataW.trod enc Try.prog w base spare held n 23 [v] = some x) (hw : ∀ k ∈ x.1.weights Try.prog 23, k ≤ reachBytes) : ∃ ms, RowM w w.heap.size v ms ∧ ms.length ≤ 9223372036854775807 := by
  rcases Go.Deep.open_slice Try.underlying23 h with ⟨e, _⟩ | ⟨a, len, cap, m, k, D, Pl, e, _, hl, hm, hmm, rfl, hx⟩
  · refine ⟨[], ⟨none, 0, by simpa using e, fun j q hj => by simp at hj⟩, by simp⟩
  · have hlm : len ≤ m := by rw [hmm]; split <;> omega
    have each : ∀ i, i < len → ∃ q : Mv, (In64 q.1 ∧ In64 q.2.1 ∧ In64 q.2.2) ∧ w.cell? (a.add (i * 3)) = some (i64 q.1) ∧ w.cell? (a.add (i * 3 + 1)) = some (i64 q.2.1) ∧ w.cell? (a.add (i * 3 + 2)) = some (i64 q.2.2) := by
      intro i hi
      obtain ⟨cs', h1, h2⟩ := hx i (by omega)
      rw [Try.cellsMove] at h1
      obtain ⟨q, rfl, hin⟩ := move_readK h2
      have h3 := (World.cells?_some h1).2.2
      have r0 := h3 0 (by omega)
      have r1 := h3 1 (by omega)
      have r2 := h3 2 (by omega)
      rw [Go.Deep.add_add] at r0 r1 r2
      exact ⟨q, hin, by simpa using r0, by simpa using r1, by simpa using r2⟩
    obtain ⟨l, hll, hp⟩ := list_chooseK len each
    refine ⟨l, ⟨some a, cap, by rw [hll]; simpa using e, fun j q hj => ?_⟩, ?_⟩
    · have h0 : 0 < len := by obtain ⟨y, _⟩ := List.getElem?_eq_some_iff.1 hj; omega
      obtain ⟨hin, p0, p1, p2⟩ := hp j q hj
      obtain ⟨q0, _, z0, _⟩ := each 0 h0
      have ea : a = ⟨a.block, a.off, none⟩ := cell_plainK (by simpa [Addr.add] using z0)
      have hlt := World.block_lt_of_cell? _ _ p0
      have ez : (a.add (j * 3)).block = a.block := by unfold Addr.add; split <;> rfl
      rw [ez] at hlt
      refine ⟨hin, a.block, a.off, by rw [← ea], hlt, ?_⟩
      rw [ea, addr_addN] at p0 p1 p2
      exact ⟨p0, by rw [Nat.add_assoc]; exact p1, by rw [Nat.add_assoc]; exact p2⟩
    · have := hw (((List.range len).map D).length + ((List.range (m - len)).map fun j => D (len + j)).length |> (· * Try.prog.bytesOf 37)) (by simp [DataW.weights, Try.underlying23])
      rw [Try.bytesMove] at this
      simp only [List.length_map, List.length_range, reachBytes] at this
      omega
end
end Go.Proofs.Ythbbfjfekchdiaa
/-
  'sundialkeep.Quiet': true, whatever it is handed; out of the program's contracts.
-/
namespace Go.Proofs.Ythbbfjfekchdiaa
open Go.ChangeShapes Go.WideShapes Go.ChangeAt Go.RowKit

theorem trodAll_fiveQ {H : Type} {enc : TypeId × Value → H} {P : Program} {w : World} {base : Nat} {spare : Nat → Bool} {held : Bool} {t0 t1 t2 t3 t4 : TypeId} {args : Array Value} {ds : List (DataW H)} {ps : List MemPlace} (h : DataW.TrodAll enc P w base spare held [t0, t1, t2, t3, t4] args.toList ds ps) :
    ∃ v0 v1 v2 v3 v4 d0 d1 d2 d3 d4 p0 p1 p2 p3 p4, args = #[v0, v1, v2, v3, v4] ∧ ds = [d0, d1, d2, d3, d4] ∧ DataW.Trod enc P w base spare held t0 v0 d0 p0 ∧ DataW.Trod enc P w base spare held t1 v1 d1 p1 ∧ DataW.Trod enc P w base spare held t2 v2 d2 p2 ∧ DataW.Trod enc P w base spare held t3 v3 d3 p3 ∧ DataW.Trod enc P w base spare held t4 v4 d4 p4 := by
  obtain ⟨v0, vs0, d0, ds0, p0, q0, hargs, rfl, rfl, h0, r0⟩ := trodAll_cons h
  obtain ⟨v1, vs1, d1, ds1, p1, q1, rfl, rfl, rfl, h1, r1⟩ := trodAll_cons r0
  obtain ⟨v2, vs2, d2, ds2, p2, q2, rfl, rfl, rfl, h2, r2⟩ := trodAll_cons r1
  obtain ⟨v3, vs3, d3, ds3, p3, q3, rfl, rfl, rfl, h3, r3⟩ := trodAll_cons r2
  obtain ⟨v4, vs4, d4, ds4, p4, q4, rfl, rfl, rfl, h4, r4⟩ := trodAll_cons r3
  obtain ⟨rfl, rfl, rfl⟩ := trodAll_nil r4
  exact ⟨v0, v1, v2, v3, v4, d0, d1, d2, d3, d4, p0, p1, p2, p3, p4, by cases args; simp_all, rfl, h0, h1, h2, h3, h4⟩
theorem okWide_strQ {P : Program} {w : World} {r : Reach} {base : Nat} {t : TypeId} {v : Value} {fs : Array Field} (ht : P.underlying t = some (.struct fs)) (h : Value.okWide P w r base t v) : ∃ cs, v = .agg cs ∧ cs.size = P.cellsOf t := by
  simp only [Value.okWide, ht] at h
  obtain ⟨cs, h1, h2, _⟩ := h
  exact ⟨cs, h1, h2⟩

set_option maxRecDepth 100000 in
theorem quiet_lifted {R : Rep} (HP : ProgOk2 R) (os : Os) (started : os.Started) (H : Type) (enc : TypeId × Value → H) :
    ReturnsInHanded {} Try.checked os 7 .any (Rows.quietSpec.pre6 enc Try.prog Try.f7 Rows.quietRow.domain false) (Rows.quietSpec.post enc Try.prog Try.f7 false true false false) := by
  refine returnsInHanded_of_change_sized (C := Try.checked) Try.ownK started (by kernel_rfl) Try.func7
    (ChangeSpec.witness6 (enc := enc) (C := Try.checked) false ⟨#[], #[.agg #[i64 0, i64 0, i64 0, i64 0, i64 0, i64 0], i64 0, i64 0, .slice none 0 0, .agg #[i64 0, i64 0, i64 0]], []⟩ 8 (by kernel_rfl) (by kernel_rfl) (by kernel_rfl) (by kernel_rfl)) ?_
  intro W base args ds gs before hval0 hW _ hsz0 _
  have hsz : (DataW.weightsEach Try.prog (Try.f7.params.toList ++ Rows.quietSpec.plain.varTypes Try.prog) (ds ++ gs)).all (· ≤ reachBytes) = true := hsz0
  clear hsz0
  have hval : ∀ (j : Nat) t v, Try.f7.params[j]? = some t → args[j]? = some v → Value.okWide Try.prog W .any base t v := hval0
  have hW' := hW
  obtain ⟨p, q, hA0, hV, rfl, _, _⟩ := hW
  have hA : DataW.TrodAll enc Try.prog W 0 (fun _ => true) true Try.f7.params.toList args.toList ds p := hA0
  rw [Try.params7] at hA hval hsz
  have hAk := hA
  obtain ⟨v0, v1, v2, v3, v4, d0, d1, d2, d3, d4, p0, p1, p2, p3, p4, rfl, rfl, h0, h1, h2, h3, h4⟩ := trodAll_fiveQ hA
  obtain ⟨rfl, rfl⟩ := trodVars_none hV
  clear hA0 hval0 hA
  obtain ⟨cs, rfl, _⟩ := okWide_arr Try.underlying22 (hval 0 22 v0 rfl rfl)
  obtain ⟨me, rfl, _, _, wm⟩ := open_int Try.underlying3 (hval 1 3 v1 rfl rfl) h1
  obtain ⟨fa, rfl, _, _, wf⟩ := open_int Try.underlying3 (hval 2 3 v2 rfl rfl) h2
  obtain ⟨a3, len, cap, rfl⟩ := okWide_slice Try.underlying23 (hval 3 23 v3 rfl rfl)
  obtain ⟨f0, hf0⟩ := h0
  obtain ⟨r0, r1, r2, r3, r4, r5, hcs, i0, i1, i2, i3, i4, i5⟩ := raw_readK hf0
  have hcs' : cs = #[i64 r0, i64 r1, i64 r2, i64 r3, i64 r4, i64 r5] := by
    have : cs.toList = [i64 r0, i64 r1, i64 r2, i64 r3, i64 r4, i64 r5] := by simpa [Value.cells] using hcs
    cases cs
    simp_all
  subst hcs'
  obtain ⟨f3, hf3⟩ := h3
  have hwt : ∀ n ∈ d3.weights Try.prog 23, n ≤ reachBytes := by
    intro n hn
    have hm := DataW.weights_mem_each (P := Try.prog) (j := 3) (t := 23) (ts := [22, 3, 3, 23, 37] ++ Rows.quietSpec.plain.varTypes Try.prog) (ds := [d0, d1, d2, d3, d4] ++ []) rfl rfl n hn
    have := List.all_eq_true.1 hsz n hm
    simpa using this
  obtain ⟨ms, hrow, hlen⟩ := moves_readK (v := .slice a3 len cap) (by simpa [Value.cells] using hf3) hwt
  obtain ⟨ns, rfl, _⟩ := okWide_strQ Try.underlying37 (hval 4 37 v4 rfl rfl)
  obtain ⟨f4, hf4⟩ := h4
  obtain ⟨⟨na, nb, nc⟩, hns, j0, j1, j2⟩ := move_readK hf4
  have hns' : ns = #[i64 na, i64 nb, i64 nc] := by
    have : ns.toList = [i64 na, i64 nb, i64 nc] := by simpa [Value.cells] using hns
    cases ns
    simp_all
  subst hns'
  simp only [List.append_nil] at hW'
  have hlt : ∀ x ∈ p, x.block < W.heap.size := fun x hx => by simpa using hW'.lt x hx
  refine (quiet_any HP r0 r1 r2 r3 r4 r5 me fa na nb nc _ ms W i0 i1 i2 i3 i4 i5 (in64_wf wm) (in64_wf wf) j0 j1 j2 hrow hlen).mono fun e W' ⟨he, hnx⟩ => ?_
  subst he
  refine ⟨_, rfl, _, _, _, [], p, [], hW', ?_, ?_, rfl, hnx.frame _, fun h => by cases h⟩
  · exact trodAll_mk1 (shut_bool Try.underlying4 true)
  · exact Try.trodAll_belowK hnx (of_decide_eq_true (by kernel_rfl)) hAk hlt

theorem quiet_of {R : Rep} (HP : ProgOk2 R) : Rows.QuietSaid :=
  OpenClaim.holds_of_wide 7 Try.f7 rfl rfl rfl rfl rfl rfl rfl ⟨rfl, rfl, rfl, rfl, rfl⟩ rfl rfl rfl rfl rfl (by kernel_rfl) Try.func7 (by kernel_rfl)
    (of_decide_eq_true (by kernel_rfl)) (by unfold Func.isWrapper; first | (rw [if_pos (by decide +kernel)]; kernel_rfl) | (rw [if_neg (by decide +kernel)]; exact ⟨rfl, rfl⟩))
    (fun os started H enc _ => quiet_lifted HP os started H enc)
end Go.Proofs.Ythbbfjfekchdiaa
/-
  The program: why a fetch is refused.
-/
namespace Go.Proofs.Ythbbfjfekchdiaa
open Go.RowKit
set_option linter.unusedSimpArgs false

def stB (x : Int) : Bool := decide (0 ≤ x) && decide (x ≤ 2147483647)
theorem stB_true {x : Int} (h : StampIn x) : stB x = true := by unfold stB; simp [h.1, h.2]
theorem stB_false {x : Int} (h : ¬ StampIn x) : stB x = false := by
  unfold stB
  rw [Bool.eq_false_iff]
  intro y
  simp at y
  exact h y
theorem zstamp_b (x : Int) (w : World) : Calls Try.prog 25 #[i64 x] w fun e w' => e = .returned (.bool (stB x)) ∧ w' = w := zstamp_any x w

set_option maxHeartbeats 2000000 in
theorem zunread_any (p : Nat) (now fr un : Int) (d : RDb) (In : Nat → Prop) (w : World) (h : ZRep w In p d) :
    Calls Try.prog 28 #[.pointer (some ⟨p, 0, none⟩), i64 now, i64 fr, i64 un] w fun e w' => e = .returned (i64 (fetchErr d.c now fr un)) ∧ Below w.heap.size w w' := by
  have HE := hid (show fetchErr d.c now fr un = if ¬ (StampIn now ∧ StampIn fr ∧ StampIn un ∧ fr ≤ un) then 1 else if now < fr then 3 else if firstI d.c now (min un now) < 0 then 4 else 0 from rfl)
  by_cases a : StampIn now
  rotate_left
  · have HV := hid (show fetchErr d.c now fr un = 1 by rw [HE.out, if_pos (fun x => a x.1)])
    have ha := stB_false a
    clear a h
    go_enter Try.func28, Try.ntmps28
    go_wp2_with fail
    refine (zstamp_b now _).mono ?_
    rintro e w' ⟨rfl, rfl⟩
    rw [ha]
    clear ha
    go_wp2
    go_ret
    exact ⟨ret_int (by rw [HV.out]), Below.refl _ _⟩
  have ha := stB_true a
  have HF := hid (fun (t : Int) => zfirst_any p now t d In w h (by have := a.1; omega) (by have := a.2; omega))
  clear h
  by_cases b : StampIn fr
  rotate_left
  · have HV := hid (show fetchErr d.c now fr un = 1 by rw [HE.out, if_pos (fun x => b x.2.1)])
    have hb := stB_false b
    clear a b
    go_enter Try.func28, Try.ntmps28
    go_wp2_with fail
    refine (zstamp_b now _).mono ?_
    rintro e w' ⟨rfl, rfl⟩
    rw [ha]
    clear ha
    go_wp2_with fail
    refine (zstamp_b fr _).mono ?_
    rintro e w' ⟨rfl, rfl⟩
    rw [hb]
    clear hb
    go_wp2
    go_ret
    exact ⟨ret_int (by rw [HV.out]), Below.refl _ _⟩
  have hb := stB_true b
  by_cases c : StampIn un
  rotate_left
  · have HV := hid (show fetchErr d.c now fr un = 1 by rw [HE.out, if_pos (fun x => c x.2.2.1)])
    have hc := stB_false c
    clear a b c
    go_enter Try.func28, Try.ntmps28
    go_wp2_with fail
    refine (zstamp_b now _).mono ?_
    rintro e w' ⟨rfl, rfl⟩
    rw [ha]
    clear ha
    go_wp2_with fail
    refine (zstamp_b fr _).mono ?_
    rintro e w' ⟨rfl, rfl⟩
    rw [hb]
    clear hb
    go_wp2_with fail
    refine (zstamp_b un _).mono ?_
    rintro e w' ⟨rfl, rfl⟩
    rw [hc]
    clear hc
    go_wp2
    go_ret
    exact ⟨ret_int (by rw [HV.out]), Below.refl _ _⟩
  have hc := stB_true c
  go_enter Try.func28, Try.ntmps28
  go_wp2_with fail
  refine (zstamp_b now _).mono ?_
  rintro e w' ⟨rfl, rfl⟩
  rw [ha]
  clear ha
  go_wp2_with fail
  refine (zstamp_b fr _).mono ?_
  rintro e w' ⟨rfl, rfl⟩
  rw [hb]
  clear hb
  go_wp2_with fail
  refine (zstamp_b un _).mono ?_
  rintro e w' ⟨rfl, rfl⟩
  rw [hc]
  clear hc
  by_cases hfu : un < fr
  · have HV := hid (show fetchErr d.c now fr un = 1 by rw [HE.out, if_pos (fun x => by have := x.2.2.2; omega)])
    clear a b c
    go_wp2
    go_ret
    exact ⟨ret_int (by rw [HV.out]), Below.refl _ _⟩
  have HE2 := hid (show fetchErr d.c now fr un = if now < fr then 3 else if firstI d.c now (min un now) < 0 then 4 else 0 by rw [HE.out, if_neg (fun x => x ⟨a, b, c, by omega⟩)])
  clear a b c HE
  by_cases hnf : now < fr
  · have HV := hid (show fetchErr d.c now fr un = 3 by rw [HE2.out, if_pos hnf])
    go_wp2
    go_ret
    exact ⟨ret_int (by rw [HV.out]), Below.refl _ _⟩
  have HE3 := hid (show fetchErr d.c now fr un = if firstI d.c now (min un now) < 0 then 4 else 0 by rw [HE2.out, if_neg hnf])
  by_cases hmn : un ≤ now
  · have e1 : min un now = un := by omega
    rw [e1] at HE3
    clear e1
    go_wp2_with fail
    refine (HF.out _).mono ?_
    rintro e w1 ⟨rfl, hb1⟩
    have HB1 := hid hb1
    clear hb1
    by_cases hcv : firstI d.c now un < 0
    · have HV3 := hid (show fetchErr d.c now fr un = 4 by rw [HE3.out, if_pos hcv])
      have e2 : decide (0 ≤ firstI d.c now un) = false := decide_eq_false (by omega)
      rw [e2]
      clear e2 hcv
      go_wp2
      go_ret
      exact ⟨ret_int (by rw [HV3.out]), HB1.out⟩
    · have HV3 := hid (show fetchErr d.c now fr un = 0 by rw [HE3.out, if_neg hcv])
      have e2 : decide (0 ≤ firstI d.c now un) = true := decide_eq_true (by omega)
      rw [e2]
      clear e2 hcv
      go_wp2
      go_ret
      exact ⟨ret_int (by rw [HV3.out]), HB1.out⟩
  · have e1 : min un now = now := by omega
    rw [e1] at HE3
    clear e1
    go_wp2_with fail
    refine (HF.out _).mono ?_
    rintro e w1 ⟨rfl, hb1⟩
    have HB1 := hid hb1
    clear hb1
    by_cases hcv : firstI d.c now now < 0
    · have HV3 := hid (show fetchErr d.c now fr un = 4 by rw [HE3.out, if_pos hcv])
      have e2 : decide (0 ≤ firstI d.c now now) = false := decide_eq_false (by omega)
      rw [e2]
      clear e2 hcv
      go_wp2
      go_ret
      exact ⟨ret_int (by rw [HV3.out]), HB1.out⟩
    · have HV3 := hid (show fetchErr d.c now fr un = 0 by rw [HE3.out, if_neg hcv])
      have e2 : decide (0 ≤ firstI d.c now now) = true := decide_eq_true (by omega)
      rw [e2]
      clear e2 hcv
      go_wp2
      go_ret
      exact ⟨ret_int (by rw [HV3.out]), HB1.out⟩
end Go.Proofs.Ythbbfjfekchdiaa
