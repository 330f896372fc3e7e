import Derived.Test.YthbbfjfekchdiaaGreatXWRow
import Derived.Test.YthbbfjfekchdiaaGreatXWPlays2
import Derived.ProofKit
import Derived.OpenShut
import Derived.SizedLaws
import Derived.Deep.Slices
/-
  A step that is read: its seventeen cells.
-/
namespace Go.Proofs.YthbbfjfekchdiaaGreat
open Go.ChangeShapes Go.WideShapes Go.ChangeAt Go.RowKit

theorem Tryz.cellsInt : Tryz.prog.cellsOf 3 = 1 := by kernel_rfl
theorem Tryz.cellsCfg : Tryz.prog.cellsOf 40 = 10 := by kernel_rfl
theorem Tryz.cellsArr : Tryz.prog.cellsOf 38 = 8 := by kernel_rfl
theorem Tryz.cellsArc : Tryz.prog.cellsOf 37 = 2 := by kernel_rfl
theorem Tryz.cellsPts : Tryz.prog.cellsOf 41 = 1 := by kernel_rfl
theorem Tryz.cellsStr : Tryz.prog.cellsOf 9 = 1 := by kernel_rfl
theorem Tryz.cellsOp : Tryz.prog.cellsOf 43 = 17 := by kernel_rfl

theorem list2 {α : Type} {l : List α} (h : l.length = 2) : ∃ a0 a1, l = [a0, a1] := by
  obtain _ | ⟨a0, l⟩ := l
  · simp at h
  obtain _ | ⟨a1, l⟩ := l
  · simp at h
  obtain _ | ⟨b, l⟩ := l
  · exact ⟨a0, a1, rfl⟩
  · simp at h

theorem list8 {α : Type} {l : List α} (h : l.length = 8) : ∃ a0 a1 a2 a3 a4 a5 a6 a7, l = [a0, a1, a2, a3, a4, a5, a6, a7] := by
  obtain _ | ⟨a0, l⟩ := l
  · simp at h
  obtain _ | ⟨a1, l⟩ := l
  · simp at h
  obtain _ | ⟨a2, l⟩ := l
  · simp at h
  obtain _ | ⟨a3, l⟩ := l
  · simp at h
  obtain _ | ⟨a4, l⟩ := l
  · simp at h
  obtain _ | ⟨a5, l⟩ := l
  · simp at h
  obtain _ | ⟨a6, l⟩ := l
  · simp at h
  obtain _ | ⟨a7, l⟩ := l
  · simp at h
  obtain _ | ⟨b, l⟩ := l
  · exact ⟨a0, a1, a2, a3, a4, a5, a6, a7, rfl⟩
  · simp at h

theorem list10 {α : Type} {l : List α} (h : l.length = 10) : ∃ a0 a1 a2 a3 a4 a5 a6 a7 a8 a9, l = [a0, a1, a2, a3, a4, a5, a6, a7, a8, a9] := by
  obtain _ | ⟨a0, l⟩ := l
  · simp at h
  obtain _ | ⟨a1, l⟩ := l
  · simp at h
  obtain _ | ⟨a2, l⟩ := l
  · simp at h
  obtain _ | ⟨a3, l⟩ := l
  · simp at h
  obtain _ | ⟨a4, l⟩ := l
  · simp at h
  obtain _ | ⟨a5, l⟩ := l
  · simp at h
  obtain _ | ⟨a6, l⟩ := l
  · simp at h
  obtain _ | ⟨a7, l⟩ := l
  · simp at h
  obtain _ | ⟨a8, l⟩ := l
  · simp at h
  obtain _ | ⟨a9, l⟩ := l
  · simp at h
  obtain _ | ⟨b, l⟩ := l
  · exact ⟨a0, a1, a2, a3, a4, a5, a6, a7, a8, a9, rfl⟩
  · simp at h

theorem list17 {α : Type} {l : List α} (h : l.length = 17) : ∃ a0 a1 a2 a3 a4 a5 a6 a7 a8 a9 a10 a11 a12 a13 a14 a15 a16, l = [a0, a1, a2, a3, a4, a5, a6, a7, a8, a9, a10, a11, a12, a13, a14, a15, a16] := by
  obtain _ | ⟨a0, l⟩ := l
  · simp at h
  obtain _ | ⟨a1, l⟩ := l
  · simp at h
  obtain _ | ⟨a2, l⟩ := l
  · simp at h
  obtain _ | ⟨a3, l⟩ := l
  · simp at h
  obtain _ | ⟨a4, l⟩ := l
  · simp at h
  obtain _ | ⟨a5, l⟩ := l
  · simp at h
  obtain _ | ⟨a6, l⟩ := l
  · simp at h
  obtain _ | ⟨a7, l⟩ := l
  · simp at h
  obtain _ | ⟨a8, l⟩ := l
  · simp at h
  obtain _ | ⟨a9, l⟩ := l
  · simp at h
  obtain _ | ⟨a10, l⟩ := l
  · simp at h
  obtain _ | ⟨a11, l⟩ := l
  · simp at h
  obtain _ | ⟨a12, l⟩ := l
  · simp at h
  obtain _ | ⟨a13, l⟩ := l
  · simp at h
  obtain _ | ⟨a14, l⟩ := l
  · simp at h
  obtain _ | ⟨a15, l⟩ := l
  · simp at h
  obtain _ | ⟨a16, l⟩ := l
  · simp at h
  obtain _ | ⟨b, l⟩ := l
  · exact ⟨a0, a1, a2, a3, a4, a5, a6, a7, a8, a9, a10, a11, a12, a13, a14, a15, a16, rfl⟩
  · simp at h

section
variable {H : Type} {enc : TypeId × Value → H} {w : World} {base : Nat} {spare : Nat → Bool} {held : Bool}

theorem int_at {n i : Nat} {c : Value} {xs : List (DataW H × List MemPlace)} (hi : i < xs.length) (h : DataW.trod enc Tryz.prog w base spare held n 3 [c] = xs[i]?) : ∃ z, c = i64 z ∧ (Lit.int .i64 z).wf = true := by
  rw [List.getElem?_eq_getElem hi] at h
  obtain ⟨z, h1, _, h2⟩ := DataW.trod_int Tryz.underlying3 h
  exact ⟨z, by simpa using h1, h2⟩

theorem arc_read {n : Nat} {a b : Value} {x : DataW H × List MemPlace} (h : DataW.trod enc Tryz.prog w base spare held n 37 [a, b] = some x) : ∃ s k, a = i64 s ∧ b = i64 k := by
  obtain ⟨xs, m, _, _, _, hl, hf⟩ := DataW.trod_struct Tryz.underlying37 h
  have hl' : xs.length = 2 := hl
  have f0 : DataW.trod enc Tryz.prog w base spare held m 3 (([a, b].drop 0).take (Tryz.prog.cellsOf 3)) = xs[0]? := hf 0 _ rfl
  rw [Tryz.cellsInt] at f0
  have f1 : DataW.trod enc Tryz.prog w base spare held m 3 (([a, b].drop 1).take (Tryz.prog.cellsOf 3)) = xs[1]? := hf 1 _ rfl
  rw [Tryz.cellsInt] at f1
  obtain ⟨s, hs, _⟩ := int_at (by omega) f0
  obtain ⟨k, hk, _⟩ := int_at (by omega) f1
  exact ⟨s, k, hs, hk⟩

theorem arr_read {n : Nat} {a0 a1 a2 a3 a4 a5 a6 a7 : Value} {x : DataW H × List MemPlace} (h : DataW.trod enc Tryz.prog w base spare held n 38 [a0, a1, a2, a3, a4, a5, a6, a7] = some x) :
    ∃ s0 k0 s1 k1 s2 k2 s3 k3, a0 = i64 s0 ∧ a1 = i64 k0 ∧ a2 = i64 s1 ∧ a3 = i64 k1 ∧ a4 = i64 s2 ∧ a5 = i64 k2 ∧ a6 = i64 s3 ∧ a7 = i64 k3 := by
  obtain ⟨xs, m, _, _, _, hl, hf⟩ := DataW.trod_array Tryz.underlying38 h
  have f0 := hf 0 (by omega)
  have f1 := hf 1 (by omega)
  have f2 := hf 2 (by omega)
  have f3 := hf 3 (by omega)
  simp only [Tryz.cellsArc] at f0 f1 f2 f3
  rw [List.getElem?_eq_getElem (by omega)] at f0 f1 f2 f3
  obtain ⟨s0, k0, e0, e1⟩ := arc_read f0
  obtain ⟨s1, k1, e2, e3⟩ := arc_read f1
  obtain ⟨s2, k2, e4, e5⟩ := arc_read f2
  obtain ⟨s3, k3, e6, e7⟩ := arc_read f3
  exact ⟨s0, k0, s1, k1, s2, k2, s3, k3, e0, e1, e2, e3, e4, e5, e6, e7⟩

theorem cfg_read {n : Nat} {a0 a1 a2 a3 a4 a5 a6 a7 a8 a9 : Value} {x : DataW H × List MemPlace} (h : DataW.trod enc Tryz.prog w base spare held n 40 [a0, a1, a2, a3, a4, a5, a6, a7, a8, a9] = some x) :
    ∃ c : Cfg, a0 = i64 c.s0 ∧ a1 = i64 c.k0 ∧ a2 = i64 c.s1 ∧ a3 = i64 c.k1 ∧ a4 = i64 c.s2 ∧ a5 = i64 c.k2 ∧ a6 = i64 c.s3 ∧ a7 = i64 c.k3 ∧ a8 = i64 c.m ∧ a9 = i64 c.f := by
  obtain ⟨xs, m, _, _, _, hl, hf⟩ := DataW.trod_struct Tryz.underlying40 h
  have hl' : xs.length = 3 := hl
  have f0 : DataW.trod enc Tryz.prog w base spare held m 38 (([a0, a1, a2, a3, a4, a5, a6, a7, a8, a9].drop 0).take (Tryz.prog.cellsOf 38)) = xs[0]? := hf 0 _ rfl
  rw [Tryz.cellsArr] at f0
  have f1 : DataW.trod enc Tryz.prog w base spare held m 3 (([a0, a1, a2, a3, a4, a5, a6, a7, a8, a9].drop 8).take (Tryz.prog.cellsOf 3)) = xs[1]? := hf 1 _ rfl
  rw [Tryz.cellsInt] at f1
  have f2 : DataW.trod enc Tryz.prog w base spare held m 3 (([a0, a1, a2, a3, a4, a5, a6, a7, a8, a9].drop 9).take (Tryz.prog.cellsOf 3)) = xs[2]? := hf 2 _ rfl
  rw [Tryz.cellsInt] at f2
  rw [List.getElem?_eq_getElem (by omega)] at f0
  obtain ⟨s0, k0, s1, k1, s2, k2, s3, k3, e0, e1, e2, e3, e4, e5, e6, e7⟩ := arr_read f0
  obtain ⟨m', e8, _⟩ := int_at (by omega) f1
  obtain ⟨f', e9, _⟩ := int_at (by omega) f2
  exact ⟨⟨s0, k0, s1, k1, s2, k2, s3, k3, m', f'⟩, e0, e1, e2, e3, e4, e5, e6, e7, e8, e9⟩

theorem op_read {n : Nat} {cs : List Value} {x : DataW H × List MemPlace} (h : DataW.trod enc Tryz.prog w base spare held n 43 cs = some x) : OpCells cs := by
  obtain ⟨xs, m, _, _, hc, hl, hf⟩ := DataW.trod_struct Tryz.underlying43 h
  have hl' : xs.length = 8 := hl
  rw [Tryz.cellsOp] at hc
  obtain ⟨a0, a1, a2, a3, a4, a5, a6, a7, a8, a9, a10, a11, a12, a13, a14, a15, a16, rfl⟩ := list17 hc
  have f0 : DataW.trod enc Tryz.prog w base spare held m 3 (([a0, a1, a2, a3, a4, a5, a6, a7, a8, a9, a10, a11, a12, a13, a14, a15, a16].drop 0).take (Tryz.prog.cellsOf 3)) = xs[0]? := hf 0 _ rfl
  rw [Tryz.cellsInt] at f0
  have f1 : DataW.trod enc Tryz.prog w base spare held m 3 (([a0, a1, a2, a3, a4, a5, a6, a7, a8, a9, a10, a11, a12, a13, a14, a15, a16].drop 1).take (Tryz.prog.cellsOf 3)) = xs[1]? := hf 1 _ rfl
  rw [Tryz.cellsInt] at f1
  have f2 : DataW.trod enc Tryz.prog w base spare held m 3 (([a0, a1, a2, a3, a4, a5, a6, a7, a8, a9, a10, a11, a12, a13, a14, a15, a16].drop 2).take (Tryz.prog.cellsOf 3)) = xs[2]? := hf 2 _ rfl
  rw [Tryz.cellsInt] at f2
  have f3 : DataW.trod enc Tryz.prog w base spare held m 3 (([a0, a1, a2, a3, a4, a5, a6, a7, a8, a9, a10, a11, a12, a13, a14, a15, a16].drop 3).take (Tryz.prog.cellsOf 3)) = xs[3]? := hf 3 _ rfl
  rw [Tryz.cellsInt] at f3
  have f4 : DataW.trod enc Tryz.prog w base spare held m 3 (([a0, a1, a2, a3, a4, a5, a6, a7, a8, a9, a10, a11, a12, a13, a14, a15, a16].drop 4).take (Tryz.prog.cellsOf 3)) = xs[4]? := hf 4 _ rfl
  rw [Tryz.cellsInt] at f4
  have f5 : DataW.trod enc Tryz.prog w base spare held m 40 (([a0, a1, a2, a3, a4, a5, a6, a7, a8, a9, a10, a11, a12, a13, a14, a15, a16].drop 5).take (Tryz.prog.cellsOf 40)) = xs[5]? := hf 5 _ rfl
  rw [Tryz.cellsCfg] at f5
  have f6 : DataW.trod enc Tryz.prog w base spare held m 41 (([a0, a1, a2, a3, a4, a5, a6, a7, a8, a9, a10, a11, a12, a13, a14, a15, a16].drop 15).take (Tryz.prog.cellsOf 41)) = xs[6]? := hf 6 _ rfl
  rw [Tryz.cellsPts] at f6
  have f7 : DataW.trod enc Tryz.prog w base spare held m 9 (([a0, a1, a2, a3, a4, a5, a6, a7, a8, a9, a10, a11, a12, a13, a14, a15, a16].drop 16).take (Tryz.prog.cellsOf 9)) = xs[7]? := hf 7 _ rfl
  rw [Tryz.cellsStr] at f7
  obtain ⟨kd, rfl, _⟩ := int_at (by omega) f0
  obtain ⟨oa, rfl, wa⟩ := int_at (by omega) f1
  obtain ⟨ob, rfl, _⟩ := int_at (by omega) f2
  obtain ⟨od, rfl, _⟩ := int_at (by omega) f3
  obtain ⟨oe, rfl, _⟩ := int_at (by omega) f4
  rw [List.getElem?_eq_getElem (by omega)] at f5 f6 f7
  obtain ⟨c, rfl, rfl, rfl, rfl, rfl, rfl, rfl, rfl, rfl, rfl⟩ := cfg_read f5
  have hL : ∃ la ln lc, a15 = .slice la ln lc := by
    rcases DataW.trod_slice Tryz.underlying41 f6 with ⟨e, _⟩ | ⟨a, len, cap, _, _, _, _, e, _⟩
    · exact ⟨none, 0, 0, by simpa using e⟩
    · exact ⟨some a, len, cap, by simpa using e⟩
  obtain ⟨la, ln, lc, rfl⟩ := hL
  obtain ⟨ss, e, _⟩ := DataW.trod_string Tryz.underlying9 f7
  have e' : a16 = .string ss := by simpa using e
  subst e'
  have hr : -9223372036854775808 ≤ oa ∧ oa ≤ 9223372036854775807 := by
    have h1 : IntKind.i64.min = -9223372036854775808 := rfl
    have h2 : IntKind.i64.max = 9223372036854775807 := rfl
    simp only [Lit.wf, Bool.and_eq_true, decide_eq_true_eq] at wa
    omega
  exact ⟨kd, oa, ob, od, oe, c, la, ln, lc, ss, hr, rfl⟩

/-- the cells of a list of steps that is read -/
theorem row_read {a : Addr} {m : Nat} (h : ∀ i, i < m → ∃ l, OpCells l ∧ ∀ j, j < 17 → w.cell? (a.add (i * 17 + j)) = l[j]?) : ∃ news, OpRow m news ∧ ∀ j u, news[j]? = some u → w.cell? (a.add j) = some u := by
  induction m with
  | zero => exact ⟨[], .nil, fun j u hj => by simp at hj⟩
  | succ m ih =>
    obtain ⟨news, hr, hc⟩ := ih fun i hi => h i (by omega)
    obtain ⟨l, hl, hq⟩ := h m (by omega)
    refine ⟨news ++ l, .snoc hr hl, fun j u hj => ?_⟩
    have hn := hr.length
    by_cases e : j < m * 17
    · rw [List.getElem?_append_left (by omega)] at hj
      exact hc j u hj
    · rw [List.getElem?_append_right (by omega), hn] at hj
      have hlt : j - m * 17 < 17 := by
        obtain ⟨hh, _⟩ := List.getElem?_eq_some_iff.1 hj
        have := hl.length
        omega
      have := hq (j - m * 17) hlt
      rw [show m * 17 + (j - m * 17) = j by omega] at this
      exact this.trans hj
end
end Go.Proofs.YthbbfjfekchdiaaGreat
/-
  'sundiallaw.Configs': for every script: true; the script reads as it did.
-/
namespace Go.Proofs.YthbbfjfekchdiaaGreat
open Go.ChangeShapes Go.WideShapes Go.ChangeAt Go.RowKit

set_option maxHeartbeats 1000000 in
theorem configs_nil (w : World) :
    Calls Tryz.prog 3 #[.slice none 0 0] w fun e w' => e = .returned (.bool true) ∧ Below w.heap.size w w' := by
  go_enter Tryz.func3, Tryz.ntmps3
  go_wp2_with fail
  refine (plays_nil w.heap.size _ ?_ ?_ ?_).mono ?_
  · simp
  · simp
  · simp
  rintro e w1 ⟨rfl, hb⟩
  have HB := hid (below_one hb)
  clear hb
  go_wp2
  go_ret
  exact ⟨rfl, HB.out⟩

set_option maxHeartbeats 1000000 in
theorem configs_some (ad : Addr) (m sc : Nat) (news : List Value) (w : World) (hsz : m * 160 ≤ 140737488351232) (hrow : OpRow m news) (hnews : ∀ j u, news[j]? = some u → w.cell? (ad.add j) = some u) :
    Calls Tryz.prog 3 #[.slice (some ad) m sc] w fun e w' => e = .returned (.bool true) ∧ Below w.heap.size w w' := by
  have HR := hid hrow
  have HN := hid hnews
  have HA := hid (fun (o : Obj) => (Below.refl w.heap.size w).alloc (Nat.le_refl _) o)
  clear hrow hnews
  go_enter Tryz.func3, Tryz.ntmps3
  go_wp2_with fail
  refine (plays_some w.heap.size ad m sc news _ hsz HR.out ?_ ?_ ?_ ?_).mono ?_
  · exact fun j u hj => cell_later (HA.out _) (HN.out j u hj)
  · simp
  · simp
  · simp
  rintro e w1 ⟨rfl, hb⟩
  have HB := hid (below_one hb)
  clear hb
  go_wp2
  go_ret
  exact ⟨rfl, HB.out⟩

theorem Tryz.own : ownKnob Tryz.prog.godebug = none := by kernel_rfl
theorem Tryz.laidOut : laidOutB Tryz.prog = true := by kernel_rfl
theorem Tryz.bytesOp : Tryz.prog.bytesOf 43 = 160 := by kernel_rfl

set_option maxRecDepth 100000 in
theorem configs_lifted (os : Os) (started : os.Started) (H : Type) (enc : TypeId × Value → H) :
    ReturnsInHanded {} Tryz.checked os 3 .any (Rows.configsSpec.pre6 enc Tryz.prog Tryz.f3 Rows.configsRow.domain false) (Rows.configsSpec.post enc Tryz.prog Tryz.f3 false true false false) := by
  refine returnsInHanded_of_change_sized (C := Tryz.checked) Tryz.own started (by kernel_rfl) Tryz.func3
    (ChangeSpec.witness6 (enc := enc) (C := Tryz.checked) false ⟨#[], #[.slice none 0 0], []⟩ 8 (by kernel_rfl) (by kernel_rfl) (by kernel_rfl) (by kernel_rfl)) ?_
  intro W base args ds gs before hval0 hW _ hsz0 _
  have hsz : (DataW.weightsEach Tryz.prog (Tryz.f3.params.toList ++ Rows.configsSpec.plain.varTypes Tryz.prog) (ds ++ gs)).all (· ≤ reachBytes) = true := hsz0
  clear hsz0
  have hval : ∀ (j : Nat) t v, Tryz.f3.params[j]? = some t → args[j]? = some v → Value.okWide Tryz.prog W .any base t v := hval0
  have hW' := hW
  obtain ⟨p, q, hA0, hV, rfl, _, _⟩ := hW
  have hA : DataW.TrodAll enc Tryz.prog W 0 (fun _ => true) true Tryz.f3.params.toList args.toList ds p := hA0
  rw [Tryz.params3] at hA hval hsz
  obtain ⟨v0, d0, rfl, rfl, h0⟩ := trodAll_one hA
  obtain ⟨rfl, rfl⟩ := trodVars_none hV
  obtain ⟨a0, len, cap, rfl⟩ := okWide_slice Tryz.underlying22 (hval 0 22 v0 rfl rfl)
  have h0k := h0
  obtain ⟨fuel, hf⟩ := h0
  clear hA0 hval0
  simp only [List.append_nil] at hW'
  have hlt : ∀ x ∈ p, x.block < W.heap.size := fun x hx => by simpa using hW'.lt x hx
  have hargs : ∀ (W' : World), Below W.heap.size W W' → DataW.Trod enc Tryz.prog W' 0 (fun b => decide (b < W.heap.size)) true 22 (.slice a0 len cap) d0 p :=
    fun W' hn => Below.trod Tryz.laidOut (by kernel_rfl) (of_decide_eq_true (by kernel_rfl)) h0k hn hlt
  have fin : (Calls Tryz.prog 3 #[.slice a0 len cap] W fun e w' => e = .returned (.bool true) ∧ Below W.heap.size W w') →
      Calls Tryz.checked.prog 3 #[.slice a0 len cap] W fun e W' => ∃ v, e = Ending.returned v ∧ Rows.configsSpec.post enc Tryz.checked.prog Tryz.f3 false true false false W #[.slice a0 len cap] v W' := by
    intro hc
    refine hc.mono fun e W' ⟨he, hnx⟩ => ?_
    subst he
    refine ⟨_, rfl, _, _, _, [], p, [], hW', ?_, ?_, rfl, hnx.frame _, fun h => by cases h⟩
    · exact trodAll_mk1 (shut_bool Tryz.underlying4 true)
    · exact trodAll_mk1 (hargs _ hnx)
  rcases Go.Deep.open_slice Tryz.underlying22 hf with ⟨hcs, hx⟩ | ⟨a, len', cap', k, n, D, Pl, hcs, _, hl, hm, hk, hx, hel⟩
  · simp [Value.cells] at hcs
    obtain ⟨rfl, rfl, rfl⟩ := hcs
    exact fin (configs_nil W)
  · simp [Value.cells] at hcs
    obtain ⟨rfl, rfl, rfl⟩ := hcs
    simp only [if_true] at hk
    subst hk
    have hd : d0 = .slice ((List.range len).map D) ((List.range (k - len)).map fun j => D (len + j)) := congrArg Prod.fst hx
    rw [hd] at hsz
    have hby := sized_slice hsz (j := 0) (t := 22) (e := 43) rfl rfl Tryz.underlying22
    rw [Tryz.bytesOp] at hby
    simp only [List.length_map, List.length_range, reachBytes] at hby
    have hops : ∀ i, i < len → ∃ l, OpCells l ∧ ∀ j, j < 17 → W.cell? (a.add (i * 17 + j)) = l[j]? := by
      intro i hi
      obtain ⟨cs', h1, h2⟩ := hel i (by omega)
      rw [Tryz.cellsOp] at h1
      refine ⟨cs', op_read h2, fun j hj => ?_⟩
      have h3 := (World.cells?_some h1).2.2 j hj
      rwa [Go.Deep.add_add] at h3
    obtain ⟨news, hrow, hnews⟩ := row_read hops
    exact fin (configs_some a len k news W (by omega) hrow hnews)

theorem configs_holds : Rows.ConfigsSaid :=
  OpenClaim.holds_of_wide 3 Tryz.f3 rfl rfl rfl rfl rfl rfl rfl ⟨rfl, rfl, rfl, rfl, rfl⟩ rfl rfl rfl rfl rfl (by kernel_rfl) Tryz.func3 (by kernel_rfl)
    (of_decide_eq_true (by kernel_rfl)) (by unfold Func.isWrapper; first | (rw [if_pos (by decide +kernel)]; kernel_rfl) | (rw [if_neg (by decide +kernel)]; exact ⟨rfl, rfl⟩))
    (fun os started H enc _ => configs_lifted os started H enc)
end Go.Proofs.YthbbfjfekchdiaaGreat
