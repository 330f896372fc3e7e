import Derived.Test.YthbbfjfekchdiaaGreatXHKeepsP
import Derived.Laws.CopyRow
import Derived.Laws.OwnMore
import Derived.Laws.Cover3
import Derived.Lib.SlBuf
namespace Go.Proofs.YthbbfjfekchdiaaGreat
open Go.RowKit
set_option linter.unusedSimpArgs false

section
variable {P : Program}
theorem run_copy_rowK (w : World) (dT sT ty elem : TypeId) (i : TypeInfo) (hu : P.underlying dT = some (.slice elem)) (hi : P.info? elem = some i) (g dLen dCap : Nat) (a : Addr) (sLen sCap : Nat) (cur : Array Value) (t : TypeId) (cs : List Value) (n : Nat)
    (hmin : Nat.min sLen dLen = n) (hn : cs.length = n * i.size) (hg : w.heap[g]? = some (.cells cur t (0, 0))) (hsrc : ∀ j v, cs[j]? = some v → w.cell? (a.add j) = some v) (hfit : cs.length ≤ cur.size) (h1 : ∀ v ∈ cs, v.oneCell' = true) :
    (Builtin.copy_ #[dT, sT] ty #[.slice (some ⟨g, 0, none⟩) dLen dCap, .slice (some a) sLen sCap]).run P w = .ok (goInt n) (w.setRow g (cs ++ cur.toList.drop cs.length).toArray) := by
  have hl := run_loadCells_list (P := P) w a cs hsrc
  have hst := run_storeCells_at P g 0 t cs 0 cur w hg (by simpa using hfit) h1
  simp only [Nat.zero_add, List.take_zero, List.nil_append] at hst
  simp [Builtin.copy_, run_underlying hu, Builtin.lenOf, Builtin.firstCells, sizeOf, typeInfo, hi, hmin, ← hn, hl, hst]
end

theorem run_eql_slice_nil0 {P : Program} (w : World) (t e : TypeId) (a : Option Addr) (l c : Nat) (h : P.underlying t = some (.slice e)) : (binOp .eql t (.slice a l c) (.slice none 0 0)).run P w = .ok (.bool a.isNone) w := by
  simp [binOp, run_equal_slice_nil w t e a l c h]

theorem set_app {A Y : List Value} {m j : Nat} (hA : A.length = m) (u : Value) : (A ++ Y).set (m + j) u = A ++ Y.set j u := by
  rw [List.set_append_right _ _ (by omega), hA, Nat.add_sub_cancel_left]
/-- what lies behind a list that is lent -/
def lentC (l : List Pt) : List Value := ptCells l ++ marks [i64 77, i64 0] 8

set_option maxRecDepth 4000 in
set_option maxHeartbeats 1000000 in
theorem lent_nil (c : Nat) (w : World) : Calls Tryz.prog 50 #[.slice none 0 c] w fun e w' => e = .returned (.slice none 0 0) ∧ Below w.heap.size w w' := by
  have hnil := fun (w : World) => run_eql_slice_nil0 (P := Tryz.prog) w 41 48 none 0 c Tryz.underlying41
  go_enter Tryz.func50, Tryz.ntmps50
  go_wp2
  go_ret
  exact ⟨rfl, Below.refl _ _⟩

set_option maxRecDepth 4000 in
set_option maxHeartbeats 4000000 in
theorem lent_some (ad : Addr) (n c : Nat) (l : List Pt) (w : World) (hn : n = l.length) (hl : ∀ j u, (ptCells l)[j]? = some u → w.cell? (ad.add j) = some u) (hlen : n ≤ 8796093022208) :
    Calls Tryz.prog 50 #[.slice (some ad) n c] w fun e w' => e = .returned (.slice (some ⟨w.heap.size, 0, none⟩) n (n + 8)) ∧ Below w.heap.size w w' ∧ w'.ownsRow w.heap.size 48 2 (.slice (some ⟨w.heap.size, 0, none⟩) (n + 8) (n + 8)) (n + 8) (lentC l) := by
  obtain ⟨q9, hi0, hz0, hz1, hz2⟩ := info_parts Tryz.infoPoint
  obtain ⟨w1, hr, ho, hg⟩ := run_make_full (P := Tryz.prog) w w.heap.size 41 48 q9 _ 2 Tryz.underlying41 hi0 hz0 hz1 .i64 .i64 (n + 8) (by rw [hz2]; omega) (by unfold maxLen; omega) (Nat.le_refl _)
  have hr' : (Instr.makeSlice 41 (.int .i64 ((n : Int) + 8)) (.int .i64 ((n : Int) + 8))).run Tryz.prog w = .ok (.slice (some ⟨w.heap.size, 0, none⟩) (n + 8) (n + 8)) w1 := hr
  obtain ⟨_, ⟨hbad, _⟩ | ⟨g, cap, cur, hv, _, hblk, _, hm, hs, _⟩⟩ := ho
  · cases hbad
  simp only [Value.slice.injEq, Option.some.injEq, Addr.mk.injEq, and_true, true_and] at hv
  obtain ⟨rfl, rfl⟩ := hv
  have hpl : (ptCells l).length = n * 2 := by rw [ptCells_length, hn]
  have hb1 : Below w.heap.size w w1 := ⟨hg.os, hg.tape, hg.output, hg.size, fun k hk => hg.block k hk (by simp)⟩
  have hcp := run_copy_rowK (P := Tryz.prog) w1 41 41 3 48 q9 Tryz.underlying41 hi0 w.heap.size (n + 8) (n + 8) ad n c cur 48 (ptCells l) n (by show min n (n + 8) = n; omega) (by rw [hpl, hz1]) hblk (fun j u hj => cell_later hb1 (hl j u hj)) (by rw [hpl, hs]; omega) (ptCells_one l)
  have HB1 := hid hb1
  have HBLK := hid hblk
  have HS := hid hs
  have HPL := hid hpl
  have HN := hid hn
  have hnil := fun (w : World) => run_eql_slice_nil0 (P := Tryz.prog) w 41 48 (some ad) n c Tryz.underlying41
  clear hl hr hg hblk hs hm hpl hb1 hi0 hz0 hz1 hz2 hn
  go_enter Tryz.func50, Tryz.ntmps50
  go_wp2
  obtain ⟨R, hR⟩ : ∃ R, R = cur.toList.drop (ptCells l).length := ⟨_, rfl⟩
  have HRL := hid (show R.length = 8 * 2 by rw [hR, List.length_drop, HPL.out, Array.length_toList, HS.out]; omega)
  have HST := hid (show (w1.setRow w.heap.size (ptCells l ++ List.drop (ptCells l).length cur.toList).toArray).ownsRow w.heap.size 48 2 (.slice (some ⟨w.heap.size, 0, none⟩) (n + 8) (n + 8)) (n + 8) (ptCells l ++ markTo [i64 77, i64 0] R 0) ∧ Below w.heap.size w (w1.setRow w.heap.size (ptCells l ++ List.drop (ptCells l).length cur.toList).toArray) by
    have hlen' : (ptCells l ++ R).length = (n + 8) * 2 := by rw [List.length_append, HPL.out, HRL.out]; omega
    rw [← hR, markTo_zero]
    refine ⟨⟨hlen', .inr ⟨w.heap.size, n + 8, (ptCells l ++ R).toArray, rfl, Nat.le_refl _, setRow_heap w1 w.heap.size cur _ 48 _ HBLK.out, Nat.le_refl _, by unfold maxLen; omega, by simpa using hlen', ?_⟩⟩, ?_⟩
    · exact List.take_of_length_le (Nat.le_of_eq hlen')
    · exact HB1.out.trans ⟨rfl, rfl, rfl, by simp [World.setRow], fun k hk => setRow_other w1 w.heap.size k _ (by omega)⟩)
  clear hr' hcp hnil
  go_loopw [5] (fun i' wr => ∃ k : Nat, k ≤ 8 ∧ i' = i64 ((n : Int) + k) ∧ wr.ownsRow w.heap.size 48 2 (.slice (some ⟨w.heap.size, 0, none⟩) (n + 8) (n + 8)) (n + 8) (ptCells l ++ markTo [i64 77, i64 0] R k) ∧ Below w.heap.size w wr) (fun i' _ => n + 8 - (intOf i').toNat)
  case atStart => exact ⟨0, by omega, by simp, HST.out.1, HST.out.2⟩
  case round =>
    obtain ⟨k, hk, rfl, ho, hb⟩ := hrel
    have HO := hid ho
    have HB := hid hb
    obtain ⟨g, cp, cu, hv, _, hblk, hc, ht⟩ : ∃ g cap cur, Value.slice (some ⟨w.heap.size, 0, none⟩) (n + 8) (n + 8) = .slice (some ⟨g, 0, none⟩) (n + 8) cap ∧ True ∧ wr.heap[g]? = some (.cells cur 48) ∧ cur.size = cap * 2 ∧ True := by
      obtain ⟨_, ⟨hbad, _⟩ | ⟨g, cap, cur, hv, _, hblk, _, hm, hs, _⟩⟩ := ho
      · cases hbad
      · exact ⟨g, cap, cur, hv, trivial, hblk, hs, trivial⟩
    simp only [Value.slice.injEq, Option.some.injEq, Addr.mk.injEq, and_true, true_and] at hv
    obtain ⟨rfl, rfl⟩ := hv
    have hzr : w.heap.size < wr.heap.size := blk_lt hblk
    by_cases hlt : k < 8
    · have s0 : ∃ x, wr.cell? ⟨w.heap.size, (n + k) * 2, none⟩ = some x := ⟨_, by rw [cell_of_blk hblk, Array.getElem?_eq_getElem (by omega)]⟩
      have s1 : ∃ x, wr.cell? ⟨w.heap.size, (n + k) * 2 + 1, none⟩ = some x := ⟨_, by rw [cell_of_blk hblk, Array.getElem?_eq_getElem (by omega)]⟩
      have f0 : wr.frozen? ⟨w.heap.size, (n + k) * 2, none⟩ = false := frozen_of_blk hblk _
      have f1 : wr.frozen? ⟨w.heap.size, (n + k) * 2 + 1, none⟩ = false := frozen_of_blk hblk _
      obtain ⟨x0, hx0⟩ := s0
      obtain ⟨x1, hx1⟩ := s1
      have i0 : (0 : Int) ≤ (n : Int) + k := by omega
      have i1 : (n : Int) + k < ((n + 8 : Nat) : Int) := by omega
      have i2 : ((n : Int) + k).toNat = n + k := by omega
      have HNX := hid (show ((wr.setCell ⟨w.heap.size, (n + k) * 2, none⟩ (i64 77)).setCell ⟨w.heap.size, (n + k) * 2 + 1, none⟩ (i64 0)).ownsRow w.heap.size 48 2 (.slice (some ⟨w.heap.size, 0, none⟩) (n + 8) (n + 8)) (n + 8) (ptCells l ++ markTo [i64 77, i64 0] R (k + 1)) ∧ Below w.heap.size w ((wr.setCell ⟨w.heap.size, (n + k) * 2, none⟩ (i64 77)).setCell ⟨w.heap.size, (n + k) * 2 + 1, none⟩ (i64 0)) by
        refine ⟨?_, Below.setCell (p := ⟨w.heap.size, (n + k) * 2 + 1, none⟩) (Below.setCell (p := ⟨w.heap.size, (n + k) * 2, none⟩) HB.out (Nat.le_refl _) _) (Nat.le_refl _) _⟩
        have h := owns_setCell (owns_setCell HO.out (g := w.heap.size) rfl ((n + k) * 2) (i64 77)) (g := w.heap.size) rfl ((n + k) * 2 + 1) (i64 0)
        rw [show (n + k) * 2 = n * 2 + k * 2 by omega, set_app HPL.out, show n * 2 + k * 2 + 1 = n * 2 + (k * 2 + 1) by omega, set_app HPL.out, markTo_two _ _ R HRL.out hlt] at h
        rw [show (n + k) * 2 = n * 2 + k * 2 by omega]
        exact h)
      clear ho hb hblk hc ht
      go_wp2
      exact ⟨⟨k + 1, by omega, by go_num, HNX.out⟩, by simp [intOf]; omega⟩
    · have ek : k = 8 := by omega
      subst ek
      rw [markTo_end [i64 77, i64 0] R HRL.out] at HO
      clear ho hb hblk hc ht hlt hk
      go_wp2
      go_ret
      exact ⟨rfl, HB.out, HO.out⟩
end Go.Proofs.YthbbfjfekchdiaaGreat
