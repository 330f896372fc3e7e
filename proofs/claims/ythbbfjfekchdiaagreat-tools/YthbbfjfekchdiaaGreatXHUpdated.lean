import Derived.Test.YthbbfjfekchdiaaGreatXHKeepsP
import Derived.Laws.CopyRow
import Derived.Laws.OwnMore
import Derived.Laws.Cover3
import Derived.Lib.SlBuf
import Derived.Deep.QuietTactic
import Derived.BigQuiet
namespace Go.Proofs.YthbbfjfekchdiaaGreat
open Go.RowKit
set_option linter.unusedSimpArgs false
section
variable {P : Program}
theorem run_copy_rowK (w : World) (dT sT ty elem : TypeId) (i : TypeInfo) (hu : P.underlying dT = some (.slice elem)) (hi : P.info? elem = some i) (g dLen dCap : Nat) (a : Addr) (sLen sCap : Nat) (cur : Array Value) (t : TypeId) (cs : List Value) (n : Nat)
    (hmin : Nat.min sLen dLen = n) (hn : cs.length = n * i.size) (hg : w.heap[g]? = some (.cells cur t (0, 0))) (hsrc : ∀ j v, cs[j]? = some v → w.cell? (a.add j) = some v) (hfit : cs.length ≤ cur.size) (h1 : ∀ v ∈ cs, v.oneCell' = true) :
    (Builtin.copy_ #[dT, sT] ty #[.slice (some ⟨g, 0, none⟩) dLen dCap, .slice (some a) sLen sCap]).run P w = .ok (goInt n) (w.setRow g (cs ++ cur.toList.drop cs.length).toArray) := by
  have hl := run_loadCells_list (P := P) w a cs hsrc
  have hst := run_storeCells_at P g 0 t cs 0 cur w hg (by simpa using hfit) h1
  simp only [Nat.zero_add, List.take_zero, List.nil_append] at hst
  simp [Builtin.copy_, run_underlying hu, Builtin.lenOf, Builtin.firstCells, sizeOf, typeInfo, hi, hmin, ← hn, hl, hst]
end
theorem run_eql_slice_nil0 {P : Program} (w : World) (t e : TypeId) (a : Option Addr) (l c : Nat) (h : P.underlying t = some (.slice e)) : (binOp .eql t (.slice a l c) (.slice none 0 0)).run P w = .ok (.bool a.isNone) w := by
  simp [binOp, run_equal_slice_nil w t e a l c h]
theorem set_app {A Y : List Value} {m j : Nat} (hA : A.length = m) (u : Value) : (A ++ Y).set (m + j) u = A ++ Y.set j u := by
  rw [List.set_append_right _ _ (by omega), hA, Nat.add_sub_cancel_left]
def lentC (l : List Pt) : List Value := ptCells l ++ marks [i64 77, i64 0] 8
set_option maxRecDepth 4000 in
set_option maxHeartbeats 1000000 in
theorem lent_nil (c : Nat) (w : World) : Calls Tryz.prog 50 #[.slice none 0 c] w fun e w' => e = .returned (.slice none 0 0) ∧ Below w.heap.size w w' := by
  have hnil := fun (w : World) => run_eql_slice_nil0 (P := Tryz.prog) w 41 48 none 0 c Tryz.underlying41
  go_enter Tryz.func50, Tryz.ntmps50
  go_wp2
  go_ret
  exact ⟨rfl, Below.refl _ _⟩
set_option maxRecDepth 4000 in
set_option maxHeartbeats 4000000 in
theorem lent_some (ad : Addr) (n c : Nat) (l : List Pt) (w : World) (hn : n = l.length) (hl : ∀ j u, (ptCells l)[j]? = some u → w.cell? (ad.add j) = some u) (hlen : n ≤ 8796093022208) :
    Calls Tryz.prog 50 #[.slice (some ad) n c] w fun e w' => e = .returned (.slice (some ⟨w.heap.size, 0, none⟩) n (n + 8)) ∧ Below w.heap.size w w' ∧ w'.ownsRow w.heap.size 48 2 (.slice (some ⟨w.heap.size, 0, none⟩) (n + 8) (n + 8)) (n + 8) (lentC l) := by
  obtain ⟨q9, hi0, hz0, hz1, hz2⟩ := info_parts Tryz.infoPoint
  obtain ⟨w1, hr, ho, hg⟩ := run_make_full (P := Tryz.prog) w w.heap.size 41 48 q9 _ 2 Tryz.underlying41 hi0 hz0 hz1 .i64 .i64 (n + 8) (by rw [hz2]; omega) (by unfold maxLen; omega) (Nat.le_refl _)
  have hr' : (Instr.makeSlice 41 (.int .i64 ((n : Int) + 8)) (.int .i64 ((n : Int) + 8))).run Tryz.prog w = .ok (.slice (some ⟨w.heap.size, 0, none⟩) (n + 8) (n + 8)) w1 := hr
  obtain ⟨_, ⟨hbad, _⟩ | ⟨g, cap, cur, hv, _, hblk, _, hm, hs, _⟩⟩ := ho
  · cases hbad
  simp only [Value.slice.injEq, Option.some.injEq, Addr.mk.injEq, and_true, true_and] at hv
  obtain ⟨rfl, rfl⟩ := hv
  have hpl : (ptCells l).length = n * 2 := by rw [ptCells_length, hn]
  have hb1 : Below w.heap.size w w1 := ⟨hg.os, hg.tape, hg.output, hg.size, fun k hk => hg.block k hk (by simp)⟩
  have hcp := run_copy_rowK (P := Tryz.prog) w1 41 41 3 48 q9 Tryz.underlying41 hi0 w.heap.size (n + 8) (n + 8) ad n c cur 48 (ptCells l) n (by show min n (n + 8) = n; omega) (by rw [hpl, hz1]) hblk (fun j u hj => cell_later hb1 (hl j u hj)) (by rw [hpl, hs]; omega) (ptCells_one l)
  have HB1 := hid hb1
  have HBLK := hid hblk
  have HS := hid hs
  have HPL := hid hpl
  have HN := hid hn
  have hnil := fun (w : World) => run_eql_slice_nil0 (P := Tryz.prog) w 41 48 (some ad) n c Tryz.underlying41
  clear hl hr hg hblk hs hm hpl hb1 hi0 hz0 hz1 hz2 hn
  go_enter Tryz.func50, Tryz.ntmps50
  go_wp2
  obtain ⟨R, hR⟩ : ∃ R, R = cur.toList.drop (ptCells l).length := ⟨_, rfl⟩
  have HRL := hid (show R.length = 8 * 2 by rw [hR, List.length_drop, HPL.out, Array.length_toList, HS.out]; omega)
  have HST := hid (show (w1.setRow w.heap.size (ptCells l ++ List.drop (ptCells l).length cur.toList).toArray).ownsRow w.heap.size 48 2 (.slice (some ⟨w.heap.size, 0, none⟩) (n + 8) (n + 8)) (n + 8) (ptCells l ++ markTo [i64 77, i64 0] R 0) ∧ Below w.heap.size w (w1.setRow w.heap.size (ptCells l ++ List.drop (ptCells l).length cur.toList).toArray) by
    have hlen' : (ptCells l ++ R).length = (n + 8) * 2 := by rw [List.length_append, HPL.out, HRL.out]; omega
    rw [← hR, markTo_zero]
    refine ⟨⟨hlen', .inr ⟨w.heap.size, n + 8, (ptCells l ++ R).toArray, rfl, Nat.le_refl _, setRow_heap w1 w.heap.size cur _ 48 _ HBLK.out, Nat.le_refl _, by unfold maxLen; omega, by simpa using hlen', ?_⟩⟩, ?_⟩
    · exact List.take_of_length_le (Nat.le_of_eq hlen')
    · exact HB1.out.trans ⟨rfl, rfl, rfl, by simp [World.setRow], fun k hk => setRow_other w1 w.heap.size k _ (by omega)⟩)
  clear hr' hcp hnil
  go_loopw [5] (fun i' wr => ∃ k : Nat, k ≤ 8 ∧ i' = i64 ((n : Int) + k) ∧ wr.ownsRow w.heap.size 48 2 (.slice (some ⟨w.heap.size, 0, none⟩) (n + 8) (n + 8)) (n + 8) (ptCells l ++ markTo [i64 77, i64 0] R k) ∧ Below w.heap.size w wr) (fun i' _ => n + 8 - (intOf i').toNat)
  case atStart => exact ⟨0, by omega, by simp, HST.out.1, HST.out.2⟩
  case round =>
    obtain ⟨k, hk, rfl, ho, hb⟩ := hrel
    have HO := hid ho
    have HB := hid hb
    obtain ⟨g, cp, cu, hv, _, hblk, hc, ht⟩ : ∃ g cap cur, Value.slice (some ⟨w.heap.size, 0, none⟩) (n + 8) (n + 8) = .slice (some ⟨g, 0, none⟩) (n + 8) cap ∧ True ∧ wr.heap[g]? = some (.cells cur 48) ∧ cur.size = cap * 2 ∧ True := by
      obtain ⟨_, ⟨hbad, _⟩ | ⟨g, cap, cur, hv, _, hblk, _, hm, hs, _⟩⟩ := ho
      · cases hbad
      · exact ⟨g, cap, cur, hv, trivial, hblk, hs, trivial⟩
    simp only [Value.slice.injEq, Option.some.injEq, Addr.mk.injEq, and_true, true_and] at hv
    obtain ⟨rfl, rfl⟩ := hv
    have hzr : w.heap.size < wr.heap.size := blk_lt hblk
    by_cases hlt : k < 8
    · have s0 : ∃ x, wr.cell? ⟨w.heap.size, (n + k) * 2, none⟩ = some x := ⟨_, by rw [cell_of_blk hblk, Array.getElem?_eq_getElem (by omega)]⟩
      have s1 : ∃ x, wr.cell? ⟨w.heap.size, (n + k) * 2 + 1, none⟩ = some x := ⟨_, by rw [cell_of_blk hblk, Array.getElem?_eq_getElem (by omega)]⟩
      have f0 : wr.frozen? ⟨w.heap.size, (n + k) * 2, none⟩ = false := frozen_of_blk hblk _
      have f1 : wr.frozen? ⟨w.heap.size, (n + k) * 2 + 1, none⟩ = false := frozen_of_blk hblk _
      obtain ⟨x0, hx0⟩ := s0
      obtain ⟨x1, hx1⟩ := s1
      have i0 : (0 : Int) ≤ (n : Int) + k := by omega
      have i1 : (n : Int) + k < ((n + 8 : Nat) : Int) := by omega
      have i2 : ((n : Int) + k).toNat = n + k := by omega
      have HNX := hid (show ((wr.setCell ⟨w.heap.size, (n + k) * 2, none⟩ (i64 77)).setCell ⟨w.heap.size, (n + k) * 2 + 1, none⟩ (i64 0)).ownsRow w.heap.size 48 2 (.slice (some ⟨w.heap.size, 0, none⟩) (n + 8) (n + 8)) (n + 8) (ptCells l ++ markTo [i64 77, i64 0] R (k + 1)) ∧ Below w.heap.size w ((wr.setCell ⟨w.heap.size, (n + k) * 2, none⟩ (i64 77)).setCell ⟨w.heap.size, (n + k) * 2 + 1, none⟩ (i64 0)) by
        refine ⟨?_, Below.setCell (p := ⟨w.heap.size, (n + k) * 2 + 1, none⟩) (Below.setCell (p := ⟨w.heap.size, (n + k) * 2, none⟩) HB.out (Nat.le_refl _) _) (Nat.le_refl _) _⟩
        have h := owns_setCell (owns_setCell HO.out (g := w.heap.size) rfl ((n + k) * 2) (i64 77)) (g := w.heap.size) rfl ((n + k) * 2 + 1) (i64 0)
        rw [show (n + k) * 2 = n * 2 + k * 2 by omega, set_app HPL.out, show n * 2 + k * 2 + 1 = n * 2 + (k * 2 + 1) by omega, set_app HPL.out, markTo_two _ _ R HRL.out hlt] at h
        rw [show (n + k) * 2 = n * 2 + k * 2 by omega]
        exact h)
      clear ho hb hblk hc ht
      go_wp2
      exact ⟨⟨k + 1, by omega, by go_num, HNX.out⟩, by simp [intOf]; omega⟩
    · have ek : k = 8 := by omega
      subst ek
      rw [markTo_end [i64 77, i64 0] R HRL.out] at HO
      clear ho hb hblk hc ht hlt hk
      go_wp2
      go_ret
      exact ⟨rfl, HB.out, HO.out⟩
end Go.Proofs.YthbbfjfekchdiaaGreat
namespace Go.Proofs.YthbbfjfekchdiaaGreat
open Go.RowKit
set_option linter.unusedSimpArgs false
def lentAt (l : List Pt) (i : Nat) : Pt := (l[i]?).getD (77, 0)
theorem lentC_eq (l : List Pt) : lentC l = ptCells (l ++ List.replicate 8 (77, 0)) := by
  unfold lentC
  rw [ptCells_append]
  rfl
theorem lentC_length (l : List Pt) : (lentC l).length = (l.length + 8) * 2 := by rw [lentC_eq, ptCells_length, List.length_append, List.length_replicate]
theorem lentC_at (l : List Pt) {i : Nat} (h : i < l.length + 8) : (lentC l)[i * 2]? = some (i64 (lentAt l i).1) ∧ (lentC l)[i * 2 + 1]? = some (i64 (lentAt l i).2) := by
  rw [lentC_eq]
  refine ptCells_at _ i _ ?_
  unfold lentAt
  by_cases hi : i < l.length
  · rw [List.getElem?_append_left hi, List.getElem?_eq_getElem hi]; rfl
  · rw [List.getElem?_append_right (by omega), List.getElem?_replicate_of_lt (by omega), List.getElem?_eq_none (by omega)]; rfl
theorem markTo_at (mc xs : List Value) {i j : Nat} (h : i * mc.length ≤ j) : (markTo mc xs i)[j]? = xs[j]? := by
  unfold markTo
  rw [List.getElem?_append_right (by rw [marks_length]; exact h), marks_length, List.getElem?_drop]
  congr 1
  omega
set_option maxRecDepth 4000 in
set_option maxHeartbeats 1000000 in
theorem whole_nil (v : Value) (c : Nat) (w : World) : Calls Tryz.prog 53 #[v, .slice none 0 c] w fun e w' => e = .returned (.bool true) ∧ Below w.heap.size w w' := by
  have hnil := fun (w : World) => run_eql_slice_nil0 (P := Tryz.prog) w 41 48 none 0 c Tryz.underlying41
  go_enter Tryz.func53, Tryz.ntmps53
  go_wp2
  go_ret
  exact ⟨rfl, Below.refl _ _⟩
set_option maxRecDepth 4000 in
set_option maxHeartbeats 4000000 in
theorem whole_some (ad : Addr) (n c g base : Nat) (l : List Pt) (w : World) (hn : n = l.length) (hl : RowG w (.slice (some ad) n c) l) (hne : 0 < n → ad.block ≠ g) (hown : w.ownsRow base 48 2 (.slice (some ⟨g, 0, none⟩) (n + 8) (n + 8)) (n + 8) (lentC l)) (hlen : n ≤ 8796093022208) :
    Calls Tryz.prog 53 #[.slice (some ⟨g, 0, none⟩) n (n + 8), .slice (some ad) n c] w fun e w' => e = .returned (.bool true) ∧ Fr (fun k => k = g) w w' := by
  have hnil := fun (w : World) => run_eql_slice_nil0 (P := Tryz.prog) w 41 48 (some ad) n c Tryz.underlying41
  have HL := hid hl
  have HOWN := hid hown
  have HN := hid hn
  have HLL := hid (show (lentC l).length = (n + 8) * 2 by rw [lentC_length, hn])
  have hgw : g < w.heap.size := (hown.lt g rfl).2
  clear hl hown hn
  go_enter Tryz.func53, Tryz.ntmps53
  go_wp2
  clear hnil
  go_loopw [7, 8] (fun ok i' wr => ∃ i : Nat, i ≤ n + 8 ∧ i' = i64 i ∧ ok = .bool true ∧ wr.ownsRow base 48 2 (.slice (some ⟨g, 0, none⟩) (n + 8) (n + 8)) (n + 8) (markTo [i64 1, i64 1] (lentC l) i) ∧ Fr (fun k => k = g) w wr) (fun _ i' _ => n + 8 - (intOf i').toNat)
  case atStart => exact ⟨0, by omega, by simp, rfl, by rw [markTo_zero]; exact HOWN.out, Fr.refl _ _⟩
  case round =>
    obtain ⟨i, hi, rfl, rfl, ho, hf⟩ := hrel
    have HO := hid ho
    have HF := hid hf
    obtain ⟨g', cp, cu, hv, hblk, hc, ht⟩ : ∃ g' cap cur, Value.slice (some ⟨g, 0, none⟩) (n + 8) (n + 8) = .slice (some ⟨g', 0, none⟩) (n + 8) cap ∧ wr.heap[g']? = some (.cells cur 48) ∧ cur.size = cap * 2 ∧ cur.toList.take ((n + 8) * 2) = markTo [i64 1, i64 1] (lentC l) i := by
      obtain ⟨_, ⟨hbad, _⟩ | ⟨g, cap, cur, hv, _, hblk, _, hm, hs, ht⟩⟩ := ho
      · cases hbad
      · exact ⟨g, cap, cur, hv, hblk, hs, ht⟩
    simp only [Value.slice.injEq, Option.some.injEq, Addr.mk.injEq, and_true, true_and] at hv
    obtain ⟨rfl, rfl⟩ := hv
    have hzr : g < wr.heap.size := blk_lt hblk
    by_cases hlt : i < n + 8
    · have hat := lentC_at l (i := i) (by rw [← HN.out]; exact hlt)
      have rd : ∀ j, i * 2 ≤ j → j < (n + 8) * 2 → wr.cell? ⟨g, j, none⟩ = (lentC l)[j]? := fun j h1 h2 => by
        have e := List.getElem?_take_of_lt (l := cu.toList) h2
        rw [ht, markTo_at _ _ h1] at e
        rw [cell_of_blk hblk, e]; simp
      obtain ⟨qq, hqq⟩ : ∃ q, q = lentAt l i := ⟨_, rfl⟩
      rw [← hqq] at hat
      have x0 : wr.cell? ⟨g, i * 2, none⟩ = some (i64 qq.1) := (rd _ (by omega) (by omega)).trans hat.1
      have x1 : wr.cell? ⟨g, i * 2 + 1, none⟩ = some (i64 qq.2) := (rd _ (by omega) (by omega)).trans hat.2
      have f0 : wr.frozen? ⟨g, i * 2, none⟩ = false := frozen_of_blk hblk _
      have f1 : wr.frozen? ⟨g, i * 2 + 1, none⟩ = false := frozen_of_blk hblk _
      have i0 : (0 : Int) ≤ (i : Int) := by omega
      have i1 : (i : Int) < (n : Int) + 8 := by omega
      have HNX := hid (fun (O : Obj) (m : Nat) => show ((((wr.alloc O).drewN m).setCell ⟨g, i * 2, none⟩ (i64 1)).setCell ⟨g, i * 2 + 1, none⟩ (i64 1)).ownsRow base 48 2 (.slice (some ⟨g, 0, none⟩) (n + 8) (n + 8)) (n + 8) (markTo [i64 1, i64 1] (lentC l) (i + 1)) ∧ Fr (fun k => k = g) w ((((wr.alloc O).drewN m).setCell ⟨g, i * 2, none⟩ (i64 1)).setCell ⟨g, i * 2 + 1, none⟩ (i64 1)) by
        have h0 : ((wr.alloc O).drewN m).ownsRow base 48 2 (.slice (some ⟨g, 0, none⟩) (n + 8) (n + 8)) (n + 8) (markTo [i64 1, i64 1] (lentC l) i) := owns_far (HO.out.alloc O) fun b _ _ => by simp
        have h := owns_setCell (owns_setCell h0 (g := g) rfl (i * 2) (i64 1)) (g := g) rfl (i * 2 + 1) (i64 1)
        rw [markTo_two _ _ (lentC l) HLL.out hlt] at h
        exact ⟨h, (((HF.out.alloc O).drewN m).set (.inl rfl) _ _).set (.inl rfl) _ _⟩)
      by_cases hin : i < n
      · obtain ⟨q, hq⟩ : ∃ q, l[i]? = some q := ⟨_, List.getElem?_eq_getElem (by rw [← HN.out]; exact hin)⟩
        have eq : qq = q := by rw [hqq]; unfold lentAt; rw [hq]; rfl
        subst eq
        obtain ⟨a', c', hv', hrow⟩ := HL.out.fr (In := fun k => k = g) (fun a m c e hp => by cases e; exact hne hp) HF.out
        simp only [Value.slice.injEq] at hv'
        obtain ⟨rfl, hnn, rfl⟩ := hv'
        clear hnn
        obtain ⟨b, off, hab, c0, c1⟩ := hrow i qq hq
        simp only [Option.some.injEq] at hab
        subst hab
        have hbz : b < wr.heap.size := World.block_lt_of_cell? _ _ c0
        have hbg : b ≠ g := hne (by omega)
        have i2 : (i : Int) < (n : Int) := by omega
        clear ho hf hblk hc ht hat rd hq hrow hqq
        go_wp2_with fail
        go_quiet (fail)
        go_wp2
        go_roundw
        case rel => first | exact ⟨i + 1, by omega, by go_num, rfl, HNX.out _ _⟩ | ((repeat apply Exists.intro); exact ⟨⟨i + 1, by omega, by go_num, rfl, HNX.out _ _⟩, rfl⟩)
        case measure => simp [intOf]; omega
      · have eq : qq = (77, 0) := by rw [hqq]; unfold lentAt; rw [List.getElem?_eq_none (by rw [← HN.out]; omega)]; rfl
        subst eq
        clear ho hf hblk hc ht hat rd hqq
        go_wp2_with fail
        go_quiet (fail)
        go_wp2
        go_roundw
        case rel => first | exact ⟨i + 1, by omega, by go_num, rfl, HNX.out _ _⟩ | ((repeat apply Exists.intro); exact ⟨⟨i + 1, by omega, by go_num, rfl, HNX.out _ _⟩, rfl⟩)
        case measure => simp [intOf]; omega
    · clear ho hf hblk hc ht
      go_wp2
      go_ret
      exact ⟨rfl, HF.out⟩
end Go.Proofs.YthbbfjfekchdiaaGreat
namespace Go.Proofs.YthbbfjfekchdiaaGreat
open Go.RowKit
set_option linter.unusedSimpArgs false
theorem rowG_cells {w : World} {ad : Addr} {n c : Nat} {l : List Pt} (h : RowG w (.slice (some ad) n c) l) : n = l.length ∧ ∀ j u, (ptCells l)[j]? = some u → w.cell? (ad.add j) = some u := by
  obtain ⟨a, cap, hv, r⟩ := h
  simp only [Value.slice.injEq] at hv
  obtain ⟨rfl, hn, rfl⟩ := hv
  refine ⟨hn, fun j u hj => ?_⟩
  have hjl : j < l.length * 2 := by
    obtain ⟨x, _⟩ := List.getElem?_eq_some_iff.1 hj
    rw [ptCells_length] at x; exact x
  obtain ⟨q, hq⟩ : ∃ q, l[j / 2]? = some q := ⟨_, List.getElem?_eq_getElem (by omega)⟩
  obtain ⟨b, off, hab, c0, c1⟩ := r (j / 2) q hq
  simp only [Option.some.injEq] at hab
  subst hab
  obtain ⟨p0, p1⟩ := ptCells_at l (j / 2) q hq
  rw [addr_addN]
  rcases Nat.mod_two_eq_zero_or_one j with e | e
  · have ej : j = j / 2 * 2 := by omega
    rw [← ej, hj] at p0
    simp only [Option.some.injEq] at p0
    rw [p0, show off + j = off + j / 2 * 2 by omega]
    exact c0
  · have ej : j = j / 2 * 2 + 1 := by omega
    rw [← ej, hj] at p1
    simp only [Option.some.injEq] at p1
    rw [p1, show off + j = off + j / 2 * 2 + 1 by omega]
    exact c1
theorem rowG_of_owns {w : World} {base : Nat} {v : Value} {g n : Nat} {l : List Pt} {X : List Value} (h : w.ownsRow base 48 2 v n (ptCells l ++ X)) (hv : v.ownBlock = some g) (c' : Nat) : RowG w (.slice (some ⟨g, 0, none⟩) l.length c') l := by
  refine ⟨some ⟨g, 0, none⟩, c', rfl, fun j q hj => ⟨g, 0, rfl, ?_⟩⟩
  have hjl : j < l.length := by obtain ⟨x, _⟩ := List.getElem?_eq_some_iff.1 hj; exact x
  obtain ⟨p0, p1⟩ := ptCells_at l j q hj
  have r := World.ownsRow.cells h hv
  have hlen := ptCells_length l
  have q0 := r (j * 2) (i64 q.1) (by rw [List.getElem?_append_left (by omega)]; exact p0)
  have q1 := r (j * 2 + 1) (i64 q.2) (by rw [List.getElem?_append_left (by omega)]; exact p1)
  rw [addr_add0] at q0 q1
  exact ⟨by simpa using q0, by simpa using q1⟩
abbrev opV (kd oa ob od oe : Int) (c : Cfg) (la : Option Addr) (ln lc : Nat) (ss : ByteArray) : Value := .agg #[i64 kd, i64 oa, i64 ob, i64 od, i64 oe, i64 c.s0, i64 c.k0, i64 c.s1, i64 c.k1, i64 c.s2, i64 c.k2, i64 c.s3, i64 c.k3, i64 c.m, i64 c.f, .slice la ln lc, .string ss]
theorem Fr.cell {In : Nat → Prop} {w w' : World} (h : Fr In w w') {a : Addr} {v : Value} (hn : ¬ In a.block) (hc : w.cell? a = some v) : w'.cell? a = some v :=
  (World.cell?_of_block (h.block a.block (World.block_lt_of_cell? _ _ hc) hn)).trans hc
theorem both_upd {R : Rep} (H : ProgOk R) {w w1 w2 w3 w4 : World} {P Q In G : Nat → Prop} {pd pr : Nat} {d d' : RDb} (h : Two R w P Q pd pr d) (hi : ∀ k, P k ∨ Q k → In k) (z1 : w.heap.size ≤ w1.heap.size)
    (h2 : R w2 (Up P w1.heap.size) pd d') (f2 : Fr P w1 w2) (h3 : RRep w3 (Up Q w2.heap.size) pr d') (f3 : Fr Q w2 w3) (hok : d'.Ok) (f4 : Fr G w3 w4) (hG : ∀ k, G k → w.heap.size ≤ k ∧ k < w1.heap.size) (f01 : Below w.heap.size w w1) :
    Both R w4 (Up In w.heap.size) pd pr d' ∧ Fr In w w4 := by
  have z2 := f2.size
  have z3 := f3.size
  have z4 := f4.size
  have pg : ∀ k, Up P w1.heap.size k ∧ k < w2.heap.size → ¬ G k := by
    rintro k ⟨hk | hk, _⟩ hg
    · have := h.ltp k hk; have := hG k hg; omega
    · have := hG k hg; omega
  have qg : ∀ k, Up Q w2.heap.size k ∧ k < w3.heap.size → ¬ G k := by
    rintro k ⟨hk | hk, _⟩ hg
    · have := h.ltr k hk; have := hG k hg; omega
    · have := hG k hg; omega
  refine ⟨⟨fun k => Up P w1.heap.size k ∧ k < w2.heap.size, fun k => Up Q w2.heap.size k ∧ k < w3.heap.size, ⟨?_, ?_, hok, ?_, ?_, ?_⟩, ?_⟩, ?_⟩
  · refine H.fr (H.fr (H.lim h2) f3 ?_) f4 pg
    rintro k ⟨hk | hk, _⟩ hq
    · exact h.dis k hk hq
    · have := h.ltr k hq; omega
  · exact h3.lim.fr f4 qg
  · rintro k ⟨hk, hk2⟩ ⟨hq, _⟩
    rcases hq with hq | hq
    · rcases hk with hk | hk
      · exact h.dis k hk hq
      · have := h.ltr k hq; omega
    · omega
  · rintro k ⟨_, hk⟩; omega
  · rintro k ⟨_, hk⟩; omega
  · rintro k (⟨hk | hk, _⟩ | ⟨hk | hk, _⟩)
    · exact .inl (hi k (.inl hk))
    · exact .inr (by omega)
    · exact .inl (hi k (.inr hk))
    · exact .inr (by omega)
  · have g1 : Fr In w w1 := Fr.below f01
    have g2 : Fr In w w2 := g1.trans f2 fun k hk => .inl (hi k (.inl hk))
    have g3 : Fr In w w3 := g2.trans f3 fun k hk => .inl (hi k (.inr hk))
    exact g3.trans f4 fun k hk => .inr (hG k hk).1
set_option maxRecDepth 4000 in
set_option maxHeartbeats 4000000 in
theorem updated_any {R : Rep} (H : ProgOk R) (kd oa ob od oe : Int) (c : Cfg) (la : Option Addr) (ln lc : Nat) (ss : ByteArray) (l : List Pt) (pd pr : Nat) (d : RDb) (In : Nat → Prop) (w : World) (hb : Both R w In pd pr d) (hl : RowG w (.slice la ln lc) l) (hnil : la = none → ln = 0 ∧ lc = 0) (ho : OutOf In (.slice la ln lc)) (hlt : OutOf (fun k => w.heap.size ≤ k) (.slice la ln lc)) (hlen : ln ≤ 8796093022208) :
    Calls Tryz.prog 29 #[.agg #[.pointer (some ⟨pd, 0, none⟩), .pointer (some ⟨pr, 0, none⟩)], opV kd oa ob od oe c la ln lc ss] w fun e w' => e = .returned (.bool true) ∧ Both R w' (Up In w.heap.size) pd pr (updR d ob l) ∧ Fr In w w' := by
  obtain ⟨P, Q, h, hi⟩ := hb
  have HT := hid h
  have HI := hid hi
  have HL := hid hl
  have HO := hid ho
  have HLT := hid hlt
  clear h hi hl ho hlt
  cases la with
  | none =>
    obtain ⟨rfl, rfl⟩ := hnil rfl
    have hl0 : l = [] := by
      obtain ⟨a, cap, hv, _⟩ := HL.out
      simp only [Value.slice.injEq] at hv
      exact List.length_eq_zero_iff.1 hv.2.1.symm
    subst hl0
    go_enter Tryz.func29, Tryz.ntmps29
    go_wp2_with fail
    refine (lent_nil 0 _).mono ?_
    rintro e w1 ⟨rfl, hb1⟩
    have m0 : w1.cell? ⟨w.heap.size, 0, none⟩ = some (.pointer (some ⟨pd, 0, none⟩)) := cell_later hb1 (by simp)
    have m1 : w1.cell? ⟨w.heap.size, 1, none⟩ = some (.pointer (some ⟨pr, 0, none⟩)) := cell_later hb1 (by simp)
    have n2 : w1.cell? ⟨w.heap.size + 1, 2, none⟩ = some (i64 ob) := cell_later hb1 (by simp)
    have n15 : w1.cell? ⟨w.heap.size + 1, 15, none⟩ = some (.slice none 0 0) := cell_later hb1 (by simp)
    have z1 : w.heap.size + 2 ≤ w1.heap.size := by have := hb1.size; simp at this; omega
    have hbw : Below w.heap.size w w1 := ((((Below.refl _ w).alloc (Nat.le_refl _) _).alloc (by simp) _)).trans (hb1.mono (by simp; omega))
    have HBW := hid hbw
    have hz1 : w.heap.size < w1.heap.size := by omega
    have hz2 : w.heap.size + 1 < w1.heap.size := by omega
    have HX := hid (show RowG w1 (.slice none 0 0) [] ∧ OutOf P (.slice none 0 0) from ⟨⟨none, 0, rfl, fun j q hj => by simp at hj⟩, fun a n c e hn => by cases e⟩)
    have HL1 := hid HX.out.1
    have HLN := hid (show ([] : List Pt).length ≤ 8796093022208 by simp)
    clear hb1 hbw
    go_wp2_with fail
    refine (H.update pd ob (.slice none 0 0) [] d P w1 (H.fr HT.out.p (Fr.below (In := fun _ => False) HBW.out) (fun _ _ x => x)) HT.out.ok HX.out.1 HX.out.2 (by have := HLN.out; omega)).mono ?_
    rintro e w2 ⟨rfl, h2, f2⟩
    have H2 := hid h2
    have F2 := hid f2
    have np : ∀ k, w.heap.size ≤ k → ¬ P k := fun k hk hp => by have := HT.out.ltp k hp; omega
    have nq : ∀ k, w.heap.size ≤ k → ¬ Q k := fun k hk hp => by have := HT.out.ltr k hp; omega
    have a1 : w2.cell? ⟨w.heap.size, 1, none⟩ = some (.pointer (some ⟨pr, 0, none⟩)) := f2.cell (np _ (Nat.le_refl _)) m1
    have c2 : w2.cell? ⟨w.heap.size + 1, 2, none⟩ = some (i64 ob) := f2.cell (np _ (by simp)) n2
    have c15 : w2.cell? ⟨w.heap.size + 1, 15, none⟩ = some (.slice none 0 0) := f2.cell (np _ (by simp)) n15
    have NQ := hid nq
    have NP := hid np
    have y2 := f2.size
    have hz3 : w.heap.size < w2.heap.size := by omega
    have hz4 : w.heap.size + 1 < w2.heap.size := by omega
    have HL2 := hid (HL1.out.fr (In := P) (fun a n c e hn hp => HO.out a n c e hn (HI.out a.block (.inl hp))) f2)
    clear h2 f2 m0 m1 n2 n15 np nq
    go_wp2_with fail
    refine (update_ref pr ob (.slice none 0 0) [] d Q w2 ((HT.out.r.fr (Fr.below (In := fun _ => False) HBW.out) (fun _ _ x => x)).fr F2.out (fun k hq hp => HT.out.dis k hp hq)) HT.out.ok HL2.out (fun a n c e hn hq => HO.out a n c e hn (HI.out a.block (.inr hq))) (by have := HLN.out; omega)).mono ?_
    rintro e w3 ⟨rfl, h3, hok3, hc3, f3⟩
    have H3 := hid h3
    have F3 := hid f3
    have HOK3 := hid hok3
    have HL3 := hid (HL2.out.fr (In := Q) (fun a n c e hn hq => HO.out a n c e hn (HI.out a.block (.inr hq))) f3)
    have d15 : w3.cell? ⟨w.heap.size + 1, 15, none⟩ = some (.slice none 0 0) := f3.cell (NQ.out _ (by simp)) c15
    have y3 := f3.size
    have hz5 : w.heap.size + 1 < w3.heap.size := by omega
    clear h3 f3 hok3 hc3 a1 c2 c15
    go_wp2_with fail
    refine (whole_nil _ 0 _).mono ?_
    rintro e w4 ⟨rfl, hb4⟩
    have f4 : Fr (fun _ => False) w3 w4 := Fr.below hb4
    have hG : ∀ k, (fun _ : Nat => False) k → w.heap.size ≤ k ∧ k < w1.heap.size := fun k hk => hk.elim
    clear hb4
    have HE := hid (both_upd H HT.out HI.out (by omega) H2.out F2.out H3.out F3.out HOK3.out f4 hG HBW.out)
    clear f4 hG
    obtain ⟨e1, he1⟩ : ∃ e, e = (updErr d.c ob []).1 := ⟨_, rfl⟩
    obtain ⟨e2, he2⟩ : ∃ e : Int, e = ((updErr d.c ob []).2 : Int) := ⟨_, rfl⟩
    rw [← he1, ← he2]
    clear he1 he2
    go_wp2
    go_ret
    exact ⟨by simp, HE.out⟩
  | some ad =>
    have HLL := hid (rowG_cells HL.out).1
    have HCC := hid (rowG_cells HL.out).2
    clear hnil
    go_enter Tryz.func29, Tryz.ntmps29
    go_wp2_with fail
    refine (lent_some ad ln lc l _ HLL.out (fun j u hj => cell_later (((Below.refl _ w).alloc (Nat.le_refl _) _).alloc (by simp) _) (HCC.out j u hj)) hlen).mono ?_
    rintro e w1 ⟨rfl, hb1, own⟩
    have OWN := hid (show w1.ownsRow (w.heap.size + 2) 48 2 (.slice (some ⟨w.heap.size + 2, 0, none⟩) (ln + 8) (ln + 8)) (ln + 8) (lentC l) by
      have e : ((w.alloc (.cells #[.pointer (some ⟨pd, 0, none⟩), .pointer (some ⟨pr, 0, none⟩)] 53)).alloc (.cells #[i64 kd, i64 oa, i64 ob, i64 od, i64 oe, i64 c.s0, i64 c.k0, i64 c.s1, i64 c.k1, i64 c.s2, i64 c.k2, i64 c.s3, i64 c.k3, i64 c.m, i64 c.f, .slice (some ad) ln lc, .string ss] 43)).heap.size = w.heap.size + 2 := by simp
      rw [e] at own
      exact own)
    clear own
    have m0 : w1.cell? ⟨w.heap.size, 0, none⟩ = some (.pointer (some ⟨pd, 0, none⟩)) := cell_later hb1 (by simp)
    have m1 : w1.cell? ⟨w.heap.size, 1, none⟩ = some (.pointer (some ⟨pr, 0, none⟩)) := cell_later hb1 (by simp)
    have n2 : w1.cell? ⟨w.heap.size + 1, 2, none⟩ = some (i64 ob) := cell_later hb1 (by simp)
    have n15 : w1.cell? ⟨w.heap.size + 1, 15, none⟩ = some (.slice (some ad) ln lc) := cell_later hb1 (by simp)
    have z1 : w.heap.size + 2 ≤ w1.heap.size := by have := hb1.size; simp at this; omega
    have hbw : Below w.heap.size w w1 := ((((Below.refl _ w).alloc (Nat.le_refl _) _).alloc (by simp) _)).trans (hb1.mono (by simp; omega))
    have HBW := hid hbw
    have hz1 : w.heap.size < w1.heap.size := by omega
    have hz2 : w.heap.size + 1 < w1.heap.size := by omega
    have HX := hid (show RowG w1 (.slice (some ⟨w.heap.size + 2, 0, none⟩) ln (ln + 8)) l ∧ OutOf P (.slice (some ⟨w.heap.size + 2, 0, none⟩) ln (ln + 8)) from ⟨by rw [HLL.out]; exact rowG_of_owns OWN.out rfl _, fun a n c e hn hp => by cases e; have := HT.out.ltp _ hp; simp only at this; omega⟩)
    have HL1 := hid (show RowG w1 (.slice (some ad) ln lc) l from HL.out.fr (In := fun _ => False) (fun _ _ _ _ _ x => x) (Fr.below hbw))
    have HLN := hid (show l.length ≤ 8796093022208 by rw [← HLL.out]; exact hlen)
    have hgz := (OWN.out.lt _ rfl).2
    clear hb1 hbw
    go_wp2_with fail
    refine (H.update pd ob (.slice (some ⟨w.heap.size + 2, 0, none⟩) ln (ln + 8)) l d P w1 (H.fr HT.out.p (Fr.below (In := fun _ => False) HBW.out) (fun _ _ x => x)) HT.out.ok HX.out.1 HX.out.2 (by have := HLN.out; omega)).mono ?_
    rintro e w2 ⟨rfl, h2, f2⟩
    have H2 := hid h2
    have F2 := hid f2
    have np : ∀ k, w.heap.size ≤ k → ¬ P k := fun k hk hp => by have := HT.out.ltp k hp; omega
    have nq : ∀ k, w.heap.size ≤ k → ¬ Q k := fun k hk hp => by have := HT.out.ltr k hp; omega
    have a1 : w2.cell? ⟨w.heap.size, 1, none⟩ = some (.pointer (some ⟨pr, 0, none⟩)) := f2.cell (np _ (Nat.le_refl _)) m1
    have c2 : w2.cell? ⟨w.heap.size + 1, 2, none⟩ = some (i64 ob) := f2.cell (np _ (by simp)) n2
    have c15 : w2.cell? ⟨w.heap.size + 1, 15, none⟩ = some (.slice (some ad) ln lc) := f2.cell (np _ (by simp)) n15
    have NQ := hid nq
    have NP := hid np
    have y2 := f2.size
    have hz3 : w.heap.size < w2.heap.size := by omega
    have hz4 : w.heap.size + 1 < w2.heap.size := by omega
    have HL2 := hid (HL1.out.fr (In := P) (fun a n c e hn hp => HO.out a n c e hn (HI.out a.block (.inl hp))) f2)
    clear h2 f2 m0 m1 n2 n15 np nq
    go_wp2_with fail
    refine (update_ref pr ob (.slice (some ad) ln lc) l d Q w2 ((HT.out.r.fr (Fr.below (In := fun _ => False) HBW.out) (fun _ _ x => x)).fr F2.out (fun k hq hp => HT.out.dis k hp hq)) HT.out.ok HL2.out (fun a n c e hn hq => HO.out a n c e hn (HI.out a.block (.inr hq))) (by have := HLN.out; omega)).mono ?_
    rintro e w3 ⟨rfl, h3, hok3, hc3, f3⟩
    have H3 := hid h3
    have F3 := hid f3
    have HOK3 := hid hok3
    have HL3 := hid (HL2.out.fr (In := Q) (fun a n c e hn hq => HO.out a n c e hn (HI.out a.block (.inr hq))) f3)
    have d15 : w3.cell? ⟨w.heap.size + 1, 15, none⟩ = some (.slice (some ad) ln lc) := f3.cell (NQ.out _ (by simp)) c15
    have y3 := f3.size
    have hz5 : w.heap.size + 1 < w3.heap.size := by omega
    clear h3 f3 hok3 hc3 a1 c2 c15
    go_wp2_with fail
    have OWN3 := hid (owns_far (owns_far OWN.out (fun b hb hlt => F2.out.block b hlt (NP.out b (by simp only [Value.ownBlock, Option.some.injEq] at hb; omega)))) (fun b hb hlt => F3.out.block b hlt (NQ.out b (by simp only [Value.ownBlock, Option.some.injEq] at hb; omega))))
    refine (whole_some ad ln lc (w.heap.size + 2) _ l w3 HLL.out HL3.out (fun hn => by have := HLT.out ad ln lc rfl hn; omega) OWN3.out hlen).mono ?_
    rintro e w4 ⟨rfl, f4⟩
    have hG : ∀ k, (fun k : Nat => k = w.heap.size + 2) k → w.heap.size ≤ k ∧ k < w1.heap.size := fun k hk => by have : k = w.heap.size + 2 := hk; omega
    have HE := hid (both_upd H HT.out HI.out (by omega) H2.out F2.out H3.out F3.out HOK3.out f4 hG HBW.out)
    clear f4 hG
    obtain ⟨e1, he1⟩ : ∃ e, e = (updErr d.c ob l).1 := ⟨_, rfl⟩
    obtain ⟨e2, he2⟩ : ∃ e : Int, e = ((updErr d.c ob l).2 : Int) := ⟨_, rfl⟩
    rw [← he1, ← he2]
    clear he1 he2
    go_wp2
    go_ret
    exact ⟨by simp, HE.out⟩
end Go.Proofs.YthbbfjfekchdiaaGreat
