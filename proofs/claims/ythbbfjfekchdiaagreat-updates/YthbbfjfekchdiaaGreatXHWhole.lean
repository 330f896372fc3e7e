import Derived.Test.YthbbfjfekchdiaaGreatXHLent
import Derived.Deep.QuietTactic
import Derived.BigQuiet
namespace Go.Proofs.YthbbfjfekchdiaaGreat
open Go.RowKit
set_option linter.unusedSimpArgs false

/-- the i-th point of a list that was lent, or what lies behind it -/
def lentAt (l : List Pt) (i : Nat) : Pt := (l[i]?).getD (77, 0)
theorem lentC_eq (l : List Pt) : lentC l = ptCells (l ++ List.replicate 8 (77, 0)) := by
  unfold lentC
  rw [ptCells_append]
  rfl
theorem lentC_length (l : List Pt) : (lentC l).length = (l.length + 8) * 2 := by rw [lentC_eq, ptCells_length, List.length_append, List.length_replicate]
theorem lentC_at (l : List Pt) {i : Nat} (h : i < l.length + 8) : (lentC l)[i * 2]? = some (i64 (lentAt l i).1) ∧ (lentC l)[i * 2 + 1]? = some (i64 (lentAt l i).2) := by
  rw [lentC_eq]
  refine ptCells_at _ i _ ?_
  unfold lentAt
  by_cases hi : i < l.length
  · rw [List.getElem?_append_left hi, List.getElem?_eq_getElem hi]; rfl
  · rw [List.getElem?_append_right (by omega), List.getElem?_replicate_of_lt (by omega), List.getElem?_eq_none (by omega)]; rfl
theorem markTo_at (mc xs : List Value) {i j : Nat} (h : i * mc.length ≤ j) : (markTo mc xs i)[j]? = xs[j]? := by
  unfold markTo
  rw [List.getElem?_append_right (by rw [marks_length]; exact h), marks_length, List.getElem?_drop]
  congr 1
  omega

set_option maxRecDepth 4000 in
set_option maxHeartbeats 1000000 in
theorem whole_nil (v : Value) (c : Nat) (w : World) : Calls Tryz.prog 53 #[v, .slice none 0 c] w fun e w' => e = .returned (.bool true) ∧ Below w.heap.size w w' := by
  have hnil := fun (w : World) => run_eql_slice_nil0 (P := Tryz.prog) w 41 48 none 0 c Tryz.underlying41
  go_enter Tryz.func53, Tryz.ntmps53
  go_wp2
  go_ret
  exact ⟨rfl, Below.refl _ _⟩

set_option maxRecDepth 4000 in
set_option maxHeartbeats 4000000 in
theorem whole_some (ad : Addr) (n c g base : Nat) (l : List Pt) (w : World) (hn : n = l.length) (hl : RowG w (.slice (some ad) n c) l) (hne : 0 < n → ad.block ≠ g) (hown : w.ownsRow base 48 2 (.slice (some ⟨g, 0, none⟩) (n + 8) (n + 8)) (n + 8) (lentC l)) (hlen : n ≤ 8796093022208) :
    Calls Tryz.prog 53 #[.slice (some ⟨g, 0, none⟩) n (n + 8), .slice (some ad) n c] w fun e w' => e = .returned (.bool true) ∧ Fr (fun k => k = g) w w' := by
  have hnil := fun (w : World) => run_eql_slice_nil0 (P := Tryz.prog) w 41 48 (some ad) n c Tryz.underlying41
  have HL := hid hl
  have HOWN := hid hown
  have HN := hid hn
  have HLL := hid (show (lentC l).length = (n + 8) * 2 by rw [lentC_length, hn])
  have hgw : g < w.heap.size := (hown.lt g rfl).2
  clear hl hown hn
  go_enter Tryz.func53, Tryz.ntmps53
  go_wp2
  clear hnil
  go_loopw [7, 8] (fun ok i' wr => ∃ i : Nat, i ≤ n + 8 ∧ i' = i64 i ∧ ok = .bool true ∧ wr.ownsRow base 48 2 (.slice (some ⟨g, 0, none⟩) (n + 8) (n + 8)) (n + 8) (markTo [i64 1, i64 1] (lentC l) i) ∧ Fr (fun k => k = g) w wr) (fun _ i' _ => n + 8 - (intOf i').toNat)
  case atStart => exact ⟨0, by omega, by simp, rfl, by rw [markTo_zero]; exact HOWN.out, Fr.refl _ _⟩
  case round =>
    obtain ⟨i, hi, rfl, rfl, ho, hf⟩ := hrel
    have HO := hid ho
    have HF := hid hf
    obtain ⟨g', cp, cu, hv, hblk, hc, ht⟩ : ∃ g' cap cur, Value.slice (some ⟨g, 0, none⟩) (n + 8) (n + 8) = .slice (some ⟨g', 0, none⟩) (n + 8) cap ∧ wr.heap[g']? = some (.cells cur 48) ∧ cur.size = cap * 2 ∧ cur.toList.take ((n + 8) * 2) = markTo [i64 1, i64 1] (lentC l) i := by
      obtain ⟨_, ⟨hbad, _⟩ | ⟨g, cap, cur, hv, _, hblk, _, hm, hs, ht⟩⟩ := ho
      · cases hbad
      · exact ⟨g, cap, cur, hv, hblk, hs, ht⟩
    simp only [Value.slice.injEq, Option.some.injEq, Addr.mk.injEq, and_true, true_and] at hv
    obtain ⟨rfl, rfl⟩ := hv
    have hzr : g < wr.heap.size := blk_lt hblk
    by_cases hlt : i < n + 8
    · have hat := lentC_at l (i := i) (by rw [← HN.out]; exact hlt)
      have rd : ∀ j, i * 2 ≤ j → j < (n + 8) * 2 → wr.cell? ⟨g, j, none⟩ = (lentC l)[j]? := fun j h1 h2 => by
        have e := List.getElem?_take_of_lt (l := cu.toList) h2
        rw [ht, markTo_at _ _ h1] at e
        rw [cell_of_blk hblk, e]; simp
      obtain ⟨qq, hqq⟩ : ∃ q, q = lentAt l i := ⟨_, rfl⟩
      rw [← hqq] at hat
      have x0 : wr.cell? ⟨g, i * 2, none⟩ = some (i64 qq.1) := (rd _ (by omega) (by omega)).trans hat.1
      have x1 : wr.cell? ⟨g, i * 2 + 1, none⟩ = some (i64 qq.2) := (rd _ (by omega) (by omega)).trans hat.2
      have f0 : wr.frozen? ⟨g, i * 2, none⟩ = false := frozen_of_blk hblk _
      have f1 : wr.frozen? ⟨g, i * 2 + 1, none⟩ = false := frozen_of_blk hblk _
      have i0 : (0 : Int) ≤ (i : Int) := by omega
      have i1 : (i : Int) < (n : Int) + 8 := by omega
      have HNX := hid (fun (O : Obj) (m : Nat) => show ((((wr.alloc O).drewN m).setCell ⟨g, i * 2, none⟩ (i64 1)).setCell ⟨g, i * 2 + 1, none⟩ (i64 1)).ownsRow base 48 2 (.slice (some ⟨g, 0, none⟩) (n + 8) (n + 8)) (n + 8) (markTo [i64 1, i64 1] (lentC l) (i + 1)) ∧ Fr (fun k => k = g) w ((((wr.alloc O).drewN m).setCell ⟨g, i * 2, none⟩ (i64 1)).setCell ⟨g, i * 2 + 1, none⟩ (i64 1)) by
        have h0 : ((wr.alloc O).drewN m).ownsRow base 48 2 (.slice (some ⟨g, 0, none⟩) (n + 8) (n + 8)) (n + 8) (markTo [i64 1, i64 1] (lentC l) i) := owns_far (HO.out.alloc O) fun b _ _ => by simp
        have h := owns_setCell (owns_setCell h0 (g := g) rfl (i * 2) (i64 1)) (g := g) rfl (i * 2 + 1) (i64 1)
        rw [markTo_two _ _ (lentC l) HLL.out hlt] at h
        exact ⟨h, (((HF.out.alloc O).drewN m).set (.inl rfl) _ _).set (.inl rfl) _ _⟩)
      by_cases hin : i < n
      · obtain ⟨q, hq⟩ : ∃ q, l[i]? = some q := ⟨_, List.getElem?_eq_getElem (by rw [← HN.out]; exact hin)⟩
        have eq : qq = q := by rw [hqq]; unfold lentAt; rw [hq]; rfl
        subst eq
        obtain ⟨a', c', hv', hrow⟩ := HL.out.fr (In := fun k => k = g) (fun a m c e hp => by cases e; exact hne hp) HF.out
        simp only [Value.slice.injEq] at hv'
        obtain ⟨rfl, hnn, rfl⟩ := hv'
        clear hnn
        obtain ⟨b, off, hab, c0, c1⟩ := hrow i qq hq
        simp only [Option.some.injEq] at hab
        subst hab
        have hbz : b < wr.heap.size := World.block_lt_of_cell? _ _ c0
        have hbg : b ≠ g := hne (by omega)
        have i2 : (i : Int) < (n : Int) := by omega
        clear ho hf hblk hc ht hat rd hq hrow hqq
        go_wp2_with fail
        go_quiet (fail)
        go_wp2
        go_roundw
        case rel => first | exact ⟨i + 1, by omega, by go_num, rfl, HNX.out _ _⟩ | ((repeat apply Exists.intro); exact ⟨⟨i + 1, by omega, by go_num, rfl, HNX.out _ _⟩, rfl⟩)
        case measure => simp [intOf]; omega
      · have eq : qq = (77, 0) := by rw [hqq]; unfold lentAt; rw [List.getElem?_eq_none (by rw [← HN.out]; omega)]; rfl
        subst eq
        clear ho hf hblk hc ht hat rd hqq
        go_wp2_with fail
        go_quiet (fail)
        go_wp2
        go_roundw
        case rel => first | exact ⟨i + 1, by omega, by go_num, rfl, HNX.out _ _⟩ | ((repeat apply Exists.intro); exact ⟨⟨i + 1, by omega, by go_num, rfl, HNX.out _ _⟩, rfl⟩)
        case measure => simp [intOf]; omega
    · clear ho hf hblk hc ht
      go_wp2
      go_ret
      exact ⟨rfl, HF.out⟩
end Go.Proofs.YthbbfjfekchdiaaGreat
