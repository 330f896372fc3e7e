import Derived.Test.YthbbfjfekchdiaaXZFirst
import Derived.Deep.RegionHeld3
import Derived.Deep.DrawnRows
/-
  The program: a point is written into its slot.
-/
namespace Go.Proofs.Ythbbfjfekchdiaa
open Go.RowKit
set_option linter.unusedSimpArgs false
attribute [local go_sem] Go.wp_at_zero Go.wp_at_succ

theorem slot_begin {s t : Int} (hs : 1 ≤ s) : (t - t % s) / s = t / s := by
  have h1 : t - t % s = s * (t / s) := by have := Int.mul_ediv_add_emod t s; omega
  rw [h1, Int.mul_ediv_cancel_left _ (by omega)]

set_option maxHeartbeats 2000000 in
theorem zwrite_any (s t v : Int) (g k cap : Nat) (L : List (Option Pt)) (w : World) (s1 : 1 ≤ s) (s2 : s ≤ 1000000) (t0 : 0 ≤ t) (t1 : t ≤ 1000000000000) (k1 : 1 ≤ k) (k2 : k ≤ 1000) (hL : L.length = k) (hg : w.heap[g]? = some (.cells (slotBlk L) 90)) :
    Calls Try.prog 44 #[arcV s g k cap, i64 t, i64 v] w fun e w' => e = .returned (.tuple #[]) ∧ Fr (fun j => j = g) w w' ∧ w'.heap[g]? = some (.cells (slotBlk (L.set (t / s % (k : Int)).toNat (some (t - t % s, v)))) 90) := by
  have r0 : 0 ≤ t % s := Int.emod_nonneg _ (by omega)
  have r1 : t % s ≤ t := by
    have h3 := Int.mul_ediv_add_emod t s
    have h4 : 0 ≤ s * (t / s) := Int.mul_nonneg (by omega) (Int.ediv_nonneg t0 (by omega))
    omega
  have n0 : 0 ≤ t / s % (k : Int) := Int.emod_nonneg _ (by omega)
  have n1 : t / s % (k : Int) < (k : Int) := Int.emod_lt_of_pos _ (by omega)
  obtain ⟨n, hn⟩ : ∃ n : Nat, t / s % (k : Int) = (n : Int) := ⟨(t / s % (k : Int)).toNat, by omega⟩
  have HB := hid (fun (w : World) => zbegin_any s t g k cap w s1 s2 t0 t1)
  obtain ⟨b, hb⟩ : ∃ b, b = t - t % s := ⟨_, rfl⟩
  have HS := hid (fun (w : World) => zslot_any s b g k cap w s1 s2 (by omega) (by omega) k1 k2)
  rw [show b / s % (k : Int) = (n : Int) by rw [hb, slot_begin s1, hn]] at HS
  rw [hn, Int.toNat_natCast, ← hb]
  rw [← hb] at HB
  have hnk : n < k := by omega
  have n0' : (0 : Int) ≤ (n : Int) := by omega
  have n1' : (n : Int) < (k : Int) := by omega
  obtain ⟨o, ho⟩ : ∃ o, L[n]? = some o := ⟨_, List.getElem?_eq_getElem (by omega)⟩
  have HG := hid hg
  have HO := hid ho
  have HLN := hid (show n < L.length by omega)
  have hgz : g < w.heap.size := blk_lt hg
  clear hg ho hL hb hn r0 r1 n0 n1 hnk t0 t1 s1 s2 k1 k2
  go_enter Try.func44, Try.ntmps44
  go_wp2_with fail
  refine (HB.out _).mono ?_
  rintro e w1 ⟨rfl, hb1⟩
  have HB1 := hid (show Below w.heap.size w w1 from ((Below.refl _ w).alloc (Nat.le_refl _) _).trans (hb1.mono (by simp)))
  have a0 : w1.cell? ⟨w.heap.size, 0, none⟩ = some (i64 s) := cell_later hb1 (by simp)
  have a1 : w1.cell? ⟨w.heap.size, 1, none⟩ = some (.slice (some ⟨g, 0, none⟩) k cap) := cell_later hb1 (by simp)
  have hz1 : w.heap.size < w1.heap.size := by have := hb1.size; simp at this; omega
  clear hb1
  go_wp2_with fail
  refine wp_region_held_drew (S := (fun w' => w'.cell? ⟨w.heap.size, 0, none⟩ = some (i64 s) ∧ w'.cell? ⟨w.heap.size, 1, none⟩ = some (.slice (some ⟨g, 0, none⟩) k cap))) (by kernel_rfl) ?_ (fun hHeld => ?_)
  · go_keep
  refine wpAnyH_take (i := 0) (oi := { dst := some 10, op := Op.fieldAddr 81 (Operand.tmp 3) 1, type := 0, pos := _, after := #[], guard := none }) (v := ?vwa0) rfl (by kernel_rfl) (by kernel_rfl) (by kernel_rfl) (fun _ _ _ h => h) (Or.inl ⟨by rfl, ?hwa0⟩) (by assumption) ?_
  case hwa0 => (intro w hSw; (try dsimp only at hSw); go_simp; try with_reducible rfl)
  try simp only [Act.put, List.setIfInBounds_toArray, List.set_cons_zero, List.set_cons_succ]
  refine wpAnyH_take (i := 1) (oi := { dst := some 11, op := Op.load 79 (Operand.tmp 10), type := 79, pos := _, after := #[{ on := 0, ground := Ground.data }], guard := none }) (v := ?vwa1) rfl (by kernel_rfl) (by kernel_rfl) (by kernel_rfl) (fun _ _ _ h => h) (Or.inl ⟨by rfl, ?hwa1⟩) (by assumption) ?_
  case hwa1 => (intro w hSw; (try dsimp only at hSw); go_simp; try with_reducible rfl)
  try simp only [Act.put, List.setIfInBounds_toArray, List.set_cons_zero, List.set_cons_succ]
  refine wpAnyH_take (i := 2) (oi := { dst := some 12, op := Op.load 81 (Operand.tmp 3), type := 81, pos := _, after := #[], guard := none }) (v := ?vwa2) rfl (by kernel_rfl) (by kernel_rfl) (by kernel_rfl) (fun _ _ _ h => h) (Or.inl ⟨by rfl, ?hwa2⟩) (by assumption) ?_
  case hwa2 => (intro w hSw; (try dsimp only at hSw); go_simp; try with_reducible rfl)
  try simp only [Act.put, List.setIfInBounds_toArray, List.set_cons_zero, List.set_cons_succ]
  refine wpAnyH_take (i := 3) (oi := { dst := some 13, op := Op.move (Operand.tmp 6), type := 3, pos := _, after := #[], guard := none }) (v := ?vwa3) rfl (by kernel_rfl) (by kernel_rfl) (by kernel_rfl) (fun _ _ _ h => h) (Or.inl ⟨by rfl, ?hwa3⟩) (by assumption) ?_
  case hwa3 => (intro w hSw; (try dsimp only at hSw); go_simp; try with_reducible rfl)
  try simp only [Act.put, List.setIfInBounds_toArray, List.set_cons_zero, List.set_cons_succ]
  refine wpAnyH_take (i := 5) (oi := { dst := some 15, op := Op.move (Operand.tmp 6), type := 3, pos := _, after := #[], guard := none }) (v := ?vwa5) rfl (by kernel_rfl) (by kernel_rfl) (by kernel_rfl) (fun _ _ _ h => h) (Or.inl ⟨by rfl, ?hwa5⟩) (by assumption) ?_
  case hwa5 => (intro w hSw; (try dsimp only at hSw); go_simp; try with_reducible rfl)
  try simp only [Act.put, List.setIfInBounds_toArray, List.set_cons_zero, List.set_cons_succ]
  refine wpAnyH_take (i := 6) (oi := { dst := some 16, op := Op.move (Operand.tmp 2), type := 3, pos := _, after := #[], guard := none }) (v := ?vwa6) rfl (by kernel_rfl) (by kernel_rfl) (by kernel_rfl) (fun _ _ _ h => h) (Or.inl ⟨by rfl, ?hwa6⟩) (by assumption) ?_
  case hwa6 => (intro w hSw; (try dsimp only at hSw); go_simp; try with_reducible rfl)
  try simp only [Act.put, List.setIfInBounds_toArray, List.set_cons_zero, List.set_cons_succ]
  refine wpAnyH_take (i := 7) (oi := { dst := some 17, op := Op.build 90 #[(0, Operand.const (Value.bool true)), (1, Operand.tmp 15), (2, Operand.tmp 16)], type := 90, pos := _, after := #[{ on := 5, ground := Ground.data }, { on := 6, ground := Ground.data }], guard := none }) (v := ?vwa7) rfl (by kernel_rfl) (by kernel_rfl) (by kernel_rfl) (fun _ _ _ h => h) (Or.inl ⟨by rfl, ?hwa7⟩) (by assumption) ?_
  case hwa7 => (intro w hSw; (try dsimp only at hSw); go_simp; try with_reducible rfl)
  try simp only [Act.put, List.setIfInBounds_toArray, List.set_cons_zero, List.set_cons_succ]
  refine wpAnyH_ready (rs := [4]) (by kernel_rfl) (by simp) ?_
  refine AllReadyH.cons rfl (fun K hK => ?_) AllReadyH.nil
  go_simp
  go_wp2_with (go_at_call 58; refine (HS.out _).mono ?_; rintro e w2 ⟨rfl, hb2⟩)
  refine hK.out _ _ ?_ (fun hHeld => ?_)
  · exact ⟨cell_later hb2 (by simp [*]), cell_later hb2 (by simp [*])⟩
  clear hK K
  have HB2 := hid (show Below w.heap.size w w2 from (HB1.out.drew).trans (hb2.mono HB1.out.size))
  have HG2 := hid (blk_later HB2.out hgz HG.out)
  obtain ⟨y0, hy0⟩ : ∃ y, w2.cell? ⟨g, n * 3, none⟩ = some y := by
    have e : w2.cell? ⟨g, n * 3 + 0, none⟩ = (slotCells o)[0]? := (cell_of_blk HG2.out _).trans (slotBlk_at HO.out 0 (by omega))
    exact ⟨_, e.trans (List.getElem?_eq_getElem (by rw [slotCells_len]; omega))⟩
  obtain ⟨y1, hy1⟩ : ∃ y, w2.cell? ⟨g, n * 3 + 1, none⟩ = some y := by
    have e : w2.cell? ⟨g, n * 3 + 1, none⟩ = (slotCells o)[1]? := (cell_of_blk HG2.out _).trans (slotBlk_at HO.out 1 (by omega))
    exact ⟨_, e.trans (List.getElem?_eq_getElem (by rw [slotCells_len]; omega))⟩
  obtain ⟨y2, hy2⟩ : ∃ y, w2.cell? ⟨g, n * 3 + 2, none⟩ = some y := by
    have e : w2.cell? ⟨g, n * 3 + 2, none⟩ = (slotCells o)[2]? := (cell_of_blk HG2.out _).trans (slotBlk_at HO.out 2 (by omega))
    exact ⟨_, e.trans (List.getElem?_eq_getElem (by rw [slotCells_len]; omega))⟩
  have f0 : w2.frozen? ⟨g, n * 3, none⟩ = false := frozen_of_blk HG2.out _
  have f1 : w2.frozen? ⟨g, n * 3 + 1, none⟩ = false := frozen_of_blk HG2.out _
  have f2 : w2.frozen? ⟨g, n * 3 + 2, none⟩ = false := frozen_of_blk HG2.out _
  have hgz2 : g < w2.heap.size := blk_lt HG2.out
  have hne : w.heap.size ≠ g := by omega
  clear hb2
  refine wpAnyH_take (i := 8) (oi := { dst := some 18, op := Op.indexAddr 79 (Operand.tmp 11) (Operand.tmp 14), type := 0, pos := _, after := #[{ on := 1, ground := Ground.data }, { on := 4, ground := Ground.data }, { on := 0, ground := Ground.phase }, { on := 1, ground := Ground.phase }, { on := 2, ground := Ground.phase }, { on := 3, ground := Ground.phase }, { on := 4, ground := Ground.phase }, { on := 5, ground := Ground.phase }, { on := 6, ground := Ground.phase }, { on := 7, ground := Ground.phase }], guard := none }) (v := ?vwa8) rfl (by kernel_rfl) (by kernel_rfl) (by kernel_rfl) (fun _ _ _ h => h) (Or.inl ⟨by rfl, ?hwa8⟩) (by assumption) ?_
  case hwa8 => (intro w hSw; (try dsimp only at hSw); go_simp; try with_reducible rfl)
  try simp only [Act.put, List.setIfInBounds_toArray, List.set_cons_zero, List.set_cons_succ]
  refine wpAnyH_ready (rs := [9]) (by kernel_rfl) (by simp) ?_
  refine AllReadyH.cons rfl (fun K hK => ?_) AllReadyH.nil
  go_simp
  refine hK.out _ _ ?_ (fun hHeld => ?_)
  · exact ⟨(World.cell?_setCell_far _ _ _ _ (by show g ≠ w.heap.size; omega)).trans ((World.cell?_setCell_far _ _ _ _ (by show g ≠ w.heap.size; omega)).trans ((World.cell?_setCell_far _ _ _ _ (by show g ≠ w.heap.size; omega)).trans hHeld.1)), (World.cell?_setCell_far _ _ _ _ (by show g ≠ w.heap.size; omega)).trans ((World.cell?_setCell_far _ _ _ _ (by show g ≠ w.heap.size; omega)).trans ((World.cell?_setCell_far _ _ _ _ (by show g ≠ w.heap.size; omega)).trans hHeld.2))⟩
  clear hK K
  have HFIN := hid (show Fr (fun j => j = g) w (((w2.setCell ⟨g, n * 3, none⟩ (.bool true)).setCell ⟨g, n * 3 + 1, none⟩ (i64 b)).setCell ⟨g, n * 3 + 2, none⟩ (i64 v)) ∧ (((w2.setCell ⟨g, n * 3, none⟩ (.bool true)).setCell ⟨g, n * 3 + 1, none⟩ (i64 b)).setCell ⟨g, n * 3 + 2, none⟩ (i64 v)).heap[g]? = some (.cells (slotBlk (L.set n (some (b, v)))) 90) from
    ⟨((((Fr.below HB2.out : Fr (fun j => j = g) w w2).setCell (b := g) rfl _ _).setCell (b := g) rfl _ _).setCell (b := g) rfl _ _), by
      rw [blk_setCell (blk_setCell (blk_setCell HG2.out _ _) _ _) _ _, ← slotBlk_set HLN.out (b, v)]⟩)
  refine wpAnyH_done (by kernel_rfl) ?_ _
  go_wp2
  go_end0
  exact ⟨rfl, HFIN.out.1, HFIN.out.2⟩
end Go.Proofs.Ythbbfjfekchdiaa
