import Derived.Test.YthbbfjfekchdiaaGreatXZBest
import Derived.Test.YthbbfjfekchdiaaGreatXTk
import Derived.Test.YthbbfjfekchdiaaGreatXZFirst
import Derived.Deep.RegionHeld3
import Derived.Deep.DrawnRows
namespace Go.Proofs.YthbbfjfekchdiaaGreat
open Go.RowKit
set_option linter.unusedSimpArgs false
theorem makes_last {l : List Int} {n : Nat} {x : Int} (hn : l.length = n + 1) (hx : l[n]? = some x) : makesI 3 l = x := by
  unfold makesI
  rw [if_neg (by decide), if_neg (by decide), hn, outTo_succ hx]
  rfl
set_option maxHeartbeats 2000000 in
theorem zof_1 (b cap : Nat) (l : List Int) (w : World) (hr : RowJ w b l) (hl : l.length ≤ 1000) (hv : ∀ v ∈ l, VIn v) (hne : l ≠ []) :
    Calls Tryz.prog 141 #[.agg #[], .slice (some ⟨b, 0, none⟩) l.length cap] w fun e w' => e = .returned (i64 (makesI 1 l)) ∧ Below w.heap.size w w' := by
  have HM := hid (show makesI 1 l = sumTo l l.length / (l.length : Int) by unfold makesI; rw [if_pos rfl])
  have hal := fun (o : Obj) => (Below.refl w.heap.size w).alloc (Nat.le_refl _) o
  have HT := hid (fun (o : Obj) => ztotal_any b cap l (w.alloc o) (hr.below (hal o)) hl hv)
  have hs := sumTo_in hv l.length (Nat.le_refl _)
  have HAL := hid hal
  have hl0 : 1 ≤ l.length := by cases l with | nil => exact absurd rfl hne | cons a l => simp
  obtain ⟨T, hT⟩ : ∃ T, T = sumTo l l.length := ⟨_, rfl⟩
  rw [← hT] at HT HM hs
  have T0 : -1000000000000 ≤ T := by omega
  have T1 : T ≤ 1000000000000 := by omega
  have HD := hid (fun (w : World) => zdivide_any T (l.length : Int) w T0 T1 (by omega) (by omega))
  have hd0 : ((l.length : Int) == 0) = false := beq_eq_false_iff_ne.2 (by omega)
  clear hT hs hr hv hne hal
  go_enter Tryz.func141, Tryz.ntmps141
  go_wp2_with fail
  refine (HT.out _).mono ?_
  rintro e w1 ⟨rfl, rfl⟩
  go_wp2_with fail
  refine (HD.out _).mono ?_
  rintro e w2 ⟨rfl, rfl⟩
  go_wp2
  go_ret
  exact ⟨ret_int (by rw [HM.out]), HAL.out _⟩
set_option maxHeartbeats 2000000 in
theorem zof_2 (b cap : Nat) (l : List Int) (w : World) (hr : RowJ w b l) (hl : l.length ≤ 1000) (hv : ∀ v ∈ l, VIn v) :
    Calls Tryz.prog 144 #[.agg #[], .slice (some ⟨b, 0, none⟩) l.length cap] w fun e w' => e = .returned (i64 (makesI 2 l)) ∧ Below w.heap.size w w' := by
  have HM := hid (show makesI 2 l = cutI (sumTo l l.length) by unfold makesI; rw [if_neg (by decide), if_pos rfl])
  have hal := fun (o : Obj) => (Below.refl w.heap.size w).alloc (Nat.le_refl _) o
  have HT := hid (fun (o : Obj) => ztotal_any b cap l (w.alloc o) (hr.below (hal o)) hl hv)
  have HAL := hid hal
  obtain ⟨T, hT⟩ : ∃ T, T = sumTo l l.length := ⟨_, rfl⟩
  rw [← hT] at HT HM
  have HC := hid (show cutI T = max (-1000000000) (min 1000000000 T) from rfl)
  clear hT hr hv hal
  go_enter Tryz.func144, Tryz.ntmps144
  go_wp2_with fail
  refine (HT.out _).mono ?_
  rintro e w1 ⟨rfl, rfl⟩
  go_wp2
  all_goals go_ret
  all_goals exact ⟨ret_int (by rw [HM.out, HC.out]; omega), HAL.out _⟩
set_option maxHeartbeats 2000000 in
theorem zof_3 (b cap : Nat) (l : List Int) (w : World) (hr : RowJ w b l) (hl : l.length ≤ 1000) (hne : l ≠ []) :
    Calls Tryz.prog 145 #[.agg #[], .slice (some ⟨b, 0, none⟩) l.length cap] w fun e w' => e = .returned (i64 (makesI 3 l)) ∧ Below w.heap.size w w' := by
  have hl0 : 1 ≤ l.length := by cases l with | nil => exact absurd rfl hne | cons a l => simp
  obtain ⟨n, hn⟩ : ∃ n, l.length = n + 1 := ⟨l.length - 1, by omega⟩
  obtain ⟨x, hx⟩ : ∃ x, l[n]? = some x := ⟨_, List.getElem?_eq_getElem (by omega)⟩
  have HM := hid (makes_last hn hx)
  have x0 : w.cell? ⟨b, n, none⟩ = some (i64 x) := hr.2 n x hx
  have hbz := hr.1
  rw [hn] at hl ⊢
  have hd0 : ((n : Int) + 1 == 0) = false := beq_eq_false_iff_ne.2 (by omega)
  have n0 : (0 : Int) ≤ (n : Int) := by omega
  have n1 : (n : Int) < (n : Int) + 1 := by omega
  clear hr hne hn hl0 hx
  go_enter Tryz.func145, Tryz.ntmps145
  go_wp2
  go_ret
  exact ⟨ret_int (by rw [HM.out]), (Below.refl _ _).alloc (Nat.le_refl _) _⟩
set_option maxHeartbeats 2000000 in
theorem zof_4 (b cap : Nat) (l : List Int) (w : World) (hr : RowJ w b l) (hl : l.length ≤ 1000) (hv : ∀ v ∈ l, VIn v) (hne : l ≠ []) (hcap : l.length ≤ cap) :
    Calls Tryz.prog 146 #[.agg #[], .slice (some ⟨b, 0, none⟩) l.length cap] w fun e w' => e = .returned (i64 (makesI 4 l)) ∧ Below w.heap.size w w' := by
  have HM := hid (show makesI 4 l = outTo 4 l l.length by unfold makesI; rw [if_neg (by decide), if_neg (by decide)])
  have hal := fun (o : Obj) => (Below.refl w.heap.size w).alloc (Nat.le_refl _) o
  have HT := hid (fun (o : Obj) => zbest_4 b cap l (w.alloc o) (hr.below (hal o)) hl hv hne hcap)
  have HAL := hid hal
  clear hr hv hne hal
  go_enter Tryz.func146, Tryz.ntmps146
  go_wp2_with fail
  refine (HT.out _).mono ?_
  rintro e w1 ⟨rfl, rfl⟩
  go_wp2
  go_ret
  exact ⟨ret_int (by rw [HM.out]), HAL.out _⟩
set_option maxHeartbeats 2000000 in
theorem zof_5 (b cap : Nat) (l : List Int) (w : World) (hr : RowJ w b l) (hl : l.length ≤ 1000) (hv : ∀ v ∈ l, VIn v) (hne : l ≠ []) (hcap : l.length ≤ cap) :
    Calls Tryz.prog 149 #[.agg #[], .slice (some ⟨b, 0, none⟩) l.length cap] w fun e w' => e = .returned (i64 (makesI 5 l)) ∧ Below w.heap.size w w' := by
  have HM := hid (show makesI 5 l = outTo 5 l l.length by unfold makesI; rw [if_neg (by decide), if_neg (by decide)])
  have hal := fun (o : Obj) => (Below.refl w.heap.size w).alloc (Nat.le_refl _) o
  have HT := hid (fun (o : Obj) => zbest_5 b cap l (w.alloc o) (hr.below (hal o)) hl hv hne hcap)
  have HAL := hid hal
  clear hr hv hne hal
  go_enter Tryz.func149, Tryz.ntmps149
  go_wp2_with fail
  refine (HT.out _).mono ?_
  rintro e w1 ⟨rfl, rfl⟩
  go_wp2
  go_ret
  exact ⟨ret_int (by rw [HM.out]), HAL.out _⟩
set_option maxHeartbeats 2000000 in
theorem zof_6 (b cap : Nat) (l : List Int) (w : World) (hr : RowJ w b l) (hl : l.length ≤ 1000) (hv : ∀ v ∈ l, VIn v) (hne : l ≠ []) (hcap : l.length ≤ cap) :
    Calls Tryz.prog 151 #[.agg #[], .slice (some ⟨b, 0, none⟩) l.length cap] w fun e w' => e = .returned (i64 (makesI 6 l)) ∧ Below w.heap.size w w' := by
  have HM := hid (show makesI 6 l = outTo 6 l l.length by unfold makesI; rw [if_neg (by decide), if_neg (by decide)])
  have hal := fun (o : Obj) => (Below.refl w.heap.size w).alloc (Nat.le_refl _) o
  have HT := hid (fun (o : Obj) => zbest_6 b cap l (w.alloc o) (hr.below (hal o)) hl hv hne hcap)
  have HAL := hid hal
  clear hr hv hne hal
  go_enter Tryz.func151, Tryz.ntmps151
  go_wp2_with fail
  refine (HT.out _).mono ?_
  rintro e w1 ⟨rfl, rfl⟩
  go_wp2
  go_ret
  exact ⟨ret_int (by rw [HM.out]), HAL.out _⟩
theorem zmeth_1 (n : Nat) (w : World) : (method (n + 1) 139 (.agg #[]) "Of").run Tryz.prog w = .ok (141, .agg #[]) w := by kernel_rfl
theorem zmeth_2 (n : Nat) (w : World) : (method (n + 1) 140 (.agg #[]) "Of").run Tryz.prog w = .ok (144, .agg #[]) w := by kernel_rfl
theorem zmeth_3 (n : Nat) (w : World) : (method (n + 1) 141 (.agg #[]) "Of").run Tryz.prog w = .ok (145, .agg #[]) w := by kernel_rfl
theorem zmeth_4 (n : Nat) (w : World) : (method (n + 1) 142 (.agg #[]) "Of").run Tryz.prog w = .ok (146, .agg #[]) w := by kernel_rfl
theorem zmeth_5 (n : Nat) (w : World) : (method (n + 1) 143 (.agg #[]) "Of").run Tryz.prog w = .ok (149, .agg #[]) w := by kernel_rfl
theorem zmeth_6 (n : Nat) (w : World) : (method (n + 1) 144 (.agg #[]) "Of").run Tryz.prog w = .ok (151, .agg #[]) w := by kernel_rfl
end Go.Proofs.YthbbfjfekchdiaaGreat
namespace Go.Proofs.YthbbfjfekchdiaaGreat
open Go.RowKit
set_option linter.unusedSimpArgs false
attribute [local go_sem] Go.wp_at_zero Go.wp_at_succ
theorem slot_begin {s t : Int} (hs : 1 ≤ s) : (t - t % s) / s = t / s := by
  have h1 : t - t % s = s * (t / s) := by have := Int.mul_ediv_add_emod t s; omega
  rw [h1, Int.mul_ediv_cancel_left _ (by omega)]
set_option maxHeartbeats 2000000 in
theorem zwrite_any (s t v : Int) (g k cap : Nat) (L : List (Option Pt)) (w : World) (s1 : 1 ≤ s) (s2 : s ≤ 1000000) (t0 : 0 ≤ t) (t1 : t ≤ 1000000000000) (k1 : 1 ≤ k) (k2 : k ≤ 1000) (hL : L.length = k) (hg : w.heap[g]? = some (.cells (slotBlk L) 116)) :
    Calls Tryz.prog 90 #[arcV s g k cap, i64 t, i64 v] w fun e w' => e = .returned (.tuple #[]) ∧ Fr (fun j => j = g) w w' ∧ w'.heap[g]? = some (.cells (slotBlk (L.set (t / s % (k : Int)).toNat (some (t - t % s, v)))) 116) := by
  have r0 : 0 ≤ t % s := Int.emod_nonneg _ (by omega)
  have r1 : t % s ≤ t := by
    have h3 := Int.mul_ediv_add_emod t s
    have h4 : 0 ≤ s * (t / s) := Int.mul_nonneg (by omega) (Int.ediv_nonneg t0 (by omega))
    omega
  have n0 : 0 ≤ t / s % (k : Int) := Int.emod_nonneg _ (by omega)
  have n1 : t / s % (k : Int) < (k : Int) := Int.emod_lt_of_pos _ (by omega)
  obtain ⟨n, hn⟩ : ∃ n : Nat, t / s % (k : Int) = (n : Int) := ⟨(t / s % (k : Int)).toNat, by omega⟩
  have HB := hid (fun (w : World) => zbegin_any s t g k cap w s1 s2 t0 t1)
  obtain ⟨b, hb⟩ : ∃ b, b = t - t % s := ⟨_, rfl⟩
  have HS := hid (fun (w : World) => zslot_any s b g k cap w s1 s2 (by omega) (by omega) k1 k2)
  rw [show b / s % (k : Int) = (n : Int) by rw [hb, slot_begin s1, hn]] at HS
  rw [hn, Int.toNat_natCast, ← hb]
  rw [← hb] at HB
  have hnk : n < k := by omega
  have n0' : (0 : Int) ≤ (n : Int) := by omega
  have n1' : (n : Int) < (k : Int) := by omega
  obtain ⟨o, ho⟩ : ∃ o, L[n]? = some o := ⟨_, List.getElem?_eq_getElem (by omega)⟩
  have HG := hid hg
  have HO := hid ho
  have HLN := hid (show n < L.length by omega)
  have hgz : g < w.heap.size := blk_lt hg
  clear hg ho hL hb hn r0 r1 n0 n1 hnk t0 t1 s1 s2 k1 k2
  go_enter Tryz.func90, Tryz.ntmps90
  go_wp2_with fail
  refine (HB.out _).mono ?_
  rintro e w1 ⟨rfl, hb1⟩
  have HB1 := hid (show Below w.heap.size w w1 from ((Below.refl _ w).alloc (Nat.le_refl _) _).trans (hb1.mono (by simp)))
  have a0 : w1.cell? ⟨w.heap.size, 0, none⟩ = some (i64 s) := cell_later hb1 (by simp)
  have a1 : w1.cell? ⟨w.heap.size, 1, none⟩ = some (.slice (some ⟨g, 0, none⟩) k cap) := cell_later hb1 (by simp)
  have hz1 : w.heap.size < w1.heap.size := by have := hb1.size; simp at this; omega
  clear hb1
  go_wp2_with fail
  refine wp_region_held_drew (S := (fun w' => w'.cell? ⟨w.heap.size, 0, none⟩ = some (i64 s) ∧ w'.cell? ⟨w.heap.size, 1, none⟩ = some (.slice (some ⟨g, 0, none⟩) k cap))) (by kernel_rfl) ?_ (fun hHeld => ?_)
  · go_keep
  refine tkI (i := 0) (oi := ⟨some 10, .fieldAddr 94 (.tmp 3) 1, 0, _, #[], none⟩) ?_
  try simp only [Act.put, tkA, tkB, tkC]
  refine tkI (i := 1) (oi := ⟨some 11, .load 92 (.tmp 10), 92, _, #[⟨0, .data⟩], none⟩) ?_
  try simp only [Act.put, tkA, tkB, tkC]
  refine tkI (i := 2) (oi := ⟨some 12, .load 94 (.tmp 3), 94, _, #[], none⟩) ?_
  try simp only [Act.put, tkA, tkB, tkC]
  refine tkI (i := 3) (oi := ⟨some 13, .move (.tmp 6), 3, _, #[], none⟩) ?_
  try simp only [Act.put, tkA, tkB, tkC]
  refine tkI (i := 5) (oi := ⟨some 15, .move (.tmp 6), 3, _, #[], none⟩) ?_
  try simp only [Act.put, tkA, tkB, tkC]
  refine tkI (i := 6) (oi := ⟨some 16, .move (.tmp 2), 3, _, #[], none⟩) ?_
  try simp only [Act.put, tkA, tkB, tkC]
  refine tkI (i := 7) (oi := ⟨some 17, .build 116 #[(0, .const (Value.bool true)), (1, .tmp 15), (2, .tmp 16)], 116, _, #[⟨5, .data⟩, ⟨6, .data⟩], none⟩) ?_
  try simp only [Act.put, tkA, tkB, tkC]
  refine wpAnyH_ready (rs := [4]) (by kernel_rfl) (by simp) ?_
  refine AllReadyH.cons rfl (fun K hK => ?_) AllReadyH.nil
  go_simp
  go_wp2_with (go_at_call 103; refine (HS.out _).mono ?_; rintro e w2 ⟨rfl, hb2⟩)
  refine hK.out _ _ ?_ (fun hHeld => ?_)
  · exact ⟨cell_later hb2 (by simp [*]), cell_later hb2 (by simp [*])⟩
  clear hK K
  have HB2 := hid (show Below w.heap.size w w2 from (HB1.out.drew).trans (hb2.mono HB1.out.size))
  have HG2 := hid (blk_later HB2.out hgz HG.out)
  obtain ⟨y0, hy0⟩ : ∃ y, w2.cell? ⟨g, n * 3, none⟩ = some y := by
    have e : w2.cell? ⟨g, n * 3 + 0, none⟩ = (slotCells o)[0]? := (cell_of_blk HG2.out _).trans (slotBlk_at HO.out 0 (by omega))
    exact ⟨_, e.trans (List.getElem?_eq_getElem (by rw [slotCells_len]; omega))⟩
  obtain ⟨y1, hy1⟩ : ∃ y, w2.cell? ⟨g, n * 3 + 1, none⟩ = some y := by
    have e : w2.cell? ⟨g, n * 3 + 1, none⟩ = (slotCells o)[1]? := (cell_of_blk HG2.out _).trans (slotBlk_at HO.out 1 (by omega))
    exact ⟨_, e.trans (List.getElem?_eq_getElem (by rw [slotCells_len]; omega))⟩
  obtain ⟨y2, hy2⟩ : ∃ y, w2.cell? ⟨g, n * 3 + 2, none⟩ = some y := by
    have e : w2.cell? ⟨g, n * 3 + 2, none⟩ = (slotCells o)[2]? := (cell_of_blk HG2.out _).trans (slotBlk_at HO.out 2 (by omega))
    exact ⟨_, e.trans (List.getElem?_eq_getElem (by rw [slotCells_len]; omega))⟩
  have f0 : w2.frozen? ⟨g, n * 3, none⟩ = false := frozen_of_blk HG2.out _
  have f1 : w2.frozen? ⟨g, n * 3 + 1, none⟩ = false := frozen_of_blk HG2.out _
  have f2 : w2.frozen? ⟨g, n * 3 + 2, none⟩ = false := frozen_of_blk HG2.out _
  have hgz2 : g < w2.heap.size := blk_lt HG2.out
  have hne : w.heap.size ≠ g := by omega
  clear hb2
  refine tkI (i := 8) (oi := ⟨some 18, .indexAddr 92 (.tmp 11) (.tmp 14), 0, _, #[⟨1, .data⟩, ⟨4, .data⟩, ⟨0, .phase⟩, ⟨1, .phase⟩, ⟨2, .phase⟩, ⟨3, .phase⟩, ⟨4, .phase⟩, ⟨5, .phase⟩, ⟨6, .phase⟩, ⟨7, .phase⟩], none⟩) ?_
  try simp only [Act.put, tkA, tkB, tkC]
  refine wpAnyH_ready (rs := [9]) (by kernel_rfl) (by simp) ?_
  refine AllReadyH.cons rfl (fun K hK => ?_) AllReadyH.nil
  go_simp
  refine hK.out _ _ ?_ (fun hHeld => ?_)
  · exact ⟨(World.cell?_setCell_far _ _ _ _ (by show g ≠ w.heap.size; omega)).trans ((World.cell?_setCell_far _ _ _ _ (by show g ≠ w.heap.size; omega)).trans ((World.cell?_setCell_far _ _ _ _ (by show g ≠ w.heap.size; omega)).trans hHeld.1)), (World.cell?_setCell_far _ _ _ _ (by show g ≠ w.heap.size; omega)).trans ((World.cell?_setCell_far _ _ _ _ (by show g ≠ w.heap.size; omega)).trans ((World.cell?_setCell_far _ _ _ _ (by show g ≠ w.heap.size; omega)).trans hHeld.2))⟩
  clear hK K
  have HFIN := hid (show Fr (fun j => j = g) w (((w2.setCell ⟨g, n * 3, none⟩ (.bool true)).setCell ⟨g, n * 3 + 1, none⟩ (i64 b)).setCell ⟨g, n * 3 + 2, none⟩ (i64 v)) ∧ (((w2.setCell ⟨g, n * 3, none⟩ (.bool true)).setCell ⟨g, n * 3 + 1, none⟩ (i64 b)).setCell ⟨g, n * 3 + 2, none⟩ (i64 v)).heap[g]? = some (.cells (slotBlk (L.set n (some (b, v)))) 116) from
    ⟨((((Fr.below HB2.out : Fr (fun j => j = g) w w2).setCell (b := g) rfl _ _).setCell (b := g) rfl _ _).setCell (b := g) rfl _ _), by
      rw [blk_setCell (blk_setCell (blk_setCell HG2.out _ _) _ _) _ _, ← slotBlk_set HLN.out (b, v)]⟩)
  refine wpAnyH_done (by kernel_rfl) ?_ _
  go_wp2
  go_end0
  exact ⟨rfl, HFIN.out.1, HFIN.out.2⟩
end Go.Proofs.YthbbfjfekchdiaaGreat
