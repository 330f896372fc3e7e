import Derived.Test.YthbbfjfekchdiaaGreatXTk
import Derived.Test.YthbbfjfekchdiaaGreatXLeafWalks
import Derived.Test.YthbbfjfekchdiaaGreatXCAll
import Derived.Deep.RegionHeld3
import Derived.Deep.DrawnRows
import Derived.Deep.QuietTactic
import Derived.BigQuiet
namespace Go.Proofs.YthbbfjfekchdiaaGreat
open Go.RowKit
set_option linter.unusedSimpArgs false
attribute [local go_sem] Go.wp_at_zero Go.wp_at_succ
theorem ret_bool {a b : Bool} (h : a = b) : Ending.returned (.bool a) = .returned (.bool b) := by rw [h]
theorem below_two0 {w w1 w2 : World} {A B : Obj} (h1 : Below ((w.alloc A).alloc B).drew.heap.size ((w.alloc A).alloc B).drew w1) (h2 : Below w1.heap.size w1 w2) : Below w.heap.size w w2 := by
  have hd : ((w.alloc A).alloc B).drew.heap.size = w.heap.size + 1 + 1 := by show ((w.alloc A).alloc B).heap.size = _; simp
  have hs := h1.size
  rw [hd] at h1 hs
  exact (((((Below.refl _ w).alloc (Nat.le_refl _) A).alloc (by simp) B).drew).trans (h1.mono (by omega))).trans (h2.mono (by omega))
theorem below_quiet0 {w : World} {A B : Obj} (nq : Nat) : Below w.heap.size w (((w.alloc A).alloc B).drewN nq) :=
  below_drewN (((Below.refl _ w).alloc (Nat.le_refl _) A).alloc (by simp) B) nq
def fitB (s k s' k' : Int) : Bool := decide (s < s' ∧ s' % s = 0 ∧ s * k < s' * k' ∧ s' / s ≤ k)
set_option maxHeartbeats 4000000 in
theorem fit_any (s k s' k' : Int) (w : World) (b1 : 1 ≤ s) (b2 : s ≤ 86400) (e1 : 1 ≤ s') (e2 : s' ≤ 86400) 
    (p1 : 0 ≤ s * k) (p2 : s * k ≤ 1000000000) (p3 : 0 ≤ s' * k') (p4 : s' * k' ≤ 1000000000) :
    Calls Tryz.prog 94 #[.agg #[i64 s, i64 k], .agg #[i64 s', i64 k']] w fun e w' => e = .returned (.bool (fitB s k s' k')) ∧ Below w.heap.size w w' := by
  have HF := hid (show fitB s k s' k' = decide (s < s' ∧ s' % s = 0 ∧ s * k < s' * k' ∧ s' / s ≤ k) from rfl)
  obtain ⟨r0, hr0⟩ : ∃ r, r = s * k := ⟨_, rfl⟩
  obtain ⟨r1, hr1⟩ : ∃ r, r = s' * k' := ⟨_, rfl⟩
  rw [← hr0] at p1 p2 HF
  rw [← hr1] at p3 p4 HF
  have HR0 := hid hr0
  have HR1 := hid hr1
  clear hr0 hr1
  by_cases t1 : s < s'
  case neg =>
    have HE := hid (show fitB s k s' k' = false by rw [HF.out]; exact decide_eq_false fun h => t1 h.1)
    have g1 : decide (s < s') = false := by simpa using t1
    go_enter Tryz.func94, Tryz.ntmps94
    go_wp2_with fail
    go_quiet (fail)
    go_wp2
    go_ret
    exact ⟨ret_bool HE.out.symm, below_quiet0 _⟩
  by_cases t2 : s' % s = 0
  case neg =>
    have HE := hid (show fitB s k s' k' = false by rw [HF.out]; exact decide_eq_false fun h => t2 h.2.1)
    have n2 : ¬ s = 0 := by omega
    have m1 : s'.tmod s = s' % s := IntWalk.rem_in _ _ (by omega)
    have m2 : IntKind.i64.wrap (s'.tdiv s) = s' / s := IntWalk.i64_quo _ _ ⟨by omega, by omega, b1⟩
    have g1 : decide (s < s') = true := by simpa using t1
    have g2 : (s' % s == 0) = false := by simpa using t2
    go_enter Tryz.func94, Tryz.ntmps94
    go_wp2_with fail
    go_quiet (fail)
    go_wp2
    go_ret
    exact ⟨ret_bool HE.out.symm, below_quiet0 _⟩
  by_cases t3 : r0 < r1
  case neg =>
    have HE := hid (show fitB s k s' k' = false by rw [HF.out]; exact decide_eq_false fun h => t3 h.2.2.1)
    have n2 : ¬ s = 0 := by omega
    have m1 : s'.tmod s = s' % s := IntWalk.rem_in _ _ (by omega)
    have m2 : IntKind.i64.wrap (s'.tdiv s) = s' / s := IntWalk.i64_quo _ _ ⟨by omega, by omega, b1⟩
    have g1 : decide (s < s') = true := by simpa using t1
    have g2 : (s' % s == 0) = true := by simpa using t2
    have g3 : decide (r0 < r1) = false := by simpa using t3
    clear t2 t3
    go_enter Tryz.func94, Tryz.ntmps94
    go_wp2_with fail
    refine wp_region_held_drew (S := (fun w' => w'.cell? ⟨w.heap.size, 0, none⟩ = some (i64 s) ∧ w'.cell? ⟨w.heap.size, 1, none⟩ = some (i64 k) ∧ w'.cell? ⟨w.heap.size + 1, 0, none⟩ = some (i64 s') ∧ w'.cell? ⟨w.heap.size + 1, 1, none⟩ = some (i64 k'))) (by kernel_rfl) ?_ (fun hHeld => ?_)
    · go_keep
    refine tkI (i := 0) (oi := ⟨some 5, .fieldAddr 37 (.tmp 2) 0, 0, _, #[], none⟩) ?_
    try simp only [Act.put, tkA, tkB, tkC]
    refine tkI (i := 1) (oi := ⟨some 6, .load 3 (.tmp 5), 3, _, #[⟨0, .data⟩], none⟩) ?_
    try simp only [Act.put, tkA, tkB, tkC]
    refine tkI (i := 2) (oi := ⟨some 7, .fieldAddr 37 (.tmp 3) 0, 0, _, #[], none⟩) ?_
    try simp only [Act.put, tkA, tkB, tkC]
    refine tkI (i := 3) (oi := ⟨some 8, .load 3 (.tmp 7), 3, _, #[⟨2, .data⟩], none⟩) ?_
    try simp only [Act.put, tkA, tkB, tkC]
    refine tkI (i := 4) (oi := ⟨some 9, .binOp .lss 3 (.tmp 6) (.tmp 8) 3, 4, _, #[⟨1, .data⟩, ⟨3, .data⟩], none⟩) ?_
    try simp only [Act.put, tkA, tkB, tkC]
    refine tkI (i := 5) (oi := ⟨some 10, .move (.tmp 9), 4, _, #[⟨4, .data⟩], none⟩) ?_
    try simp only [Act.put, tkA, tkB, tkC]
    refine tkI (i := 6) (oi := ⟨some 11, .fieldAddr 37 (.tmp 3) 0, 0, _, #[⟨5, .guard⟩], some (5, true)⟩) ?_
    try simp only [Act.put, tkA, tkB, tkC]
    refine tkI (i := 7) (oi := ⟨some 12, .load 3 (.tmp 11), 3, _, #[⟨6, .data⟩, ⟨5, .guard⟩], some (5, true)⟩) ?_
    try simp only [Act.put, tkA, tkB, tkC]
    refine tkI (i := 8) (oi := ⟨some 13, .fieldAddr 37 (.tmp 2) 0, 0, _, #[⟨5, .guard⟩], some (5, true)⟩) ?_
    try simp only [Act.put, tkA, tkB, tkC]
    refine tkI (i := 9) (oi := ⟨some 14, .load 3 (.tmp 13), 3, _, #[⟨8, .data⟩, ⟨5, .guard⟩], some (5, true)⟩) ?_
    try simp only [Act.put, tkA, tkB, tkC]
    refine tkI (i := 10) (oi := ⟨some 15, .binOp .rem 3 (.tmp 12) (.tmp 14) 3, 3, _, #[⟨7, .data⟩, ⟨9, .data⟩, ⟨5, .guard⟩], some (5, true)⟩) ?_
    try simp only [Act.put, tkA, tkB, tkC]
    refine tkI (i := 11) (oi := ⟨some 16, .binOp .eql 3 (.tmp 15) (.const (Value.int .i64 0)) 3, 4, _, #[⟨10, .data⟩, ⟨5, .guard⟩], some (5, true)⟩) ?_
    try simp only [Act.put, tkA, tkB, tkC]
    refine tkI (i := 12) (oi := ⟨some 17, .pick (.tmp 10) (.tmp 16) (.const (Value.bool false)), 4, _, #[⟨5, .data⟩, ⟨11, .data⟩], none⟩) ?_
    try simp only [Act.put, tkA, tkB, tkC]
    refine tkI (i := 13) (oi := ⟨some 18, .move (.tmp 17), 4, _, #[⟨12, .data⟩, ⟨5, .chain⟩], none⟩) ?_
    try simp only [Act.put, tkA, tkB, tkC]
    refine tkI (i := 14) (oi := ⟨some 19, .load 37 (.tmp 2), 37, _, #[⟨13, .guard⟩], some (13, true)⟩) ?_
    try simp only [Act.put, tkA, tkB, tkC]
    refine tkI (i := 16) (oi := ⟨some 21, .load 37 (.tmp 3), 37, _, #[⟨13, .guard⟩], some (13, true)⟩) ?_
    try simp only [Act.put, tkA, tkB, tkC]
    refine wpAnyH_ready (rs := [15]) (by kernel_rfl) (by simp) ?_
    refine AllReadyH.cons rfl (fun K hK => ?_) AllReadyH.nil
    go_simp
    go_wp2_with ((go_at_call 107; refine (creach_val s k r0 _ HR0 p1 p2).mono ?_; rintro e w1 ⟨rfl, hb1⟩))
    refine hK.out _ _ ?_ (fun hHeld => ?_)
    · refine ⟨?_, ?_, ?_, ?_⟩ <;> exact cell_later hb1 (by simp [*])
    clear hK K
    refine wpAnyH_ready (rs := [17]) (by kernel_rfl) (by simp) ?_
    refine AllReadyH.cons rfl (fun K hK => ?_) AllReadyH.nil
    go_simp
    go_wp2_with ((go_at_call 107; refine (creach_val s' k' r1 _ HR1 p3 p4).mono ?_; rintro e w2 ⟨rfl, hb2⟩))
    refine hK.out _ _ ?_ (fun hHeld => ?_)
    · refine ⟨?_, ?_, ?_, ?_⟩ <;> exact cell_later hb2 (by simp [*])
    clear hK K
    refine tkI (i := 18) (oi := ⟨some 23, .binOp .lss 3 (.tmp 20) (.tmp 22) 3, 4, _, #[⟨15, .data⟩, ⟨17, .data⟩, ⟨13, .guard⟩], some (13, true)⟩) ?_
    try simp only [Act.put, tkA, tkB, tkC]
    refine tkI (i := 19) (oi := ⟨some 24, .pick (.tmp 18) (.tmp 23) (.const (Value.bool false)), 4, _, #[⟨13, .data⟩, ⟨18, .data⟩], none⟩) ?_
    try simp only [Act.put, tkA, tkB, tkC]
    refine tkI (i := 20) (oi := ⟨some 25, .move (.tmp 24), 4, _, #[⟨19, .data⟩, ⟨17, .chain⟩], none⟩) ?_
    try simp only [Act.put, tkA, tkB, tkC]
    refine tkJ (i := 21) (oi := ⟨some 26, .fieldAddr 37 (.tmp 2) 1, 0, _, #[⟨20, .guard⟩], some (20, true)⟩) ?_
    try simp only [Act.put, tkA, tkB, tkC]
    refine tkJ (i := 22) (oi := ⟨some 27, .load 3 (.tmp 26), 3, _, #[⟨21, .data⟩, ⟨20, .guard⟩], some (20, true)⟩) ?_
    try simp only [Act.put, tkA, tkB, tkC]
    refine tkJ (i := 23) (oi := ⟨some 28, .fieldAddr 37 (.tmp 3) 0, 0, _, #[⟨20, .guard⟩], some (20, true)⟩) ?_
    try simp only [Act.put, tkA, tkB, tkC]
    refine tkJ (i := 24) (oi := ⟨some 29, .load 3 (.tmp 28), 3, _, #[⟨23, .data⟩, ⟨20, .guard⟩], some (20, true)⟩) ?_
    try simp only [Act.put, tkA, tkB, tkC]
    refine tkJ (i := 25) (oi := ⟨some 30, .fieldAddr 37 (.tmp 2) 0, 0, _, #[⟨20, .guard⟩], some (20, true)⟩) ?_
    try simp only [Act.put, tkA, tkB, tkC]
    refine tkJ (i := 26) (oi := ⟨some 31, .load 3 (.tmp 30), 3, _, #[⟨25, .data⟩, ⟨20, .guard⟩], some (20, true)⟩) ?_
    try simp only [Act.put, tkA, tkB, tkC]
    refine tkJ (i := 27) (oi := ⟨some 32, .binOp .quo 3 (.tmp 29) (.tmp 31) 3, 3, _, #[⟨24, .data⟩, ⟨26, .data⟩, ⟨20, .guard⟩], some (20, true)⟩) ?_
    try simp only [Act.put, tkA, tkB, tkC]
    refine tkJ (i := 28) (oi := ⟨some 33, .binOp .geq 3 (.tmp 27) (.tmp 32) 3, 4, _, #[⟨22, .data⟩, ⟨27, .data⟩, ⟨20, .guard⟩], some (20, true)⟩) ?_
    try simp only [Act.put, tkA, tkB, tkC]
    refine tkI (i := 29) (oi := ⟨some 34, .pick (.tmp 25) (.tmp 33) (.const (Value.bool false)), 4, _, #[⟨20, .data⟩, ⟨28, .data⟩], none⟩) ?_
    try simp only [Act.put, tkA, tkB, tkC]
    refine tkI (i := 30) (oi := ⟨some 4, .assign (.tmp 34), 4, _, #[⟨29, .data⟩, ⟨20, .chain⟩, ⟨0, .phase⟩, ⟨1, .phase⟩, ⟨2, .phase⟩, ⟨3, .phase⟩, ⟨4, .phase⟩, ⟨5, .phase⟩, ⟨6, .phase⟩, ⟨7, .phase⟩, ⟨8, .phase⟩, ⟨9, .phase⟩, ⟨10, .phase⟩, ⟨11, .phase⟩, ⟨12, .phase⟩, ⟨13, .phase⟩, ⟨14, .phase⟩, ⟨15, .phase⟩, ⟨16, .phase⟩, ⟨17, .phase⟩, ⟨18, .phase⟩, ⟨19, .phase⟩, ⟨20, .phase⟩, ⟨21, .phase⟩, ⟨22, .phase⟩, ⟨23, .phase⟩, ⟨24, .phase⟩, ⟨25, .phase⟩, ⟨26, .phase⟩, ⟨27, .phase⟩, ⟨28, .phase⟩, ⟨29, .phase⟩], none⟩) ?_
    try simp only [Act.put, tkA, tkB, tkC]
    refine wpAnyH_done (by kernel_rfl) ?_ _
    go_wp2
    go_ret
    exact ⟨ret_bool HE.out.symm, below_two0 hb1 hb2⟩
  case pos =>
    have HE := hid (show fitB s k s' k' = decide (s' / s ≤ k) by rw [HF.out]; exact decide_eq_decide.2 ⟨fun h => h.2.2.2, fun h => ⟨t1, t2, t3, h⟩⟩)
    have n2 : ¬ s = 0 := by omega
    have m1 : s'.tmod s = s' % s := IntWalk.rem_in _ _ (by omega)
    have m2 : IntKind.i64.wrap (s'.tdiv s) = s' / s := IntWalk.i64_quo _ _ ⟨by omega, by omega, b1⟩
    have g1 : decide (s < s') = true := by simpa using t1
    have g2 : (s' % s == 0) = true := by simpa using t2
    have g3 : decide (r0 < r1) = true := by simpa using t3
    clear t2 t3
    go_enter Tryz.func94, Tryz.ntmps94
    go_wp2_with fail
    refine wp_region_held_drew (S := (fun w' => w'.cell? ⟨w.heap.size, 0, none⟩ = some (i64 s) ∧ w'.cell? ⟨w.heap.size, 1, none⟩ = some (i64 k) ∧ w'.cell? ⟨w.heap.size + 1, 0, none⟩ = some (i64 s') ∧ w'.cell? ⟨w.heap.size + 1, 1, none⟩ = some (i64 k'))) (by kernel_rfl) ?_ (fun hHeld => ?_)
    · go_keep
    refine tkI (i := 0) (oi := ⟨some 5, .fieldAddr 37 (.tmp 2) 0, 0, _, #[], none⟩) ?_
    try simp only [Act.put, tkA, tkB, tkC]
    refine tkI (i := 1) (oi := ⟨some 6, .load 3 (.tmp 5), 3, _, #[⟨0, .data⟩], none⟩) ?_
    try simp only [Act.put, tkA, tkB, tkC]
    refine tkI (i := 2) (oi := ⟨some 7, .fieldAddr 37 (.tmp 3) 0, 0, _, #[], none⟩) ?_
    try simp only [Act.put, tkA, tkB, tkC]
    refine tkI (i := 3) (oi := ⟨some 8, .load 3 (.tmp 7), 3, _, #[⟨2, .data⟩], none⟩) ?_
    try simp only [Act.put, tkA, tkB, tkC]
    refine tkI (i := 4) (oi := ⟨some 9, .binOp .lss 3 (.tmp 6) (.tmp 8) 3, 4, _, #[⟨1, .data⟩, ⟨3, .data⟩], none⟩) ?_
    try simp only [Act.put, tkA, tkB, tkC]
    refine tkI (i := 5) (oi := ⟨some 10, .move (.tmp 9), 4, _, #[⟨4, .data⟩], none⟩) ?_
    try simp only [Act.put, tkA, tkB, tkC]
    refine tkI (i := 6) (oi := ⟨some 11, .fieldAddr 37 (.tmp 3) 0, 0, _, #[⟨5, .guard⟩], some (5, true)⟩) ?_
    try simp only [Act.put, tkA, tkB, tkC]
    refine tkI (i := 7) (oi := ⟨some 12, .load 3 (.tmp 11), 3, _, #[⟨6, .data⟩, ⟨5, .guard⟩], some (5, true)⟩) ?_
    try simp only [Act.put, tkA, tkB, tkC]
    refine tkI (i := 8) (oi := ⟨some 13, .fieldAddr 37 (.tmp 2) 0, 0, _, #[⟨5, .guard⟩], some (5, true)⟩) ?_
    try simp only [Act.put, tkA, tkB, tkC]
    refine tkI (i := 9) (oi := ⟨some 14, .load 3 (.tmp 13), 3, _, #[⟨8, .data⟩, ⟨5, .guard⟩], some (5, true)⟩) ?_
    try simp only [Act.put, tkA, tkB, tkC]
    refine tkI (i := 10) (oi := ⟨some 15, .binOp .rem 3 (.tmp 12) (.tmp 14) 3, 3, _, #[⟨7, .data⟩, ⟨9, .data⟩, ⟨5, .guard⟩], some (5, true)⟩) ?_
    try simp only [Act.put, tkA, tkB, tkC]
    refine tkI (i := 11) (oi := ⟨some 16, .binOp .eql 3 (.tmp 15) (.const (Value.int .i64 0)) 3, 4, _, #[⟨10, .data⟩, ⟨5, .guard⟩], some (5, true)⟩) ?_
    try simp only [Act.put, tkA, tkB, tkC]
    refine tkI (i := 12) (oi := ⟨some 17, .pick (.tmp 10) (.tmp 16) (.const (Value.bool false)), 4, _, #[⟨5, .data⟩, ⟨11, .data⟩], none⟩) ?_
    try simp only [Act.put, tkA, tkB, tkC]
    refine tkI (i := 13) (oi := ⟨some 18, .move (.tmp 17), 4, _, #[⟨12, .data⟩, ⟨5, .chain⟩], none⟩) ?_
    try simp only [Act.put, tkA, tkB, tkC]
    refine tkI (i := 14) (oi := ⟨some 19, .load 37 (.tmp 2), 37, _, #[⟨13, .guard⟩], some (13, true)⟩) ?_
    try simp only [Act.put, tkA, tkB, tkC]
    refine tkI (i := 16) (oi := ⟨some 21, .load 37 (.tmp 3), 37, _, #[⟨13, .guard⟩], some (13, true)⟩) ?_
    try simp only [Act.put, tkA, tkB, tkC]
    refine wpAnyH_ready (rs := [15]) (by kernel_rfl) (by simp) ?_
    refine AllReadyH.cons rfl (fun K hK => ?_) AllReadyH.nil
    go_simp
    go_wp2_with ((go_at_call 107; refine (creach_val s k r0 _ HR0 p1 p2).mono ?_; rintro e w1 ⟨rfl, hb1⟩))
    refine hK.out _ _ ?_ (fun hHeld => ?_)
    · refine ⟨?_, ?_, ?_, ?_⟩ <;> exact cell_later hb1 (by simp [*])
    clear hK K
    refine wpAnyH_ready (rs := [17]) (by kernel_rfl) (by simp) ?_
    refine AllReadyH.cons rfl (fun K hK => ?_) AllReadyH.nil
    go_simp
    go_wp2_with ((go_at_call 107; refine (creach_val s' k' r1 _ HR1 p3 p4).mono ?_; rintro e w2 ⟨rfl, hb2⟩))
    refine hK.out _ _ ?_ (fun hHeld => ?_)
    · refine ⟨?_, ?_, ?_, ?_⟩ <;> exact cell_later hb2 (by simp [*])
    clear hK K
    refine tkI (i := 18) (oi := ⟨some 23, .binOp .lss 3 (.tmp 20) (.tmp 22) 3, 4, _, #[⟨15, .data⟩, ⟨17, .data⟩, ⟨13, .guard⟩], some (13, true)⟩) ?_
    try simp only [Act.put, tkA, tkB, tkC]
    refine tkI (i := 19) (oi := ⟨some 24, .pick (.tmp 18) (.tmp 23) (.const (Value.bool false)), 4, _, #[⟨13, .data⟩, ⟨18, .data⟩], none⟩) ?_
    try simp only [Act.put, tkA, tkB, tkC]
    refine tkI (i := 20) (oi := ⟨some 25, .move (.tmp 24), 4, _, #[⟨19, .data⟩, ⟨17, .chain⟩], none⟩) ?_
    try simp only [Act.put, tkA, tkB, tkC]
    refine tkI (i := 21) (oi := ⟨some 26, .fieldAddr 37 (.tmp 2) 1, 0, _, #[⟨20, .guard⟩], some (20, true)⟩) ?_
    try simp only [Act.put, tkA, tkB, tkC]
    refine tkI (i := 22) (oi := ⟨some 27, .load 3 (.tmp 26), 3, _, #[⟨21, .data⟩, ⟨20, .guard⟩], some (20, true)⟩) ?_
    try simp only [Act.put, tkA, tkB, tkC]
    refine tkI (i := 23) (oi := ⟨some 28, .fieldAddr 37 (.tmp 3) 0, 0, _, #[⟨20, .guard⟩], some (20, true)⟩) ?_
    try simp only [Act.put, tkA, tkB, tkC]
    refine tkI (i := 24) (oi := ⟨some 29, .load 3 (.tmp 28), 3, _, #[⟨23, .data⟩, ⟨20, .guard⟩], some (20, true)⟩) ?_
    try simp only [Act.put, tkA, tkB, tkC]
    refine tkI (i := 25) (oi := ⟨some 30, .fieldAddr 37 (.tmp 2) 0, 0, _, #[⟨20, .guard⟩], some (20, true)⟩) ?_
    try simp only [Act.put, tkA, tkB, tkC]
    refine tkI (i := 26) (oi := ⟨some 31, .load 3 (.tmp 30), 3, _, #[⟨25, .data⟩, ⟨20, .guard⟩], some (20, true)⟩) ?_
    try simp only [Act.put, tkA, tkB, tkC]
    refine tkI (i := 27) (oi := ⟨some 32, .binOp .quo 3 (.tmp 29) (.tmp 31) 3, 3, _, #[⟨24, .data⟩, ⟨26, .data⟩, ⟨20, .guard⟩], some (20, true)⟩) ?_
    try simp only [Act.put, tkA, tkB, tkC]
    refine tkI (i := 28) (oi := ⟨some 33, .binOp .geq 3 (.tmp 27) (.tmp 32) 3, 4, _, #[⟨22, .data⟩, ⟨27, .data⟩, ⟨20, .guard⟩], some (20, true)⟩) ?_
    try simp only [Act.put, tkA, tkB, tkC]
    refine tkI (i := 29) (oi := ⟨some 34, .pick (.tmp 25) (.tmp 33) (.const (Value.bool false)), 4, _, #[⟨20, .data⟩, ⟨28, .data⟩], none⟩) ?_
    try simp only [Act.put, tkA, tkB, tkC]
    refine tkI (i := 30) (oi := ⟨some 4, .assign (.tmp 34), 4, _, #[⟨29, .data⟩, ⟨20, .chain⟩, ⟨0, .phase⟩, ⟨1, .phase⟩, ⟨2, .phase⟩, ⟨3, .phase⟩, ⟨4, .phase⟩, ⟨5, .phase⟩, ⟨6, .phase⟩, ⟨7, .phase⟩, ⟨8, .phase⟩, ⟨9, .phase⟩, ⟨10, .phase⟩, ⟨11, .phase⟩, ⟨12, .phase⟩, ⟨13, .phase⟩, ⟨14, .phase⟩, ⟨15, .phase⟩, ⟨16, .phase⟩, ⟨17, .phase⟩, ⟨18, .phase⟩, ⟨19, .phase⟩, ⟨20, .phase⟩, ⟨21, .phase⟩, ⟨22, .phase⟩, ⟨23, .phase⟩, ⟨24, .phase⟩, ⟨25, .phase⟩, ⟨26, .phase⟩, ⟨27, .phase⟩, ⟨28, .phase⟩, ⟨29, .phase⟩], none⟩) ?_
    try simp only [Act.put, tkA, tkB, tkC]
    refine wpAnyH_done (by kernel_rfl) ?_ _
    go_wp2
    go_ret
    exact ⟨ret_bool HE.out.symm, below_two0 hb1 hb2⟩
end Go.Proofs.YthbbfjfekchdiaaGreat
namespace Go.Proofs.YthbbfjfekchdiaaGreat
open Go.RowKit
attribute [local go_sem] Go.wp_at_zero Go.wp_at_succ
set_option maxHeartbeats 2000000 in
theorem allfit_any (c : Cfg) (n b : Nat) (w : World) (h1n : 1 ≤ n) (hn : n ≤ 4) (hbox : Box w b c) (hbd : Hid (∀ i, i < n → c.Bd i)) :
    Calls Tryz.prog 76 #[.slice (some ⟨b, 0, none⟩) n 4] w fun e w' => e = .returned (.bool (ftB c n)) ∧ Below w.heap.size w w' := by
  go_enter Tryz.func76, Tryz.ntmps76
  go_wp2
  go_loopw [3] (fun i wr => ∃ k : Nat, 1 ≤ k ∧ k ≤ n ∧ i = i64 k ∧ (∀ i, i + 1 < k → c.Ft i) ∧ Below w.heap.size w wr) (fun i _ => n - (intOf i).toNat)
  case atStart => exact ⟨1, by omega, by omega, rfl, fun i h => absurd h (by omega), Below.refl _ _⟩
  case round =>
    obtain ⟨k, hk1, hk, rfl, hz, hb0⟩ := hrel
    have HZ := hid hz
    have HB := hid hb0
    have hs := hb0.size
    obtain ⟨c0, c1, c2, c3, c4, c5, c6, c7, _, _⟩ := hbox.later hb0
    clear hz hb0 hbox
    by_cases hlt : k < n
    case neg =>
      go_wp2
      go_ret
      exact ⟨ret_bool' (ft_yes HZ.out (by omega)).symm, HB.out⟩
    have h5 : k = 1 ∨ k = 2 ∨ k = 3 := by omega
    rcases h5 with rfl | rfl | rfl
    · have HB0 := hid (hbd.out 0 (by omega))
      have HB1 := hid (hbd.out 1 (by omega))
      obtain ⟨b1, b2, b3, b4⟩ := (show 1 ≤ c.s0 ∧ c.s0 ≤ 86400 ∧ 1 ≤ c.k0 ∧ c.k0 ≤ 60 from HB0.out)
      obtain ⟨e1, e2, e3, e4⟩ := (show 1 ≤ c.s1 ∧ c.s1 ≤ 86400 ∧ 1 ≤ c.k1 ∧ c.k1 ≤ 60 from HB1.out)
      obtain ⟨p1, p2⟩ := (show 0 ≤ c.s0 * c.k0 ∧ c.s0 * c.k0 ≤ 1000000000 from Cfg.prod_bd HB0.out)
      obtain ⟨p3, p4⟩ := (show 0 ≤ c.s1 * c.k1 ∧ c.s1 * c.k1 ≤ 1000000000 from Cfg.prod_bd HB1.out)
      have i1 : (0 : Int) < (n : Int) := by omega
      have i0 : 0 < n := by omega
      have x1 : IntKind.i64.wrap (((1 : Nat) : Int) - 1) = 0 := by decide
      have x2 : IntKind.i64.wrap (1 - 1) = 0 := by decide
      have x3 : IntKind.i64.wrap 0 = 0 := by decide
      have i2 : (1 : Int) < (n : Int) := by omega
      by_cases hF : c.Ft 0
      · have HFt := hid hF
        have hfb : fitB c.s0 c.k0 c.s1 c.k1 = true := decide_eq_true hF
        clear hF
        go_wp2_with fail
        go_region_held3 (fun w' => w'.cell? ⟨b, 0, none⟩ = some (i64 c.s0) ∧ w'.cell? ⟨b, 1, none⟩ = some (i64 c.k0) ∧ w'.cell? ⟨b, 2, none⟩ = some (i64 c.s1) ∧ w'.cell? ⟨b, 3, none⟩ = some (i64 c.k1)) (first | go_keep | (refine ⟨?_, ?_, ?_, ?_⟩ <;> exact cell_later hb (by simp [*]))) ((go_at_call 94; refine (fit_any c.s0 c.k0 c.s1 c.k1 _ b1 b2 e1 e2 p1 p2 p3 p4).mono ?_; rintro e w' ⟨rfl, hb⟩))
        go_wp2
        go_roundw
        case rel => first | exact ⟨2, by omega, by omega, by first | rfl | go_num, ft_next (j := 0) HZ.out HFt.out, HB.out.drew.trans (hb.mono hs)⟩ | ((repeat apply Exists.intro); exact ⟨⟨2, by omega, by omega, by first | rfl | go_num, ft_next (j := 0) HZ.out HFt.out, HB.out.drew.trans (hb.mono hs)⟩, rfl⟩)
        case measure => simp [intOf]; omega
      · have HE := hid (ft_no (n := n) (i := 0) (by omega) hF)
        have hfb : fitB c.s0 c.k0 c.s1 c.k1 = false := decide_eq_false hF
        clear hF
        go_wp2_with fail
        go_region_held3 (fun w' => w'.cell? ⟨b, 0, none⟩ = some (i64 c.s0) ∧ w'.cell? ⟨b, 1, none⟩ = some (i64 c.k0) ∧ w'.cell? ⟨b, 2, none⟩ = some (i64 c.s1) ∧ w'.cell? ⟨b, 3, none⟩ = some (i64 c.k1)) (first | go_keep | (refine ⟨?_, ?_, ?_, ?_⟩ <;> exact cell_later hb (by simp [*]))) ((go_at_call 94; refine (fit_any c.s0 c.k0 c.s1 c.k1 _ b1 b2 e1 e2 p1 p2 p3 p4).mono ?_; rintro e w' ⟨rfl, hb⟩))
        go_wp2
        go_ret
        exact ⟨ret_bool' HE.out.symm, HB.out.drew.trans (hb.mono hs)⟩
    · have HB0 := hid (hbd.out 1 (by omega))
      have HB1 := hid (hbd.out 2 (by omega))
      obtain ⟨b1, b2, b3, b4⟩ := (show 1 ≤ c.s1 ∧ c.s1 ≤ 86400 ∧ 1 ≤ c.k1 ∧ c.k1 ≤ 60 from HB0.out)
      obtain ⟨e1, e2, e3, e4⟩ := (show 1 ≤ c.s2 ∧ c.s2 ≤ 86400 ∧ 1 ≤ c.k2 ∧ c.k2 ≤ 60 from HB1.out)
      obtain ⟨p1, p2⟩ := (show 0 ≤ c.s1 * c.k1 ∧ c.s1 * c.k1 ≤ 1000000000 from Cfg.prod_bd HB0.out)
      obtain ⟨p3, p4⟩ := (show 0 ≤ c.s2 * c.k2 ∧ c.s2 * c.k2 ≤ 1000000000 from Cfg.prod_bd HB1.out)
      have i1 : (1 : Int) < (n : Int) := by omega
      have i0 : 1 < n := by omega
      have x1 : IntKind.i64.wrap (((2 : Nat) : Int) - 1) = 1 := by decide
      have x2 : IntKind.i64.wrap (2 - 1) = 1 := by decide
      have x3 : IntKind.i64.wrap 1 = 1 := by decide
      have i2 : (2 : Int) < (n : Int) := by omega
      by_cases hF : c.Ft 1
      · have HFt := hid hF
        have hfb : fitB c.s1 c.k1 c.s2 c.k2 = true := decide_eq_true hF
        clear hF
        go_wp2_with fail
        go_region_held3 (fun w' => w'.cell? ⟨b, 2, none⟩ = some (i64 c.s1) ∧ w'.cell? ⟨b, 3, none⟩ = some (i64 c.k1) ∧ w'.cell? ⟨b, 4, none⟩ = some (i64 c.s2) ∧ w'.cell? ⟨b, 5, none⟩ = some (i64 c.k2)) (first | go_keep | (refine ⟨?_, ?_, ?_, ?_⟩ <;> exact cell_later hb (by simp [*]))) ((go_at_call 94; refine (fit_any c.s1 c.k1 c.s2 c.k2 _ b1 b2 e1 e2 p1 p2 p3 p4).mono ?_; rintro e w' ⟨rfl, hb⟩))
        go_wp2
        go_roundw
        case rel => first | exact ⟨3, by omega, by omega, by first | rfl | go_num, ft_next (j := 1) HZ.out HFt.out, HB.out.drew.trans (hb.mono hs)⟩ | ((repeat apply Exists.intro); exact ⟨⟨3, by omega, by omega, by first | rfl | go_num, ft_next (j := 1) HZ.out HFt.out, HB.out.drew.trans (hb.mono hs)⟩, rfl⟩)
        case measure => simp [intOf]; omega
      · have HE := hid (ft_no (n := n) (i := 1) (by omega) hF)
        have hfb : fitB c.s1 c.k1 c.s2 c.k2 = false := decide_eq_false hF
        clear hF
        go_wp2_with fail
        go_region_held3 (fun w' => w'.cell? ⟨b, 2, none⟩ = some (i64 c.s1) ∧ w'.cell? ⟨b, 3, none⟩ = some (i64 c.k1) ∧ w'.cell? ⟨b, 4, none⟩ = some (i64 c.s2) ∧ w'.cell? ⟨b, 5, none⟩ = some (i64 c.k2)) (first | go_keep | (refine ⟨?_, ?_, ?_, ?_⟩ <;> exact cell_later hb (by simp [*]))) ((go_at_call 94; refine (fit_any c.s1 c.k1 c.s2 c.k2 _ b1 b2 e1 e2 p1 p2 p3 p4).mono ?_; rintro e w' ⟨rfl, hb⟩))
        go_wp2
        go_ret
        exact ⟨ret_bool' HE.out.symm, HB.out.drew.trans (hb.mono hs)⟩
    · have HB0 := hid (hbd.out 2 (by omega))
      have HB1 := hid (hbd.out 3 (by omega))
      obtain ⟨b1, b2, b3, b4⟩ := (show 1 ≤ c.s2 ∧ c.s2 ≤ 86400 ∧ 1 ≤ c.k2 ∧ c.k2 ≤ 60 from HB0.out)
      obtain ⟨e1, e2, e3, e4⟩ := (show 1 ≤ c.s3 ∧ c.s3 ≤ 86400 ∧ 1 ≤ c.k3 ∧ c.k3 ≤ 60 from HB1.out)
      obtain ⟨p1, p2⟩ := (show 0 ≤ c.s2 * c.k2 ∧ c.s2 * c.k2 ≤ 1000000000 from Cfg.prod_bd HB0.out)
      obtain ⟨p3, p4⟩ := (show 0 ≤ c.s3 * c.k3 ∧ c.s3 * c.k3 ≤ 1000000000 from Cfg.prod_bd HB1.out)
      have i1 : (2 : Int) < (n : Int) := by omega
      have i0 : 2 < n := by omega
      have x1 : IntKind.i64.wrap (((3 : Nat) : Int) - 1) = 2 := by decide
      have x2 : IntKind.i64.wrap (3 - 1) = 2 := by decide
      have x3 : IntKind.i64.wrap 2 = 2 := by decide
      have i2 : (3 : Int) < (n : Int) := by omega
      by_cases hF : c.Ft 2
      · have HFt := hid hF
        have hfb : fitB c.s2 c.k2 c.s3 c.k3 = true := decide_eq_true hF
        clear hF
        go_wp2_with fail
        go_region_held3 (fun w' => w'.cell? ⟨b, 4, none⟩ = some (i64 c.s2) ∧ w'.cell? ⟨b, 5, none⟩ = some (i64 c.k2) ∧ w'.cell? ⟨b, 6, none⟩ = some (i64 c.s3) ∧ w'.cell? ⟨b, 7, none⟩ = some (i64 c.k3)) (first | go_keep | (refine ⟨?_, ?_, ?_, ?_⟩ <;> exact cell_later hb (by simp [*]))) ((go_at_call 94; refine (fit_any c.s2 c.k2 c.s3 c.k3 _ b1 b2 e1 e2 p1 p2 p3 p4).mono ?_; rintro e w' ⟨rfl, hb⟩))
        go_wp2
        go_roundw
        case rel => first | exact ⟨4, by omega, by omega, by first | rfl | go_num, ft_next (j := 2) HZ.out HFt.out, HB.out.drew.trans (hb.mono hs)⟩ | ((repeat apply Exists.intro); exact ⟨⟨4, by omega, by omega, by first | rfl | go_num, ft_next (j := 2) HZ.out HFt.out, HB.out.drew.trans (hb.mono hs)⟩, rfl⟩)
        case measure => simp [intOf]; omega
      · have HE := hid (ft_no (n := n) (i := 2) (by omega) hF)
        have hfb : fitB c.s2 c.k2 c.s3 c.k3 = false := decide_eq_false hF
        clear hF
        go_wp2_with fail
        go_region_held3 (fun w' => w'.cell? ⟨b, 4, none⟩ = some (i64 c.s2) ∧ w'.cell? ⟨b, 5, none⟩ = some (i64 c.k2) ∧ w'.cell? ⟨b, 6, none⟩ = some (i64 c.s3) ∧ w'.cell? ⟨b, 7, none⟩ = some (i64 c.k3)) (first | go_keep | (refine ⟨?_, ?_, ?_, ?_⟩ <;> exact cell_later hb (by simp [*]))) ((go_at_call 94; refine (fit_any c.s2 c.k2 c.s3 c.k3 _ b1 b2 e1 e2 p1 p2 p3 p4).mono ?_; rintro e w' ⟨rfl, hb⟩))
        go_wp2
        go_ret
        exact ⟨ret_bool' HE.out.symm, HB.out.drew.trans (hb.mono hs)⟩
end Go.Proofs.YthbbfjfekchdiaaGreat
