import Derived.Test.YthbbfjfekchdiaaGreatXTk
import Derived.Test.YthbbfjfekchdiaaGreatXRRead
import Derived.Test.YthbbfjfekchdiaaGreatXRHas
import Derived.Deep.RegionHeld3
import Derived.Deep.DrawnRows
import Derived.Deep.DeepCutAuto
import Derived.Laws.BytesArg
namespace Go.Proofs.YthbbfjfekchdiaaGreat
open Go.RowKit
set_option linter.unusedSimpArgs false
attribute [local go_sem] Go.wp_at_zero Go.wp_at_succ
theorem strOfNums_append (a b : List Int) : strOfNums a ++ strOfNums b = strOfNums (a ++ b) := by
  apply ByteArray.ext
  unfold strOfNums
  rw [ByteArray.data_append, List.map_append]
  simp
set_option maxRecDepth 4000 in
set_option maxHeartbeats 2000000 in
theorem number_step (n : Int) (k : Nat) (w : World) (hk : k ≤ 7) (h0 : -9223372036854775808 ≤ n) (h1 : n ≤ 9223372036854775807)
    (IH : Hid (∀ w : World, Calls Tryz.prog 59 #[i64 (n / 256), i64 (k : Int)] w fun e w' => e = .returned (.string (strOfNums (numL (n / 256) k))) ∧ Below w.heap.size w w')) :
    Calls Tryz.prog 59 #[i64 n, i64 ((k : Int) + 1)] w fun e w' => e = .returned (.string (strOfNums (numL n (k + 1)))) ∧ Below w.heap.size w w' := by
  have hd0 : ((k : Int) + 1 == 0) = false := beq_eq_false_iff_ne.2 (by omega)
  have q0 : 0 ≤ n % 256 := Int.emod_nonneg _ (by omega)
  have q1 : n % 256 < 256 := Int.emod_lt_of_pos _ (by omega)
  go_enter Tryz.func59, Tryz.ntmps59
  go_upto_region 3 with fail
  go_cut [5] (fun z wx => z = i64 (n.tmod 256) ∧ wx = w)
  case first =>
    go_wp2
    go_meet
    exact ⟨rfl, rfl⟩
  case rest =>
  obtain ⟨rfl, hwc⟩ := hcut
  have hwc := hwc.symm
  subst hwc
  have HTM := hid (show (n.tmod 256 = n % 256) ∨ (n.tmod 256 = n % 256 - 256 ∧ n.tmod 256 < 0) from by
    rw [Int.tmod_eq_emod]
    split
    · exact .inl (by omega)
    · exact .inr ⟨by simp, by simp; omega⟩)
  have t1 : -257 < n.tmod 256 := by have := HTM.out; omega
  have t2 : n.tmod 256 < 256 := by have := HTM.out; omega
  go_upto_if 11 with fail
  go_cut [5] (fun z wx => z = i64 (n % 256) ∧ wx = w)
  case first =>
    go_wp2
    all_goals go_meet
    · exact ⟨congrArg i64 (by have := HTM.out; omega), rfl⟩
    · exact ⟨congrArg i64 (by have := HTM.out; omega), rfl⟩
  case rest =>
  obtain ⟨rfl, hwc⟩ := hcut
  have hwc := hwc.symm
  subst hwc
  obtain ⟨L, hL⟩ : ∃ L, L = n % 256 := ⟨_, rfl⟩
  have HL := hid hL
  rw [← hL] at q0 q1 ⊢
  have hdv : n - L = 256 * (n / 256) := by omega
  have HQ := hid (show (n - L).tdiv 256 = n / 256 by rw [hdv]; exact Int.mul_tdiv_cancel_left _ (by omega))
  have e0 : -9223372036854775808 ≤ n - L := by omega
  have e1 : n - L ≤ 9223372036854775807 := by omega
  clear hL hdv t1 t2
  go_upto_region 6 with fail
  refine wp_region_held_drew (S := (fun _ => True)) (by kernel_rfl) ?_ (fun hHeld => ?_)
  · go_keep
  have w1 : IntKind.i64.wrap (n - L) = n - L := IntWalk.i64_in _ ⟨by omega, by omega⟩
  have w2 : IntKind.i64.wrap ((n - L).tdiv 256) = n / 256 := by rw [HQ.out]; exact IntWalk.i64_in _ ⟨by omega, by omega⟩
  have w3 : IntKind.i64.wrap (k : Int) = (k : Int) := IntWalk.i64_in _ ⟨by omega, by omega⟩
  have w4 : IntKind.u8.wrap L = L := by
    simp [IntKind.wrap, IntKind.signed, IntKind.bits]
    omega
  refine tkI (i := 0) (oi := ⟨some 14, .move (.tmp 0), 3, _, #[], none⟩) ?_
  try simp only [Act.put, tkA, tkB, tkC]
  refine tkI (i := 1) (oi := ⟨some 15, .move (.tmp 5), 3, _, #[], none⟩) ?_
  try simp only [Act.put, tkA, tkB, tkC]
  refine tkI (i := 2) (oi := ⟨some 16, .binOp .sub 3 (.tmp 14) (.tmp 15) 3, 3, _, #[⟨0, .data⟩, ⟨1, .data⟩], none⟩) ?_
  try simp only [Act.put, tkA, tkB, tkC]
  refine tkI (i := 3) (oi := ⟨some 17, .binOp .quo 3 (.tmp 16) (.const (Value.int .i64 256)) 3, 3, _, #[⟨2, .data⟩], none⟩) ?_
  try simp only [Act.put, tkA, tkB, tkC]
  refine tkI (i := 4) (oi := ⟨some 18, .move (.tmp 1), 3, _, #[], none⟩) ?_
  try simp only [Act.put, tkA, tkB, tkC]
  refine tkI (i := 5) (oi := ⟨some 19, .binOp .sub 3 (.tmp 18) (.const (Value.int .i64 1)) 3, 3, _, #[⟨4, .data⟩], none⟩) ?_
  try simp only [Act.put, tkA, tkB, tkC]
  refine tkI (i := 7) (oi := ⟨some 21, .move (.tmp 5), 3, _, #[], none⟩) ?_
  try simp only [Act.put, tkA, tkB, tkC]
  refine tkI (i := 8) (oi := ⟨some 22, .convert 3 5 (.tmp 21), 5, _, #[⟨7, .data⟩], none⟩) ?_
  try simp only [Act.put, tkA, tkB, tkC]
  have hsz : ¬ 9223372036854775807 < (strOfNums (numL (n / 256) k)).size + (strOfNums [L]).size := by
    rw [strOfNums_size, strOfNums_size, numL_len]
    simp
    omega
  refine wpAnyH_ready (rs := [6, 9]) (by kernel_rfl) (by simp) ?_
  refine AllReadyH.cons rfl (fun K' hK => ?_) (AllReadyH.cons rfl (fun K' hK => ?_) AllReadyH.nil)
  · go_simp
    go_wp2_with (go_at_call 59; refine (IH.out _).mono ?_; rintro e w1 ⟨rfl, hb1⟩)
    refine hK.out _ _ trivial (fun hHeld => ?_)
    clear hK K'
    have HB1 := hid (show Below w.heap.size w (w1.alloc (.cells #[.int .u8 L] 5)) from (((Below.refl _ w).drew).trans hb1).alloc (by have := hb1.size; exact this) _)
    have hcv := run_convert_bytes_arg (P := Tryz.prog) (w1.alloc (.cells #[.int .u8 L] 5)) 57 5 Tryz.underlying57 Tryz.underlying5 w1.heap.size 0 1 1 [L] rfl (fun i hi => by
      have e : i = 0 := by omega
      subst e
      rw [cell_of_blk (blk_new w1 _)]
      rfl) 9 Tryz.underlying9
    clear hb1
    refine wpAnyH_ready (rs := [9]) (by kernel_rfl) (by simp) ?_
    refine AllReadyH.cons rfl (fun K' hK => ?_) AllReadyH.nil
    go_simp
    refine hK.out _ _ trivial (fun hHeld => ?_)
    clear hK K'
    refine wpAnyH_ready (rs := [10]) (by kernel_rfl) (by simp) ?_
    refine AllReadyH.cons rfl (fun K' hK => ?_) AllReadyH.nil
    go_simp
    refine hK.out _ _ trivial (fun hHeld => ?_)
    clear hK K'
    refine tkI (i := 11) (oi := ⟨some 25, .binOp .add 9 (.tmp 20) (.tmp 24) 9, 9, _, #[⟨6, .data⟩, ⟨10, .data⟩], none⟩) ?_
    try simp only [Act.put, tkA, tkB, tkC]
    refine tkI (i := 12) (oi := ⟨some 4, .assign (.tmp 25), 9, _, #[⟨11, .data⟩, ⟨6, .chain⟩, ⟨0, .phase⟩, ⟨1, .phase⟩, ⟨2, .phase⟩, ⟨3, .phase⟩, ⟨4, .phase⟩, ⟨5, .phase⟩, ⟨6, .phase⟩, ⟨7, .phase⟩, ⟨8, .phase⟩, ⟨9, .phase⟩, ⟨10, .phase⟩, ⟨11, .phase⟩], none⟩) ?_
    try simp only [Act.put, tkA, tkB, tkC]
    refine wpAnyH_done (by kernel_rfl) ?_ _
    go_wp2
    go_ret
    exact ⟨by rw [strOfNums_append, HL.out]; rfl, HB1.out⟩
  · go_simp
    refine hK.out _ _ trivial (fun hHeld => ?_)
    clear hK K'
    have HBA := hid (show Below w.heap.size w (w.alloc (.cells #[.int .u8 L] 5)) from (Below.refl _ w).alloc (Nat.le_refl _) _)
    have hcl : (w.alloc (.cells #[.int .u8 L] 5)).cell? ⟨w.heap.size, 0, none⟩ = some (.int .u8 L) := cell_of_blk (blk_new w _) 0
    have HCL := hid hcl
    clear hcl
    refine wpAnyH_ready (rs := [6, 10]) (by kernel_rfl) (by simp) ?_
    refine AllReadyH.cons rfl (fun K' hK => ?_) (AllReadyH.cons rfl (fun K' hK => ?_) AllReadyH.nil)
    · go_simp
      go_wp2_with (go_at_call 59; refine (IH.out _).mono ?_; rintro e w1 ⟨rfl, hb1⟩)
      refine hK.out _ _ trivial (fun hHeld => ?_)
      clear hK K'
      have HB1 := hid (show Below w.heap.size w w1 from (HBA.out.drew).trans (hb1.mono (by show w.heap.size ≤ (w.alloc _).heap.size; simp)))
      have hcv := run_convert_bytes_arg (P := Tryz.prog) w1 57 5 Tryz.underlying57 Tryz.underlying5 w.heap.size 0 1 1 [L] rfl (fun i hi => by
        have e : i = 0 := by omega
        subst e
        exact cell_later hb1 HCL.out) 9 Tryz.underlying9
      clear hb1
      refine wpAnyH_ready (rs := [10]) (by kernel_rfl) (by simp) ?_
      refine AllReadyH.cons rfl (fun K' hK => ?_) AllReadyH.nil
      go_simp
      refine hK.out _ _ trivial (fun hHeld => ?_)
      clear hK K'
      refine tkI (i := 11) (oi := ⟨some 25, .binOp .add 9 (.tmp 20) (.tmp 24) 9, 9, _, #[⟨6, .data⟩, ⟨10, .data⟩], none⟩) ?_
      try simp only [Act.put, tkA, tkB, tkC]
      refine tkI (i := 12) (oi := ⟨some 4, .assign (.tmp 25), 9, _, #[⟨11, .data⟩, ⟨6, .chain⟩, ⟨0, .phase⟩, ⟨1, .phase⟩, ⟨2, .phase⟩, ⟨3, .phase⟩, ⟨4, .phase⟩, ⟨5, .phase⟩, ⟨6, .phase⟩, ⟨7, .phase⟩, ⟨8, .phase⟩, ⟨9, .phase⟩, ⟨10, .phase⟩, ⟨11, .phase⟩], none⟩) ?_
      try simp only [Act.put, tkA, tkB, tkC]
      refine wpAnyH_done (by kernel_rfl) ?_ _
      go_wp2
      go_ret
      exact ⟨by rw [strOfNums_append, HL.out]; rfl, HB1.out⟩
    · have hcv := run_convert_bytes_arg (P := Tryz.prog) (w.alloc (.cells #[.int .u8 L] 5)).drew 57 5 Tryz.underlying57 Tryz.underlying5 w.heap.size 0 1 1 [L] rfl (fun i hi => by
        have e : i = 0 := by omega
        subst e
        exact HCL.out) 9 Tryz.underlying9
      go_simp
      refine hK.out _ _ trivial (fun hHeld => ?_)
      clear hK K' hcv
      refine wpAnyH_ready (rs := [6]) (by kernel_rfl) (by simp) ?_
      refine AllReadyH.cons rfl (fun K' hK => ?_) AllReadyH.nil
      go_simp
      go_wp2_with (go_at_call 59; refine (IH.out _).mono ?_; rintro e w1 ⟨rfl, hb1⟩)
      refine hK.out _ _ trivial (fun hHeld => ?_)
      clear hK K'
      have HB1 := hid (show Below w.heap.size w w1 from (HBA.out.drew).trans (hb1.mono (by show w.heap.size ≤ (w.alloc _).heap.size; simp)))
      clear hb1
      refine tkI (i := 11) (oi := ⟨some 25, .binOp .add 9 (.tmp 20) (.tmp 24) 9, 9, _, #[⟨6, .data⟩, ⟨10, .data⟩], none⟩) ?_
      try simp only [Act.put, tkA, tkB, tkC]
      refine tkI (i := 12) (oi := ⟨some 4, .assign (.tmp 25), 9, _, #[⟨11, .data⟩, ⟨6, .chain⟩, ⟨0, .phase⟩, ⟨1, .phase⟩, ⟨2, .phase⟩, ⟨3, .phase⟩, ⟨4, .phase⟩, ⟨5, .phase⟩, ⟨6, .phase⟩, ⟨7, .phase⟩, ⟨8, .phase⟩, ⟨9, .phase⟩, ⟨10, .phase⟩, ⟨11, .phase⟩], none⟩) ?_
      try simp only [Act.put, tkA, tkB, tkC]
      refine wpAnyH_done (by kernel_rfl) ?_ _
      go_wp2
      go_ret
      exact ⟨by rw [strOfNums_append, HL.out]; rfl, HB1.out⟩
set_option maxHeartbeats 1000000 in
theorem number_zero (n : Int) (w : World) :
    Calls Tryz.prog 59 #[i64 n, i64 0] w fun e w' => e = .returned (.string (strOfNums (numL n 0))) ∧ Below w.heap.size w w' := by
  go_enter Tryz.func59, Tryz.ntmps59
  go_wp2
  go_ret
  exact ⟨rfl, Below.refl _ _⟩
theorem numref_any : ∀ (k : Nat) (n : Int) (w : World), k ≤ 8 → -9223372036854775808 ≤ n → n ≤ 9223372036854775807 →
    Calls Tryz.prog 59 #[i64 n, i64 (k : Int)] w fun e w' => e = .returned (.string (strOfNums (numL n k))) ∧ Below w.heap.size w w'
  | 0, n, w, _, _, _ => number_zero n w
  | k + 1, n, w, hk, h0, h1 => by
    have e : ((k + 1 : Nat) : Int) = (k : Int) + 1 := by omega
    rw [e]
    exact number_step n k w (by omega) h0 h1 (hid fun w => numref_any k (n / 256) w (by omega) (by omega) (by omega))
end Go.Proofs.YthbbfjfekchdiaaGreat
