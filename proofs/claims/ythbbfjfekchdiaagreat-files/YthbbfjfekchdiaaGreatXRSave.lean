import Derived.Test.YthbbfjfekchdiaaGreatXTk
import Derived.Test.YthbbfjfekchdiaaGreatXRRead
import Derived.Test.YthbbfjfekchdiaaGreatXRNumber
import Derived.Test.YthbbfjfekchdiaaGreatXCGood
namespace Go.Proofs.YthbbfjfekchdiaaGreat
open Go.RowKit
set_option linter.unusedSimpArgs false
attribute [local go_sem] Go.wp_at_zero Go.wp_at_succ
theorem sun_str : (ByteArray.mk #[83, 85, 78]) = strOfNums [83, 85, 78] := rfl
set_option maxRecDepth 4000 in
set_option maxHeartbeats 4000000 in
theorem save_ref (p : Nat) (d : RDb) (In : Nat → Prop) (w : World) (hrep : RRep w In p d) (hd : d.Ok) :
    Calls Tryz.prog 32 #[.pointer (some ⟨p, 0, none⟩)] w fun e w' => e = .returned (.string (strOfNums (saveL d))) ∧ Below w.heap.size w w' := by
  have HREP := hid hrep
  have HD := hid hd
  obtain ⟨ip, gl, vs, hp, hg, hs, ig, hr⟩ := hrep
  have h4 := d.c.many_le
  obtain ⟨⟨hm0, hm1⟩, ⟨hf0, hf1⟩, hn1, _, hbd, _⟩ := d.c.ok_iff.1 hd.cfg
  have HBD := hid (bdB_all hbd)
  have HCC := hid (fun i (hi : i < 4) => cfg_cell hp i hi)
  have x10 : w.cell? ⟨p, 10, none⟩ = some (.slice (some ⟨gl, 0, none⟩) d.c.many d.c.many) := cell_of_blk hp 10
  have x8 : w.cell? ⟨p, 8, none⟩ = some (i64 d.c.m) := cell_of_blk hp 8
  have x9 : w.cell? ⟨p, 9, none⟩ = some (i64 d.c.f) := cell_of_blk hp 9
  have hpz : p < w.heap.size := blk_lt hp
  have HLEN := hid hd.len
  clear hp hg hs ip ig hr hbd hd
  obtain ⟨n, hn⟩ : ∃ n, n = d.c.many := ⟨_, rfl⟩
  obtain ⟨m, hm⟩ : ∃ m, m = d.c.m := ⟨_, rfl⟩
  obtain ⟨f, hf⟩ : ∃ f, f = d.c.f := ⟨_, rfl⟩
  rw [← hn] at h4 x10 hn1
  rw [← hm] at hm0 hm1 x8
  rw [← hf] at hf0 hf1 x9
  have HN := hid hn
  have HM := hid hm
  have HF := hid hf
  clear hn hm hf
  go_enter Tryz.func32, Tryz.ntmps32
  go_upto_region 2 with fail
  refine wp_region_held_drew (S := (fun w' => w'.cell? ⟨p, 8, none⟩ = some (i64 m) ∧ w'.cell? ⟨p, 9, none⟩ = some (i64 f))) (by kernel_rfl) ?_ (fun hHeld => ?_)
  · go_keep
  refine tkI (i := 2) (oi := ⟨some 17, .move (.tmp 0), 51, _, #[], none⟩) ?_
  try simp only [Act.put, tkA, tkB, tkC]
  refine tkI (i := 3) (oi := ⟨some 18, .nilCheck (.tmp 17), 0, _, #[⟨2, .data⟩], none⟩) ?_
  try simp only [Act.put, tkA, tkB, tkC]
  refine tkI (i := 4) (oi := ⟨some 19, .fieldAddr 70 (.tmp 18) 0, 0, _, #[⟨3, .data⟩], none⟩) ?_
  try simp only [Act.put, tkA, tkB, tkC]
  refine tkI (i := 5) (oi := ⟨some 20, .fieldAddr 40 (.tmp 19) 1, 0, _, #[⟨4, .data⟩], none⟩) ?_
  try simp only [Act.put, tkA, tkB, tkC]
  refine tkI (i := 6) (oi := ⟨some 21, .load 3 (.tmp 20), 3, _, #[⟨5, .data⟩], none⟩) ?_
  try simp only [Act.put, tkA, tkB, tkC]
  refine tkI (i := 9) (oi := ⟨some 24, .move (.tmp 0), 51, _, #[], none⟩) ?_
  try simp only [Act.put, tkA, tkB, tkC]
  refine tkI (i := 10) (oi := ⟨some 25, .nilCheck (.tmp 24), 0, _, #[⟨9, .data⟩], none⟩) ?_
  try simp only [Act.put, tkA, tkB, tkC]
  refine tkI (i := 11) (oi := ⟨some 26, .fieldAddr 70 (.tmp 25) 0, 0, _, #[⟨10, .data⟩], none⟩) ?_
  try simp only [Act.put, tkA, tkB, tkC]
  refine tkI (i := 12) (oi := ⟨some 27, .fieldAddr 40 (.tmp 26) 2, 0, _, #[⟨11, .data⟩], none⟩) ?_
  try simp only [Act.put, tkA, tkB, tkC]
  refine tkI (i := 13) (oi := ⟨some 28, .load 3 (.tmp 27), 3, _, #[⟨12, .data⟩], none⟩) ?_
  try simp only [Act.put, tkA, tkB, tkC]
  refine tkI (i := 16) (oi := ⟨some 31, .move (.tmp 3), 3, _, #[], none⟩) ?_
  try simp only [Act.put, tkA, tkB, tkC]
  refine wpAnyH_ready (rs := [0]) (by kernel_rfl) (by simp) ?_
  refine AllReadyH.cons rfl (fun K' hK => ?_) AllReadyH.nil
  go_simp
  go_wp2_with (go_at_call 59; refine (numref_any 1 1 _ (by omega) (by omega) (by omega)).mono ?_; rintro e w1 ⟨rfl, hb1⟩)
  refine hK.out _ _ ⟨cell_later hb1 hHeld.1, cell_later hb1 hHeld.2⟩ (fun hHeld => ?_)
  clear hK K'
  have HB1 := hid (show Below w.heap.size w w1 from ((Below.refl _ w).drew).trans hb1)
  clear hb1
  have z1 : (strOfNums (numL 1 1)).size = 1 := by rw [strOfNums_size, numL_len]
  have zm : (strOfNums (numL m 1)).size = 1 := by rw [strOfNums_size, numL_len]
  have zf : (strOfNums (numL f 1)).size = 1 := by rw [strOfNums_size, numL_len]
  have zn : (strOfNums (numL (n : Int) 1)).size = 1 := by rw [strOfNums_size, numL_len]
  generalize h1 : strOfNums (numL 1 1) = s1 at z1 ⊢
  have H1 := hid h1
  clear h1
  refine tkI (i := 1) (oi := ⟨some 16, .binOp .add 9 (.const (Value.string { data := #[83, 85, 78] })) (.tmp 15) 9, 9, _, #[⟨0, .data⟩], none⟩) ?_
  try simp only [Act.put, tkA, tkB, tkC]
  refine wpAnyH_ready (rs := [7]) (by kernel_rfl) (by simp) ?_
  refine AllReadyH.cons rfl (fun K' hK => ?_) AllReadyH.nil
  go_simp
  go_wp2_with (go_at_call 59; refine (numref_any 1 m _ (by omega) (by omega) (by omega)).mono ?_; rintro e w2 ⟨rfl, hb1⟩)
  refine hK.out _ _ ⟨cell_later hb1 hHeld.1, cell_later hb1 hHeld.2⟩ (fun hHeld => ?_)
  clear hK K'
  have HB2 := hid (show Below w.heap.size w w2 from HB1.out.trans (hb1.mono HB1.out.size))
  clear hb1 HB1
  refine tkI (i := 8) (oi := ⟨some 23, .binOp .add 9 (.tmp 16) (.tmp 22) 9, 9, _, #[⟨1, .data⟩, ⟨7, .data⟩], none⟩) ?_
  try simp only [Act.put, tkA, tkB, tkC]
  refine wpAnyH_ready (rs := [14]) (by kernel_rfl) (by simp) ?_
  refine AllReadyH.cons rfl (fun K' hK => ?_) AllReadyH.nil
  go_simp
  go_wp2_with (go_at_call 59; refine (numref_any 1 f _ (by omega) (by omega) (by omega)).mono ?_; rintro e w3 ⟨rfl, hb1⟩)
  refine hK.out _ _ ⟨cell_later hb1 hHeld.1, cell_later hb1 hHeld.2⟩ (fun hHeld => ?_)
  clear hK K'
  have HB3 := hid (show Below w.heap.size w w3 from HB2.out.trans (hb1.mono HB2.out.size))
  clear hb1 HB2
  refine tkI (i := 15) (oi := ⟨some 30, .binOp .add 9 (.tmp 23) (.tmp 29) 9, 9, _, #[⟨8, .data⟩, ⟨14, .data⟩], none⟩) ?_
  try simp only [Act.put, tkA, tkB, tkC]
  refine wpAnyH_ready (rs := [17]) (by kernel_rfl) (by simp) ?_
  refine AllReadyH.cons rfl (fun K' hK => ?_) AllReadyH.nil
  go_simp
  go_wp2_with (go_at_call 59; refine (numref_any 1 (n : Int) _ (by omega) (by omega) (by omega)).mono ?_; rintro e w4 ⟨rfl, hb1⟩)
  refine hK.out _ _ ⟨cell_later hb1 hHeld.1, cell_later hb1 hHeld.2⟩ (fun hHeld => ?_)
  clear hK K'
  have HB4 := hid (show Below w.heap.size w w4 from HB3.out.trans (hb1.mono HB3.out.size))
  clear hb1 HB3
  refine tkI (i := 18) (oi := ⟨some 33, .binOp .add 9 (.tmp 30) (.tmp 32) 9, 9, _, #[⟨15, .data⟩, ⟨17, .data⟩], none⟩) ?_
  try simp only [Act.put, tkA, tkB, tkC]
  refine tkI (i := 19) (oi := ⟨some 4, .assign (.tmp 33), 9, _, #[⟨18, .data⟩, ⟨17, .chain⟩, ⟨0, .phase⟩, ⟨1, .phase⟩, ⟨2, .phase⟩, ⟨3, .phase⟩, ⟨4, .phase⟩, ⟨5, .phase⟩, ⟨6, .phase⟩, ⟨7, .phase⟩, ⟨8, .phase⟩, ⟨9, .phase⟩, ⟨10, .phase⟩, ⟨11, .phase⟩, ⟨12, .phase⟩, ⟨13, .phase⟩, ⟨14, .phase⟩, ⟨15, .phase⟩, ⟨16, .phase⟩, ⟨17, .phase⟩, ⟨18, .phase⟩], none⟩) ?_
  try simp only [Act.put, tkA, tkB, tkC]
  refine wpAnyH_done (by kernel_rfl) ?_ _
  go_wp2
  go_loopw [4, 5] (fun s' i' wr => ∃ i : Nat, i ≤ n ∧ i' = i64 i ∧ s' = .string (strOfNums (saveA d i)) ∧ Below w.heap.size w wr) (fun _ i' _ => n - (intOf i').toNat)
  case atStart =>
    refine ⟨0, by omega, rfl, ?_, HB4.out⟩
    rw [← H1.out, sun_str, num1 (n := 1) (by omega) (by omega), num1 (n := m) (by omega) (by omega), num1 (n := f) (by omega) (by omega), num1 (n := (n : Int)) (by omega) (by omega), strOfNums_append, strOfNums_append, strOfNums_append, strOfNums_append, HM.out, HF.out, HN.out]
    rfl
  clear HB4 H1 z1 zm zf zn
  case round =>
    obtain ⟨i, hi, rfl, rfl, hold⟩ := hrel
    have HOLD := hid hold
    by_cases hlt : i < n
    case pos =>
      obtain ⟨y0, y1⟩ := HCC.out i (by omega)
      have y0 := cell_later hold y0
      have y1 := cell_later hold y1
      obtain ⟨b1, b2, b3, b4⟩ := (show 1 ≤ d.c.s i ∧ d.c.s i ≤ 86400 ∧ 1 ≤ d.c.k i ∧ d.c.k i ≤ 60 from HBD.out i (by rw [← HN.out]; exact hlt))
      have hzp : p < wr.heap.size := Nat.lt_of_lt_of_le hpz hold.size
      obtain ⟨s, hsd⟩ : ∃ s, s = d.c.s i := ⟨_, rfl⟩
      obtain ⟨kk, hkd⟩ : ∃ k, k = d.c.k i := ⟨_, rfl⟩
      rw [← hsd] at y0 b1 b2
      rw [← hkd] at y1 b3 b4
      have HSD := hid hsd
      have HKD := hid hkd
      have i0 : (0 : Int) ≤ (i : Int) := by omega
      have i1 : (i : Int) < 4 := by omega
      have i2 : (i : Int) < (n : Int) := by omega
      have za : (strOfNums (saveA d i)).size = 7 + 8 * i := by rw [strOfNums_size, saveA_len]
      have zs : (strOfNums (numL s 4)).size = 4 := by rw [strOfNums_size, numL_len]
      have zk : (strOfNums (numL kk 4)).size = 4 := by rw [strOfNums_size, numL_len]
      have c1 : ¬ 9223372036854775807 < 7 + 8 * i + 4 := by omega
      have c2 : ¬ 9223372036854775807 < 7 + 8 * i + 4 + 4 := by omega
      generalize h1 : strOfNums (saveA d i) = sA at za ⊢
      have H1 := hid h1
      clear h1 hsd hkd hold
      go_upto_region 6 with fail
      refine wp_region_held_drew (S := (fun w' => w'.cell? ⟨p, i * 2, none⟩ = some (i64 s) ∧ w'.cell? ⟨p, i * 2 + 1, none⟩ = some (i64 kk))) (by kernel_rfl) ?_ (fun hHeld => ?_)
      · go_keep
      refine tkI (i := 0) (oi := ⟨some 39, .move (.tmp 4), 9, _, #[], none⟩) ?_
      try simp only [Act.put, tkA, tkB, tkC]
      refine tkI (i := 1) (oi := ⟨some 40, .move (.tmp 0), 51, _, #[], none⟩) ?_
      try simp only [Act.put, tkA, tkB, tkC]
      refine tkI (i := 2) (oi := ⟨some 41, .move (.tmp 5), 3, _, #[], none⟩) ?_
      try simp only [Act.put, tkA, tkB, tkC]
      refine tkI (i := 3) (oi := ⟨some 42, .nilCheck (.tmp 40), 0, _, #[⟨1, .data⟩], none⟩) ?_
      try simp only [Act.put, tkA, tkB, tkC]
      refine tkI (i := 4) (oi := ⟨some 43, .fieldAddr 70 (.tmp 42) 0, 0, _, #[⟨3, .data⟩], none⟩) ?_
      try simp only [Act.put, tkA, tkB, tkC]
      refine tkI (i := 5) (oi := ⟨some 44, .fieldAddr 40 (.tmp 43) 0, 0, _, #[⟨4, .data⟩], none⟩) ?_
      try simp only [Act.put, tkA, tkB, tkC]
      refine tkI (i := 6) (oi := ⟨some 45, .indexAddr 38 (.tmp 44) (.tmp 41), 0, _, #[⟨5, .data⟩, ⟨2, .data⟩], none⟩) ?_
      try simp only [Act.put, tkA, tkB, tkC]
      refine tkI (i := 7) (oi := ⟨some 46, .fieldAddr 37 (.tmp 45) 0, 0, _, #[⟨6, .data⟩], none⟩) ?_
      try simp only [Act.put, tkA, tkB, tkC]
      refine tkI (i := 8) (oi := ⟨some 47, .load 3 (.tmp 46), 3, _, #[⟨7, .data⟩], none⟩) ?_
      try simp only [Act.put, tkA, tkB, tkC]
      refine tkI (i := 11) (oi := ⟨some 50, .move (.tmp 0), 51, _, #[], none⟩) ?_
      try simp only [Act.put, tkA, tkB, tkC]
      refine tkI (i := 12) (oi := ⟨some 51, .move (.tmp 5), 3, _, #[], none⟩) ?_
      try simp only [Act.put, tkA, tkB, tkC]
      refine tkI (i := 13) (oi := ⟨some 52, .nilCheck (.tmp 50), 0, _, #[⟨11, .data⟩], none⟩) ?_
      try simp only [Act.put, tkA, tkB, tkC]
      refine tkI (i := 14) (oi := ⟨some 53, .fieldAddr 70 (.tmp 52) 0, 0, _, #[⟨13, .data⟩], none⟩) ?_
      try simp only [Act.put, tkA, tkB, tkC]
      refine tkI (i := 15) (oi := ⟨some 54, .fieldAddr 40 (.tmp 53) 0, 0, _, #[⟨14, .data⟩], none⟩) ?_
      try simp only [Act.put, tkA, tkB, tkC]
      refine tkI (i := 16) (oi := ⟨some 55, .indexAddr 38 (.tmp 54) (.tmp 51), 0, _, #[⟨15, .data⟩, ⟨12, .data⟩], none⟩) ?_
      try simp only [Act.put, tkA, tkB, tkC]
      refine tkI (i := 17) (oi := ⟨some 56, .fieldAddr 37 (.tmp 55) 1, 0, _, #[⟨16, .data⟩], none⟩) ?_
      try simp only [Act.put, tkA, tkB, tkC]
      refine tkI (i := 18) (oi := ⟨some 57, .load 3 (.tmp 56), 3, _, #[⟨17, .data⟩], none⟩) ?_
      try simp only [Act.put, tkA, tkB, tkC]
      refine wpAnyH_ready (rs := [9]) (by kernel_rfl) (by simp) ?_
      refine AllReadyH.cons rfl (fun K' hK => ?_) AllReadyH.nil
      go_simp
      go_wp2_with (go_at_call 59; refine (numref_any 4 s _ (by omega) (by omega) (by omega)).mono ?_; rintro e w1 ⟨rfl, hb1⟩)
      refine hK.out _ _ ⟨cell_later hb1 hHeld.1, cell_later hb1 hHeld.2⟩ (fun hHeld => ?_)
      clear hK K'
      have HB1 := hid (show Below w.heap.size w w1 from (HOLD.out.drew).trans (hb1.mono HOLD.out.size))
      clear hb1
      refine tkI (i := 10) (oi := ⟨some 49, .binOp .add 9 (.tmp 39) (.tmp 48) 9, 9, _, #[⟨0, .data⟩, ⟨9, .data⟩], none⟩) ?_
      try simp only [Act.put, tkA, tkB, tkC]
      refine wpAnyH_ready (rs := [19]) (by kernel_rfl) (by simp) ?_
      refine AllReadyH.cons rfl (fun K' hK => ?_) AllReadyH.nil
      go_simp
      go_wp2_with (go_at_call 59; refine (numref_any 4 kk _ (by omega) (by omega) (by omega)).mono ?_; rintro e w2 ⟨rfl, hb1⟩)
      refine hK.out _ _ ⟨cell_later hb1 hHeld.1, cell_later hb1 hHeld.2⟩ (fun hHeld => ?_)
      clear hK K'
      have HB2 := hid (show Below w.heap.size w w2 from HB1.out.trans (hb1.mono HB1.out.size))
      clear hb1
      refine tkI (i := 20) (oi := ⟨some 59, .binOp .add 9 (.tmp 49) (.tmp 58) 9, 9, _, #[⟨10, .data⟩, ⟨19, .data⟩], none⟩) ?_
      try simp only [Act.put, tkA, tkB, tkC]
      refine tkI (i := 21) (oi := ⟨some 4, .assign (.tmp 59), 9, _, #[⟨20, .data⟩, ⟨19, .chain⟩, ⟨0, .phase⟩, ⟨1, .phase⟩, ⟨2, .phase⟩, ⟨3, .phase⟩, ⟨4, .phase⟩, ⟨5, .phase⟩, ⟨6, .phase⟩, ⟨7, .phase⟩, ⟨8, .phase⟩, ⟨9, .phase⟩, ⟨10, .phase⟩, ⟨11, .phase⟩, ⟨12, .phase⟩, ⟨13, .phase⟩, ⟨14, .phase⟩, ⟨15, .phase⟩, ⟨16, .phase⟩, ⟨17, .phase⟩, ⟨18, .phase⟩, ⟨19, .phase⟩, ⟨20, .phase⟩], none⟩) ?_
      try simp only [Act.put, tkA, tkB, tkC]
      refine wpAnyH_done (by kernel_rfl) ?_ _
      have HX := hid (show sA ++ strOfNums (numL s 4) ++ strOfNums (numL kk 4) = strOfNums (saveA d (i + 1)) by
        rw [← H1.out, strOfNums_append, strOfNums_append, saveA_succ, HSD.out, HKD.out, List.append_assoc])
      go_wp2
      go_roundw
      case rel => exact ⟨i + 1, by omega, by go_num, by rw [← HX.out], HB2.out⟩
      case measure => simp [intOf]; omega
    have ei : n = i := by omega
    subst ei
    go_wp2
    clear hi
    go_loopw [4, 6] (fun s' i' wr => ∃ i : Nat, i ≤ n ∧ i' = i64 i ∧ s' = .string (strOfNums (saveB d i)) ∧ Below w.heap.size w wr) (fun _ i' _ => n - (intOf i').toNat)
    case atStart => exact ⟨0, by omega, rfl, by rw [saveB_zero, ← HN.out], HOLD.out⟩
    clear HOLD hold
    case round =>
      obtain ⟨i, hi, rfl, rfl, hold⟩ := hrel
      by_cases hlt : i < n
      case pos =>
        have HLT := hid (show i < d.c.many by rw [← HN.out]; exact hlt)
        obtain ⟨b1, b2, b3, b4⟩ := (show 1 ≤ d.c.s i ∧ d.c.s i ≤ 86400 ∧ 1 ≤ d.c.k i ∧ d.c.k i ≤ 60 from HBD.out i HLT.out)
        have HY1 := hid (HCC.out i (by omega)).2
        obtain ⟨kk, hkd⟩ : ∃ k, k = d.c.k i := ⟨_, rfl⟩
        rw [← hkd] at HY1 b3 b4
        have HKD := hid hkd
        obtain ⟨l, hl⟩ : ∃ l, d.L[i]? = some l := ⟨_, List.getElem?_eq_getElem (by rw [HLEN.out]; exact HLT.out)⟩
        have HL := hid hl
        have HPT := hid (HD.out.pts i l hl)
        have HLB := hid (saveB_len HD.out i (by have := HLT.out; omega))
        have i0 : (0 : Int) ≤ (i : Int) := by omega
        have i1 : (i : Int) < 4 := by omega
        have i2 : (i : Int) < (n : Int) := by omega
        have HOLD2 := hid hold
        clear hl hkd b1 b2 hold
        go_wp2
        have HREP2 := hid (fun (wz : World) (hz : Below w.heap.size w wz) => HREP.out.later hz)
        have HOLB := hid (show (saveB d i).length ≤ 3000 by have := HLB.out; omega)
        go_loopw [4, 7] (fun s' k' wr => ∃ k : Nat, (k : Int) ≤ kk ∧ k' = i64 k ∧ s' = .string (strOfNums (saveB d i ++ slotsB d.c i l k)) ∧ Below w.heap.size w wr) (fun _ k' _ => kk.toNat - (intOf k').toNat)
        case atStart => exact ⟨0, by omega, rfl, by unfold slotsB; simp, HOLD2.out⟩
        clear HOLD2
        case round =>
          obtain ⟨k, hk, rfl, rfl, hold⟩ := hrel
          have y1 := cell_later hold HY1.out
          have hzp : p < wr.heap.size := Nat.lt_of_lt_of_le hpz hold.size
          have HOLD := hid hold
          clear hold
          by_cases hkl : (k : Int) < kk
          case pos =>
            have HS := hid (slot_ref p i k d l In wr (HREP.out.later HOLD.out) HD.out HL.out)
            have HNX := hid (show strOfNums (saveB d i ++ slotsB d.c i l k) ++ strOfNums (numL (optPt (slotAt d.c i l k)).1 4) ++ strOfNums (numL (optPt (slotAt d.c i l k)).2 8) = strOfNums (saveB d i ++ slotsB d.c i l (k + 1)) by
              rw [strOfNums_append, strOfNums_append, slotsB_succ, List.append_assoc, List.append_assoc])
            have HPO := hid (show 0 ≤ (optPt (slotAt d.c i l k)).1 ∧ (optPt (slotAt d.c i l k)).1 ≤ 4294967295 ∧ -1000000000 ≤ (optPt (slotAt d.c i l k)).2 ∧ (optPt (slotAt d.c i l k)).2 ≤ 1000000000 by
              cases ho : slotAt d.c i l k with
              | none => simp [optPt]
              | some q =>
                obtain ⟨g1, g2, g3, g4⟩ := HPT.out.1 q (slotAt_some ho).1
                exact ⟨g1, by show q.1 ≤ _; omega, g3, g4⟩)
            have hza : (strOfNums (saveB d i ++ slotsB d.c i l k)).size ≤ 3720 := by
              rw [strOfNums_size, List.length_append, slotsB_len]
              have := HOLB.out
              omega
            generalize hsA : strOfNums (saveB d i ++ slotsB d.c i l k) = sA at HNX hza ⊢
            clear hsA
            unfold slotP at HS
            generalize hoo : slotAt d.c i l k = o at HS HNX HPO ⊢
            clear hoo
            obtain ⟨ot, hot⟩ : ∃ t, t = (optPt o).1 := ⟨_, rfl⟩
            obtain ⟨ov, hov⟩ : ∃ t, t = (optPt o).2 := ⟨_, rfl⟩
            rw [← hot, ← hov] at HNX HPO
            have HOT := hid (And.intro hot hov)
            clear hot hov
            go_upto_if 85 with (go_at_call 60; refine HS.out.mono ?_; rintro e w1 ⟨rfl, hb1⟩)
            have HB1 := hid (show Below w.heap.size w w1 from HOLD.out.trans (hb1.mono HOLD.out.size))
            have hz1 : wr.heap.size ≤ w1.heap.size := hb1.size
            clear hb1
            go_cut [9] (fun z wx => Below w.heap.size w wx ∧ wx.heap[w1.heap.size]? = some (.cells #[i64 ot, i64 ov] 48))
            case first =>
              cases o with
              | none =>
                go_wp2
                go_meet
                refine ⟨HB1.out.alloc (by have := HOLD.out.size; omega) _, ?_⟩
                rw [HOT.out.1, HOT.out.2]
                exact blk_new w1 _
              | some q =>
                go_wp2
                go_meet
                refine ⟨HB1.out.alloc (by have := HOLD.out.size; omega) _, ?_⟩
                rw [HOT.out.1, HOT.out.2]
                exact blk_new w1 _
            case rest =>
            obtain ⟨hbc, hblk⟩ := hcut
            have HBC := hid hbc
            have v0 : wc.cell? ⟨w1.heap.size, 0, none⟩ = some (i64 ot) := cell_of_blk hblk 0
            have v1 : wc.cell? ⟨w1.heap.size, 1, none⟩ = some (i64 ov) := cell_of_blk hblk 1
            have hzc : w1.heap.size < wc.heap.size := blk_lt hblk
            clear hbc hblk
            obtain ⟨t0, t1, t2, t3⟩ := HPO.out
            have z4 : (strOfNums (numL ot 4)).size = 4 := by rw [strOfNums_size, numL_len]
            have z8 : (strOfNums (numL ov 8)).size = 8 := by rw [strOfNums_size, numL_len]
            have c1 : ¬ 9223372036854775807 < sA.size + 4 := by omega
            have c2 : ¬ 9223372036854775807 < sA.size + 4 + 8 := by omega
            go_upto_region 16 with fail
            refine wp_region_held_drew (S := (fun w' => w'.cell? ⟨w1.heap.size, 0, none⟩ = some (i64 ot) ∧ w'.cell? ⟨w1.heap.size, 1, none⟩ = some (i64 ov))) (by kernel_rfl) ?_ (fun hHeld => ?_)
            · go_keep
            refine tkI (i := 0) (oi := ⟨some 87, .move (.tmp 4), 9, _, #[], none⟩) ?_
            try simp only [Act.put, tkA, tkB, tkC]
            refine tkI (i := 1) (oi := ⟨some 88, .fieldAddr 48 (.tmp 8) 0, 0, _, #[], none⟩) ?_
            try simp only [Act.put, tkA, tkB, tkC]
            refine tkI (i := 2) (oi := ⟨some 89, .load 3 (.tmp 88), 3, _, #[⟨1, .data⟩], none⟩) ?_
            try simp only [Act.put, tkA, tkB, tkC]
            refine tkI (i := 5) (oi := ⟨some 92, .fieldAddr 48 (.tmp 8) 1, 0, _, #[], none⟩) ?_
            try simp only [Act.put, tkA, tkB, tkC]
            refine tkI (i := 6) (oi := ⟨some 93, .load 3 (.tmp 92), 3, _, #[⟨5, .data⟩], none⟩) ?_
            try simp only [Act.put, tkA, tkB, tkC]
            refine wpAnyH_ready (rs := [3]) (by kernel_rfl) (by simp) ?_
            refine AllReadyH.cons rfl (fun K' hK => ?_) AllReadyH.nil
            go_simp
            go_wp2_with (go_at_call 59; refine (numref_any 4 ot _ (by omega) (by omega) (by omega)).mono ?_; rintro e w2 ⟨rfl, hb1⟩)
            refine hK.out _ _ ⟨cell_later hb1 hHeld.1, cell_later hb1 hHeld.2⟩ (fun hHeld => ?_)
            clear hK K'
            have HB2 := hid (show Below w.heap.size w w2 from (HBC.out.drew).trans (hb1.mono HBC.out.size))
            clear hb1
            refine tkI (i := 4) (oi := ⟨some 91, .binOp .add 9 (.tmp 87) (.tmp 90) 9, 9, _, #[⟨0, .data⟩, ⟨3, .data⟩], none⟩) ?_
            try simp only [Act.put, tkA, tkB, tkC]
            refine wpAnyH_ready (rs := [7]) (by kernel_rfl) (by simp) ?_
            refine AllReadyH.cons rfl (fun K' hK => ?_) AllReadyH.nil
            go_simp
            go_wp2_with (go_at_call 59; refine (numref_any 8 ov _ (by omega) (by omega) (by omega)).mono ?_; rintro e w3 ⟨rfl, hb1⟩)
            refine hK.out _ _ ⟨cell_later hb1 hHeld.1, cell_later hb1 hHeld.2⟩ (fun hHeld => ?_)
            clear hK K'
            have HB3 := hid (show Below w.heap.size w w3 from HB2.out.trans (hb1.mono HB2.out.size))
            clear hb1
            refine tkI (i := 8) (oi := ⟨some 95, .binOp .add 9 (.tmp 91) (.tmp 94) 9, 9, _, #[⟨4, .data⟩, ⟨7, .data⟩], none⟩) ?_
            try simp only [Act.put, tkA, tkB, tkC]
            refine tkI (i := 9) (oi := ⟨some 4, .assign (.tmp 95), 9, _, #[⟨8, .data⟩, ⟨7, .chain⟩, ⟨0, .phase⟩, ⟨1, .phase⟩, ⟨2, .phase⟩, ⟨3, .phase⟩, ⟨4, .phase⟩, ⟨5, .phase⟩, ⟨6, .phase⟩, ⟨7, .phase⟩, ⟨8, .phase⟩], none⟩) ?_
            try simp only [Act.put, tkA, tkB, tkC]
            refine wpAnyH_done (by kernel_rfl) ?_ _
            go_wp2
            go_roundw
            case rel => exact ⟨k + 1, by omega, by go_num, by rw [← HNX.out], HB3.out⟩
            case measure => simp [intOf]; omega
          have HK := hid (show saveB d i ++ slotsB d.c i l k = saveB d (i + 1) by
            rw [saveB_succ, HL.out, ← HKD.out, show kk.toNat = k by omega]; rfl)
          go_wp2
          go_roundw
          case rel => exact ⟨i + 1, by omega, by go_num, by rw [HK.out], HOLD.out⟩
          case measure => simp [intOf]; omega
      have ei : n = i := by omega
      subst ei
      have HFIN := hid (show strOfNums (saveB d n) = strOfNums (saveL d) by rw [HN.out, saveB_all])
      have HOLD2 := hid hold
      clear hold
      go_wp2
      refine bodyPost_ret (v := .string (strOfNums (saveB d n))) (by simp [results, Tryz.results32, go_sem]) rfl ⟨?_, HOLD2.out⟩
      rw [HFIN.out]
end Go.Proofs.YthbbfjfekchdiaaGreat
