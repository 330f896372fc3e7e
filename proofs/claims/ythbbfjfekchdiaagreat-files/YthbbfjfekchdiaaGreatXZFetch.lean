import Derived.Test.YthbbfjfekchdiaaGreatXTk
import Derived.Test.YthbbfjfekchdiaaGreatXZGoes
import Derived.Test.YthbbfjfekchdiaaGreatXZUpdate2
import Derived.Test.YthbbfjfekchdiaaGreatXRFetch
import Derived.Deep.RegionHeld3
namespace Go.Proofs.YthbbfjfekchdiaaGreat
open Go.RowKit
set_option linter.unusedSimpArgs false
attribute [local go_sem] Go.wp_at_zero Go.wp_at_succ
theorem zset3 {w : World} {B : Nat} {t : TypeId} {z0 z1 z2 : Value} (h : w.heap[B]? = some (.cells #[z0, z1, z2] t)) (a0 a1 a2 : Value) :
    (((w.setCell ⟨B, 0, none⟩ a0).setCell ⟨B, 1, none⟩ a1).setCell ⟨B, 2, none⟩ a2).heap[B]? = some (.cells #[a0, a1, a2] t) ∧ Fr (fun j => j = B) w (((w.setCell ⟨B, 0, none⟩ a0).setCell ⟨B, 1, none⟩ a1).setCell ⟨B, 2, none⟩ a2) := by
  refine ⟨?_, (((Fr.refl (fun j => j = B) w).setCell (b := B) rfl 0 a0).setCell (b := B) rfl 1 a1).setCell (b := B) rfl 2 a2⟩
  rw [blk_setCell (blk_setCell (blk_setCell h 0 a0) 1 a1) 2 a2]
  rfl
set_option maxRecDepth 4000 in
set_option maxHeartbeats 4000000 in
theorem zfetch_any (HSO : Hid SortOk) (p : Nat) (now fr un : Int) (d : RDb) (In : Nat → Prop) (w : World) (h : ZRep w In p d) :
    Calls Tryz.prog 54 #[.pointer (some ⟨p, 0, none⟩), i64 now, i64 fr, i64 un] w fun e w' => ∃ v, e = .returned (.tuple #[.agg #[i64 (serA d now fr un), i64 (serS d now fr un), v], i64 (fetchErr d.c now fr un)]) ∧ Below w.heap.size w w' ∧ w'.ownsRow w.heap.size 48 2 v (serP d now fr un).length (ptCells (serP d now fr un)) ∧ (fetchErr d.c now fr un ≠ 0 → v = .slice none 0 0) := by
  have hal := fun (o : Obj) => (Below.refl w.heap.size w).alloc (Nat.le_refl _) o
  have HUN := hid (fun (o : Obj) => zunread_any p now fr un d In (w.alloc o) (h.fr (Fr.below (In := fun _ => False) (hal o)) (fun _ _ x => x)))
  have H := hid h
  have h4 := d.c.many_le
  have hm1 : 1 ≤ d.c.many := (d.c.ok_iff.1 h.ok.cfg).2.2.1
  by_cases he : fetchErr d.c now fr un = 0
  rotate_left
  · obtain ⟨er, her⟩ : ∃ e, e = fetchErr d.c now fr un := ⟨_, rfl⟩
    have HNO := hid (fetch_none her.symm (by rw [her]; exact he))
    rw [← her] at HUN he ⊢
    have e4 : (er == 0) = false := beq_eq_false_iff_ne.2 he
    have HALO := hid hal
    clear h hal her
    go_enter Tryz.func54, Tryz.ntmps54
    go_wp2_with fail
    refine (HUN.out _).mono ?_
    rintro e w1 ⟨rfl, hb1⟩
    have HB1 := hid (show Below w.heap.size w w1 from (HALO.out _).trans (hb1.mono (by simp)))
    have HBB := hid (blk_later hb1 (by simp) (blk_new w (.cells #[i64 0, i64 0, .slice none 0 0] 108)))
    have z0 : w1.cell? ⟨w.heap.size, 0, none⟩ = some (i64 0) := cell_of_blk HBB.out 0
    have z1 : w1.cell? ⟨w.heap.size, 1, none⟩ = some (i64 0) := cell_of_blk HBB.out 1
    have z2 : w1.cell? ⟨w.heap.size, 2, none⟩ = some (.slice none 0 0) := cell_of_blk HBB.out 2
    have f0 : w1.frozen? ⟨w.heap.size, 0, none⟩ = false := frozen_of_blk HBB.out 0
    have f1 : w1.frozen? ⟨w.heap.size, 1, none⟩ = false := frozen_of_blk HBB.out 1
    have f2 : w1.frozen? ⟨w.heap.size, 2, none⟩ = false := frozen_of_blk HBB.out 2
    have zz : w.heap.size < w1.heap.size := blk_lt HBB.out
    have HST := hid (zset3 HBB.out (i64 0) (i64 0) (.slice none 0 0))
    clear hb1
    go_wp2
    generalize hW : ((w1.setCell ⟨w.heap.size, 0, none⟩ (i64 0)).setCell ⟨w.heap.size, 1, none⟩ (i64 0)).setCell ⟨w.heap.size, 2, none⟩ (.slice none 0 0) = W at HST ⊢
    have T0 : W.cell? ⟨w.heap.size, 0, none⟩ = some (i64 0) := cell_of_blk HST.out.1 0
    have T1 : W.cell? ⟨w.heap.size, 1, none⟩ = some (i64 0) := cell_of_blk HST.out.1 1
    have T2 : W.cell? ⟨w.heap.size, 2, none⟩ = some (.slice none 0 0) := cell_of_blk HST.out.1 2
    have hzW : w.heap.size < W.heap.size := blk_lt HST.out.1
    clear hW z0 z1 z2 f0 f1 f2
    refine bodyPost_ret (v := .tuple #[.agg #[i64 0, i64 0, .slice none 0 0], i64 er]) (by simp [results, Tryz.results54, go_sem, T0, T1, T2]) rfl ?_
    obtain ⟨n1, n2, n3⟩ := HNO.out
    refine ⟨.slice none 0 0, by rw [n1, n2], ?_, by rw [n3]; exact World.ownsRow_nil _ _ _ _, fun _ => rfl⟩
    exact HB1.out.trans ⟨HST.out.2.os, HST.out.2.tape, HST.out.2.output, HST.out.2.size, fun j hj => HST.out.2.block j (by omega) (by show ¬ j = w.heap.size; omega)⟩
  have hst : StampIn now ∧ StampIn fr ∧ StampIn un ∧ fr ≤ un := by
    refine Classical.not_not.1 fun x => ?_
    unfold fetchErr at he
    rw [if_pos x] at he
    exact absurd he (by decide)
  obtain ⟨⟨n0, n1⟩, ⟨r0, r1⟩, ⟨u0, u1⟩, hfu⟩ := hst
  have hnf : ¬ now < fr := fun x => by
    unfold fetchErr at he
    rw [if_neg (fun y => y ⟨⟨n0, n1⟩, ⟨r0, r1⟩, ⟨u0, u1⟩, hfu⟩), if_pos x] at he
    exact absurd he (by decide)
  obtain ⟨I, hI⟩ : ∃ I, I = fetchI d.c now fr := ⟨_, rfl⟩
  have hIm : I < d.c.many := by rw [hI]; exact fetchI_lt hm1
  have HSA := hid (show serA d now fr un = (I : Int) by unfold serA; rw [if_pos he, hI])
  have HSS := hid (show serS d now fr un = d.c.s I by unfold serS; rw [if_pos he, hI])
  obtain ⟨l, hl⟩ : ∃ l, d.L[I]? = some l := ⟨_, List.getElem?_eq_getElem (by rw [h.ok.len]; exact hIm)⟩
  have HSP := hid (show serP d now fr un = (sortedL l).filter (fetchB d.c I now fr un) by
    unfold serP fetchL
    rw [if_pos he, ← hI, List.getD_eq_getElem?_getD, hl]
    rfl)
  have HFI := hid (show (0 ≤ firstI d.c now fr → (I : Int) = max 0 (firstI d.c now fr)) ∧ (¬ 0 ≤ firstI d.c now fr → I = d.c.many - 1) by
    rw [hI]
    unfold fetchI firstI
    cases hfo : firstO d.c now fr with
    | none => exact ⟨fun x => by simp at x, fun _ => rfl⟩
    | some j => exact ⟨fun _ => by simp, fun x => by simp at x⟩)
  obtain ⟨b1, b2, b3, b4⟩ := Cfg.bd h.ok.cfg hIm
  obtain ⟨gl, cap, hV⟩ := h.view
  obtain ⟨g, a0, a1, ab, _, _, _, _⟩ := hV.arc I l hl
  have HC0 := hid hV.c0
  have hpz := hV.hp
  have hgz := hV.hg
  obtain ⟨K, hK⟩ : ∃ K : Nat, K = (d.c.k I).toNat := ⟨_, rfl⟩
  rw [← hK] at a1 ab
  obtain ⟨s, hs⟩ : ∃ s, s = d.c.s I := ⟨_, rfl⟩
  rw [← hs] at a0 b1 b2 HSS
  obtain ⟨P, hP⟩ : ∃ P, P = s * (K : Int) := ⟨_, rfl⟩
  have P0 : 0 ≤ P := by rw [hP]; exact Int.mul_nonneg (by omega) (by omega)
  have P1 : P ≤ 1000000000 := by
    rw [hP]
    have h1 : s * (K : Int) ≤ s * 60 := Int.mul_le_mul_of_nonneg_left (by omega) (by omega)
    omega
  have HP := hid hP
  have HFP := hid (fun (pts : List Pt) => fetch_pts h.ok hl hIm (now := now) (fr := fr) (un := un) (pts := pts))
  rw [← hs, ← hK, show d.c.k I = (K : Int) by omega, ← hP] at HFP
  have HG := hid ab
  have HA0 := hid a0
  have HA1 := hid a1
  have HK60 := hid (show K ≤ 60 by omega)
  have HFS := hid (fun (w' : World) (hb : Below w.heap.size w w') => zfirst_any p now fr d In w' (h.fr (Fr.below (In := fun _ => False) hb) (fun _ _ x => x)) (by omega) (by omega))
  have HALO := hid hal
  rw [he] at HUN ⊢
  clear h hal hV a0 a1 ab hK hs hP hl hI he b3 b4
  go_enter Tryz.func54, Tryz.ntmps54
  go_wp2_with fail
  refine (HUN.out _).mono ?_
  rintro e w1 ⟨rfl, hb1⟩
  have HB1 := hid (show Below w.heap.size w w1 from (HALO.out _).trans (hb1.mono (by simp)))
  have HBB1 := hid (blk_later hb1 (by simp) (blk_new w (.cells #[i64 0, i64 0, .slice none 0 0] 108)))
  have hz1 : w.heap.size < w1.heap.size := blk_lt HBB1.out
  clear hb1
  go_wp2_with fail
  refine (HFS.out _ HB1.out).mono ?_
  rintro e w2 ⟨rfl, hb2⟩
  have hz2 := hb2.size
  have HB2 := hid (HB1.out.trans (hb2.mono (by omega)))
  have HBB2 := hid (blk_later hb2 hz1 HBB1.out)
  have c0 : w2.cell? ⟨p, 0, none⟩ = some (.slice (some ⟨gl, 0, none⟩) d.c.many cap) := cell_later HB2.out HC0.out
  have zp2 : p < w2.heap.size := by omega
  obtain ⟨F, hF⟩ : ∃ F, F = firstI d.c now fr := ⟨_, rfl⟩
  rw [← hF] at HFI ⊢
  clear hb2 hF
  have hm0 : (1 : Int) ≤ (d.c.many : Int) := by omega
  have hm4 : (d.c.many : Int) ≤ 4 := by omega
  go_upto_if 32 with fail
  go_cut [11, 12] (fun z _ wx => z = i64 (I : Int) ∧ wx = w2)
  case first =>
    as_aux_lemma =>
    by_cases hF : 0 ≤ F
    · have HE := hid (HFI.out.1 hF)
      have hd : decide (0 ≤ F) = true := decide_eq_true hF
      rw [hd]
      clear hd
      go_wp2
      go_meet
      exact ⟨congrArg i64 HE.out.symm, rfl⟩
    · have HE := hid (HFI.out.2 (by omega))
      have hd : decide (0 ≤ F) = false := decide_eq_false hF
      rw [hd]
      clear hd hF
      go_wp2
      go_meet
      exact ⟨congrArg i64 (by rw [HE.out]; omega), rfl⟩
  case rest =>
  as_aux_lemma =>
  obtain ⟨rfl, hwc⟩ := hcut
  have hwc := hwc.symm
  subst hwc
  have a0 : w2.cell? ⟨gl, I * 2, none⟩ = some (i64 s) := cell_later HB2.out HA0.out
  have a1 : w2.cell? ⟨gl, I * 2 + 1, none⟩ = some (.slice (some ⟨g, 0, none⟩) K K) := cell_later HB2.out HA1.out
  have zg2 : gl < w2.heap.size := by omega
  have I0 : (0 : Int) ≤ (I : Int) := by omega
  have I1 : (I : Int) < (d.c.many : Int) := by omega
  clear HFI
  go_upto_region 8 with fail
  clear a0 a1 c0
  generalize hw3 : w2.alloc (.cells #[.int .i64 s, .slice (some ⟨g, 0, none⟩) K K] 94) = w3
  have HW23 := hid (show Below w2.heap.size w2 w3 by rw [← hw3]; exact (Below.refl _ _).alloc (Nat.le_refl _) _)
  have HA3 := hid (show w3.heap[w2.heap.size]? = some (.cells #[i64 s, .slice (some ⟨g, 0, none⟩) K K] 94) by rw [← hw3]; exact blk_new _ _)
  have HB3 := hid (HB2.out.trans (HW23.out.mono (by omega)))
  have HBB3 := hid (blk_later HW23.out (blk_lt HBB2.out) HBB2.out)
  have hz3 : w2.heap.size < w3.heap.size := blk_lt HA3.out
  have A0 : w3.cell? ⟨w2.heap.size, 0, none⟩ = some (i64 s) := cell_of_blk HA3.out 0
  have A1 : w3.cell? ⟨w2.heap.size, 1, none⟩ = some (.slice (some ⟨g, 0, none⟩) K K) := cell_of_blk HA3.out 1
  have HOL := hid (fun (w : World) => zoldest_any s now P g K K w HP P0 P1 (by omega) (by omega))
  obtain ⟨O, hO⟩ : ∃ O, O = now - P + 1 := ⟨_, rfl⟩
  rw [← hO] at HOL HFP
  have HPT := hid (fun (a b : Int) (w : World) (hg : w.heap[g]? = some (.cells (slotBlk (slotsL d.c I l K)) 116)) => zpoints_any HSO s a b g K K (slotsL d.c I l K) w (by have := HK60.out; omega) (slotsL_len _ _ _ _) hg)
  clear hw3 hO
  go_cut [14] (fun z wx => ∃ pts : List Pt, pts.Perm (ptsK (max fr O) (min un now) (slotsL d.c I l K)) ∧ pts.Pairwise (fun a b => a.1 ≤ b.1) ∧ wx.ownsRow w3.heap.size 48 2 z pts.length (ptCells pts) ∧ Below w3.heap.size w3 wx)
  case first =>
    rcases (show (un ≤ now ∧ fr < O) ∨ (un ≤ now ∧ ¬ fr < O) ∨ (¬ un ≤ now ∧ fr < O) ∨ (¬ un ≤ now ∧ ¬ fr < O) by omega) with ⟨hmn, hmo⟩ | ⟨hmn, hmo⟩ | ⟨hmn, hmo⟩ | ⟨hmn, hmo⟩
    · as_aux_lemma =>
      refine wp_region_held_drew (S := (fun w' => w'.cell? ⟨w2.heap.size, 0, none⟩ = some (i64 s) ∧ w'.cell? ⟨w2.heap.size, 1, none⟩ = some (.slice (some ⟨g, 0, none⟩) K K))) (by kernel_rfl) ?_ (fun hHeld => ?_)
      · go_keep
      refine tkI (i := 0) (oi := ⟨some 46, .load 94 (.tmp 13), 94, _, #[], none⟩) ?_
      try simp only [Act.put, tkA, tkB, tkC]
      refine tkI (i := 1) (oi := ⟨some 47, .move (.tmp 2), 3, _, #[], none⟩) ?_
      try simp only [Act.put, tkA, tkB, tkC]
      refine tkI (i := 2) (oi := ⟨some 48, .load 94 (.tmp 13), 94, _, #[], none⟩) ?_
      try simp only [Act.put, tkA, tkB, tkC]
      refine tkI (i := 3) (oi := ⟨some 49, .move (.tmp 1), 3, _, #[], none⟩) ?_
      try simp only [Act.put, tkA, tkB, tkC]
      refine tkI (i := 6) (oi := ⟨some 52, .move (.tmp 3), 3, _, #[], none⟩) ?_
      try simp only [Act.put, tkA, tkB, tkC]
      refine tkI (i := 7) (oi := ⟨some 53, .move (.tmp 1), 3, _, #[], none⟩) ?_
      try simp only [Act.put, tkA, tkB, tkC]
      refine tkI (i := 8) (oi := ⟨some 54, .call { callee := .builtin .min, args := #[.tmp 52, .tmp 53], argTypes := #[3, 3] }, 3, _, #[⟨6, .data⟩, ⟨7, .data⟩], none⟩) ?_
      try simp only [Act.put, tkA, tkB, tkC]
      refine wpAnyH_ready (rs := [4]) (by kernel_rfl) (by simp) ?_
      refine AllReadyH.cons rfl (fun K' hK => ?_) AllReadyH.nil
      go_simp
      go_wp2_with (go_at_call 65; refine (HOL.out _).mono ?_; rintro e w4 ⟨rfl, hb4⟩)
      refine hK.out _ _ ?_ (fun hHeld => ?_)
      · exact ⟨cell_later hb4 (by simp [*]), cell_later hb4 (by simp [*])⟩
      clear hK K'
      have HB34 := hid (show Below w3.heap.size w3 w4 from ((Below.refl _ w3).drew).trans hb4)
      have HG4 := hid (blk_later HB34.out (by have h1 := blk_lt HG.out; have h2 := HB3.out.size; omega) (blk_later HB3.out (blk_lt HG.out) HG.out))
      clear hb4
      refine tkI (i := 5) (oi := ⟨some 51, .call { callee := .builtin .max, args := #[.tmp 47, .tmp 50], argTypes := #[3, 3] }, 3, _, #[⟨1, .data⟩, ⟨4, .data⟩], none⟩) ?_
      try simp only [Act.put, tkA, tkB, tkC]
      refine wpAnyH_ready (rs := [9]) (by kernel_rfl) (by simp) ?_
      refine AllReadyH.cons rfl (fun K' hK => ?_) AllReadyH.nil
      go_simp
      refine (HPT.out _ _ _ HG4.out).mono ?_
      rintro e w5 ⟨v5, pts, rfl, hb5, hp5, hs5, ho5⟩
      refine hK.out _ _ ?_ (fun hHeld => ?_)
      · exact ⟨cell_later hb5 hHeld.1, cell_later hb5 hHeld.2⟩
      clear hK K'
      have HE := hid (show pts.Perm (ptsK (max fr O) (min un now) (slotsL d.c I l K)) ∧ pts.Pairwise (fun a b => a.1 ≤ b.1) ∧ w5.ownsRow w3.heap.size 48 2 v5 pts.length (ptCells pts) ∧ Below w3.heap.size w3 w5 from
        ⟨by
          have e1 : max fr O = O := by omega
          have e2 : min un now = un := by omega
          rw [e1, e2]; first | exact hp5 | (rw [if_neg (by omega)] at hp5; exact hp5), hs5, owns_base ho5 HB34.out.size, HB34.out.trans (hb5.mono HB34.out.size)⟩)
      clear hp5 hs5 ho5 hb5
      refine tkI (i := 10) (oi := ⟨some 14, .assign (.tmp 55), 41, _, #[⟨9, .data⟩, ⟨9, .chain⟩, ⟨0, .phase⟩, ⟨1, .phase⟩, ⟨2, .phase⟩, ⟨3, .phase⟩, ⟨4, .phase⟩, ⟨5, .phase⟩, ⟨6, .phase⟩, ⟨7, .phase⟩, ⟨8, .phase⟩, ⟨9, .phase⟩], none⟩) ?_
      try simp only [Act.put, tkA, tkB, tkC]
      refine wpAnyH_done (by kernel_rfl) ?_ _
      go_wp2
      go_meet
      exact ⟨pts, HE.out⟩
    · as_aux_lemma =>
      refine wp_region_held_drew (S := (fun w' => w'.cell? ⟨w2.heap.size, 0, none⟩ = some (i64 s) ∧ w'.cell? ⟨w2.heap.size, 1, none⟩ = some (.slice (some ⟨g, 0, none⟩) K K))) (by kernel_rfl) ?_ (fun hHeld => ?_)
      · go_keep
      refine tkI (i := 0) (oi := ⟨some 46, .load 94 (.tmp 13), 94, _, #[], none⟩) ?_
      try simp only [Act.put, tkA, tkB, tkC]
      refine tkI (i := 1) (oi := ⟨some 47, .move (.tmp 2), 3, _, #[], none⟩) ?_
      try simp only [Act.put, tkA, tkB, tkC]
      refine tkI (i := 2) (oi := ⟨some 48, .load 94 (.tmp 13), 94, _, #[], none⟩) ?_
      try simp only [Act.put, tkA, tkB, tkC]
      refine tkI (i := 3) (oi := ⟨some 49, .move (.tmp 1), 3, _, #[], none⟩) ?_
      try simp only [Act.put, tkA, tkB, tkC]
      refine tkI (i := 6) (oi := ⟨some 52, .move (.tmp 3), 3, _, #[], none⟩) ?_
      try simp only [Act.put, tkA, tkB, tkC]
      refine tkI (i := 7) (oi := ⟨some 53, .move (.tmp 1), 3, _, #[], none⟩) ?_
      try simp only [Act.put, tkA, tkB, tkC]
      refine tkI (i := 8) (oi := ⟨some 54, .call { callee := .builtin .min, args := #[.tmp 52, .tmp 53], argTypes := #[3, 3] }, 3, _, #[⟨6, .data⟩, ⟨7, .data⟩], none⟩) ?_
      try simp only [Act.put, tkA, tkB, tkC]
      refine wpAnyH_ready (rs := [4]) (by kernel_rfl) (by simp) ?_
      refine AllReadyH.cons rfl (fun K' hK => ?_) AllReadyH.nil
      go_simp
      go_wp2_with (go_at_call 65; refine (HOL.out _).mono ?_; rintro e w4 ⟨rfl, hb4⟩)
      refine hK.out _ _ ?_ (fun hHeld => ?_)
      · exact ⟨cell_later hb4 (by simp [*]), cell_later hb4 (by simp [*])⟩
      clear hK K'
      have HB34 := hid (show Below w3.heap.size w3 w4 from ((Below.refl _ w3).drew).trans hb4)
      have HG4 := hid (blk_later HB34.out (by have h1 := blk_lt HG.out; have h2 := HB3.out.size; omega) (blk_later HB3.out (blk_lt HG.out) HG.out))
      clear hb4
      refine tkI (i := 5) (oi := ⟨some 51, .call { callee := .builtin .max, args := #[.tmp 47, .tmp 50], argTypes := #[3, 3] }, 3, _, #[⟨1, .data⟩, ⟨4, .data⟩], none⟩) ?_
      try simp only [Act.put, tkA, tkB, tkC]
      refine wpAnyH_ready (rs := [9]) (by kernel_rfl) (by simp) ?_
      refine AllReadyH.cons rfl (fun K' hK => ?_) AllReadyH.nil
      go_simp
      refine (HPT.out _ _ _ HG4.out).mono ?_
      rintro e w5 ⟨v5, pts, rfl, hb5, hp5, hs5, ho5⟩
      refine hK.out _ _ ?_ (fun hHeld => ?_)
      · exact ⟨cell_later hb5 hHeld.1, cell_later hb5 hHeld.2⟩
      clear hK K'
      have HE := hid (show pts.Perm (ptsK (max fr O) (min un now) (slotsL d.c I l K)) ∧ pts.Pairwise (fun a b => a.1 ≤ b.1) ∧ w5.ownsRow w3.heap.size 48 2 v5 pts.length (ptCells pts) ∧ Below w3.heap.size w3 w5 from
        ⟨by
          have e1 : max fr O = fr := by omega
          have e2 : min un now = un := by omega
          rw [e1, e2]; first | exact hp5 | (rw [if_neg (by omega)] at hp5; exact hp5), hs5, owns_base ho5 HB34.out.size, HB34.out.trans (hb5.mono HB34.out.size)⟩)
      clear hp5 hs5 ho5 hb5
      refine tkI (i := 10) (oi := ⟨some 14, .assign (.tmp 55), 41, _, #[⟨9, .data⟩, ⟨9, .chain⟩, ⟨0, .phase⟩, ⟨1, .phase⟩, ⟨2, .phase⟩, ⟨3, .phase⟩, ⟨4, .phase⟩, ⟨5, .phase⟩, ⟨6, .phase⟩, ⟨7, .phase⟩, ⟨8, .phase⟩, ⟨9, .phase⟩], none⟩) ?_
      try simp only [Act.put, tkA, tkB, tkC]
      refine wpAnyH_done (by kernel_rfl) ?_ _
      go_wp2
      go_meet
      exact ⟨pts, HE.out⟩
    · as_aux_lemma =>
      refine wp_region_held_drew (S := (fun w' => w'.cell? ⟨w2.heap.size, 0, none⟩ = some (i64 s) ∧ w'.cell? ⟨w2.heap.size, 1, none⟩ = some (.slice (some ⟨g, 0, none⟩) K K))) (by kernel_rfl) ?_ (fun hHeld => ?_)
      · go_keep
      refine tkI (i := 0) (oi := ⟨some 46, .load 94 (.tmp 13), 94, _, #[], none⟩) ?_
      try simp only [Act.put, tkA, tkB, tkC]
      refine tkI (i := 1) (oi := ⟨some 47, .move (.tmp 2), 3, _, #[], none⟩) ?_
      try simp only [Act.put, tkA, tkB, tkC]
      refine tkI (i := 2) (oi := ⟨some 48, .load 94 (.tmp 13), 94, _, #[], none⟩) ?_
      try simp only [Act.put, tkA, tkB, tkC]
      refine tkI (i := 3) (oi := ⟨some 49, .move (.tmp 1), 3, _, #[], none⟩) ?_
      try simp only [Act.put, tkA, tkB, tkC]
      refine tkI (i := 6) (oi := ⟨some 52, .move (.tmp 3), 3, _, #[], none⟩) ?_
      try simp only [Act.put, tkA, tkB, tkC]
      refine tkI (i := 7) (oi := ⟨some 53, .move (.tmp 1), 3, _, #[], none⟩) ?_
      try simp only [Act.put, tkA, tkB, tkC]
      refine tkI (i := 8) (oi := ⟨some 54, .call { callee := .builtin .min, args := #[.tmp 52, .tmp 53], argTypes := #[3, 3] }, 3, _, #[⟨6, .data⟩, ⟨7, .data⟩], none⟩) ?_
      try simp only [Act.put, tkA, tkB, tkC]
      refine wpAnyH_ready (rs := [4]) (by kernel_rfl) (by simp) ?_
      refine AllReadyH.cons rfl (fun K' hK => ?_) AllReadyH.nil
      go_simp
      go_wp2_with (go_at_call 65; refine (HOL.out _).mono ?_; rintro e w4 ⟨rfl, hb4⟩)
      refine hK.out _ _ ?_ (fun hHeld => ?_)
      · exact ⟨cell_later hb4 (by simp [*]), cell_later hb4 (by simp [*])⟩
      clear hK K'
      have HB34 := hid (show Below w3.heap.size w3 w4 from ((Below.refl _ w3).drew).trans hb4)
      have HG4 := hid (blk_later HB34.out (by have h1 := blk_lt HG.out; have h2 := HB3.out.size; omega) (blk_later HB3.out (blk_lt HG.out) HG.out))
      clear hb4
      refine tkI (i := 5) (oi := ⟨some 51, .call { callee := .builtin .max, args := #[.tmp 47, .tmp 50], argTypes := #[3, 3] }, 3, _, #[⟨1, .data⟩, ⟨4, .data⟩], none⟩) ?_
      try simp only [Act.put, tkA, tkB, tkC]
      refine wpAnyH_ready (rs := [9]) (by kernel_rfl) (by simp) ?_
      refine AllReadyH.cons rfl (fun K' hK => ?_) AllReadyH.nil
      go_simp
      refine (HPT.out _ _ _ HG4.out).mono ?_
      rintro e w5 ⟨v5, pts, rfl, hb5, hp5, hs5, ho5⟩
      refine hK.out _ _ ?_ (fun hHeld => ?_)
      · exact ⟨cell_later hb5 hHeld.1, cell_later hb5 hHeld.2⟩
      clear hK K'
      have HE := hid (show pts.Perm (ptsK (max fr O) (min un now) (slotsL d.c I l K)) ∧ pts.Pairwise (fun a b => a.1 ≤ b.1) ∧ w5.ownsRow w3.heap.size 48 2 v5 pts.length (ptCells pts) ∧ Below w3.heap.size w3 w5 from
        ⟨by
          have e1 : max fr O = O := by omega
          have e2 : min un now = now := by omega
          rw [e1, e2]; first | exact hp5 | (rw [if_neg (by omega)] at hp5; exact hp5), hs5, owns_base ho5 HB34.out.size, HB34.out.trans (hb5.mono HB34.out.size)⟩)
      clear hp5 hs5 ho5 hb5
      refine tkI (i := 10) (oi := ⟨some 14, .assign (.tmp 55), 41, _, #[⟨9, .data⟩, ⟨9, .chain⟩, ⟨0, .phase⟩, ⟨1, .phase⟩, ⟨2, .phase⟩, ⟨3, .phase⟩, ⟨4, .phase⟩, ⟨5, .phase⟩, ⟨6, .phase⟩, ⟨7, .phase⟩, ⟨8, .phase⟩, ⟨9, .phase⟩], none⟩) ?_
      try simp only [Act.put, tkA, tkB, tkC]
      refine wpAnyH_done (by kernel_rfl) ?_ _
      go_wp2
      go_meet
      exact ⟨pts, HE.out⟩
    · as_aux_lemma =>
      refine wp_region_held_drew (S := (fun w' => w'.cell? ⟨w2.heap.size, 0, none⟩ = some (i64 s) ∧ w'.cell? ⟨w2.heap.size, 1, none⟩ = some (.slice (some ⟨g, 0, none⟩) K K))) (by kernel_rfl) ?_ (fun hHeld => ?_)
      · go_keep
      refine tkI (i := 0) (oi := ⟨some 46, .load 94 (.tmp 13), 94, _, #[], none⟩) ?_
      try simp only [Act.put, tkA, tkB, tkC]
      refine tkI (i := 1) (oi := ⟨some 47, .move (.tmp 2), 3, _, #[], none⟩) ?_
      try simp only [Act.put, tkA, tkB, tkC]
      refine tkI (i := 2) (oi := ⟨some 48, .load 94 (.tmp 13), 94, _, #[], none⟩) ?_
      try simp only [Act.put, tkA, tkB, tkC]
      refine tkI (i := 3) (oi := ⟨some 49, .move (.tmp 1), 3, _, #[], none⟩) ?_
      try simp only [Act.put, tkA, tkB, tkC]
      refine tkI (i := 6) (oi := ⟨some 52, .move (.tmp 3), 3, _, #[], none⟩) ?_
      try simp only [Act.put, tkA, tkB, tkC]
      refine tkI (i := 7) (oi := ⟨some 53, .move (.tmp 1), 3, _, #[], none⟩) ?_
      try simp only [Act.put, tkA, tkB, tkC]
      refine tkI (i := 8) (oi := ⟨some 54, .call { callee := .builtin .min, args := #[.tmp 52, .tmp 53], argTypes := #[3, 3] }, 3, _, #[⟨6, .data⟩, ⟨7, .data⟩], none⟩) ?_
      try simp only [Act.put, tkA, tkB, tkC]
      refine wpAnyH_ready (rs := [4]) (by kernel_rfl) (by simp) ?_
      refine AllReadyH.cons rfl (fun K' hK => ?_) AllReadyH.nil
      go_simp
      go_wp2_with (go_at_call 65; refine (HOL.out _).mono ?_; rintro e w4 ⟨rfl, hb4⟩)
      refine hK.out _ _ ?_ (fun hHeld => ?_)
      · exact ⟨cell_later hb4 (by simp [*]), cell_later hb4 (by simp [*])⟩
      clear hK K'
      have HB34 := hid (show Below w3.heap.size w3 w4 from ((Below.refl _ w3).drew).trans hb4)
      have HG4 := hid (blk_later HB34.out (by have h1 := blk_lt HG.out; have h2 := HB3.out.size; omega) (blk_later HB3.out (blk_lt HG.out) HG.out))
      clear hb4
      refine tkI (i := 5) (oi := ⟨some 51, .call { callee := .builtin .max, args := #[.tmp 47, .tmp 50], argTypes := #[3, 3] }, 3, _, #[⟨1, .data⟩, ⟨4, .data⟩], none⟩) ?_
      try simp only [Act.put, tkA, tkB, tkC]
      refine wpAnyH_ready (rs := [9]) (by kernel_rfl) (by simp) ?_
      refine AllReadyH.cons rfl (fun K' hK => ?_) AllReadyH.nil
      go_simp
      refine (HPT.out _ _ _ HG4.out).mono ?_
      rintro e w5 ⟨v5, pts, rfl, hb5, hp5, hs5, ho5⟩
      refine hK.out _ _ ?_ (fun hHeld => ?_)
      · exact ⟨cell_later hb5 hHeld.1, cell_later hb5 hHeld.2⟩
      clear hK K'
      have HE := hid (show pts.Perm (ptsK (max fr O) (min un now) (slotsL d.c I l K)) ∧ pts.Pairwise (fun a b => a.1 ≤ b.1) ∧ w5.ownsRow w3.heap.size 48 2 v5 pts.length (ptCells pts) ∧ Below w3.heap.size w3 w5 from
        ⟨by
          have e1 : max fr O = fr := by omega
          have e2 : min un now = now := by omega
          rw [e1, e2]; first | exact hp5 | (rw [if_neg (by omega)] at hp5; exact hp5), hs5, owns_base ho5 HB34.out.size, HB34.out.trans (hb5.mono HB34.out.size)⟩)
      clear hp5 hs5 ho5 hb5
      refine tkI (i := 10) (oi := ⟨some 14, .assign (.tmp 55), 41, _, #[⟨9, .data⟩, ⟨9, .chain⟩, ⟨0, .phase⟩, ⟨1, .phase⟩, ⟨2, .phase⟩, ⟨3, .phase⟩, ⟨4, .phase⟩, ⟨5, .phase⟩, ⟨6, .phase⟩, ⟨7, .phase⟩, ⟨8, .phase⟩, ⟨9, .phase⟩], none⟩) ?_
      try simp only [Act.put, tkA, tkB, tkC]
      refine wpAnyH_done (by kernel_rfl) ?_ _
      go_wp2
      go_meet
      exact ⟨pts, HE.out⟩
  case rest =>
  as_aux_lemma =>
  obtain ⟨pts, hp, hss, ho, hwx⟩ := hcut
  revert ho hwx
  generalize wc = w4
  intro ho hwx
  have HEQ := hid (HFP.out pts hp hss)
  have HO4 := hid ho
  have HW4 := hid hwx
  obtain ⟨a4, c4, hv4⟩ : ∃ a c, u14 = .slice a pts.length c := by
    obtain ⟨_, ⟨h, h0⟩ | ⟨g, cap, cur, h, _⟩⟩ := ho
    · exact ⟨none, 0, by rw [h, h0]⟩
    · exact ⟨_, _, h⟩
  subst hv4
  have hz4 := hwx.size
  have A4 : w4.cell? ⟨w2.heap.size, 0, none⟩ = some (i64 s) := cell_later hwx A0
  have HBB4 := hid (blk_later hwx (blk_lt HBB3.out) HBB3.out)
  have z0 : w4.cell? ⟨w.heap.size, 0, none⟩ = some (i64 0) := cell_of_blk HBB4.out 0
  have z1 : w4.cell? ⟨w.heap.size, 1, none⟩ = some (i64 0) := cell_of_blk HBB4.out 1
  have z2 : w4.cell? ⟨w.heap.size, 2, none⟩ = some (.slice none 0 0) := cell_of_blk HBB4.out 2
  have f0 : w4.frozen? ⟨w.heap.size, 0, none⟩ = false := frozen_of_blk HBB4.out 0
  have f1 : w4.frozen? ⟨w.heap.size, 1, none⟩ = false := frozen_of_blk HBB4.out 1
  have f2 : w4.frozen? ⟨w.heap.size, 2, none⟩ = false := frozen_of_blk HBB4.out 2
  have zz : w.heap.size < w4.heap.size := blk_lt HBB4.out
  have zz2 : w2.heap.size < w4.heap.size := by omega
  have HST := hid (zset3 HBB4.out (i64 (I : Int)) (i64 s) (.slice a4 pts.length c4))
  clear hp hss ho hwx A0 A1
  go_wp2
  generalize hW : ((w4.setCell ⟨w.heap.size, 0, none⟩ (i64 (I : Int))).setCell ⟨w.heap.size, 1, none⟩ (i64 s)).setCell ⟨w.heap.size, 2, none⟩ (.slice a4 pts.length c4) = W at HST ⊢
  have T0 : W.cell? ⟨w.heap.size, 0, none⟩ = some (i64 (I : Int)) := cell_of_blk HST.out.1 0
  have T1 : W.cell? ⟨w.heap.size, 1, none⟩ = some (i64 s) := cell_of_blk HST.out.1 1
  have T2 : W.cell? ⟨w.heap.size, 2, none⟩ = some (.slice a4 pts.length c4) := cell_of_blk HST.out.1 2
  have hzW : w.heap.size < W.heap.size := blk_lt HST.out.1
  clear z0 z1 z2 f0 f1 f2
  refine bodyPost_ret (v := .tuple #[.agg #[i64 (I : Int), i64 s, .slice a4 pts.length c4], i64 0]) (by simp [results, Tryz.results54, go_sem, T0, T1, T2]) rfl ?_
  refine ⟨.slice a4 pts.length c4, by rw [HSA.out, HSS.out], ?_, ?_⟩
  · have hb4 := HB3.out.trans (HW4.out.mono HB3.out.size)
    exact hb4.trans ⟨HST.out.2.os, HST.out.2.tape, HST.out.2.output, HST.out.2.size, fun j hj => HST.out.2.block j (by omega) (by show ¬ j = w.heap.size; omega)⟩
  · rw [HSP.out, ← HEQ.out, ← hW]
    have h3 := HB3.out.size
    refine owns_base (base := w3.heap.size) ?_ h3
    exact ownsRow_setCell_below (ownsRow_setCell_below (ownsRow_setCell_below HO4.out (by show w.heap.size < w3.heap.size; omega) _) (by show w.heap.size < w3.heap.size; omega) _) (by show w.heap.size < w3.heap.size; omega) _
end Go.Proofs.YthbbfjfekchdiaaGreat
