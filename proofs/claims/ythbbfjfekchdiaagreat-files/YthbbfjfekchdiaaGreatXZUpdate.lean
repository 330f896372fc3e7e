import Derived.Test.YthbbfjfekchdiaaGreatXTk
import Derived.Test.YthbbfjfekchdiaaGreatXZGoes
import Derived.Test.YthbbfjfekchdiaaGreatXRFetch
import Derived.Deep.RegionHeld3
namespace Go.Proofs.YthbbfjfekchdiaaGreat
open Go.RowKit
set_option linter.unusedSimpArgs false
attribute [local go_sem] Go.wp_at_zero Go.wp_at_succ
set_option maxHeartbeats 4000000 in
theorem zwr_any (HSO : Hid SortOk) (p : Nat) (now : Int) (q : Pt) (d : RDb) (In : Nat → Prop) (w : World) (h : ZRep w In p d) (hq : PtIn q) (n0 : 0 ≤ now) (n1 : now ≤ 2147483647) :
    Calls Tryz.prog 66 #[.pointer (some ⟨p, 0, none⟩), i64 now, .agg #[i64 q.1, i64 q.2]] w fun e w' => e = .returned (.tuple #[]) ∧ ZRep w' In p (writesR d now q) ∧ Fr In w w' := by
  obtain ⟨qt, qv⟩ := q
  dsimp only
  have HQ := hid hq
  have hal := fun (o : Obj) => (Below.refl w.heap.size w).alloc (Nat.le_refl _) o
  have HF := hid (fun (o : Obj) => zfirst_any p now qt d In (w.alloc o) (h.fr (Fr.below (In := fun _ => False) (hal o)) (fun _ _ x => x)) (by omega) (by omega))
  have H := hid h
  cases hfo : firstO d.c now qt with
  | none =>
    have HW := hid (show writesR d now (qt, qv) = d by unfold writesR; dsimp only; rw [hfo])
    have HFI := hid (show firstI d.c now qt = -1 by unfold firstI; rw [hfo])
    rw [HFI.out] at HF
    clear h hq hfo
    go_enter Tryz.func66, Tryz.ntmps66
    go_wp2_with fail
    refine (HF.out _).mono ?_
    rintro e w1 ⟨rfl, hb1⟩
    have HB1 := hid (show Below w.heap.size w w1 from (hal _).trans (hb1.mono (by simp)))
    clear hb1 hal
    go_wp2
    go_end0
    exact ⟨rfl, by rw [HW.out]; exact H.out.fr (Fr.below (In := fun _ => False) HB1.out) (fun _ _ x => x), Fr.below HB1.out⟩
  | some i =>
    obtain ⟨hi, _⟩ := firstO_in hfo
    have HFI := hid (show firstI d.c now qt = (i : Int) by unfold firstI; rw [hfo])
    rw [HFI.out] at HF
    obtain ⟨l, hl⟩ : ∃ l, d.L[i]? = some l := ⟨_, List.getElem?_eq_getElem (by rw [h.ok.len]; exact hi)⟩
    have HW := hid (show writesR d now (qt, qv) = goesF d.c.many (d.put i (setL d.c i (qt - qt % d.c.s i, qv) l)) i (qt - qt % d.c.s i) by
      unfold writesR
      dsimp only
      rw [hfo]
      simp only [hl, Option.getD_some])
    have h4 := d.c.many_le
    obtain ⟨b1, b2, b3, b4⟩ := Cfg.bd h.ok.cfg hi
    obtain ⟨gl, cap, hV⟩ := h.view
    obtain ⟨g, a0, a1, ab, hIn, hgp, hgg, hput⟩ := hV.arc i l hl
    have c0 := hV.c0
    have hpz := hV.hp
    have hgz := hV.hg
    obtain ⟨K, hK⟩ : ∃ K : Nat, K = (d.c.k i).toNat := ⟨_, rfl⟩
    rw [← hK] at a1 ab hput
    obtain ⟨s, hs⟩ : ∃ s, s = d.c.s i := ⟨_, rfl⟩
    rw [← hs] at a0 b1 b2 HW hput
    have sub := sub_in (s := s) hq.1 hq.2.1 b1
    have hso : (slotOf d.c i (qt - qt % s)).toNat = (qt / s % (K : Int)).toNat := by
      unfold slotOf
      rw [← hs, slot_begin b1, show d.c.k i = (K : Int) by omega]
    have HN := hid (show ∀ (w' w2 : World), Below w.heap.size w w' → Fr (fun j => j = g) w' w2 → w2.heap[g]? = some (.cells (slotBlk ((slotsL d.c i l K).set (qt / s % (K : Int)).toNat (some (qt - qt % s, qv)))) 116) → ZRep w2 In p (d.put i (setL d.c i (qt - qt % s, qv) l)) from
      fun w' w2 hb hf hw => hput w' w2 (qt - qt % s, qv) hb ⟨sub.1, sub.2, hq.2.2.1, hq.2.2.2⟩ (al_sub _ _) hf (by rw [hso]; exact hw))
    have HG := hid ab
    have HIN := hid hIn
    have HWR := hid (fun (w : World) (hg : w.heap[g]? = some (.cells (slotBlk (slotsL d.c i l K)) 116)) => zwrite_any s qt qv g K K (slotsL d.c i l K) w b1 (by omega) hq.1 (by have := hq.2.1; dsimp only at this; omega) (by omega) (by omega) (slotsL_len _ _ _ _) hg)
    have hgo := fun (w2 : World) (h2 : ZRep w2 In p (d.put i (setL d.c i (qt - qt % s, qv) l))) => zgoon_any HSO p i qt (d.put i (setL d.c i (qt - qt % s, qv) l)) In w2 h2 hi hq.1 hq.2.1 ⟨setL d.c i (qt - qt % s, qv) l, (qt - qt % s, qv), by
      unfold RDb.put
      rw [List.getElem?_set_self (by rw [h.ok.len]; exact hi)], by unfold setL; simp, by rw [hs]; rfl⟩
    rw [show (d.put i (setL d.c i (qt - qt % s, qv) l)).c = d.c from rfl, ← hs, ← HW.out] at hgo
    have HGO := hid hgo
    have i0 : (0 : Int) ≤ (i : Int) := by omega
    have i1 : (i : Int) < (d.c.many : Int) := by omega
    have hmx : max (0 : Int) (i : Int) = (i : Int) := by omega
    have hdc : decide ((0 : Int) ≤ (i : Int)) = true := decide_eq_true i0
    rw [hmx, hdc] at HF
    clear h hq hfo hal hl hi hV ab hIn hput hK hs sub hso hgo b2 b3 b4 hmx hdc
    go_enter Tryz.func66, Tryz.ntmps66
    go_wp2_with fail
    refine (HF.out _).mono ?_
    rintro e w1 ⟨rfl, hb1⟩
    have x0 : w1.cell? ⟨w.heap.size, 0, none⟩ = some (i64 qt) := cell_later hb1 (by simp)
    have x1 : w1.cell? ⟨w.heap.size, 1, none⟩ = some (i64 qv) := cell_later hb1 (by simp)
    have hb1' : Below w.heap.size w w1 := ((Below.refl _ w).alloc (Nat.le_refl _) _).trans (hb1.mono (by simp))
    have HB1 := hid hb1'
    have d0 : w1.cell? ⟨p, 0, none⟩ = some (.slice (some ⟨gl, 0, none⟩) d.c.many cap) := cell_later hb1' c0
    have e0 : w1.cell? ⟨gl, i * 2, none⟩ = some (i64 s) := cell_later hb1' a0
    have e1 : w1.cell? ⟨gl, i * 2 + 1, none⟩ = some (.slice (some ⟨g, 0, none⟩) K K) := cell_later hb1' a1
    have z1 : w.heap.size < w1.heap.size := World.block_lt_of_cell? _ _ x0
    have zp : p < w1.heap.size := by omega
    have zg : gl < w1.heap.size := by omega
    have HGz := hid (blk_lt HG.out)
    have hgw : w.heap.size ≠ g := by have := HGz.out; omega
    clear hb1 hb1' a0 a1 c0
    go_wp2_with fail
    refine wp_region_held_drew (S := (fun w' => w'.cell? ⟨p, 0, none⟩ = some (.slice (some ⟨gl, 0, none⟩) d.c.many cap) ∧ w'.cell? ⟨gl, i * 2, none⟩ = some (i64 s) ∧ w'.cell? ⟨gl, i * 2 + 1, none⟩ = some (.slice (some ⟨g, 0, none⟩) K K) ∧ w'.cell? ⟨w.heap.size, 0, none⟩ = some (i64 qt) ∧ w'.cell? ⟨w.heap.size, 1, none⟩ = some (i64 qv))) (by kernel_rfl) ?_ (fun hHeld => ?_)
    · go_keep
    refine tkI (i := 0) (oi := ⟨some 17, .move (.tmp 0), 50, _, #[], none⟩) ?_
    try simp only [Act.put, tkA, tkB, tkC]
    refine tkI (i := 1) (oi := ⟨some 18, .nilCheck (.tmp 17), 0, _, #[⟨0, .data⟩], none⟩) ?_
    try simp only [Act.put, tkA, tkB, tkC]
    refine tkI (i := 2) (oi := ⟨some 19, .fieldAddr 89 (.tmp 18) 0, 0, _, #[⟨1, .data⟩], none⟩) ?_
    try simp only [Act.put, tkA, tkB, tkC]
    refine tkI (i := 3) (oi := ⟨some 20, .load 87 (.tmp 19), 87, _, #[⟨2, .data⟩], none⟩) ?_
    try simp only [Act.put, tkA, tkB, tkC]
    refine tkI (i := 4) (oi := ⟨some 21, .move (.tmp 6), 3, _, #[], none⟩) ?_
    try simp only [Act.put, tkA, tkB, tkC]
    refine tkI (i := 5) (oi := ⟨some 22, .indexAddr 87 (.tmp 20) (.tmp 21), 0, _, #[⟨3, .data⟩, ⟨4, .data⟩], none⟩) ?_
    try simp only [Act.put, tkA, tkB, tkC]
    refine tkI (i := 6) (oi := ⟨some 23, .load 94 (.tmp 22), 94, _, #[⟨5, .data⟩], none⟩) ?_
    try simp only [Act.put, tkA, tkB, tkC]
    refine tkI (i := 7) (oi := ⟨some 24, .fieldAddr 48 (.tmp 5) 0, 0, _, #[], none⟩) ?_
    try simp only [Act.put, tkA, tkB, tkC]
    refine tkI (i := 8) (oi := ⟨some 25, .load 3 (.tmp 24), 3, _, #[⟨7, .data⟩], none⟩) ?_
    try simp only [Act.put, tkA, tkB, tkC]
    refine tkI (i := 9) (oi := ⟨some 26, .fieldAddr 48 (.tmp 5) 1, 0, _, #[], none⟩) ?_
    try simp only [Act.put, tkA, tkB, tkC]
    refine tkI (i := 10) (oi := ⟨some 27, .load 3 (.tmp 26), 3, _, #[⟨9, .data⟩], none⟩) ?_
    try simp only [Act.put, tkA, tkB, tkC]
    have HBD := hid (show Below w.heap.size w w1.drew from HB1.out.drew)
    refine wpAnyH_ready (rs := [11]) (by kernel_rfl) (by simp) ?_
    refine AllReadyH.cons rfl (fun K' hK => ?_) AllReadyH.nil
    go_simp
    go_wp2_with (go_at_call 90; refine (HWR.out _ (blk_later HBD.out (blk_lt HG.out) HG.out)).mono ?_; rintro e w2 ⟨rfl, hf2, hw2⟩)
    refine hK.out _ _ ?_ (fun hHeld => ?_)
    · exact ⟨hf2.cellZ (by show ¬ p = g; exact fun e => hgp e.symm) (by simp [*]), hf2.cellZ (by show ¬ gl = g; exact fun e => hgg e.symm) (by simp [*]), hf2.cellZ (by show ¬ gl = g; exact fun e => hgg e.symm) (by simp [*]), hf2.cellZ (by show ¬ w.heap.size = g; exact hgw) (by simp [*]), hf2.cellZ (by show ¬ w.heap.size = g; exact hgw) (by simp [*])⟩
    clear hK K'
    have HR2 := hid (HN.out _ _ HBD.out hf2 hw2)
    have HF2 := hid (show Fr In w w2 from (Fr.below (In := In) HBD.out).trans hf2 (fun x e => by have e' : x = g := e; subst e'; exact .inl HIN.out))
    have y0 := hHeld.2.2.2.1
    have zz2 : w.heap.size < w2.heap.size := World.block_lt_of_cell? _ _ y0
    clear hf2 hw2 x0 x1 d0 e0 e1
    refine wpAnyH_done (by kernel_rfl) ?_ _
    go_wp2_with fail
    refine (HGO.out w2 HR2.out).mono ?_
    rintro e w3 ⟨rfl, hr3, hf3⟩
    have HR3 := hid hr3
    have HF3 := hid (HF2.out.trans hf3 (fun _ h => .inl h))
    clear hr3 hf3
    go_wp2
    go_end0
    exact ⟨rfl, HR3.out, HF3.out⟩
end Go.Proofs.YthbbfjfekchdiaaGreat
