import Derived.Test.YthbbfjfekchdiaaGreatXTk
import Derived.Test.YthbbfjfekchdiaaGreatXRFetch
import Derived.Deep.DeepCutAuto
namespace Go.Proofs.YthbbfjfekchdiaaGreat
open Go.RowKit
set_option linter.unusedSimpArgs false
theorem fetch_fut_err {c : Cfg} {now fr un : Int} (h : StampIn now ∧ StampIn fr ∧ StampIn un ∧ fr ≤ un) (h2 : now < fr) : fetchErr c now fr un = 3 := by unfold fetchErr; rw [if_neg (fun x => x h), if_pos h2]
theorem fetch_old_err {c : Cfg} {now fr un : Int} (h : StampIn now ∧ StampIn fr ∧ StampIn un ∧ fr ≤ un) (h2 : ¬ now < fr) (h3 : firstI c now (min un now) < 0) : fetchErr c now fr un = 4 := by unfold fetchErr; rw [if_neg (fun x => x h), if_neg h2, if_pos h3]
theorem fetch_no_err {c : Cfg} {now fr un : Int} (h : StampIn now ∧ StampIn fr ∧ StampIn un ∧ fr ≤ un) (h2 : ¬ now < fr) (h3 : ¬ firstI c now (min un now) < 0) : fetchErr c now fr un = 0 := by unfold fetchErr; rw [if_neg (fun x => x h), if_neg h2, if_neg h3]
theorem fetch_end {d : RDb} {now fr un : Int} {w wS wr : World} {B : Nat} {v : Value} (h0 : fetchErr d.c now fr un = 0) (h : FI w wS wr B (fetchI d.c now fr) (d.c.s (fetchI d.c now fr)) v (fetchL d now fr un)) (x y z : Value) :
    ∃ v', Ending.returned (.tuple #[.agg #[i64 (fetchI d.c now fr : Int), i64 (d.c.s (fetchI d.c now fr)), v], i64 0]) = .returned (.tuple #[.agg #[i64 (serA d now fr un), i64 (serS d now fr un), v'], i64 (fetchErr d.c now fr un)]) ∧ Below w.heap.size w (((wr.setCell ⟨w.heap.size, 0, none⟩ x).setCell ⟨w.heap.size, 1, none⟩ y).setCell ⟨w.heap.size, 2, none⟩ z) ∧ (((wr.setCell ⟨w.heap.size, 0, none⟩ x).setCell ⟨w.heap.size, 1, none⟩ y).setCell ⟨w.heap.size, 2, none⟩ z).ownsRow w.heap.size 48 2 v' (serP d now fr un).length (ptCells (serP d now fr un)) := by
  have hz := h.hB
  refine ⟨v, by unfold serA serS; rw [if_pos h0, if_pos h0, h0], Below.setCell (p := ⟨w.heap.size, 2, none⟩) (Below.setCell (p := ⟨w.heap.size, 1, none⟩) (Below.setCell (p := ⟨w.heap.size, 0, none⟩) h.below (Nat.le_refl _) _) (Nat.le_refl _) _) (Nat.le_refl _) _, ?_⟩
  unfold serP
  rw [if_pos h0]
  exact owns_base (ownsRow_setCell_below (ownsRow_setCell_below (ownsRow_setCell_below h.own (by show w.heap.size < _; omega) _) (by show w.heap.size < _; omega) _) (by show w.heap.size < _; omega) _) (by omega)
theorem fetchB_eq (c : Cfg) (i : Nat) (now fr un : Int) (q : Pt) : fetchB c i now fr un q = (covB c i now q.1 && (decide (fr ≤ q.1) && decide (q.1 ≤ un))) := rfl
theorem RRep.lt {w : World} {In : Nat → Prop} {p : Nat} {d : RDb} (h : RRep w In p d) : p < w.heap.size := by
  obtain ⟨gl, vs, a, _⟩ := h.mem
  exact blk_lt a
set_option maxHeartbeats 4000000 in
theorem fetch_fut (p : Nat) (now fr un : Int) (d : RDb) (w : World) (h : StampIn now ∧ StampIn fr ∧ StampIn un ∧ fr ≤ un) (hf : now < fr) :
    Calls Tryz.prog 55 #[.pointer (some ⟨p, 0, none⟩), i64 now, i64 fr, i64 un] w fun e w' => ∃ v, e = .returned (.tuple #[.agg #[i64 (serA d now fr un), i64 (serS d now fr un), v], i64 (fetchErr d.c now fr un)]) ∧ Below w.heap.size w w' ∧ w'.ownsRow w.heap.size 48 2 v (serP d now fr un).length (ptCells (serP d now fr un)) := by
  have HE := hid (fetch_fut_err (c := d.c) h hf)
  obtain ⟨⟨a0, a1⟩, ⟨b0, b1⟩, ⟨c0, c1⟩, hle⟩ := h
  go_enter Tryz.func55, Tryz.ntmps55
  go_wp2_with (go_at_call 38; refine (in_keep _ _ _ _).mono ?_; rintro e w' ⟨rfl, rfl⟩)
  refine bodyPost_ret (v := .tuple #[.agg #[i64 0, i64 0, .slice none 0 0], i64 3]) (by simp [results, Tryz.results55, go_sem]) rfl ?_
  exact fetch_err HE.out (by decide) ((Below.refl _ _).alloc (Nat.le_refl _) _)
set_option maxRecDepth 4000 in
set_option maxHeartbeats 4000000 in
theorem fetch_go1 (p : Nat) (now fr un : Int) (d : RDb) (In : Nat → Prop) (w : World) (hrep : RRep w In p d) (hd : d.Ok) (h : StampIn now ∧ StampIn fr ∧ StampIn un ∧ fr ≤ un) (hf : fr ≤ now) (hu : un ≤ now) :
    Calls Tryz.prog 55 #[.pointer (some ⟨p, 0, none⟩), i64 now, i64 fr, i64 un] w fun e w' => ∃ v, e = .returned (.tuple #[.agg #[i64 (serA d now fr un), i64 (serS d now fr un), v], i64 (fetchErr d.c now fr un)]) ∧ Below w.heap.size w w' ∧ w'.ownsRow w.heap.size 48 2 v (serP d now fr un).length (ptCells (serP d now fr un)) := by
  have H := hid h
  have HREP := hid hrep
  have HD := hid hd
  obtain ⟨⟨a0, a1⟩, ⟨b0, b1⟩, ⟨c0, c1⟩, hle⟩ := h
  have HM1 := hid (d.c.ok_iff.1 hd.cfg).2.2.1
  have h4 := d.c.many_le
  have HMIN := hid (show min un now = un by omega)
  have hpz := hrep.lt
  clear hrep hd
  go_enter Tryz.func55, Tryz.ntmps55
  go_wp2_with (go_at_call 38; refine (in_keep _ _ _ _).mono ?_; rintro e w' ⟨rfl, rfl⟩)
  refine (first_ref p d.c now un _ ((HREP.out.later ((Below.refl _ _).alloc (Nat.le_refl _) _)).arc HD.out) a0 a1 (by omega) (by omega)).mono ?_
  rintro e w1 ⟨rfl, hb1⟩
  have HB1 := hid (below_one hb1)
  have HR1 := hid (blk_later hb1 (by simp) (blk_new w (.cells #[i64 0, i64 0, .slice none 0 0] 108)))
  have hz1 : w.heap.size < w1.heap.size := blk_lt HR1.out
  have r0 : w1.cell? ⟨w.heap.size, 0, none⟩ = some (i64 0) := cell_of_blk HR1.out 0
  have r1 : w1.cell? ⟨w.heap.size, 1, none⟩ = some (i64 0) := cell_of_blk HR1.out 1
  have r2 : w1.cell? ⟨w.heap.size, 2, none⟩ = some (.slice none 0 0) := cell_of_blk HR1.out 2
  have f0 : w1.frozen? ⟨w.heap.size, 0, none⟩ = false := frozen_of_blk HR1.out 0
  have f1 : w1.frozen? ⟨w.heap.size, 1, none⟩ = false := frozen_of_blk HR1.out 1
  have f2 : w1.frozen? ⟨w.heap.size, 2, none⟩ = false := frozen_of_blk HR1.out 2
  clear hb1
  by_cases ho : firstI d.c now un < 0
  · have HE := hid (fetch_old_err (c := d.c) H.out (by omega) (by rw [HMIN.out]; exact ho))
    go_wp2
    refine bodyPost_ret (v := .tuple #[.agg #[i64 0, i64 0, .slice none 0 0], i64 4]) (by simp [results, Tryz.results55, go_sem, r0, r1, r2, f0, f1, f2]) rfl ?_
    exact fetch_err HE.out (by decide) (Below.setCell (p := ⟨w.heap.size, 2, none⟩) (Below.setCell (p := ⟨w.heap.size, 1, none⟩) (Below.setCell (p := ⟨w.heap.size, 0, none⟩) HB1.out (Nat.le_refl _) _) (Nat.le_refl _) _) (Nat.le_refl _) _)
  have HE := hid (fetch_no_err (c := d.c) H.out (by omega) (by rw [HMIN.out]; exact ho))
  go_wp2_with fail
  refine (first_ref p d.c now fr _ ((HREP.out.later HB1.out).arc HD.out) a0 a1 b0 b1).mono ?_
  rintro e w2 ⟨rfl, hb2⟩
  have HB2 := hid (HB1.out.trans (hb2.mono (by omega)))
  have HR2 := hid (blk_later hb2 hz1 HR1.out)
  have hz2 : w.heap.size < w2.heap.size := blk_lt HR2.out
  have HW2 := hid hb2
  obtain ⟨ip, gl, vs, hp, hg, hs, ig, hr⟩ := (HREP.out.later HB2.out)
  have x10 : w2.cell? ⟨p, 10, none⟩ = some (.slice (some ⟨gl, 0, none⟩) d.c.many d.c.many) := cell_of_blk hp 10
  have hpz2 : p < w2.heap.size := blk_lt hp
  have HFL := hid (fetchI_lt (now := now) (fr := fr) HM1.out)
  have HP := hid hp
  have HG := hid hg
  have HR := hid hr
  clear hb2 r0 r1 r2 f0 f1 f2 ip ig hp hg hs hr
  go_upto_if 57 with fail
  go_cut [13] (fun i wc => i = i64 (fetchI d.c now fr) ∧ wc = w2)
  case first =>
    by_cases hi : firstI d.c now fr < 0
    · have HN := hid (show ((d.c.many : Nat) : Int) - 1 = ((fetchI d.c now fr : Nat) : Int) by unfold fetchI; rw [(firstI_no hi).1]; have := HM1.out; simp only; omega)
      go_wp2
      go_meet
      exact ⟨congrArg i64 HN.out, rfl⟩
    · have HN := hid (show firstI d.c now fr = ((fetchI d.c now fr : Nat) : Int) by obtain ⟨j, a, b, _⟩ := firstI_some hi; unfold fetchI; rw [a, b])
      go_wp2
      go_meet
      exact ⟨congrArg i64 HN.out, rfl⟩
  case rest =>
    obtain ⟨rfl, hwc⟩ := hcut
    have hwc' := hwc.symm
    subst hwc'
    clear hwc
    have HFD := hid (show fetchL d now fr un = (sortedL (d.L.getD (fetchI d.c now fr) [])).filter (fetchB d.c (fetchI d.c now fr) now fr un) from rfl)
    have HEND := hid (fun (wS wr : World) (B : Nat) (v : Value) => fetch_end (d := d) (now := now) (fr := fr) (un := un) (w := w) (wS := wS) (wr := wr) (B := B) (v := v) HE.out)
    obtain ⟨ii, hii⟩ : ∃ ii, ii = fetchI d.c now fr := ⟨_, rfl⟩
    rw [← hii] at HFL HFD HEND ⊢
    obtain ⟨l, hl⟩ : ∃ l, d.L[ii]? = some l := ⟨_, List.getElem?_eq_getElem (by rw [HD.out.len]; exact HFL.out)⟩
    have HGD := hid (show d.L.getD ii [] = l by rw [List.getD_eq_getElem?_getD, hl]; rfl)
    obtain ⟨vl, hvl, hownl, _⟩ := HR.out ii l hl
    obtain ⟨y0, y1⟩ := cfg_cell HP.out ii (by have := HFL.out; omega)
    have xi : w2.cell? ⟨gl, ii, none⟩ = some vl := (cell_of_blk HG.out ii).trans hvl
    have HROW := hid (rowAt_of hownl)
    have HPT := hid (HD.out.pts ii l hl)
    have hlen : l.length ≤ 60 := HPT.out.2
    have hbd := (bdB_all (d.c.ok_iff.1 HD.out.cfg).2.2.2.2.1) ii HFL.out
    obtain ⟨q0, q1⟩ := Cfg.prod_bd hbd
    have HCOV := hid (show ∀ t, covB d.c ii now t = (decide (t ≤ now) && decide (now - t < d.c.s ii * d.c.k ii)) from fun t => rfl)
    obtain ⟨s, hsd⟩ : ∃ s, s = d.c.s ii := ⟨_, rfl⟩
    obtain ⟨kk, hkd⟩ : ∃ k, k = d.c.k ii := ⟨_, rfl⟩
    have HIL := hid (show ii < d.c.many from HFL.out)
    have i0 : (0 : Int) ≤ (ii : Int) := by omega
    have i1 : (ii : Int) < 4 := by have := HFL.out; omega
    rw [← hsd] at y0 q0 q1 HCOV HEND
    rw [← hkd] at y1 q0 q1 HCOV
    have hgz : gl < w2.heap.size := blk_lt HG.out
    clear hii hl hvl hownl hbd hsd hkd
    go_wp2_with fail
    have hal := (Below.refl w2.heap.size w2).alloc (Nat.le_refl _) (.cells #[i64 ii, i64 s, .slice none 0 0] 108)
    refine (sorted_ref p gl ii d.c.many l vl _ (cell_later hal x10) HIL.out (cell_later hal xi) (HROW.out.later hal) hlen).mono ?_
    rintro e wS ⟨vs', rfl, hbS, hoS⟩
    have HSB := hid (blk_later hbS (by simp) (blk_new w2 (.cells #[i64 ii, i64 s, .slice none 0 0] 108)))
    have HSO := hid (show wS.ownsRow (w2.heap.size + 1) 48 2 vs' (sortedL l).length (ptCells (sortedL l)) from owns_base hoS (by simp))
    have hzS : w2.heap.size < wS.heap.size := blk_lt HSB.out
    have HST := hid (show Below w.heap.size w wS from (HB2.out.alloc (by omega) _).trans (hbS.mono (by simp; omega)))
    have HSR := hid (blk_later hbS (by simp; omega) (blk_alloc HR2.out))
    have HSM := hid (show ∀ q ∈ sortedL l, PtIn q from fun q hq => HPT.out.1 q (sortedL_mem.1 hq))
    have hsl : (sortedL l).length ≤ 60 := by rw [sortedL_length]; exact hlen
    have HFI0 := hid (show FI w wS wS w2.heap.size ii s (.slice none 0 0) [] from ⟨HST.out, ⟨hz2, hzS⟩, Fr.refl _ _, HSR.out, HSB.out, World.ownsRow_nil _ _ _ _⟩)
    have HSY := hid (And.intro (cell_later hbS (cell_later hal y0)) (cell_later hbS (cell_later hal y1)))
    have hpS : p < wS.heap.size := by omega
    rw [HGD.out] at HFD
    obtain ⟨o, hod⟩ : ∃ o, o = sortedL l := ⟨_, rfl⟩
    rw [← hod] at HSO HSM hsl HFD
    obtain ⟨asl, cs, hvs, hrs⟩ := rowAt_of HSO.out
    subst hvs
    have HRS := hid hrs
    have HPB := hid (show p ≠ w2.heap.size by omega)
    clear hal hbS hoS y0 y1 x10 xi hod hrs
    go_wp2
    go_loopw [16] (fun k' wr => ∃ (k : Nat) (v : Value), k ≤ o.length ∧ k' = i64 k ∧ FI w wS wr w2.heap.size ii s v ((o.take k).filter (fetchB d.c ii now fr un))) (fun k' _ => o.length - (intOf k').toNat)
    case atStart => exact ⟨0, _, by omega, rfl, HFI0.out⟩
    case round =>
      obtain ⟨k, v, hk, rfl, I⟩ := hrel
      have HI := hid I
      have hbz : w2.heap.size < wr.heap.size := blk_lt I.blk
      have hzr := I.fr.size
      have hzw : w.heap.size < wr.heap.size := by omega
      have g0 : wr.cell? ⟨w2.heap.size, 0, none⟩ = some (i64 ii) := cell_of_blk I.blk 0
      have g1 : wr.cell? ⟨w2.heap.size, 1, none⟩ = some (i64 s) := cell_of_blk I.blk 1
      have g2 : wr.cell? ⟨w2.heap.size, 2, none⟩ = some v := cell_of_blk I.blk 2
      have gf : wr.frozen? ⟨w2.heap.size, 2, none⟩ = false := frozen_of_blk I.blk 2
      clear I
      by_cases hlt : k < o.length
      case neg =>
        have ek : o.take k = o := List.take_of_length_le (by omega)
        rw [ek, ← HFD.out] at HI
        have HRR := hid ((HI.out.fr.block w.heap.size (by omega) (by show ¬ w.heap.size = w2.heap.size; omega)).trans HI.out.res)
        have e0 : wr.frozen? ⟨w.heap.size, 0, none⟩ = false := frozen_of_blk HRR.out 0
        have e1 : wr.frozen? ⟨w.heap.size, 1, none⟩ = false := frozen_of_blk HRR.out 1
        have e2 : wr.frozen? ⟨w.heap.size, 2, none⟩ = false := frozen_of_blk HRR.out 2
        have r0 : wr.cell? ⟨w.heap.size, 0, none⟩ = some (i64 0) := cell_of_blk HRR.out 0
        have r1 : wr.cell? ⟨w.heap.size, 1, none⟩ = some (i64 0) := cell_of_blk HRR.out 1
        have r2 : wr.cell? ⟨w.heap.size, 2, none⟩ = some (.slice none 0 0) := cell_of_blk HRR.out 2
        obtain ⟨av, cv, rfl, _⟩ := rowAt_of HI.out.own
        clear ek
        obtain ⟨nn, hnn⟩ : ∃ n, n = (fetchL d now fr un).length := ⟨_, rfl⟩
        rw [← hnn] at g2
        have HNN := hid hnn
        clear hnn
        go_wp2
        have T0 : (wr.setCell ⟨w.heap.size, 0, none⟩ (i64 ii)).cell? ⟨w.heap.size, 0, none⟩ = some (i64 ii) := cell_of_blk (blk_setCell HRR.out 0 _) 0
        have T1 : ((wr.setCell ⟨w.heap.size, 0, none⟩ (i64 ii)).setCell ⟨w.heap.size, 1, none⟩ (i64 s)).cell? ⟨w.heap.size, 1, none⟩ = some (i64 s) := cell_of_blk (blk_setCell (blk_setCell HRR.out 0 _) 1 _) 1
        have T2 : (((wr.setCell ⟨w.heap.size, 0, none⟩ (i64 ii)).setCell ⟨w.heap.size, 1, none⟩ (i64 s)).setCell ⟨w.heap.size, 2, none⟩ (.slice av nn cv)).cell? ⟨w.heap.size, 2, none⟩ = some (.slice av nn cv) := cell_of_blk (blk_setCell (blk_setCell (blk_setCell HRR.out 0 _) 1 _) 2 _) 2
        refine bodyPost_ret (v := .tuple #[.agg #[i64 ii, i64 s, .slice av nn cv], i64 0]) (by simp [results, Tryz.results55, go_sem, T0, T1, T2]) rfl ?_
        rw [HNN.out]
        exact HEND.out _ _ _ _ HI.out _ _ _
      obtain ⟨q, hq⟩ : ∃ q, o[k]? = some q := ⟨_, List.getElem?_eq_getElem hlt⟩
      obtain ⟨b, rfl, hbb, c0', c1'⟩ := HRS.out k q hq
      have hbS : b < wS.heap.size := by omega
      have hbne : b ≠ w2.heap.size := by
        have := (HSO.out.lt b rfl).1
        omega
      have ebr := HI.out.fr.block b hbS hbne
      have s0 : wr.cell? ⟨b, k * 2, none⟩ = some (i64 q.1) := (World.cell?_of_block (a := ⟨b, k * 2, none⟩) ebr).trans c0'
      have s1 : wr.cell? ⟨b, k * 2 + 1, none⟩ = some (i64 q.2) := (World.cell?_of_block (a := ⟨b, k * 2 + 1, none⟩) ebr).trans c1'
      have epr := HI.out.fr.block p hpS HPB.out
      have y0 : wr.cell? ⟨p, ii * 2, none⟩ = some (i64 s) := (World.cell?_of_block (a := ⟨p, ii * 2, none⟩) epr).trans HSY.out.1
      have y1 : wr.cell? ⟨p, ii * 2 + 1, none⟩ = some (i64 kk) := (World.cell?_of_block (a := ⟨p, ii * 2 + 1, none⟩) epr).trans HSY.out.2
      have hbr : b < wr.heap.size := by omega
      have hpr : p < wr.heap.size := by omega
      have k0 : (0 : Int) ≤ (k : Int) := by omega
      have k1 : (k : Int) < (o.length : Int) := by omega
      obtain ⟨t0, t1, _, _⟩ := HSM.out q (List.mem_iff_getElem?.2 ⟨k, hq⟩)
      have HFS := hid (filter_take_succ (fetchB d.c ii now fr un) hq)
      have HBE := hid (fetchB_eq d.c ii now fr un q)
      clear hq c0' c1' ebr epr hbne
      go_wp2_with fail
      go_cut [17] (fun z wx => z = .bool (covB d.c ii now q.1) ∧ Below wr.heap.size wr wx)
      case first =>
        refine wp_region_held_drew (S := (fun w' => w'.cell? ⟨p, ii * 2, none⟩ = some (i64 s) ∧ w'.cell? ⟨p, ii * 2 + 1, none⟩ = some (i64 kk) ∧ w'.cell? ⟨b, k * 2, none⟩ = some (i64 q.1))) (by kernel_rfl) ?_ (fun hHeld => ?_)
        · go_keep
        refine tkI (i := 0) (oi := ⟨some 83, .move (.tmp 0), 51, _, #[], none⟩) ?_
        try simp only [Act.put, tkA, tkB, tkC]
        refine tkI (i := 1) (oi := ⟨some 84, .move (.tmp 13), 3, _, #[], none⟩) ?_
        try simp only [Act.put, tkA, tkB, tkC]
        refine tkI (i := 2) (oi := ⟨some 85, .nilCheck (.tmp 83), 0, _, #[⟨0, .data⟩], none⟩) ?_
        try simp only [Act.put, tkA, tkB, tkC]
        refine tkI (i := 3) (oi := ⟨some 86, .fieldAddr 70 (.tmp 85) 0, 0, _, #[⟨2, .data⟩], none⟩) ?_
        try simp only [Act.put, tkA, tkB, tkC]
        refine tkI (i := 4) (oi := ⟨some 87, .fieldAddr 40 (.tmp 86) 0, 0, _, #[⟨3, .data⟩], none⟩) ?_
        try simp only [Act.put, tkA, tkB, tkC]
        refine tkI (i := 5) (oi := ⟨some 88, .indexAddr 38 (.tmp 87) (.tmp 84), 0, _, #[⟨4, .data⟩, ⟨1, .data⟩], none⟩) ?_
        try simp only [Act.put, tkA, tkB, tkC]
        refine tkI (i := 6) (oi := ⟨some 89, .load 37 (.tmp 88), 37, _, #[⟨5, .data⟩], none⟩) ?_
        try simp only [Act.put, tkA, tkB, tkC]
        refine tkI (i := 7) (oi := ⟨some 90, .move (.tmp 1), 3, _, #[], none⟩) ?_
        try simp only [Act.put, tkA, tkB, tkC]
        refine tkI (i := 8) (oi := ⟨some 91, .move (.tmp 15), 41, _, #[], none⟩) ?_
        try simp only [Act.put, tkA, tkB, tkC]
        refine tkI (i := 9) (oi := ⟨some 92, .move (.tmp 16), 3, _, #[], none⟩) ?_
        try simp only [Act.put, tkA, tkB, tkC]
        refine tkI (i := 10) (oi := ⟨some 93, .indexAddr 41 (.tmp 91) (.tmp 92), 0, _, #[⟨8, .data⟩, ⟨9, .data⟩], none⟩) ?_
        try simp only [Act.put, tkA, tkB, tkC]
        refine tkI (i := 11) (oi := ⟨some 94, .fieldAddr 48 (.tmp 93) 0, 0, _, #[⟨10, .data⟩], none⟩) ?_
        try simp only [Act.put, tkA, tkB, tkC]
        refine tkI (i := 12) (oi := ⟨some 95, .load 3 (.tmp 94), 3, _, #[⟨11, .data⟩], none⟩) ?_
        try simp only [Act.put, tkA, tkB, tkC]
        refine wpAnyH_ready (rs := [13]) (by kernel_rfl) (by simp) ?_
        refine AllReadyH.cons rfl (fun K hK => ?_) AllReadyH.nil
        go_simp
        refine (covers_any s kk now q.1 _ q0 q1 a0 a1 t0 t1).mono ?_
        rintro e w3 ⟨rfl, hb3⟩
        have hb3' : Below wr.heap.size wr w3 := (Below.refl _ wr).drew.trans hb3
        refine hK.out _ _ ?_ (fun hHeld => ?_)
        · exact ⟨cell_later hb3' y0, cell_later hb3' y1, cell_later hb3' s0⟩
        clear hK K
        have HB3 := hid hb3'
        clear hb3 hb3' 
        refine tkI (i := 14) (oi := ⟨some 17, .assign (.tmp 96), 4, _, #[⟨13, .data⟩, ⟨13, .chain⟩, ⟨0, .phase⟩, ⟨1, .phase⟩, ⟨2, .phase⟩, ⟨3, .phase⟩, ⟨4, .phase⟩, ⟨5, .phase⟩, ⟨6, .phase⟩, ⟨7, .phase⟩, ⟨8, .phase⟩, ⟨9, .phase⟩, ⟨10, .phase⟩, ⟨11, .phase⟩, ⟨12, .phase⟩, ⟨13, .phase⟩], none⟩) ?_
        try simp only [Act.put, tkA, tkB, tkC]
        refine wpAnyH_done (by kernel_rfl) ?_ _
        go_wp2_with fail
        go_meet
        exact ⟨by rw [HCOV.out], HB3.out⟩
      case rest =>
        obtain ⟨rfl, hbx⟩ := hcut
        have HI1 := hid (HI.out.later hbx)
        have hzx := hbx.size
        have G2 : wc.cell? ⟨w2.heap.size, 2, none⟩ = some v := cell_later hbx g2
        have GF : wc.frozen? ⟨w2.heap.size, 2, none⟩ = false := frozen_of_blk HI1.out.blk 2
        have S0 : wc.cell? ⟨b, k * 2, none⟩ = some (i64 q.1) := cell_later hbx s0
        have S1 : wc.cell? ⟨b, k * 2 + 1, none⟩ = some (i64 q.2) := cell_later hbx s1
        have hbc : b < wc.heap.size := by omega
        have h2c : w2.heap.size < wc.heap.size := by omega
        clear g0 g1 g2 gf s0 s1 y0 y1 hbx HI
        by_cases hall : covB d.c ii now q.1 = true ∧ fr ≤ q.1 ∧ q.1 ≤ un
        · obtain ⟨h1, h2, h3⟩ := hall
          have HF := hid (show (o.take (k + 1)).filter (fetchB d.c ii now fr un) = (o.take k).filter (fetchB d.c ii now fr un) ++ [q] by rw [HFS.out, HBE.out, h1, decide_eq_true h2, decide_eq_true h3]; rfl)
          have hol : ((o.take k).filter (fetchB d.c ii now fr un)).length ≤ 60 := by
            have h1 := List.length_filter_le (fetchB d.c ii now fr un) (o.take k)
            have h2 := List.length_take_le k o
            omega
          have hbw : b ≠ w2.heap.size := by
            have := (HSO.out.lt b rfl).1
            omega
          have HFB := hid (show some b ≠ v.ownBlock from owns_not HI1.out.own hbS)
          have HFW := hid (show some w2.heap.size ≠ v.ownBlock from owns_not HI1.out.own hzS)
          obtain ⟨q9, hi0, hz0, hz1', hz2'⟩ := info_parts Tryz.infoPoint
          have HI0 := hid (And.intro hi0 (And.intro hz0 (And.intro hz1' hz2')))
          clear hi0 hz0 hz1' hz2'
          go_wp2_with fail
          refine wp_region_held_drew (S := (fun w' => w'.cell? ⟨b, k * 2, none⟩ = some (i64 q.1) ∧ w'.cell? ⟨b, k * 2 + 1, none⟩ = some (i64 q.2))) (by kernel_rfl) ?_ (fun hHeld => ?_)
          · go_keep
          refine tkI (i := 0) (oi := ⟨some 116, .fieldAddr 108 (.tmp 14) 2, 0, _, #[], none⟩) ?_
          try simp only [Act.put, tkA, tkB, tkC]
          refine tkI (i := 2) (oi := ⟨some 118, .move (.tmp 15), 41, _, #[], none⟩) ?_
          try simp only [Act.put, tkA, tkB, tkC]
          refine tkI (i := 3) (oi := ⟨some 119, .move (.tmp 16), 3, _, #[], none⟩) ?_
          try simp only [Act.put, tkA, tkB, tkC]
          refine tkI (i := 4) (oi := ⟨some 120, .indexAddr 41 (.tmp 118) (.tmp 119), 0, _, #[⟨2, .data⟩, ⟨3, .data⟩], none⟩) ?_
          try simp only [Act.put, tkA, tkB, tkC]
          refine tkI (i := 5) (oi := ⟨some 121, .load 48 (.tmp 120), 48, _, #[⟨4, .data⟩], none⟩) ?_
          try simp only [Act.put, tkA, tkB, tkC]
          refine wpAnyH_ready (rs := [1, 6]) (by kernel_rfl) (by simp) ?_
          refine AllReadyH.cons rfl (fun K hK => ?_) (AllReadyH.cons rfl (fun K hK => ?_) AllReadyH.nil)
          · go_simp
            refine hK.out _ _ ?_ (fun hHeld => ?_)
            · go_keep
            clear hK K
            refine wpAnyH_ready (rs := [6]) (by kernel_rfl) (by simp) ?_
            refine AllReadyH.cons rfl (fun K hK => ?_) AllReadyH.nil
            go_simp
            refine hK.out _ _ ?_ (fun hHeld => ?_)
            · go_keep
            clear hK K
            refine wpAnyH_ready (rs := [7]) (by kernel_rfl) (by simp) ?_
            refine AllReadyH.cons rfl (fun K hK => ?_) AllReadyH.nil
            refine step_append_lies _ (by rfl) (.tmp 117) (.tmp 122) 41 (by rfl) wS.heap.size 48 q9 _ 2 16 Tryz.underlying41 HI0.out.1 HI0.out.2.1 HI0.out.2.2.1 HI0.out.2.2.2 rfl (by decide) v _ _ (by rfl) (HI1.out.own.alloc _) ⟨wc.heap.size, 0, none⟩ 1 1 [i64 q.1, i64 q.2] (by rfl) rfl (World.news_of_block (heap_alloc_new wc _)) (by simp [Value.oneCell']) (by decide) (by unfold maxLen; omega) (by omega) (by show wS.heap.size ≤ (wc.alloc _).heap.size; simp; omega) (wc.heap.size + 1) (by show (wc.alloc _).heap.size = _; simp) ?_
            intro g cap w3 hown3 hgrow hat hlt3
            refine hK.out _ _ ?_ (fun hHeld => ?_)
            · exact ⟨hgrow.cell (by simp [*]) HFB.out, hgrow.cell (by simp [*]) HFB.out⟩
            clear hK K
            have hg' := grown_undrew hgrow
            have HN := hid (HI1.out.app hown3 hg')
            have b3 : w3.heap[w2.heap.size]? = some (.cells #[i64 ii, i64 s, v] 108) := (hg'.block _ (by simp; omega) HFW.out).trans (blk_alloc HI1.out.blk)
            have gf3 : w3.frozen? ⟨w2.heap.size, 2, none⟩ = false := frozen_of_blk b3 2
            have g3 : w3.cell? ⟨w2.heap.size, 2, none⟩ = some v := cell_of_blk b3 2
            rw [← HF.out] at HN
            clear hown3 hgrow hat hlt3 hg' b3
            refine tkI (i := 8) (oi := ⟨some 124, .fieldAddr 108 (.tmp 14) 2, 0, _, #[⟨0, .phase⟩, ⟨1, .phase⟩, ⟨2, .phase⟩, ⟨3, .phase⟩, ⟨4, .phase⟩, ⟨5, .phase⟩, ⟨6, .phase⟩, ⟨7, .phase⟩], none⟩) ?_
            try simp only [Act.put, tkA, tkB, tkC]
            refine wpAnyH_ready (rs := [9]) (by kernel_rfl) (by simp) ?_
            refine AllReadyH.cons rfl (fun K hK => ?_) AllReadyH.nil
            go_simp
            refine hK.out _ _ ?_ (fun hHeld => ?_)
            · exact ⟨(World.cell?_setCell_far _ _ _ _ (by exact fun e => hbw e.symm)).trans hHeld.1, (World.cell?_setCell_far _ _ _ _ (by exact fun e => hbw e.symm)).trans hHeld.2⟩
            clear hK K
            refine wpAnyH_done (by kernel_rfl) ?_ _
            go_wp2
            go_roundw
            case rel => first | exact ⟨k + 1, _, by omega, by go_num, HN.out⟩ | ((repeat apply Exists.intro); exact ⟨⟨k + 1, _, by omega, by go_num, HN.out⟩, rfl⟩)
            case measure => simp [intOf]; omega
          · go_simp
            refine hK.out _ _ ?_ (fun hHeld => ?_)
            · go_keep
            clear hK K
            refine wpAnyH_ready (rs := [1]) (by kernel_rfl) (by simp) ?_
            refine AllReadyH.cons rfl (fun K hK => ?_) AllReadyH.nil
            go_simp
            refine hK.out _ _ ?_ (fun hHeld => ?_)
            · go_keep
            clear hK K
            refine wpAnyH_ready (rs := [7]) (by kernel_rfl) (by simp) ?_
            refine AllReadyH.cons rfl (fun K hK => ?_) AllReadyH.nil
            refine step_append_lies _ (by rfl) (.tmp 117) (.tmp 122) 41 (by rfl) wS.heap.size 48 q9 _ 2 16 Tryz.underlying41 HI0.out.1 HI0.out.2.1 HI0.out.2.2.1 HI0.out.2.2.2 rfl (by decide) v _ _ (by rfl) (HI1.out.own.alloc _) ⟨wc.heap.size, 0, none⟩ 1 1 [i64 q.1, i64 q.2] (by rfl) rfl (World.news_of_block (heap_alloc_new wc _)) (by simp [Value.oneCell']) (by decide) (by unfold maxLen; omega) (by omega) (by show wS.heap.size ≤ (wc.alloc _).heap.size; simp; omega) (wc.heap.size + 1) (by show (wc.alloc _).heap.size = _; simp) ?_
            intro g cap w3 hown3 hgrow hat hlt3
            refine hK.out _ _ ?_ (fun hHeld => ?_)
            · exact ⟨hgrow.cell (by simp [*]) HFB.out, hgrow.cell (by simp [*]) HFB.out⟩
            clear hK K
            have hg' := grown_undrew hgrow
            have HN := hid (HI1.out.app hown3 hg')
            have b3 : w3.heap[w2.heap.size]? = some (.cells #[i64 ii, i64 s, v] 108) := (hg'.block _ (by simp; omega) HFW.out).trans (blk_alloc HI1.out.blk)
            have gf3 : w3.frozen? ⟨w2.heap.size, 2, none⟩ = false := frozen_of_blk b3 2
            have g3 : w3.cell? ⟨w2.heap.size, 2, none⟩ = some v := cell_of_blk b3 2
            rw [← HF.out] at HN
            clear hown3 hgrow hat hlt3 hg' b3
            refine tkI (i := 8) (oi := ⟨some 124, .fieldAddr 108 (.tmp 14) 2, 0, _, #[⟨0, .phase⟩, ⟨1, .phase⟩, ⟨2, .phase⟩, ⟨3, .phase⟩, ⟨4, .phase⟩, ⟨5, .phase⟩, ⟨6, .phase⟩, ⟨7, .phase⟩], none⟩) ?_
            try simp only [Act.put, tkA, tkB, tkC]
            refine wpAnyH_ready (rs := [9]) (by kernel_rfl) (by simp) ?_
            refine AllReadyH.cons rfl (fun K hK => ?_) AllReadyH.nil
            go_simp
            refine hK.out _ _ ?_ (fun hHeld => ?_)
            · exact ⟨(World.cell?_setCell_far _ _ _ _ (by exact fun e => hbw e.symm)).trans hHeld.1, (World.cell?_setCell_far _ _ _ _ (by exact fun e => hbw e.symm)).trans hHeld.2⟩
            clear hK K
            refine wpAnyH_done (by kernel_rfl) ?_ _
            go_wp2
            go_roundw
            case rel => first | exact ⟨k + 1, _, by omega, by go_num, HN.out⟩ | ((repeat apply Exists.intro); exact ⟨⟨k + 1, _, by omega, by go_num, HN.out⟩, rfl⟩)
            case measure => simp [intOf]; omega
        · have HF := hid (show (o.take (k + 1)).filter (fetchB d.c ii now fr un) = (o.take k).filter (fetchB d.c ii now fr un) by
            rw [HFS.out, HBE.out]
            cases h1 : covB d.c ii now q.1 with
            | false => simp
            | true =>
              by_cases h2 : fr ≤ q.1
              · rw [decide_eq_false (fun h3 => hall ⟨h1, h2, h3⟩)]; simp
              · rw [decide_eq_false h2]; simp)
          rw [← HF.out] at HI1
          cases h1 : covB d.c ii now q.1 with
          | false =>
            go_wp2
            go_roundw
            case rel => first | exact ⟨k + 1, _, by omega, by go_num, HI1.out⟩ | ((repeat apply Exists.intro); exact ⟨⟨k + 1, _, by omega, by go_num, HI1.out⟩, rfl⟩)
            case measure => simp [intOf]; omega
          | true =>
            by_cases h2 : fr ≤ q.1
            · have h3 : ¬ q.1 ≤ un := fun h3 => hall ⟨h1, h2, h3⟩
              clear hall
              go_wp2
              go_roundw
              case rel => first | exact ⟨k + 1, _, by omega, by go_num, HI1.out⟩ | ((repeat apply Exists.intro); exact ⟨⟨k + 1, _, by omega, by go_num, HI1.out⟩, rfl⟩)
              case measure => simp [intOf]; omega
            · clear hall
              go_wp2
              go_roundw
              case rel => first | exact ⟨k + 1, _, by omega, by go_num, HI1.out⟩ | ((repeat apply Exists.intro); exact ⟨⟨k + 1, _, by omega, by go_num, HI1.out⟩, rfl⟩)
              case measure => simp [intOf]; omega
set_option maxRecDepth 4000 in
set_option maxHeartbeats 4000000 in
theorem fetch_go2 (p : Nat) (now fr un : Int) (d : RDb) (In : Nat → Prop) (w : World) (hrep : RRep w In p d) (hd : d.Ok) (h : StampIn now ∧ StampIn fr ∧ StampIn un ∧ fr ≤ un) (hf : fr ≤ now) (hu : now < un) :
    Calls Tryz.prog 55 #[.pointer (some ⟨p, 0, none⟩), i64 now, i64 fr, i64 un] w fun e w' => ∃ v, e = .returned (.tuple #[.agg #[i64 (serA d now fr un), i64 (serS d now fr un), v], i64 (fetchErr d.c now fr un)]) ∧ Below w.heap.size w w' ∧ w'.ownsRow w.heap.size 48 2 v (serP d now fr un).length (ptCells (serP d now fr un)) := by
  have H := hid h
  have HREP := hid hrep
  have HD := hid hd
  obtain ⟨⟨a0, a1⟩, ⟨b0, b1⟩, ⟨c0, c1⟩, hle⟩ := h
  have HM1 := hid (d.c.ok_iff.1 hd.cfg).2.2.1
  have h4 := d.c.many_le
  have HMIN := hid (show min un now = now by omega)
  have hpz := hrep.lt
  clear hrep hd
  go_enter Tryz.func55, Tryz.ntmps55
  go_wp2_with (go_at_call 38; refine (in_keep _ _ _ _).mono ?_; rintro e w' ⟨rfl, rfl⟩)
  refine (first_ref p d.c now now _ ((HREP.out.later ((Below.refl _ _).alloc (Nat.le_refl _) _)).arc HD.out) a0 a1 (by omega) (by omega)).mono ?_
  rintro e w1 ⟨rfl, hb1⟩
  have HB1 := hid (below_one hb1)
  have HR1 := hid (blk_later hb1 (by simp) (blk_new w (.cells #[i64 0, i64 0, .slice none 0 0] 108)))
  have hz1 : w.heap.size < w1.heap.size := blk_lt HR1.out
  have r0 : w1.cell? ⟨w.heap.size, 0, none⟩ = some (i64 0) := cell_of_blk HR1.out 0
  have r1 : w1.cell? ⟨w.heap.size, 1, none⟩ = some (i64 0) := cell_of_blk HR1.out 1
  have r2 : w1.cell? ⟨w.heap.size, 2, none⟩ = some (.slice none 0 0) := cell_of_blk HR1.out 2
  have f0 : w1.frozen? ⟨w.heap.size, 0, none⟩ = false := frozen_of_blk HR1.out 0
  have f1 : w1.frozen? ⟨w.heap.size, 1, none⟩ = false := frozen_of_blk HR1.out 1
  have f2 : w1.frozen? ⟨w.heap.size, 2, none⟩ = false := frozen_of_blk HR1.out 2
  clear hb1
  by_cases ho : firstI d.c now now < 0
  · have HE := hid (fetch_old_err (c := d.c) H.out (by omega) (by rw [HMIN.out]; exact ho))
    go_wp2
    refine bodyPost_ret (v := .tuple #[.agg #[i64 0, i64 0, .slice none 0 0], i64 4]) (by simp [results, Tryz.results55, go_sem, r0, r1, r2, f0, f1, f2]) rfl ?_
    exact fetch_err HE.out (by decide) (Below.setCell (p := ⟨w.heap.size, 2, none⟩) (Below.setCell (p := ⟨w.heap.size, 1, none⟩) (Below.setCell (p := ⟨w.heap.size, 0, none⟩) HB1.out (Nat.le_refl _) _) (Nat.le_refl _) _) (Nat.le_refl _) _)
  have HE := hid (fetch_no_err (c := d.c) H.out (by omega) (by rw [HMIN.out]; exact ho))
  go_wp2_with fail
  refine (first_ref p d.c now fr _ ((HREP.out.later HB1.out).arc HD.out) a0 a1 b0 b1).mono ?_
  rintro e w2 ⟨rfl, hb2⟩
  have HB2 := hid (HB1.out.trans (hb2.mono (by omega)))
  have HR2 := hid (blk_later hb2 hz1 HR1.out)
  have hz2 : w.heap.size < w2.heap.size := blk_lt HR2.out
  have HW2 := hid hb2
  obtain ⟨ip, gl, vs, hp, hg, hs, ig, hr⟩ := (HREP.out.later HB2.out)
  have x10 : w2.cell? ⟨p, 10, none⟩ = some (.slice (some ⟨gl, 0, none⟩) d.c.many d.c.many) := cell_of_blk hp 10
  have hpz2 : p < w2.heap.size := blk_lt hp
  have HFL := hid (fetchI_lt (now := now) (fr := fr) HM1.out)
  have HP := hid hp
  have HG := hid hg
  have HR := hid hr
  clear hb2 r0 r1 r2 f0 f1 f2 ip ig hp hg hs hr
  go_upto_if 57 with fail
  go_cut [13] (fun i wc => i = i64 (fetchI d.c now fr) ∧ wc = w2)
  case first =>
    by_cases hi : firstI d.c now fr < 0
    · have HN := hid (show ((d.c.many : Nat) : Int) - 1 = ((fetchI d.c now fr : Nat) : Int) by unfold fetchI; rw [(firstI_no hi).1]; have := HM1.out; simp only; omega)
      go_wp2
      go_meet
      exact ⟨congrArg i64 HN.out, rfl⟩
    · have HN := hid (show firstI d.c now fr = ((fetchI d.c now fr : Nat) : Int) by obtain ⟨j, a, b, _⟩ := firstI_some hi; unfold fetchI; rw [a, b])
      go_wp2
      go_meet
      exact ⟨congrArg i64 HN.out, rfl⟩
  case rest =>
    obtain ⟨rfl, hwc⟩ := hcut
    have hwc' := hwc.symm
    subst hwc'
    clear hwc
    have HFD := hid (show fetchL d now fr un = (sortedL (d.L.getD (fetchI d.c now fr) [])).filter (fetchB d.c (fetchI d.c now fr) now fr un) from rfl)
    have HEND := hid (fun (wS wr : World) (B : Nat) (v : Value) => fetch_end (d := d) (now := now) (fr := fr) (un := un) (w := w) (wS := wS) (wr := wr) (B := B) (v := v) HE.out)
    obtain ⟨ii, hii⟩ : ∃ ii, ii = fetchI d.c now fr := ⟨_, rfl⟩
    rw [← hii] at HFL HFD HEND ⊢
    obtain ⟨l, hl⟩ : ∃ l, d.L[ii]? = some l := ⟨_, List.getElem?_eq_getElem (by rw [HD.out.len]; exact HFL.out)⟩
    have HGD := hid (show d.L.getD ii [] = l by rw [List.getD_eq_getElem?_getD, hl]; rfl)
    obtain ⟨vl, hvl, hownl, _⟩ := HR.out ii l hl
    obtain ⟨y0, y1⟩ := cfg_cell HP.out ii (by have := HFL.out; omega)
    have xi : w2.cell? ⟨gl, ii, none⟩ = some vl := (cell_of_blk HG.out ii).trans hvl
    have HROW := hid (rowAt_of hownl)
    have HPT := hid (HD.out.pts ii l hl)
    have hlen : l.length ≤ 60 := HPT.out.2
    have hbd := (bdB_all (d.c.ok_iff.1 HD.out.cfg).2.2.2.2.1) ii HFL.out
    obtain ⟨q0, q1⟩ := Cfg.prod_bd hbd
    have HCOV := hid (show ∀ t, covB d.c ii now t = (decide (t ≤ now) && decide (now - t < d.c.s ii * d.c.k ii)) from fun t => rfl)
    obtain ⟨s, hsd⟩ : ∃ s, s = d.c.s ii := ⟨_, rfl⟩
    obtain ⟨kk, hkd⟩ : ∃ k, k = d.c.k ii := ⟨_, rfl⟩
    have HIL := hid (show ii < d.c.many from HFL.out)
    have i0 : (0 : Int) ≤ (ii : Int) := by omega
    have i1 : (ii : Int) < 4 := by have := HFL.out; omega
    rw [← hsd] at y0 q0 q1 HCOV HEND
    rw [← hkd] at y1 q0 q1 HCOV
    have hgz : gl < w2.heap.size := blk_lt HG.out
    clear hii hl hvl hownl hbd hsd hkd
    go_wp2_with fail
    have hal := (Below.refl w2.heap.size w2).alloc (Nat.le_refl _) (.cells #[i64 ii, i64 s, .slice none 0 0] 108)
    refine (sorted_ref p gl ii d.c.many l vl _ (cell_later hal x10) HIL.out (cell_later hal xi) (HROW.out.later hal) hlen).mono ?_
    rintro e wS ⟨vs', rfl, hbS, hoS⟩
    have HSB := hid (blk_later hbS (by simp) (blk_new w2 (.cells #[i64 ii, i64 s, .slice none 0 0] 108)))
    have HSO := hid (show wS.ownsRow (w2.heap.size + 1) 48 2 vs' (sortedL l).length (ptCells (sortedL l)) from owns_base hoS (by simp))
    have hzS : w2.heap.size < wS.heap.size := blk_lt HSB.out
    have HST := hid (show Below w.heap.size w wS from (HB2.out.alloc (by omega) _).trans (hbS.mono (by simp; omega)))
    have HSR := hid (blk_later hbS (by simp; omega) (blk_alloc HR2.out))
    have HSM := hid (show ∀ q ∈ sortedL l, PtIn q from fun q hq => HPT.out.1 q (sortedL_mem.1 hq))
    have hsl : (sortedL l).length ≤ 60 := by rw [sortedL_length]; exact hlen
    have HFI0 := hid (show FI w wS wS w2.heap.size ii s (.slice none 0 0) [] from ⟨HST.out, ⟨hz2, hzS⟩, Fr.refl _ _, HSR.out, HSB.out, World.ownsRow_nil _ _ _ _⟩)
    have HSY := hid (And.intro (cell_later hbS (cell_later hal y0)) (cell_later hbS (cell_later hal y1)))
    have hpS : p < wS.heap.size := by omega
    rw [HGD.out] at HFD
    obtain ⟨o, hod⟩ : ∃ o, o = sortedL l := ⟨_, rfl⟩
    rw [← hod] at HSO HSM hsl HFD
    obtain ⟨asl, cs, hvs, hrs⟩ := rowAt_of HSO.out
    subst hvs
    have HRS := hid hrs
    have HPB := hid (show p ≠ w2.heap.size by omega)
    clear hal hbS hoS y0 y1 x10 xi hod hrs
    go_wp2
    go_loopw [16] (fun k' wr => ∃ (k : Nat) (v : Value), k ≤ o.length ∧ k' = i64 k ∧ FI w wS wr w2.heap.size ii s v ((o.take k).filter (fetchB d.c ii now fr un))) (fun k' _ => o.length - (intOf k').toNat)
    case atStart => exact ⟨0, _, by omega, rfl, HFI0.out⟩
    case round =>
      obtain ⟨k, v, hk, rfl, I⟩ := hrel
      have HI := hid I
      have hbz : w2.heap.size < wr.heap.size := blk_lt I.blk
      have hzr := I.fr.size
      have hzw : w.heap.size < wr.heap.size := by omega
      have g0 : wr.cell? ⟨w2.heap.size, 0, none⟩ = some (i64 ii) := cell_of_blk I.blk 0
      have g1 : wr.cell? ⟨w2.heap.size, 1, none⟩ = some (i64 s) := cell_of_blk I.blk 1
      have g2 : wr.cell? ⟨w2.heap.size, 2, none⟩ = some v := cell_of_blk I.blk 2
      have gf : wr.frozen? ⟨w2.heap.size, 2, none⟩ = false := frozen_of_blk I.blk 2
      clear I
      by_cases hlt : k < o.length
      case neg =>
        have ek : o.take k = o := List.take_of_length_le (by omega)
        rw [ek, ← HFD.out] at HI
        have HRR := hid ((HI.out.fr.block w.heap.size (by omega) (by show ¬ w.heap.size = w2.heap.size; omega)).trans HI.out.res)
        have e0 : wr.frozen? ⟨w.heap.size, 0, none⟩ = false := frozen_of_blk HRR.out 0
        have e1 : wr.frozen? ⟨w.heap.size, 1, none⟩ = false := frozen_of_blk HRR.out 1
        have e2 : wr.frozen? ⟨w.heap.size, 2, none⟩ = false := frozen_of_blk HRR.out 2
        have r0 : wr.cell? ⟨w.heap.size, 0, none⟩ = some (i64 0) := cell_of_blk HRR.out 0
        have r1 : wr.cell? ⟨w.heap.size, 1, none⟩ = some (i64 0) := cell_of_blk HRR.out 1
        have r2 : wr.cell? ⟨w.heap.size, 2, none⟩ = some (.slice none 0 0) := cell_of_blk HRR.out 2
        obtain ⟨av, cv, rfl, _⟩ := rowAt_of HI.out.own
        clear ek
        obtain ⟨nn, hnn⟩ : ∃ n, n = (fetchL d now fr un).length := ⟨_, rfl⟩
        rw [← hnn] at g2
        have HNN := hid hnn
        clear hnn
        go_wp2
        have T0 : (wr.setCell ⟨w.heap.size, 0, none⟩ (i64 ii)).cell? ⟨w.heap.size, 0, none⟩ = some (i64 ii) := cell_of_blk (blk_setCell HRR.out 0 _) 0
        have T1 : ((wr.setCell ⟨w.heap.size, 0, none⟩ (i64 ii)).setCell ⟨w.heap.size, 1, none⟩ (i64 s)).cell? ⟨w.heap.size, 1, none⟩ = some (i64 s) := cell_of_blk (blk_setCell (blk_setCell HRR.out 0 _) 1 _) 1
        have T2 : (((wr.setCell ⟨w.heap.size, 0, none⟩ (i64 ii)).setCell ⟨w.heap.size, 1, none⟩ (i64 s)).setCell ⟨w.heap.size, 2, none⟩ (.slice av nn cv)).cell? ⟨w.heap.size, 2, none⟩ = some (.slice av nn cv) := cell_of_blk (blk_setCell (blk_setCell (blk_setCell HRR.out 0 _) 1 _) 2 _) 2
        refine bodyPost_ret (v := .tuple #[.agg #[i64 ii, i64 s, .slice av nn cv], i64 0]) (by simp [results, Tryz.results55, go_sem, T0, T1, T2]) rfl ?_
        rw [HNN.out]
        exact HEND.out _ _ _ _ HI.out _ _ _
      obtain ⟨q, hq⟩ : ∃ q, o[k]? = some q := ⟨_, List.getElem?_eq_getElem hlt⟩
      obtain ⟨b, rfl, hbb, c0', c1'⟩ := HRS.out k q hq
      have hbS : b < wS.heap.size := by omega
      have hbne : b ≠ w2.heap.size := by
        have := (HSO.out.lt b rfl).1
        omega
      have ebr := HI.out.fr.block b hbS hbne
      have s0 : wr.cell? ⟨b, k * 2, none⟩ = some (i64 q.1) := (World.cell?_of_block (a := ⟨b, k * 2, none⟩) ebr).trans c0'
      have s1 : wr.cell? ⟨b, k * 2 + 1, none⟩ = some (i64 q.2) := (World.cell?_of_block (a := ⟨b, k * 2 + 1, none⟩) ebr).trans c1'
      have epr := HI.out.fr.block p hpS HPB.out
      have y0 : wr.cell? ⟨p, ii * 2, none⟩ = some (i64 s) := (World.cell?_of_block (a := ⟨p, ii * 2, none⟩) epr).trans HSY.out.1
      have y1 : wr.cell? ⟨p, ii * 2 + 1, none⟩ = some (i64 kk) := (World.cell?_of_block (a := ⟨p, ii * 2 + 1, none⟩) epr).trans HSY.out.2
      have hbr : b < wr.heap.size := by omega
      have hpr : p < wr.heap.size := by omega
      have k0 : (0 : Int) ≤ (k : Int) := by omega
      have k1 : (k : Int) < (o.length : Int) := by omega
      obtain ⟨t0, t1, _, _⟩ := HSM.out q (List.mem_iff_getElem?.2 ⟨k, hq⟩)
      have HFS := hid (filter_take_succ (fetchB d.c ii now fr un) hq)
      have HBE := hid (fetchB_eq d.c ii now fr un q)
      clear hq c0' c1' ebr epr hbne
      go_wp2_with fail
      go_cut [17] (fun z wx => z = .bool (covB d.c ii now q.1) ∧ Below wr.heap.size wr wx)
      case first =>
        refine wp_region_held_drew (S := (fun w' => w'.cell? ⟨p, ii * 2, none⟩ = some (i64 s) ∧ w'.cell? ⟨p, ii * 2 + 1, none⟩ = some (i64 kk) ∧ w'.cell? ⟨b, k * 2, none⟩ = some (i64 q.1))) (by kernel_rfl) ?_ (fun hHeld => ?_)
        · go_keep
        refine tkI (i := 0) (oi := ⟨some 83, .move (.tmp 0), 51, _, #[], none⟩) ?_
        try simp only [Act.put, tkA, tkB, tkC]
        refine tkI (i := 1) (oi := ⟨some 84, .move (.tmp 13), 3, _, #[], none⟩) ?_
        try simp only [Act.put, tkA, tkB, tkC]
        refine tkI (i := 2) (oi := ⟨some 85, .nilCheck (.tmp 83), 0, _, #[⟨0, .data⟩], none⟩) ?_
        try simp only [Act.put, tkA, tkB, tkC]
        refine tkI (i := 3) (oi := ⟨some 86, .fieldAddr 70 (.tmp 85) 0, 0, _, #[⟨2, .data⟩], none⟩) ?_
        try simp only [Act.put, tkA, tkB, tkC]
        refine tkI (i := 4) (oi := ⟨some 87, .fieldAddr 40 (.tmp 86) 0, 0, _, #[⟨3, .data⟩], none⟩) ?_
        try simp only [Act.put, tkA, tkB, tkC]
        refine tkI (i := 5) (oi := ⟨some 88, .indexAddr 38 (.tmp 87) (.tmp 84), 0, _, #[⟨4, .data⟩, ⟨1, .data⟩], none⟩) ?_
        try simp only [Act.put, tkA, tkB, tkC]
        refine tkI (i := 6) (oi := ⟨some 89, .load 37 (.tmp 88), 37, _, #[⟨5, .data⟩], none⟩) ?_
        try simp only [Act.put, tkA, tkB, tkC]
        refine tkI (i := 7) (oi := ⟨some 90, .move (.tmp 1), 3, _, #[], none⟩) ?_
        try simp only [Act.put, tkA, tkB, tkC]
        refine tkI (i := 8) (oi := ⟨some 91, .move (.tmp 15), 41, _, #[], none⟩) ?_
        try simp only [Act.put, tkA, tkB, tkC]
        refine tkI (i := 9) (oi := ⟨some 92, .move (.tmp 16), 3, _, #[], none⟩) ?_
        try simp only [Act.put, tkA, tkB, tkC]
        refine tkI (i := 10) (oi := ⟨some 93, .indexAddr 41 (.tmp 91) (.tmp 92), 0, _, #[⟨8, .data⟩, ⟨9, .data⟩], none⟩) ?_
        try simp only [Act.put, tkA, tkB, tkC]
        refine tkI (i := 11) (oi := ⟨some 94, .fieldAddr 48 (.tmp 93) 0, 0, _, #[⟨10, .data⟩], none⟩) ?_
        try simp only [Act.put, tkA, tkB, tkC]
        refine tkI (i := 12) (oi := ⟨some 95, .load 3 (.tmp 94), 3, _, #[⟨11, .data⟩], none⟩) ?_
        try simp only [Act.put, tkA, tkB, tkC]
        refine wpAnyH_ready (rs := [13]) (by kernel_rfl) (by simp) ?_
        refine AllReadyH.cons rfl (fun K hK => ?_) AllReadyH.nil
        go_simp
        refine (covers_any s kk now q.1 _ q0 q1 a0 a1 t0 t1).mono ?_
        rintro e w3 ⟨rfl, hb3⟩
        have hb3' : Below wr.heap.size wr w3 := (Below.refl _ wr).drew.trans hb3
        refine hK.out _ _ ?_ (fun hHeld => ?_)
        · exact ⟨cell_later hb3' y0, cell_later hb3' y1, cell_later hb3' s0⟩
        clear hK K
        have HB3 := hid hb3'
        clear hb3 hb3' 
        refine tkI (i := 14) (oi := ⟨some 17, .assign (.tmp 96), 4, _, #[⟨13, .data⟩, ⟨13, .chain⟩, ⟨0, .phase⟩, ⟨1, .phase⟩, ⟨2, .phase⟩, ⟨3, .phase⟩, ⟨4, .phase⟩, ⟨5, .phase⟩, ⟨6, .phase⟩, ⟨7, .phase⟩, ⟨8, .phase⟩, ⟨9, .phase⟩, ⟨10, .phase⟩, ⟨11, .phase⟩, ⟨12, .phase⟩, ⟨13, .phase⟩], none⟩) ?_
        try simp only [Act.put, tkA, tkB, tkC]
        refine wpAnyH_done (by kernel_rfl) ?_ _
        go_wp2_with fail
        go_meet
        exact ⟨by rw [HCOV.out], HB3.out⟩
      case rest =>
        obtain ⟨rfl, hbx⟩ := hcut
        have HI1 := hid (HI.out.later hbx)
        have hzx := hbx.size
        have G2 : wc.cell? ⟨w2.heap.size, 2, none⟩ = some v := cell_later hbx g2
        have GF : wc.frozen? ⟨w2.heap.size, 2, none⟩ = false := frozen_of_blk HI1.out.blk 2
        have S0 : wc.cell? ⟨b, k * 2, none⟩ = some (i64 q.1) := cell_later hbx s0
        have S1 : wc.cell? ⟨b, k * 2 + 1, none⟩ = some (i64 q.2) := cell_later hbx s1
        have hbc : b < wc.heap.size := by omega
        have h2c : w2.heap.size < wc.heap.size := by omega
        clear g0 g1 g2 gf s0 s1 y0 y1 hbx HI
        by_cases hall : covB d.c ii now q.1 = true ∧ fr ≤ q.1 ∧ q.1 ≤ un
        · obtain ⟨h1, h2, h3⟩ := hall
          have HF := hid (show (o.take (k + 1)).filter (fetchB d.c ii now fr un) = (o.take k).filter (fetchB d.c ii now fr un) ++ [q] by rw [HFS.out, HBE.out, h1, decide_eq_true h2, decide_eq_true h3]; rfl)
          have hol : ((o.take k).filter (fetchB d.c ii now fr un)).length ≤ 60 := by
            have h1 := List.length_filter_le (fetchB d.c ii now fr un) (o.take k)
            have h2 := List.length_take_le k o
            omega
          have hbw : b ≠ w2.heap.size := by
            have := (HSO.out.lt b rfl).1
            omega
          have HFB := hid (show some b ≠ v.ownBlock from owns_not HI1.out.own hbS)
          have HFW := hid (show some w2.heap.size ≠ v.ownBlock from owns_not HI1.out.own hzS)
          obtain ⟨q9, hi0, hz0, hz1', hz2'⟩ := info_parts Tryz.infoPoint
          have HI0 := hid (And.intro hi0 (And.intro hz0 (And.intro hz1' hz2')))
          clear hi0 hz0 hz1' hz2'
          go_wp2_with fail
          refine wp_region_held_drew (S := (fun w' => w'.cell? ⟨b, k * 2, none⟩ = some (i64 q.1) ∧ w'.cell? ⟨b, k * 2 + 1, none⟩ = some (i64 q.2))) (by kernel_rfl) ?_ (fun hHeld => ?_)
          · go_keep
          refine tkI (i := 0) (oi := ⟨some 116, .fieldAddr 108 (.tmp 14) 2, 0, _, #[], none⟩) ?_
          try simp only [Act.put, tkA, tkB, tkC]
          refine tkI (i := 2) (oi := ⟨some 118, .move (.tmp 15), 41, _, #[], none⟩) ?_
          try simp only [Act.put, tkA, tkB, tkC]
          refine tkI (i := 3) (oi := ⟨some 119, .move (.tmp 16), 3, _, #[], none⟩) ?_
          try simp only [Act.put, tkA, tkB, tkC]
          refine tkI (i := 4) (oi := ⟨some 120, .indexAddr 41 (.tmp 118) (.tmp 119), 0, _, #[⟨2, .data⟩, ⟨3, .data⟩], none⟩) ?_
          try simp only [Act.put, tkA, tkB, tkC]
          refine tkI (i := 5) (oi := ⟨some 121, .load 48 (.tmp 120), 48, _, #[⟨4, .data⟩], none⟩) ?_
          try simp only [Act.put, tkA, tkB, tkC]
          refine wpAnyH_ready (rs := [1, 6]) (by kernel_rfl) (by simp) ?_
          refine AllReadyH.cons rfl (fun K hK => ?_) (AllReadyH.cons rfl (fun K hK => ?_) AllReadyH.nil)
          · go_simp
            refine hK.out _ _ ?_ (fun hHeld => ?_)
            · go_keep
            clear hK K
            refine wpAnyH_ready (rs := [6]) (by kernel_rfl) (by simp) ?_
            refine AllReadyH.cons rfl (fun K hK => ?_) AllReadyH.nil
            go_simp
            refine hK.out _ _ ?_ (fun hHeld => ?_)
            · go_keep
            clear hK K
            refine wpAnyH_ready (rs := [7]) (by kernel_rfl) (by simp) ?_
            refine AllReadyH.cons rfl (fun K hK => ?_) AllReadyH.nil
            refine step_append_lies _ (by rfl) (.tmp 117) (.tmp 122) 41 (by rfl) wS.heap.size 48 q9 _ 2 16 Tryz.underlying41 HI0.out.1 HI0.out.2.1 HI0.out.2.2.1 HI0.out.2.2.2 rfl (by decide) v _ _ (by rfl) (HI1.out.own.alloc _) ⟨wc.heap.size, 0, none⟩ 1 1 [i64 q.1, i64 q.2] (by rfl) rfl (World.news_of_block (heap_alloc_new wc _)) (by simp [Value.oneCell']) (by decide) (by unfold maxLen; omega) (by omega) (by show wS.heap.size ≤ (wc.alloc _).heap.size; simp; omega) (wc.heap.size + 1) (by show (wc.alloc _).heap.size = _; simp) ?_
            intro g cap w3 hown3 hgrow hat hlt3
            refine hK.out _ _ ?_ (fun hHeld => ?_)
            · exact ⟨hgrow.cell (by simp [*]) HFB.out, hgrow.cell (by simp [*]) HFB.out⟩
            clear hK K
            have hg' := grown_undrew hgrow
            have HN := hid (HI1.out.app hown3 hg')
            have b3 : w3.heap[w2.heap.size]? = some (.cells #[i64 ii, i64 s, v] 108) := (hg'.block _ (by simp; omega) HFW.out).trans (blk_alloc HI1.out.blk)
            have gf3 : w3.frozen? ⟨w2.heap.size, 2, none⟩ = false := frozen_of_blk b3 2
            have g3 : w3.cell? ⟨w2.heap.size, 2, none⟩ = some v := cell_of_blk b3 2
            rw [← HF.out] at HN
            clear hown3 hgrow hat hlt3 hg' b3
            refine tkI (i := 8) (oi := ⟨some 124, .fieldAddr 108 (.tmp 14) 2, 0, _, #[⟨0, .phase⟩, ⟨1, .phase⟩, ⟨2, .phase⟩, ⟨3, .phase⟩, ⟨4, .phase⟩, ⟨5, .phase⟩, ⟨6, .phase⟩, ⟨7, .phase⟩], none⟩) ?_
            try simp only [Act.put, tkA, tkB, tkC]
            refine wpAnyH_ready (rs := [9]) (by kernel_rfl) (by simp) ?_
            refine AllReadyH.cons rfl (fun K hK => ?_) AllReadyH.nil
            go_simp
            refine hK.out _ _ ?_ (fun hHeld => ?_)
            · exact ⟨(World.cell?_setCell_far _ _ _ _ (by exact fun e => hbw e.symm)).trans hHeld.1, (World.cell?_setCell_far _ _ _ _ (by exact fun e => hbw e.symm)).trans hHeld.2⟩
            clear hK K
            refine wpAnyH_done (by kernel_rfl) ?_ _
            go_wp2
            go_roundw
            case rel => first | exact ⟨k + 1, _, by omega, by go_num, HN.out⟩ | ((repeat apply Exists.intro); exact ⟨⟨k + 1, _, by omega, by go_num, HN.out⟩, rfl⟩)
            case measure => simp [intOf]; omega
          · go_simp
            refine hK.out _ _ ?_ (fun hHeld => ?_)
            · go_keep
            clear hK K
            refine wpAnyH_ready (rs := [1]) (by kernel_rfl) (by simp) ?_
            refine AllReadyH.cons rfl (fun K hK => ?_) AllReadyH.nil
            go_simp
            refine hK.out _ _ ?_ (fun hHeld => ?_)
            · go_keep
            clear hK K
            refine wpAnyH_ready (rs := [7]) (by kernel_rfl) (by simp) ?_
            refine AllReadyH.cons rfl (fun K hK => ?_) AllReadyH.nil
            refine step_append_lies _ (by rfl) (.tmp 117) (.tmp 122) 41 (by rfl) wS.heap.size 48 q9 _ 2 16 Tryz.underlying41 HI0.out.1 HI0.out.2.1 HI0.out.2.2.1 HI0.out.2.2.2 rfl (by decide) v _ _ (by rfl) (HI1.out.own.alloc _) ⟨wc.heap.size, 0, none⟩ 1 1 [i64 q.1, i64 q.2] (by rfl) rfl (World.news_of_block (heap_alloc_new wc _)) (by simp [Value.oneCell']) (by decide) (by unfold maxLen; omega) (by omega) (by show wS.heap.size ≤ (wc.alloc _).heap.size; simp; omega) (wc.heap.size + 1) (by show (wc.alloc _).heap.size = _; simp) ?_
            intro g cap w3 hown3 hgrow hat hlt3
            refine hK.out _ _ ?_ (fun hHeld => ?_)
            · exact ⟨hgrow.cell (by simp [*]) HFB.out, hgrow.cell (by simp [*]) HFB.out⟩
            clear hK K
            have hg' := grown_undrew hgrow
            have HN := hid (HI1.out.app hown3 hg')
            have b3 : w3.heap[w2.heap.size]? = some (.cells #[i64 ii, i64 s, v] 108) := (hg'.block _ (by simp; omega) HFW.out).trans (blk_alloc HI1.out.blk)
            have gf3 : w3.frozen? ⟨w2.heap.size, 2, none⟩ = false := frozen_of_blk b3 2
            have g3 : w3.cell? ⟨w2.heap.size, 2, none⟩ = some v := cell_of_blk b3 2
            rw [← HF.out] at HN
            clear hown3 hgrow hat hlt3 hg' b3
            refine tkI (i := 8) (oi := ⟨some 124, .fieldAddr 108 (.tmp 14) 2, 0, _, #[⟨0, .phase⟩, ⟨1, .phase⟩, ⟨2, .phase⟩, ⟨3, .phase⟩, ⟨4, .phase⟩, ⟨5, .phase⟩, ⟨6, .phase⟩, ⟨7, .phase⟩], none⟩) ?_
            try simp only [Act.put, tkA, tkB, tkC]
            refine wpAnyH_ready (rs := [9]) (by kernel_rfl) (by simp) ?_
            refine AllReadyH.cons rfl (fun K hK => ?_) AllReadyH.nil
            go_simp
            refine hK.out _ _ ?_ (fun hHeld => ?_)
            · exact ⟨(World.cell?_setCell_far _ _ _ _ (by exact fun e => hbw e.symm)).trans hHeld.1, (World.cell?_setCell_far _ _ _ _ (by exact fun e => hbw e.symm)).trans hHeld.2⟩
            clear hK K
            refine wpAnyH_done (by kernel_rfl) ?_ _
            go_wp2
            go_roundw
            case rel => first | exact ⟨k + 1, _, by omega, by go_num, HN.out⟩ | ((repeat apply Exists.intro); exact ⟨⟨k + 1, _, by omega, by go_num, HN.out⟩, rfl⟩)
            case measure => simp [intOf]; omega
        · have HF := hid (show (o.take (k + 1)).filter (fetchB d.c ii now fr un) = (o.take k).filter (fetchB d.c ii now fr un) by
            rw [HFS.out, HBE.out]
            cases h1 : covB d.c ii now q.1 with
            | false => simp
            | true =>
              by_cases h2 : fr ≤ q.1
              · rw [decide_eq_false (fun h3 => hall ⟨h1, h2, h3⟩)]; simp
              · rw [decide_eq_false h2]; simp)
          rw [← HF.out] at HI1
          cases h1 : covB d.c ii now q.1 with
          | false =>
            go_wp2
            go_roundw
            case rel => first | exact ⟨k + 1, _, by omega, by go_num, HI1.out⟩ | ((repeat apply Exists.intro); exact ⟨⟨k + 1, _, by omega, by go_num, HI1.out⟩, rfl⟩)
            case measure => simp [intOf]; omega
          | true =>
            by_cases h2 : fr ≤ q.1
            · have h3 : ¬ q.1 ≤ un := fun h3 => hall ⟨h1, h2, h3⟩
              clear hall
              go_wp2
              go_roundw
              case rel => first | exact ⟨k + 1, _, by omega, by go_num, HI1.out⟩ | ((repeat apply Exists.intro); exact ⟨⟨k + 1, _, by omega, by go_num, HI1.out⟩, rfl⟩)
              case measure => simp [intOf]; omega
            · clear hall
              go_wp2
              go_roundw
              case rel => first | exact ⟨k + 1, _, by omega, by go_num, HI1.out⟩ | ((repeat apply Exists.intro); exact ⟨⟨k + 1, _, by omega, by go_num, HI1.out⟩, rfl⟩)
              case measure => simp [intOf]; omega
theorem fetch_ref (p : Nat) (now fr un : Int) (d : RDb) (In : Nat → Prop) (w : World) (hrep : RRep w In p d) (hd : d.Ok) :
    Calls Tryz.prog 55 #[.pointer (some ⟨p, 0, none⟩), i64 now, i64 fr, i64 un] w fun e w' => ∃ v, e = .returned (.tuple #[.agg #[i64 (serA d now fr un), i64 (serS d now fr un), v], i64 (fetchErr d.c now fr un)]) ∧ Below w.heap.size w w' ∧ w'.ownsRow w.heap.size 48 2 v (serP d now fr un).length (ptCells (serP d now fr un)) := by
  by_cases h : StampIn now ∧ StampIn fr ∧ StampIn un ∧ fr ≤ un
  · by_cases hf : now < fr
    · exact fetch_fut p now fr un d w h hf
    · by_cases hu : un ≤ now
      · exact fetch_go1 p now fr un d In w hrep hd h (by omega) hu
      · exact fetch_go2 p now fr un d In w hrep hd h (by omega) (by omega)
  · exact fetch_arg p now fr un d w h
end Go.Proofs.YthbbfjfekchdiaaGreat
