import Derived.Test.YthbbfjfekchdiaaGreatXTk
import Derived.Test.YthbbfjfekchdiaaGreatXRFetch2
import Derived.Test.YthbbfjfekchdiaaGreatXHAmong
import Derived.Test.YthbbfjfekchdiaaGreatXZHead
import Derived.Deep.DeepCutAuto
namespace Go.Proofs.YthbbfjfekchdiaaGreat
open Go.RowKit
set_option linter.unusedSimpArgs false
structure RsI (w wr : World) (q : Nat) (e : RDb) (In : Nat → Prop) : Prop where
  old : Below w.heap.size w wr
  rep : RRep wr In q e
  ok : e.Ok
  inn : ∀ k, In k → w.heap.size ≤ k ∧ k < wr.heap.size
theorem RsI.below {w wr w' : World} {q : Nat} {e : RDb} {In : Nat → Prop} (h : RsI w wr q e In) (hb : Below wr.heap.size wr w') : RsI w w' q e In :=
  ⟨h.old.trans (hb.mono h.old.size), h.rep.later hb, h.ok, fun k hk => ⟨(h.inn k hk).1, Nat.lt_of_lt_of_le (h.inn k hk).2 hb.size⟩⟩
theorem RsI.write {w wr w' : World} {q : Nat} {e e' : RDb} {In : Nat → Prop} (h : RsI w wr q e In) (hr : RRep w' (Up In wr.heap.size) q e') (hok : e'.Ok) (hf : Fr In wr w') : RsI w w' q e' (fun k => Up In wr.heap.size k ∧ k < w'.heap.size) := by
  have hz := h.old.size
  refine ⟨h.old.trans ⟨hf.os, hf.tape, hf.output, hf.size, fun k hk => hf.block k (by omega) fun x => by have := (h.inn k x).1; omega⟩, hr.lim, hok, ?_⟩
  rintro k ⟨hk | hk, h2⟩
  · exact ⟨(h.inn k hk).1, h2⟩
  · exact ⟨by omega, h2⟩
def RsPost (w : World) (d : RDb) (now : Int) (c : Cfg) (e : Ending) (w' : World) : Prop :=
  Below w.heap.size w w' ∧ (resizeErr now c ≠ 0 → e = .returned (.tuple #[.pointer none, i64 (resizeErr now c)])) ∧
    (resizeErr now c = 0 → ∃ q, e = .returned (.tuple #[.pointer (some ⟨q, 0, none⟩), i64 0]) ∧ RRep w' (fun k => w.heap.size ≤ k) q (resizeR d now c))
theorem RsPost.no {w w' : World} {d : RDb} {now : Int} {c : Cfg} {x : Int} (h : Below w.heap.size w w') (he : resizeErr now c = x) (hx : x ≠ 0) : RsPost w d now c (.returned (.tuple #[.pointer none, i64 x])) w' :=
  ⟨h, fun _ => by rw [he], fun h0 => absurd (he ▸ h0) hx⟩
theorem writesAll_snoc (e : RDb) (now : Int) (l : List Pt) (q : Pt) : writesAll e now (l ++ [q]) = writesR (writesAll e now l) now q := by
  unfold writesAll; rw [List.foldl_append]; rfl
set_option maxRecDepth 4000 in
set_option maxHeartbeats 4000000 in
theorem resize_ref (p : Nat) (now : Int) (c : Cfg) (d : RDb) (In : Nat → Prop) (w : World) (hrep : RRep w In p d) (hd : d.Ok) :
    Calls Tryz.prog 36 #[.pointer (some ⟨p, 0, none⟩), i64 now, .agg #[i64 c.s0, i64 c.k0, i64 c.s1, i64 c.k1, i64 c.s2, i64 c.k2, i64 c.s3, i64 c.k3, i64 c.m, i64 c.f]] w fun e w' => RsPost w d now c e w' := by
  have HREP := hid hrep
  have HD := hid hd
  have h4 := d.c.many_le
  have hpz := hrep.lt
  have HNO := hid (fun (w' : World) (x : Int) (h : Below w.heap.size w w') (he : resizeErr now c = x) (hx : x ≠ 0) => RsPost.no (d := d) h he hx)
  have HAL := hid (show Below w.heap.size w (w.alloc (.cells #[i64 c.s0, i64 c.k0, i64 c.s1, i64 c.k1, i64 c.s2, i64 c.k2, i64 c.s3, i64 c.k3, i64 c.m, i64 c.f] 40)) from (Below.refl _ w).alloc (Nat.le_refl _) _)
  clear hrep hd
  by_cases hn : 0 ≤ now ∧ now ≤ 2147483647
  case neg =>
    have HE := hid (show resizeErr now c = 1 by unfold resizeErr; rw [if_pos hn])
    have hb : (decide (0 ≤ now) && decide (now ≤ 2147483647)) = false := by
      by_cases x : 0 ≤ now
      · simp [x]; omega
      · simp [x]
    have HI := hid (fun (w : World) => in_keep now 0 2147483647 w)
    rw [hb] at HI
    clear hb hn
    go_enter Tryz.func36, Tryz.ntmps36
    go_wp2_with fail
    refine (HI.out _).mono ?_
    rintro e w1 ⟨rfl, hw1⟩
    have hw1 := hw1.symm
    subst hw1
    go_wp2
    exact bodyPost_ret (v := .tuple #[.pointer none, i64 1]) (by simp [results, Tryz.results36, go_sem]) rfl (HNO.out _ 1 HAL.out HE.out (by decide))
  case pos =>
    obtain ⟨n0, n1⟩ := hn
    have HI := hid (fun (w : World) => in_keep now 0 2147483647 w)
    rw [show (decide (0 ≤ now) && decide (now ≤ 2147483647)) = true by simp [n0, n1]] at HI
    have HER := hid (show resizeErr now c = c.err by unfold resizeErr; rw [if_neg (fun x => x ⟨n0, n1⟩)])
    have HCK := hid (fun (w : World) => rcheck_any c w)
    have HCR := hid (fun (w : World) (h : c.Ok) => rcreate_rrep c w h)
    go_enter Tryz.func36, Tryz.ntmps36
    go_wp2_with fail
    refine (HI.out _).mono ?_
    rintro e w1 ⟨rfl, hw1⟩
    have hw1 := hw1.symm
    subst hw1
    go_wp2_with fail
    refine (HCK.out _).mono ?_
    rintro e w1 ⟨rfl, hb1⟩
    have HB1 := hid (show Below w.heap.size w w1 from HAL.out.trans (hb1.mono (by simp)))
    have HCB := hid (blk_later hb1 (by simp) (blk_new w (.cells #[i64 c.s0, i64 c.k0, i64 c.s1, i64 c.k1, i64 c.s2, i64 c.k2, i64 c.s3, i64 c.k3, i64 c.m, i64 c.f] 40)))
    clear hb1 HI HCK
    by_cases hok : c.Ok
    case neg =>
      have hce : c.err = 2 := Cfg.err_no hok
      rw [hce] at HER ⊢
      clear hce hok
      go_wp2
      exact bodyPost_ret (v := .tuple #[.pointer none, i64 2]) (by simp [results, Tryz.results36, go_sem]) rfl (HNO.out _ 2 HB1.out HER.out (by decide))
    have HOK := hid hok
    have hce : c.err = 0 := Cfg.err_ok hok
    rw [hce] at HER ⊢
    have y0 : w1.cell? ⟨w.heap.size, 0, none⟩ = some (i64 c.s0) := cell_of_blk HCB.out 0
    have y1 : w1.cell? ⟨w.heap.size, 1, none⟩ = some (i64 c.k0) := cell_of_blk HCB.out 1
    have y2 : w1.cell? ⟨w.heap.size, 2, none⟩ = some (i64 c.s1) := cell_of_blk HCB.out 2
    have y3 : w1.cell? ⟨w.heap.size, 3, none⟩ = some (i64 c.k1) := cell_of_blk HCB.out 3
    have y4 : w1.cell? ⟨w.heap.size, 4, none⟩ = some (i64 c.s2) := cell_of_blk HCB.out 4
    have y5 : w1.cell? ⟨w.heap.size, 5, none⟩ = some (i64 c.k2) := cell_of_blk HCB.out 5
    have y6 : w1.cell? ⟨w.heap.size, 6, none⟩ = some (i64 c.s3) := cell_of_blk HCB.out 6
    have y7 : w1.cell? ⟨w.heap.size, 7, none⟩ = some (i64 c.k3) := cell_of_blk HCB.out 7
    have y8 : w1.cell? ⟨w.heap.size, 8, none⟩ = some (i64 c.m) := cell_of_blk HCB.out 8
    have y9 : w1.cell? ⟨w.heap.size, 9, none⟩ = some (i64 c.f) := cell_of_blk HCB.out 9
    have hwz1 : w.heap.size < w1.heap.size := blk_lt HCB.out
    clear hce hok
    go_wp2_with fail
    refine (HCR.out _ HOK.out).mono ?_
    rintro e w2 ⟨q, rfl, hb2, hr2⟩
    clear y0 y1 y2 y3 y4 y5 y6 y7 y8 y9
    have HI0 := hid (show RsI w w2 q (RDb.new c) (fun k => w1.heap.size ≤ k ∧ k < w2.heap.size) from ⟨HB1.out.trans (hb2.mono (by omega)), hr2.lim, (new_okT HOK.out).1, fun k hk => ⟨by have := hk.1; omega, hk.2⟩⟩)
    clear hb2 hr2 HCR HCB HAL HNO hwz1 HB1
    obtain ⟨gl0, vs0, hp0, _⟩ := (HREP.out.later HI0.out.old).mem
    have x10 : w2.cell? ⟨p, 10, none⟩ = some (.slice (some ⟨gl0, 0, none⟩) d.c.many d.c.many) := cell_of_blk hp0 10
    have hpz2 : p < w2.heap.size := blk_lt hp0
    have HRD := hid (show resizeTo d now d.c.many (RDb.new c) = resizeR d now c from rfl)
    obtain ⟨n, hnm⟩ : ∃ n, n = d.c.many := ⟨_, rfl⟩
    have HNM := hid hnm
    rw [← hnm] at x10 HRD h4
    clear hp0 hnm
    go_wp2
    go_loopw [11] (fun i' wr => ∃ (i : Nat) (e : RDb) (In' : Nat → Prop), i ≤ n ∧ i' = i64 ((i : Int) - 1) ∧ resizeTo d now i e = resizeR d now c ∧ RsI w wr q e In') (fun i' _ => ((intOf i') + 1).toNat)
    case atStart => exact ⟨n, _, _, Nat.le_refl _, rfl, HRD.out, HI0.out⟩
    clear x10 hpz2 HI0 HRD
    case round =>
      obtain ⟨i, e, In', hi, rfl, hre, I⟩ := hrel
      have HI := hid I
      have HRE := hid hre
      clear I hre
      by_cases h0 : i = 0
      case pos =>
        subst h0
        have HF := hid (show RsPost w d now c (.returned (.tuple #[.pointer (some ⟨q, 0, none⟩), i64 0])) wr from ⟨HI.out.old, fun x => absurd HER.out x, fun _ => ⟨q, rfl, by
          rw [← HRE.out]
          exact HI.out.rep.weak fun k hk => (HI.out.inn k hk).1⟩⟩)
        go_wp2
        exact bodyPost_ret (v := .tuple #[.pointer (some ⟨q, 0, none⟩), i64 0]) (by simp [results, Tryz.results36, go_sem]) rfl HF.out
      obtain ⟨ii, rfl⟩ : ∃ ii, i = ii + 1 := ⟨i - 1, by omega⟩
      have HIL := hid (show ii < d.c.many by rw [← HNM.out]; omega)
      obtain ⟨gl, vs, hp, hg, hs, ig, hr⟩ := (HREP.out.later HI.out.old).mem
      obtain ⟨l, hl⟩ : ∃ l, d.L[ii]? = some l := ⟨_, List.getElem?_eq_getElem (by rw [HD.out.len]; exact HIL.out)⟩
      obtain ⟨vl, hvl, hownl, _⟩ := hr ii l hl
      have x10 : wr.cell? ⟨p, 10, none⟩ = some (.slice (some ⟨gl, 0, none⟩) d.c.many d.c.many) := cell_of_blk hp 10
      have xi : wr.cell? ⟨gl, ii, none⟩ = some vl := (cell_of_blk hg ii).trans hvl
      have HROW := hid (rowAt_of hownl)
      have HPT := hid (HD.out.pts ii l hl)
      have hlen : l.length ≤ 60 := HPT.out.2
      have hbd := (bdB_all (d.c.ok_iff.1 HD.out.cfg).2.2.2.2.1) ii HIL.out
      obtain ⟨q0, q1⟩ := Cfg.prod_bd hbd
      have HCOV := hid (show ∀ t, covB d.c ii now t = (decide (t ≤ now) && decide (now - t < d.c.s ii * d.c.k ii)) from fun t => rfl)
      have HRE2 := hid (show resizeTo d now ii (writesAll e now ((sortedL l).filter fun x => covB d.c ii now x.1)) = resizeR d now c by
        have := HRE.out
        rw [resizeTo] at this
        unfold covL at this
        rw [hl, Option.getD_some] at this
        exact this)
      obtain ⟨s, hsd⟩ : ∃ s, s = d.c.s ii := ⟨_, rfl⟩
      obtain ⟨kk, hkd⟩ : ∃ k, k = d.c.k ii := ⟨_, rfl⟩
      rw [← hsd, ← hkd] at q0 q1 HCOV
      have HSK := hid (And.intro hsd hkd)
      have HYY := hid (fun (wz : World) (hz : Below w.heap.size w wz) => show wz.cell? ⟨p, ii * 2, none⟩ = some (i64 s) ∧ wz.cell? ⟨p, ii * 2 + 1, none⟩ = some (i64 kk) from by
        obtain ⟨gl', vs', hp', _⟩ := (HREP.out.later hz).mem
        rw [HSK.out.1, HSK.out.2]
        exact cfg_cell hp' ii (by have := HIL.out; have := d.c.many_le; omega))
      have i0 : (0 : Int) ≤ (ii : Int) := by omega
      have i1 : (ii : Int) < 4 := by have := HIL.out; have := d.c.many_le; omega
      have ei : ((ii + 1 : Nat) : Int) - 1 = (ii : Int) := by omega
      rw [ei]
      have HL := hid hl
      have hi' : ii < n := by omega
      clear hp hg hs ig hr hl hvl hownl hbd hsd hkd h0 ei hi HRE
      go_wp2_with fail
      refine (sorted_ref p gl ii d.c.many l vl _ x10 HIL.out xi HROW.out hlen).mono ?_
      rintro e1 wS ⟨vS, rfl, hbS, hoS⟩
      have HIS := hid (HI.out.below hbS)
      have hSn : ∀ b, vS.ownBlock = some b → ¬ In' b := fun b hb x => by have := (hoS.lt b hb).1; have := (HI.out.inn b x).2; omega
      have HSO := hid (show wS.ownsRow 0 48 2 vS (sortedL l).length (ptCells (sortedL l)) from owns_base hoS (by omega))
      have HSM := hid (show ∀ x ∈ sortedL l, PtIn x from fun x hx => HPT.out.1 x (sortedL_mem.1 hx))
      have hsl : (sortedL l).length ≤ 60 := by rw [sortedL_length]; exact hlen
      obtain ⟨o, hod⟩ : ∃ o, o = sortedL l := ⟨_, rfl⟩
      rw [← hod] at HSO HSM hsl HRE2
      obtain ⟨aS, cS, rfl, _⟩ := rowAt_of HSO.out
      have HSN := hid hSn
      clear hbS hoS x10 xi hod hSn HI hlen HROW
      go_wp2
      go_loopw [13] (fun k' wx => ∃ (k : Nat) (e' : RDb) (Jn : Nat → Prop), k ≤ o.length ∧ k' = i64 k ∧ e' = writesAll e now ((o.take k).filter fun x => covB d.c ii now x.1) ∧ RsI w wx q e' Jn ∧ wx.ownsRow 0 48 2 (.slice aS o.length cS) o.length (ptCells o) ∧ ∀ b, (Value.slice aS o.length cS).ownBlock = some b → ¬ Jn b) (fun k' _ => o.length - (intOf k').toNat)
      case atStart => exact ⟨0, _, _, by omega, rfl, rfl, HIS.out, HSO.out, HSN.out⟩
      clear HIS HSO HSN
      case round =>
        obtain ⟨k, e', Jn, hk, rfl, he', I, hO, hN⟩ := hrel
        have HI := hid I
        have HO := hid hO
        have HN := hid hN
        have HE' := hid he'
        clear I hO hN he'
        by_cases hlt : k < o.length
        case neg =>
          have HRE3 := hid (show resizeTo d now ii e' = resizeR d now c by rw [HE'.out, List.take_of_length_le (by omega)]; exact HRE2.out)
          go_wp2
          go_roundw
          case rel => first | exact ⟨ii, e', Jn, by omega, by go_num, HRE3.out, HI.out⟩ | ((repeat apply Exists.intro); exact ⟨⟨ii, e', Jn, by omega, by go_num, HRE3.out, HI.out⟩, rfl⟩)
          case measure => (simp [intOf]; try omega)
        obtain ⟨x, hx⟩ : ∃ x, o[k]? = some x := ⟨_, List.getElem?_eq_getElem hlt⟩
        obtain ⟨aS', cS', hvs, hrs⟩ := rowAt_of HO.out
        simp only [Value.slice.injEq, true_and] at hvs
        obtain ⟨rfl, rfl⟩ := hvs
        obtain ⟨b, rfl, hbb, s0, s1⟩ := hrs k x hx
        obtain ⟨y0, y1⟩ := HYY.out wr HI.out.old
        have hpr : p < wr.heap.size := World.block_lt_of_cell? _ _ y0
        have k0 : (0 : Int) ≤ (k : Int) := by omega
        have k1 : (k : Int) < (o.length : Int) := by omega
        have HXI := hid (HSM.out x (List.mem_iff_getElem?.2 ⟨k, hx⟩))
        obtain ⟨t0, t1, _, _⟩ := HSM.out x (List.mem_iff_getElem?.2 ⟨k, hx⟩)
        have HFS := hid (filter_take_succ (fun y : Pt => covB d.c ii now y.1) hx)
        clear hx hrs
        go_wp2_with fail
        go_cut [8] (fun z wx => z = .bool (covB d.c ii now x.1) ∧ Below wr.heap.size wr wx)
        case first =>
          refine wp_region_held_drew (S := (fun w' => w'.cell? ⟨p, ii * 2, none⟩ = some (i64 s) ∧ w'.cell? ⟨p, ii * 2 + 1, none⟩ = some (i64 kk) ∧ w'.cell? ⟨b, k * 2, none⟩ = some (i64 x.1))) (by kernel_rfl) ?_ (fun hHeld => ?_)
          · go_keep
          refine tkI (i := 0) (oi := ⟨some 44, .move (.tmp 0), 51, _, #[], none⟩) ?_
          try simp only [Act.put, tkA, tkB, tkC]
          refine tkI (i := 1) (oi := ⟨some 45, .move (.tmp 11), 3, _, #[], none⟩) ?_
          try simp only [Act.put, tkA, tkB, tkC]
          refine tkI (i := 2) (oi := ⟨some 46, .nilCheck (.tmp 44), 0, _, #[⟨0, .data⟩], none⟩) ?_
          try simp only [Act.put, tkA, tkB, tkC]
          refine tkI (i := 3) (oi := ⟨some 47, .fieldAddr 70 (.tmp 46) 0, 0, _, #[⟨2, .data⟩], none⟩) ?_
          try simp only [Act.put, tkA, tkB, tkC]
          refine tkI (i := 4) (oi := ⟨some 48, .fieldAddr 40 (.tmp 47) 0, 0, _, #[⟨3, .data⟩], none⟩) ?_
          try simp only [Act.put, tkA, tkB, tkC]
          refine tkI (i := 5) (oi := ⟨some 49, .indexAddr 38 (.tmp 48) (.tmp 45), 0, _, #[⟨4, .data⟩, ⟨1, .data⟩], none⟩) ?_
          try simp only [Act.put, tkA, tkB, tkC]
          refine tkI (i := 6) (oi := ⟨some 50, .load 37 (.tmp 49), 37, _, #[⟨5, .data⟩], none⟩) ?_
          try simp only [Act.put, tkA, tkB, tkC]
          refine tkI (i := 7) (oi := ⟨some 51, .move (.tmp 1), 3, _, #[], none⟩) ?_
          try simp only [Act.put, tkA, tkB, tkC]
          refine tkI (i := 8) (oi := ⟨some 52, .move (.tmp 12), 41, _, #[], none⟩) ?_
          try simp only [Act.put, tkA, tkB, tkC]
          refine tkI (i := 9) (oi := ⟨some 53, .move (.tmp 13), 3, _, #[], none⟩) ?_
          try simp only [Act.put, tkA, tkB, tkC]
          refine tkI (i := 10) (oi := ⟨some 54, .indexAddr 41 (.tmp 52) (.tmp 53), 0, _, #[⟨8, .data⟩, ⟨9, .data⟩], none⟩) ?_
          try simp only [Act.put, tkA, tkB, tkC]
          refine tkI (i := 11) (oi := ⟨some 55, .fieldAddr 48 (.tmp 54) 0, 0, _, #[⟨10, .data⟩], none⟩) ?_
          try simp only [Act.put, tkA, tkB, tkC]
          refine tkI (i := 12) (oi := ⟨some 56, .load 3 (.tmp 55), 3, _, #[⟨11, .data⟩], none⟩) ?_
          try simp only [Act.put, tkA, tkB, tkC]
          refine wpAnyH_ready (rs := [13]) (by kernel_rfl) (by simp) ?_
          refine AllReadyH.cons rfl (fun K hK => ?_) AllReadyH.nil
          go_simp
          refine (covers_any s kk now x.1 _ q0 q1 n0 n1 t0 t1).mono ?_
          rintro e2 w3 ⟨rfl, hb3⟩
          have hb3' : Below wr.heap.size wr w3 := (Below.refl _ wr).drew.trans hb3
          refine hK.out _ _ ?_ (fun hHeld => ?_)
          · exact ⟨cell_later hb3' y0, cell_later hb3' y1, cell_later hb3' s0⟩
          clear hK K
          have HB3 := hid hb3'
          clear hb3 hb3'
          refine tkI (i := 14) (oi := ⟨some 8, .assign (.tmp 57), 4, _, #[⟨13, .data⟩, ⟨13, .chain⟩, ⟨0, .phase⟩, ⟨1, .phase⟩, ⟨2, .phase⟩, ⟨3, .phase⟩, ⟨4, .phase⟩, ⟨5, .phase⟩, ⟨6, .phase⟩, ⟨7, .phase⟩, ⟨8, .phase⟩, ⟨9, .phase⟩, ⟨10, .phase⟩, ⟨11, .phase⟩, ⟨12, .phase⟩, ⟨13, .phase⟩], none⟩) ?_
          try simp only [Act.put, tkA, tkB, tkC]
          refine wpAnyH_done (by kernel_rfl) ?_ _
          go_wp2_with fail
          go_meet
          exact ⟨by rw [HCOV.out], HB3.out⟩
        case rest =>
          obtain ⟨rfl, hbx⟩ := hcut
          have HI1 := hid (HI.out.below hbx)
          have HO1 := hid (show wc.ownsRow 0 48 2 (.slice (some ⟨b, 0, none⟩) o.length cS) o.length (ptCells o) from owns_below HO.out hbx)
          have S0 : wc.cell? ⟨b, k * 2, none⟩ = some (i64 x.1) := cell_later hbx s0
          have S1 : wc.cell? ⟨b, k * 2 + 1, none⟩ = some (i64 x.2) := cell_later hbx s1
          have hbc : b < wc.heap.size := World.block_lt_of_cell? _ _ S0
          clear s0 s1 y0 y1 hbx HI HO
          by_cases hcov : covB d.c ii now x.1 = true
          case neg =>
            have hcf : covB d.c ii now x.1 = false := by simpa using hcov
            have HE2 := hid (show e' = writesAll e now ((o.take (k + 1)).filter fun x => covB d.c ii now x.1) by rw [HFS.out, hcf, HE'.out]; simp)
            rw [hcf]
            clear hcov hcf
            go_wp2
            go_roundw
            case rel => first | exact ⟨k + 1, e', Jn, by omega, by go_num, HE2.out, HI1.out, HO1.out, HN.out⟩ | ((repeat apply Exists.intro); exact ⟨⟨k + 1, e', Jn, by omega, by go_num, HE2.out, HI1.out, HO1.out, HN.out⟩, rfl⟩)
            case measure => simp [intOf]; omega
          have HE2 := hid (show writesR e' now x = writesAll e now ((o.take (k + 1)).filter fun x => covB d.c ii now x.1) by rw [HFS.out, if_pos hcov, writesAll_snoc, ← HE'.out])
          rw [hcov]
          clear hcov
          go_wp2_with fail
          refine (writes_ref q now x e' Jn _ HI1.out.rep HI1.out.ok HXI.out n0 n1).mono ?_
          rintro e2 w4 ⟨rfl, hr4, hok4, _, hf4⟩
          have HI4 := hid (HI1.out.write hr4 hok4 hf4)
          have HO4 := hid (show w4.ownsRow 0 48 2 (.slice (some ⟨b, 0, none⟩) o.length cS) o.length (ptCells o) from owns_far HO1.out fun b' hb' hlt' => hf4.block b' hlt' (HN.out b' hb'))
          have HN4 := hid (show ∀ b', (Value.slice (some ⟨b, 0, none⟩) o.length cS).ownBlock = some b' → ¬ (fun k => Up Jn wc.heap.size k ∧ k < w4.heap.size) b' from fun b' hb' h => by
            rcases h.1 with h1 | h1
            · exact HN.out b' hb' h1
            · have h2 : b = b' := by simpa [Value.ownBlock] using hb'
              have h3 : wc.heap.size ≤ b' := h1
              omega)
          clear hr4 hok4 hf4 HI1 HO1
          go_wp2
          go_roundw
          case rel => first | exact ⟨k + 1, _, _, by omega, by go_num, HE2.out, HI4.out, HO4.out, HN4.out⟩ | ((repeat apply Exists.intro); exact ⟨⟨k + 1, _, _, by omega, by go_num, HE2.out, HI4.out, HO4.out, HN4.out⟩, rfl⟩)
          case measure => simp [intOf]; omega
end Go.Proofs.YthbbfjfekchdiaaGreat
