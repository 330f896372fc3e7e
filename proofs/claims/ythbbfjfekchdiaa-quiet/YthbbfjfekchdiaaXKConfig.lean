import Derived.Test.YthbbfjfekchdiaaXKPick
import Derived.Test.YthbbfjfekchdiaaXZNum
import Derived.Test.YthbbfjfekchdiaaXZLeaf
import Derived.Deep.QuietTactic
import Derived.BigQuiet
namespace Go.Proofs.Ythbbfjfekchdiaa
open Go.RowKit
set_option linter.unusedSimpArgs false

set_option maxRecDepth 4000 in
set_option maxHeartbeats 4000000 in
theorem config_any0 (r0 r1 r2 r3 r4 r5 me fa : Int) (w : World) (h0 : -9223372036854775808 ≤ r0 ∧ r0 ≤ 9223372036854775807) (h1 : -9223372036854775808 ≤ r1 ∧ r1 ≤ 9223372036854775807) (h2 : -9223372036854775808 ≤ r2 ∧ r2 ≤ 9223372036854775807) (h3 : -9223372036854775808 ≤ r3 ∧ r3 ≤ 9223372036854775807) (h4 : -9223372036854775808 ≤ r4 ∧ r4 ≤ 9223372036854775807) (h5 : -9223372036854775808 ≤ r5 ∧ r5 ≤ 9223372036854775807) (hm : -9223372036854775808 ≤ me ∧ me ≤ 9223372036854775807) (hf : -9223372036854775808 ≤ fa ∧ fa ≤ 9223372036854775807) :
    Calls Try.prog 23 #[.agg #[i64 r0, i64 r1, i64 r2, i64 r3, i64 r4, i64 r5], i64 me, i64 fa] w fun e w' => e = .returned (.agg (cfgK r0 r1 r2 r3 r4 r5 me fa).cells) ∧ Below w.heap.size w w' := by
  have H0 := hid h0
  have H1 := hid h1
  have H2 := hid h2
  have H3 := hid h3
  have H4 := hid h4
  have H5 := hid h5
  have HM := hid hm
  have HF := hid hf
  have p0 := pickK_in r0 (n := 10) (by omega)
  have p1 := pickK_in r1 (n := 20) (by omega)
  have p2 := pickK_in r2 (n := 5) (by omega)
  have p3 := pickK_in r3 (n := 10) (by omega)
  have p4 := pickK_in r4 (n := 5) (by omega)
  have p5 := pickK_in r5 (n := 10) (by omega)
  have pm := pickK_in me (n := 6) (by omega)
  have pf := pickK_in fa (n := 101) (by omega)
  obtain ⟨q0, hq0⟩ : ∃ q, q = pickK r0 10 := ⟨_, rfl⟩
  obtain ⟨q1, hq1⟩ : ∃ q, q = pickK r1 20 := ⟨_, rfl⟩
  obtain ⟨q2, hq2⟩ : ∃ q, q = pickK r2 5 := ⟨_, rfl⟩
  obtain ⟨q3, hq3⟩ : ∃ q, q = pickK r3 10 := ⟨_, rfl⟩
  obtain ⟨q4, hq4⟩ : ∃ q, q = pickK r4 5 := ⟨_, rfl⟩
  obtain ⟨q5, hq5⟩ : ∃ q, q = pickK r5 10 := ⟨_, rfl⟩
  obtain ⟨qm, hqm⟩ : ∃ q, q = pickK me 6 := ⟨_, rfl⟩
  obtain ⟨qf, hqf⟩ : ∃ q, q = pickK fa 101 := ⟨_, rfl⟩
  have C0 := hid (fun (w : World) => by have h := pickK_any r0 10 w (by omega) (by omega) H0.out.1 H0.out.2; rw [← hq0] at h; exact h)
  have C1 := hid (fun (w : World) => by have h := pickK_any r1 20 w (by omega) (by omega) H1.out.1 H1.out.2; rw [← hq1] at h; exact h)
  have C2 := hid (fun (w : World) => by have h := pickK_any r2 5 w (by omega) (by omega) H2.out.1 H2.out.2; rw [← hq2] at h; exact h)
  have C3 := hid (fun (w : World) => by have h := pickK_any r3 10 w (by omega) (by omega) H3.out.1 H3.out.2; rw [← hq3] at h; exact h)
  have C4 := hid (fun (w : World) => by have h := pickK_any r4 5 w (by omega) (by omega) H4.out.1 H4.out.2; rw [← hq4] at h; exact h)
  have C5 := hid (fun (w : World) => by have h := pickK_any r5 10 w (by omega) (by omega) H5.out.1 H5.out.2; rw [← hq5] at h; exact h)
  have CM := hid (fun (w : World) => by have h := pickK_any me 6 w (by omega) (by omega) HM.out.1 HM.out.2; rw [← hqm] at h; exact h)
  have CF := hid (fun (w : World) => by have h := pickK_any fa 101 w (by omega) (by omega) HF.out.1 HF.out.2; rw [← hqf] at h; exact h)
  have HK := hid (show cfgK r0 r1 r2 r3 r4 r5 me fa = _ from rfl)
  unfold cfgK at HK
  rw [← hq0] at p0
  rw [← hq1] at p1
  rw [← hq2] at p2
  rw [← hq3] at p3
  rw [← hq4] at p4
  rw [← hq5] at p5
  rw [← hqm] at pm
  rw [← hqf] at pf
  have HE := hid (show cfgK r0 r1 r2 r3 r4 r5 me fa = if 1 + q1 < 2 + q2 then cfgK1 (1 + q0) (1 + q1) (1 + qm) qf else if (1 + q1) / (2 + q2) + 1 + q3 < 2 + q4 then cfgK2 (1 + q0) (1 + q1) (2 + q2) q3 (1 + qm) qf else cfgK3 (1 + q0) (1 + q1) (2 + q2) q3 (2 + q4) q5 (1 + qm) qf by rw [hq0, hq1, hq2, hq3, hq4, hq5, hqm, hqf]; rfl)
  clear hq0 hq1 hq2 hq3 hq4 hq5 hqm hqf h0 h1 h2 h3 h4 h5 hm hf HK
  obtain ⟨p00, p01⟩ := p0
  obtain ⟨p10, p11⟩ := p1
  obtain ⟨p20, p21⟩ := p2
  obtain ⟨p30, p31⟩ := p3
  obtain ⟨p40, p41⟩ := p4
  obtain ⟨p50, p51⟩ := p5
  obtain ⟨pm0, pm1⟩ := pm
  obtain ⟨pf0, pf1⟩ := pf
  obtain ⟨cc, hcc⟩ : ∃ cc, cc = cfgK r0 r1 r2 r3 r4 r5 me fa := ⟨_, rfl⟩
  rw [← hcc] at HE ⊢
  clear hcc
  go_enter Try.func23, Try.ntmps23
  go_wp2_with fail
  refine (CM.out _).mono ?_
  rintro e w' ⟨rfl, rfl⟩
  go_wp2_with fail
  refine (CF.out _).mono ?_
  rintro e w' ⟨rfl, rfl⟩
  go_wp2_with fail
  refine (C0.out _).mono ?_
  rintro e w' ⟨rfl, rfl⟩
  go_wp2_with fail
  refine (C1.out _).mono ?_
  rintro e w' ⟨rfl, rfl⟩
  go_wp2_with fail
  obtain ⟨s0, hs0⟩ : ∃ s, s = 1 + q0 := ⟨_, rfl⟩
  obtain ⟨k0, hk0⟩ : ∃ s, s = 1 + q1 := ⟨_, rfl⟩
  obtain ⟨mm, hmm⟩ : ∃ s, s = 1 + qm := ⟨_, rfl⟩
  obtain ⟨t1, ht1⟩ : ∃ s, s = 2 + q2 := ⟨_, rfl⟩
  obtain ⟨t2, ht2⟩ : ∃ s, s = 2 + q4 := ⟨_, rfl⟩
  rw [← hs0, ← hk0, ← hmm]
  have HS0 := hid hs0
  have HK0 := hid hk0
  have HMM := hid hmm
  have bs0 : 1 ≤ s0 := by omega
  have bs1 : s0 ≤ 10 := by omega
  have bk0 : 1 ≤ k0 := by omega
  have bk1 : k0 ≤ 20 := by omega
  have bt0 : 2 ≤ t1 := by omega
  have bt1 : t1 ≤ 6 := by omega
  have bu0 : 2 ≤ t2 := by omega
  have bu1 : t2 ≤ 6 := by omega
  have HT1 := hid (show 2 + q2 = t1 by omega)
  have HT2 := hid (show 2 + q4 = t2 by omega)
  have bd0 := div_le bk0 bk1 bt0
  have HD1 := hid (show IntKind.i64.wrap (k0.tdiv t1) = k0 / t1 from IntWalk.i64_quo _ _ ⟨by omega, by omega, by omega⟩)
  obtain ⟨k1, hk1⟩ : ∃ k1, k1 = k0 / t1 + 1 + q3 := ⟨_, rfl⟩
  have bk10 : 1 ≤ k1 := by omega
  have bk11 : k1 ≤ 20 := by omega
  have bm0 : 0 ≤ s0 * t1 := Int.mul_nonneg (by omega) (by omega)
  have bm1 : s0 * t1 ≤ 60 := by have := Int.mul_le_mul bs1 bt1 (by omega) (by omega); omega
  obtain ⟨s1, hs1⟩ : ∃ s1, s1 = s0 * t1 := ⟨_, rfl⟩
  have bn0 : 0 ≤ s1 * t2 := Int.mul_nonneg (by omega) (by omega)
  have bn1 : s1 * t2 ≤ 360 := by have := Int.mul_le_mul (show s1 ≤ 60 by omega) bu1 (by omega) (by omega); omega
  have bd2 := div_le bk10 bk11 bu0
  clear hs0 hk0 hmm ht1 ht2
  refine wp_loop_rounds 3 ?_
  rw [rounds_succ]
  go_wp2_with fail
  refine (C2.out _).mono ?_
  rintro e w' ⟨rfl, rfl⟩
  have HCC := hid (show cc = if k0 < t1 then cfgK1 s0 k0 mm qf else if k1 < t2 then cfgK2 s0 k0 t1 q3 mm qf else cfgK3 s0 k0 t1 q3 t2 q5 mm qf by
    rw [hk1, HE.out, ← HS0.out, ← HK0.out, ← HMM.out, HT1.out, HT2.out])
  have HK1 := hid hk1
  have HS1 := hid hs1
  clear HE hk1 hs1
  by_cases a1 : k0 < t1
  · have HC := hid (show cc = cfgK1 s0 k0 mm qf by rw [HCC.out]; exact if_pos a1)
    have a1' : k0 < 2 + q2 := by have := HT1.out; omega
    clear HCC
    go_wp2
    refine bodyPost_ret (v := .agg #[i64 s0, i64 k0, i64 0, i64 0, i64 0, i64 0, i64 0, i64 0, i64 mm, i64 qf]) (by simp [results, Try.results23, go_sem]) rfl ⟨by rw [HC.out]; rfl, ?_⟩
    exact ((((Below.refl _ _).alloc (Nat.le_refl _) _).alloc (by simp) _).alloc (by simp; omega) _)
  · have a1' : ¬ k0 < 2 + q2 := by have := HT1.out; omega
    have d1 : IntKind.i64.wrap (k0.tdiv (2 + q2)) = k0 / t1 := by rw [HT1.out]; exact HD1.out
    have n1 : ¬ 2 + q2 = 0 := by omega
    go_wp2_with fail
    go_quiet (exact Calls.quiet_of_same (C3.out _))
    rw [show k0 / t1 + 1 + q3 = k1 from HK1.out.symm]
    have e1 : 2 + q2 = t1 := HT1.out
    rw [e1]
    clear e1
    have HS1' := hid (show s0 * t1 = s1 from HS1.out.symm)
    go_wp2_with fail
    rw [show s0 * t1 = s1 from HS1'.out]
    rw [rounds_succ]
    go_wp2_with fail
    refine (C4.out _).mono ?_
    rintro e w' ⟨rfl, rfl⟩
    have HD2 := hid (show IntKind.i64.wrap (k1.tdiv t2) = k1 / t2 from IntWalk.i64_quo _ _ ⟨by omega, by omega, by omega⟩)
    by_cases a2 : k1 < t2
    · have HC := hid (show cc = cfgK2 s0 k0 t1 q3 mm qf by rw [HCC.out, if_neg (by omega)]; exact if_pos a2)
      have HC2 := hid (show cfgK2 s0 k0 t1 q3 mm qf = ⟨s0, k0, s1, k1, 0, 0, 0, 0, mm, qf⟩ by rw [HS1.out, HK1.out]; rfl)
      have a2' : k1 < 2 + q4 := by have := HT2.out; omega
      clear HCC
      go_wp2
      refine bodyPost_ret (v := .agg #[i64 s0, i64 k0, i64 s1, i64 k1, i64 0, i64 0, i64 0, i64 0, i64 mm, i64 qf]) (by simp [results, Try.results23, go_sem]) rfl ⟨by rw [HC.out, HC2.out], ?_⟩
      repeat (first | (with_reducible refine Below.setCell ?_ (by dsimp only; omega) _) | (with_reducible refine below_drewN ?_ _) | (with_reducible refine Below.alloc ?_ (by simp; try omega) _))
      exact Below.refl _ _
    · have HC := hid (show cc = cfgK3 s0 k0 t1 q3 t2 q5 mm qf by rw [HCC.out, if_neg (by omega)]; exact if_neg (by omega))
      have HC2 := hid (show cfgK3 s0 k0 t1 q3 t2 q5 mm qf = ⟨s0, k0, s1, k1, s1 * t2, k1 / t2 + 1 + q5, 0, 0, mm, qf⟩ by rw [HS1.out, HK1.out]; rfl)
      have a2' : ¬ k1 < 2 + q4 := by have := HT2.out; omega
      have d2 : IntKind.i64.wrap (k1.tdiv (2 + q4)) = k1 / t2 := by rw [HT2.out]; exact HD2.out
      have n2 : ¬ 2 + q4 = 0 := by omega
      clear HCC
      go_wp2_with fail
      go_quiet (exact Calls.quiet_of_same (C5.out _))
      have e2 : 2 + q4 = t2 := HT2.out
      rw [e2]
      clear e2
      go_wp2_with fail
      rw [rounds_succ]
      go_wp2
      refine bodyPost_ret (v := .agg #[i64 s0, i64 k0, i64 s1, i64 k1, i64 (s1 * t2), i64 (k1 / t2 + 1 + q5), i64 0, i64 0, i64 mm, i64 qf]) (by simp [results, Try.results23, go_sem]) rfl ⟨by rw [HC.out, HC2.out], ?_⟩
      repeat (first | (with_reducible refine Below.setCell ?_ (by dsimp only; omega) _) | (with_reducible refine below_drewN ?_ _) | (with_reducible refine Below.alloc ?_ (by simp; try omega) _))
      exact Below.refl _ _
end Go.Proofs.Ythbbfjfekchdiaa
