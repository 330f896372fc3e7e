import Derived.Test.YthbbfjfekchdiaaXLeafWalks
import Derived.WalkSpells
/-
  sundialkeep's configurations: out of any numbers; each may be.
-/
namespace Go.Proofs.Ythbbfjfekchdiaa

/-- which of n things a raw number speaks of -/
def pickK (x : Int) (n : Int) : Int := (if x < 0 then -(x + 1) else x) % n
theorem pickK_in (x : Int) {n : Int} (h : 1 ≤ n) : 0 ≤ pickK x n ∧ pickK x n < n := ⟨Int.emod_nonneg _ (by omega), Int.emod_lt_of_pos _ (by omega)⟩

/-- the first archive; the factor of the second one's step; and so on -/
def cfgK1 (s0 k0 m f : Int) : Cfg := ⟨s0, k0, 0, 0, 0, 0, 0, 0, m, f⟩
def cfgK2 (s0 k0 t1 e1 m f : Int) : Cfg := ⟨s0, k0, s0 * t1, k0 / t1 + 1 + e1, 0, 0, 0, 0, m, f⟩
def cfgK3 (s0 k0 t1 e1 t2 e2 m f : Int) : Cfg := ⟨s0, k0, s0 * t1, k0 / t1 + 1 + e1, s0 * t1 * t2, (k0 / t1 + 1 + e1) / t2 + 1 + e2, 0, 0, m, f⟩
def cfgK (r0 r1 r2 r3 r4 r5 me fa : Int) : Cfg :=
  if 1 + pickK r1 20 < 2 + pickK r2 5 then cfgK1 (1 + pickK r0 10) (1 + pickK r1 20) (1 + pickK me 6) (pickK fa 101)
  else if (1 + pickK r1 20) / (2 + pickK r2 5) + 1 + pickK r3 10 < 2 + pickK r4 5 then cfgK2 (1 + pickK r0 10) (1 + pickK r1 20) (2 + pickK r2 5) (pickK r3 10) (1 + pickK me 6) (pickK fa 101)
  else cfgK3 (1 + pickK r0 10) (1 + pickK r1 20) (2 + pickK r2 5) (pickK r3 10) (2 + pickK r4 5) (pickK r5 10) (1 + pickK me 6) (pickK fa 101)

/-- one archive and the next, made out of it -/
theorem next_ok {s k t e : Int} (hs : 1 ≤ s) (hk : 1 ≤ k) (ht : 2 ≤ t) (hkt : t ≤ k) (he : 0 ≤ e) : s < s * t ∧ s * t % s = 0 ∧ s * k < s * t * (k / t + 1 + e) ∧ s * t / s ≤ k ∧ 1 ≤ k / t + 1 + e := by
  have hd : 0 ≤ k / t := Int.ediv_nonneg (by omega) (by omega)
  have hm := Int.mul_ediv_add_emod k t
  have hl := Int.emod_lt_of_pos k (show 0 < t by omega)
  have h1 : s * 2 ≤ s * t := Int.mul_le_mul_of_nonneg_left ht (by omega)
  refine ⟨by omega, Int.mul_emod_right s t, ?_, by rw [Int.mul_ediv_cancel_left _ (by omega)]; exact hkt, by omega⟩
  have h2 : k < t * (k / t + 1 + e) := by
    have h3 : t * (k / t + 1 + e) = t * (k / t) + t + t * e := by rw [Int.mul_add, Int.mul_add, Int.mul_one]
    have h4 : 0 ≤ t * e := Int.mul_nonneg (by omega) he
    omega
  rw [Int.mul_assoc]
  exact Int.mul_lt_mul_of_pos_left h2 (by omega)
theorem div_le {k t : Int} (hk : 1 ≤ k) (hk2 : k ≤ 20) (ht : 2 ≤ t) : 0 ≤ k / t ∧ k / t ≤ 10 := by
  refine ⟨Int.ediv_nonneg (by omega) (by omega), ?_⟩
  refine Int.ediv_le_of_le_mul (by omega) ?_
  have : 10 * 2 ≤ 10 * t := Int.mul_le_mul_of_nonneg_left ht (by omega)
  omega

theorem cfgK1_ok {s0 k0 m f : Int} (hs : 1 ≤ s0 ∧ s0 ≤ 10) (hk : 1 ≤ k0 ∧ k0 ≤ 20) (hm : 1 ≤ m ∧ m ≤ 6) (hf : 0 ≤ f ∧ f ≤ 100) : (cfgK1 s0 k0 m f).Ok ∧ (cfgK1 s0 k0 m f).many = 1 := by
  have hn : (cfgK1 s0 k0 m f).many = 1 := by
    unfold Cfg.many
    rw [if_neg (by show ¬ (s0 = 0 ∧ k0 = 0); omega), if_pos (by show (0 : Int) = 0 ∧ (0 : Int) = 0; simp)]
  refine ⟨⟨⟨hm.1, hm.2, hf.1, hf.2, by omega⟩, fun i hi => ?_, fun i hi h => by omega⟩, hn⟩
  rw [hn]
  have h4 : i = 0 ∨ i = 1 ∨ i = 2 ∨ i = 3 := by omega
  rcases h4 with rfl | rfl | rfl | rfl
  · exact ⟨fun h => absurd h (by omega), fun _ => (show 1 ≤ s0 ∧ s0 ≤ 86400 ∧ 1 ≤ k0 ∧ k0 ≤ 60 by omega)⟩
  all_goals exact ⟨fun _ => ⟨rfl, rfl⟩, fun h => absurd h (by omega)⟩
theorem cfgK2_ok {s0 k0 t1 e1 m f : Int} (hs : 1 ≤ s0 ∧ s0 ≤ 10) (hk : 1 ≤ k0 ∧ k0 ≤ 20) (ht : 2 ≤ t1 ∧ t1 ≤ 6) (hkt : t1 ≤ k0) (he : 0 ≤ e1 ∧ e1 ≤ 9) (hm : 1 ≤ m ∧ m ≤ 6) (hf : 0 ≤ f ∧ f ≤ 100) : (cfgK2 s0 k0 t1 e1 m f).Ok ∧ (cfgK2 s0 k0 t1 e1 m f).many = 2 := by
  obtain ⟨a, b, c, d, e⟩ := next_ok hs.1 hk.1 ht.1 hkt he.1
  have hd := div_le hk.1 hk.2 ht.1
  have hst : s0 * t1 ≤ 60 := by have := Int.mul_le_mul hs.2 ht.2 (by omega) (by omega); omega
  have hn : (cfgK2 s0 k0 t1 e1 m f).many = 2 := by
    unfold Cfg.many
    rw [if_neg (by show ¬ (s0 = 0 ∧ k0 = 0); omega), if_neg (by show ¬ (s0 * t1 = 0 ∧ k0 / t1 + 1 + e1 = 0); omega), if_pos (by show (0 : Int) = 0 ∧ (0 : Int) = 0; simp)]
  refine ⟨⟨⟨hm.1, hm.2, hf.1, hf.2, by omega⟩, fun i hi => ?_, fun i hi h => ?_⟩, hn⟩
  · rw [hn]
    have h4 : i = 0 ∨ i = 1 ∨ i = 2 ∨ i = 3 := by omega
    rcases h4 with rfl | rfl | rfl | rfl
    · exact ⟨fun h => absurd h (by omega), fun _ => (show 1 ≤ s0 ∧ s0 ≤ 86400 ∧ 1 ≤ k0 ∧ k0 ≤ 60 by omega)⟩
    · exact ⟨fun h => absurd h (by omega), fun _ => (show 1 ≤ s0 * t1 ∧ s0 * t1 ≤ 86400 ∧ 1 ≤ k0 / t1 + 1 + e1 ∧ k0 / t1 + 1 + e1 ≤ 60 by omega)⟩
    all_goals exact ⟨fun _ => ⟨rfl, rfl⟩, fun h => absurd h (by omega)⟩
  · have h0 : i = 0 := by omega
    subst h0
    exact ⟨a, b, c, d⟩
theorem cfgK3_ok {s0 k0 t1 e1 t2 e2 m f : Int} (hs : 1 ≤ s0 ∧ s0 ≤ 10) (hk : 1 ≤ k0 ∧ k0 ≤ 20) (ht : 2 ≤ t1 ∧ t1 ≤ 6) (hkt : t1 ≤ k0) (he : 0 ≤ e1 ∧ e1 ≤ 9) (ht2 : 2 ≤ t2 ∧ t2 ≤ 6) (hkt2 : t2 ≤ k0 / t1 + 1 + e1) (he2 : 0 ≤ e2 ∧ e2 ≤ 9) (hm : 1 ≤ m ∧ m ≤ 6) (hf : 0 ≤ f ∧ f ≤ 100) : (cfgK3 s0 k0 t1 e1 t2 e2 m f).Ok ∧ (cfgK3 s0 k0 t1 e1 t2 e2 m f).many = 3 := by
  obtain ⟨a, b, c, d, e⟩ := next_ok hs.1 hk.1 ht.1 hkt he.1
  have hd := div_le hk.1 hk.2 ht.1
  have hst : s0 * t1 ≤ 60 := by have := Int.mul_le_mul hs.2 ht.2 (by omega) (by omega); omega
  obtain ⟨k1, hk1⟩ : ∃ k1, k1 = k0 / t1 + 1 + e1 := ⟨_, rfl⟩
  obtain ⟨s1, hs1⟩ : ∃ s1, s1 = s0 * t1 := ⟨_, rfl⟩
  have e3 : cfgK3 s0 k0 t1 e1 t2 e2 m f = ⟨s0, k0, s1, k1, s1 * t2, k1 / t2 + 1 + e2, 0, 0, m, f⟩ := by rw [hk1, hs1]; rfl
  rw [e3]
  rw [← hk1] at c e hkt2
  rw [← hs1] at a b c d hst
  obtain ⟨a2, b2, c2, d2, e2'⟩ := next_ok (s := s1) (k := k1) (t := t2) (e := e2) (by omega) e ht2.1 hkt2 he2.1
  have hd2 := div_le (k := k1) (t := t2) e (by omega) ht2.1
  have hst2 : s1 * t2 ≤ 360 := by have := Int.mul_le_mul hst ht2.2 (by omega) (by omega); omega
  have hn : (Cfg.mk s0 k0 s1 k1 (s1 * t2) (k1 / t2 + 1 + e2) 0 0 m f).many = 3 := by
    unfold Cfg.many
    rw [if_neg (by show ¬ (s0 = 0 ∧ k0 = 0); omega), if_neg (by show ¬ (s1 = 0 ∧ k1 = 0); omega), if_neg (by show ¬ (s1 * t2 = 0 ∧ k1 / t2 + 1 + e2 = 0); omega), if_pos (by show (0 : Int) = 0 ∧ (0 : Int) = 0; simp)]
  refine ⟨⟨⟨hm.1, hm.2, hf.1, hf.2, by omega⟩, fun i hi => ?_, fun i hi h => ?_⟩, hn⟩
  · rw [hn]
    have h4 : i = 0 ∨ i = 1 ∨ i = 2 ∨ i = 3 := by omega
    rcases h4 with rfl | rfl | rfl | rfl
    · exact ⟨fun h => absurd h (by omega), fun _ => (show 1 ≤ s0 ∧ s0 ≤ 86400 ∧ 1 ≤ k0 ∧ k0 ≤ 60 by omega)⟩
    · exact ⟨fun h => absurd h (by omega), fun _ => (show 1 ≤ s1 ∧ s1 ≤ 86400 ∧ 1 ≤ k1 ∧ k1 ≤ 60 by omega)⟩
    · exact ⟨fun h => absurd h (by omega), fun _ => (show 1 ≤ s1 * t2 ∧ s1 * t2 ≤ 86400 ∧ 1 ≤ k1 / t2 + 1 + e2 ∧ k1 / t2 + 1 + e2 ≤ 60 by omega)⟩
    · exact ⟨fun _ => ⟨rfl, rfl⟩, fun h => absurd h (by omega)⟩
  · have h0 : i = 0 ∨ i = 1 := by omega
    rcases h0 with rfl | rfl
    · exact ⟨a, b, c, d⟩
    · exact ⟨a2, b2, c2, d2⟩
/-- sundialkeep's configurations: which they are -/
theorem cfgK_ok (r0 r1 r2 r3 r4 r5 me fa : Int) : (cfgK r0 r1 r2 r3 r4 r5 me fa).Ok ∧ (cfgK r0 r1 r2 r3 r4 r5 me fa).many ≤ 3 := by
  have p0 := pickK_in r0 (n := 10) (by omega)
  have p1 := pickK_in r1 (n := 20) (by omega)
  have p2 := pickK_in r2 (n := 5) (by omega)
  have p3 := pickK_in r3 (n := 10) (by omega)
  have p4 := pickK_in r4 (n := 5) (by omega)
  have p5 := pickK_in r5 (n := 10) (by omega)
  have pm := pickK_in me (n := 6) (by omega)
  have pf := pickK_in fa (n := 101) (by omega)
  unfold cfgK
  split
  · have h := cfgK1_ok (s0 := 1 + pickK r0 10) (k0 := 1 + pickK r1 20) (m := 1 + pickK me 6) (f := pickK fa 101) (by omega) (by omega) (by omega) (by omega)
    exact ⟨h.1, by omega⟩
  · split
    · have h := cfgK2_ok (s0 := 1 + pickK r0 10) (k0 := 1 + pickK r1 20) (t1 := 2 + pickK r2 5) (e1 := pickK r3 10) (m := 1 + pickK me 6) (f := pickK fa 101) (by omega) (by omega) (by omega) (by omega) (by omega) (by omega) (by omega)
      exact ⟨h.1, by omega⟩
    · have h := cfgK3_ok (s0 := 1 + pickK r0 10) (k0 := 1 + pickK r1 20) (t1 := 2 + pickK r2 5) (e1 := pickK r3 10) (t2 := 2 + pickK r4 5) (e2 := pickK r5 10) (m := 1 + pickK me 6) (f := pickK fa 101) (by omega) (by omega) (by omega) (by omega) (by omega) (by omega) (by omega) (by omega) (by omega) (by omega)
      exact ⟨h.1, by omega⟩
end Go.Proofs.Ythbbfjfekchdiaa
namespace Go.Proofs.Ythbbfjfekchdiaa
open Go.RowKit
set_option linter.unusedSimpArgs false

set_option maxHeartbeats 1000000 in
theorem pickK_any (x n : Int) (w : World) (h : 1 ≤ n) (hn : n ≤ 1000000000000) (h1 : -9223372036854775808 ≤ x) (h2 : x ≤ 9223372036854775807) :
    Calls Try.prog 15 #[i64 x, i64 n] w fun e w' => e = .returned (i64 (pickK x n)) ∧ w' = w := by
  by_cases hx : x < 0
  · have HP := hid (show pickK x n = (-(x + 1)) % n by unfold pickK; rw [if_pos hx])
    go_enter Try.func15, Try.ntmps15
    go_wp2
    go_ret
    exact ⟨ret_int (by rw [HP.out, ← Int.tmod_eq_emod_of_nonneg (by omega), Int.neg_tmod]), rfl⟩
  · have HP := hid (show pickK x n = x % n by unfold pickK; rw [if_neg hx])
    go_enter Try.func15, Try.ntmps15
    go_wp2
    go_ret
    exact ⟨ret_int (by rw [HP.out]), rfl⟩
end Go.Proofs.Ythbbfjfekchdiaa
