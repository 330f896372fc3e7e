import Derived.Test.YthbbfjfekchdiaaGreatXLeafWalks
namespace Go.Proofs.YthbbfjfekchdiaaGreat
open Go.RowKit

theorem below_one {w w' : World} {O : Obj} (h : Below (w.alloc O).heap.size (w.alloc O) w') : Below w.heap.size w w' := by
  have e : (w.alloc O).heap.size = w.heap.size + 1 := by simp
  rw [e] at h
  exact ((Below.refl _ _).alloc (Nat.le_refl _) _).trans (h.mono (by omega))

theorem and_false' {a b : Prop} [Decidable a] [Decidable b] (h : ¬ (a ∧ b)) : (decide a && decide b) = false := by
  by_cases x : a <;> by_cases y : b <;> simp_all

set_option maxHeartbeats 1000000 in
theorem rcheck_no (c : Cfg) (w : World) (hMf : ¬ c.Mf) :
    Calls Tryz.prog 19 #[.agg c.cells] w fun e w' => e = .returned (i64 c.err) ∧ Below w.heap.size w w' := by
  show Calls Tryz.prog 19 #[.agg #[i64 c.s0, i64 c.k0, i64 c.s1, i64 c.k1, i64 c.s2, i64 c.k2, i64 c.s3, i64 c.k3, i64 c.m, i64 c.f]] w _
  have HE := hid (c.not_ok_mf hMf)
  have HM := hid hMf
  clear hMf
  have h6 := c.many_le
  by_cases a : 1 ≤ c.m ∧ c.m ≤ 6
  · obtain ⟨a1, a2⟩ := a
    by_cases b : 0 ≤ c.f ∧ c.f ≤ 100
    · obtain ⟨b1, b2⟩ := b
      have h7 : ((c.many : Int) == 0) = true := by
        rw [beq_iff_eq]; have : ¬ 1 ≤ c.many := fun h => HM.out ⟨a1, a2, b1, b2, h⟩
        omega
      go_enter Tryz.func19, Tryz.ntmps19
      go_wp2_with (first | (go_at_call 38; refine (in_any _ _ _ _).mono ?_; rintro e w' ⟨rfl, rfl⟩) | (go_at_call 39; refine (many_any c _).mono ?_; rintro e w' ⟨rfl, hb'⟩; have HB := hid (below_one hb'); clear hb'))
      go_ret
      exact ⟨ret_int HE.out.symm, HB.out⟩
    · have b' := and_false' b
      clear b
      go_enter Tryz.func19, Tryz.ntmps19
      go_wp2_with (first | (go_at_call 38; refine (in_any _ _ _ _).mono ?_; rintro e w' ⟨rfl, rfl⟩) | (go_at_call 39; refine (many_any c _).mono ?_; rintro e w' ⟨rfl, hb'⟩; have HB := hid (below_one hb'); clear hb'))
      all_goals first | (go_ret; exact ⟨ret_int HE.out.symm, HB.out⟩) | (exfalso; simp_all)
  · have a' := and_false' a
    clear a
    go_enter Tryz.func19, Tryz.ntmps19
    go_wp2_with (first | (go_at_call 38; refine (in_any _ _ _ _).mono ?_; rintro e w' ⟨rfl, rfl⟩) | (go_at_call 39; refine (many_any c _).mono ?_; rintro e w' ⟨rfl, hb'⟩; have HB := hid (below_one hb'); clear hb'))
    all_goals first | (go_ret; exact ⟨ret_int HE.out.symm, HB.out⟩) | (exfalso; simp_all)
end Go.Proofs.YthbbfjfekchdiaaGreat
