import Derived.Test.YthbbfjfekchdiaaXCFits
import Derived.Test.YthbbfjfekchdiaaXCUsed
import Derived.Test.YthbbfjfekchdiaaXZLeaf
namespace Go.Proofs.Ythbbfjfekchdiaa
open Go.RowKit

theorem box_new (w : World) (c : Cfg) : Box (w.alloc (.cells #[i64 c.s0, i64 c.k0, i64 c.s1, i64 c.k1, i64 c.s2, i64 c.k2, i64 c.s3, i64 c.k3, i64 c.m, i64 c.f] 29)) w.heap.size c := by
  constructor <;> simp
theorem box_old {w : World} {b : Nat} {c : Cfg} (h : Box w b c) (o : Obj) : Box (w.alloc o) b c :=
  h.later ((Below.refl _ _).alloc (Nat.le_refl _) _)

/-- may it be? -/
def Cfg.okB (c : Cfg) : Bool := decide c.Ok
theorem Cfg.okB_no {c : Cfg} (h : ¬ ((1 ≤ c.m ∧ c.m ≤ 6) ∧ (0 ≤ c.f ∧ c.f ≤ 100) ∧ 1 ≤ c.many ∧ zeroB c c.many = true ∧ bdB c c.many = true ∧ ftB c c.many = true)) : c.okB = false := c.ok_no h
theorem Cfg.okB_yes {c : Cfg} (h : (1 ≤ c.m ∧ c.m ≤ 6) ∧ (0 ≤ c.f ∧ c.f ≤ 100) ∧ 1 ≤ c.many ∧ zeroB c c.many = true ∧ bdB c c.many = true ∧ ftB c c.many = true) : c.okB = true := c.ok_yes h

set_option maxHeartbeats 1000000 in
theorem good_short (c : Cfg) (w : World) (h : ¬ ((1 ≤ c.m ∧ c.m ≤ 6) ∧ (0 ≤ c.f ∧ c.f ≤ 100) ∧ 1 ≤ c.many)) :
    Calls Try.prog 56 #[.agg c.cells] w fun e w' => e = .returned (.bool c.okB) ∧ Below w.heap.size w w' := by
  show Calls Try.prog 56 #[.agg #[i64 c.s0, i64 c.k0, i64 c.s1, i64 c.k1, i64 c.s2, i64 c.k2, i64 c.s3, i64 c.k3, i64 c.m, i64 c.f]] w _
  have HE := hid (c.okB_no fun x => h ⟨x.1, x.2.1, x.2.2.1⟩)
  have h4 := c.many_le
  have HW := hid (fun (o1 o2 : Obj) => ((Below.refl w.heap.size w).alloc (Nat.le_refl _) o1).alloc (by simp) o2)
  by_cases a : 1 ≤ c.m ∧ c.m ≤ 6
  case neg =>
    clear h
    go_enter Try.func56, Try.ntmps56
    go_wp2_with (first | (go_at_call 40; refine (bynumber_no _ _ a).mono ?_; rintro e w' ⟨rfl, rfl⟩) | (go_at_call 41; refine (used_any c _).mono ?_; rintro e w' ⟨rfl, rfl⟩))
    go_ret
    exact ⟨ret_bool' HE.out.symm, HW.out _ _⟩
  by_cases b : 0 ≤ c.f ∧ c.f ≤ 100
  case neg =>
    have b' := and_false' b
    obtain ⟨a1, a2⟩ := a
    clear h b
    go_enter Try.func56, Try.ntmps56
    go_wp2_with (first | (go_at_call 40; refine (bynumber_yes _ _ a1 a2).mono ?_; rintro e w' ⟨rfl, rfl⟩) | (go_at_call 41; refine (used_any c _).mono ?_; rintro e w' ⟨rfl, rfl⟩) | (go_at_call 65; refine (within_any _ _ _ _).mono ?_; rintro e w' ⟨rfl, rfl⟩))
    all_goals first | (go_ret; exact ⟨ret_bool' HE.out.symm, HW.out _ _⟩) | (exfalso; simp_all; done)
  have hm : c.many = 0 := Nat.eq_zero_of_not_pos fun x => h ⟨a, b, x⟩
  obtain ⟨a1, a2⟩ := a
  obtain ⟨b1, b2⟩ := b
  clear h h4
  go_enter Try.func56, Try.ntmps56
  go_wp2_with (first | (go_at_call 40; refine (bynumber_yes _ _ a1 a2).mono ?_; rintro e w' ⟨rfl, rfl⟩) | (go_at_call 41; refine (used_any c _).mono ?_; rintro e w' ⟨rfl, rfl⟩) | (go_at_call 65; refine (within_any _ _ _ _).mono ?_; rintro e w' ⟨rfl, rfl⟩))
  go_ret
  exact ⟨ret_bool' HE.out.symm, HW.out _ _⟩
end Go.Proofs.Ythbbfjfekchdiaa
