import Derived.Test.YthbbfjfekchdiaaGreatXLeafWalks
namespace Go.Proofs.YthbbfjfekchdiaaGreat
open Go.RowKit

set_option maxHeartbeats 1000000 in
theorem looks_none (B : Nat) (w : World) (h1 : w.cell? ⟨B, 1, none⟩ = some (.slice none 0 0)) (h2 : w.cell? ⟨B, 2, none⟩ = some (.slice none 0 0)) (h3 : w.cell? ⟨B, 3, none⟩ = some (.slice none 0 0)) :
    Calls Tryz.prog 12 #[.pointer (some ⟨B, 1, none⟩)] w fun e w' => e = .returned (.bool true) ∧ w' = w := by
  go_enter Tryz.func12, Tryz.ntmps12
  go_wp2
  refine wp_loop_rounds 1 ?_
  rw [rounds_succ]
  go_wp2
  refine wp_loop_rounds 1 ?_
  rw [rounds_succ]
  go_wp2
  refine wp_loop_rounds 1 ?_
  rw [rounds_succ]
  go_wp2
  go_ret
  exact ⟨rfl, rfl⟩

set_option maxHeartbeats 1000000 in
theorem apart_none (B : Nat) (w : World) (h1 : w.cell? ⟨B, 1, none⟩ = some (.slice none 0 0)) :
    Calls Tryz.prog 13 #[.pointer (some ⟨B, 1, none⟩)] w fun e w' => e = .returned (.bool true) ∧ w' = w := by
  go_enter Tryz.func13, Tryz.ntmps13
  go_wp2
  refine wp_loop_rounds 1 ?_
  rw [rounds_succ]
  go_wp2
  go_ret
  exact ⟨rfl, rfl⟩

set_option maxHeartbeats 1000000 in
theorem among_any (p : Nat) (k : Int) (w : World) (h0 : w.cell? ⟨p, 0, none⟩ = some (i64 1)) (h1 : w.cell? ⟨p, 1, none⟩ = some (i64 2)) (h2 : w.cell? ⟨p, 2, none⟩ = some (i64 3)) :
    Calls Tryz.prog 10 #[.slice (some ⟨p, 0, none⟩) 3 3, i64 k] w fun e w' => e = .returned (.bool (decide (k = 1 ∨ k = 2 ∨ k = 3))) ∧ w' = w := by
  by_cases k1 : k = 1
  · subst k1
    go_enter Tryz.func10, Tryz.ntmps10
    go_wp2
    refine wp_loop_rounds 1 ?_
    rw [rounds_succ]
    go_wp2
    go_ret
    exact ⟨by simp, rfl⟩
  by_cases k2 : k = 2
  · subst k2
    go_enter Tryz.func10, Tryz.ntmps10
    go_wp2
    refine wp_loop_rounds 2 ?_
    rw [rounds_succ]
    go_wp2
    rw [rounds_succ]
    go_wp2
    go_ret
    exact ⟨by simp, rfl⟩
  by_cases k3 : k = 3
  · subst k3
    go_enter Tryz.func10, Tryz.ntmps10
    go_wp2
    refine wp_loop_rounds 3 ?_
    rw [rounds_succ]
    go_wp2
    rw [rounds_succ]
    go_wp2
    rw [rounds_succ]
    go_wp2
    go_ret
    exact ⟨by simp, rfl⟩
  have HE := hid (show decide (k = 1 ∨ k = 2 ∨ k = 3) = false from decide_eq_false (by omega))
  have e1 : ((1 : Int) == k) = false := beq_eq_false_iff_ne.2 (by omega)
  have e2 : ((2 : Int) == k) = false := beq_eq_false_iff_ne.2 (by omega)
  have e3 : ((3 : Int) == k) = false := beq_eq_false_iff_ne.2 (by omega)
  clear k1 k2 k3
  go_enter Tryz.func10, Tryz.ntmps10
  go_wp2
  refine wp_loop_rounds 4 ?_
  rw [rounds_succ]
  go_wp2
  rw [rounds_succ]
  go_wp2
  rw [rounds_succ]
  go_wp2
  rw [rounds_succ]
  go_wp2
  go_ret
  exact ⟨(congrArg (fun b => Ending.returned (.bool b)) HE.out).symm, rfl⟩
end Go.Proofs.YthbbfjfekchdiaaGreat
