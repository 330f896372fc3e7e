import Derived.Test.YthbbfjfekchdiaaGreatXPCreate
namespace Go.Proofs.YthbbfjfekchdiaaGreat
open Go.RowKit

theorem ta00 (w : World) : (Instr.typeAssert (.iface 139 (.agg #[])) 84 139 true).run Tryz.prog w = .ok (.tuple #[.agg #[], .bool true]) w := by kernel_rfl
theorem ta10 (w : World) : (Instr.typeAssert (.iface 140 (.agg #[])) 84 139 true).run Tryz.prog w = .ok (.tuple #[.agg #[], .bool false]) w := by kernel_rfl
theorem ta11 (w : World) : (Instr.typeAssert (.iface 140 (.agg #[])) 84 140 true).run Tryz.prog w = .ok (.tuple #[.agg #[], .bool true]) w := by kernel_rfl
theorem ta20 (w : World) : (Instr.typeAssert (.iface 141 (.agg #[])) 84 139 true).run Tryz.prog w = .ok (.tuple #[.agg #[], .bool false]) w := by kernel_rfl
theorem ta21 (w : World) : (Instr.typeAssert (.iface 141 (.agg #[])) 84 140 true).run Tryz.prog w = .ok (.tuple #[.agg #[], .bool false]) w := by kernel_rfl
theorem ta22 (w : World) : (Instr.typeAssert (.iface 141 (.agg #[])) 84 141 true).run Tryz.prog w = .ok (.tuple #[.agg #[], .bool true]) w := by kernel_rfl
theorem ta30 (w : World) : (Instr.typeAssert (.iface 142 (.agg #[])) 84 139 true).run Tryz.prog w = .ok (.tuple #[.agg #[], .bool false]) w := by kernel_rfl
theorem ta31 (w : World) : (Instr.typeAssert (.iface 142 (.agg #[])) 84 140 true).run Tryz.prog w = .ok (.tuple #[.agg #[], .bool false]) w := by kernel_rfl
theorem ta32 (w : World) : (Instr.typeAssert (.iface 142 (.agg #[])) 84 141 true).run Tryz.prog w = .ok (.tuple #[.agg #[], .bool false]) w := by kernel_rfl
theorem ta33 (w : World) : (Instr.typeAssert (.iface 142 (.agg #[])) 84 142 true).run Tryz.prog w = .ok (.tuple #[.agg #[], .bool true]) w := by kernel_rfl
theorem ta40 (w : World) : (Instr.typeAssert (.iface 143 (.agg #[])) 84 139 true).run Tryz.prog w = .ok (.tuple #[.agg #[], .bool false]) w := by kernel_rfl
theorem ta41 (w : World) : (Instr.typeAssert (.iface 143 (.agg #[])) 84 140 true).run Tryz.prog w = .ok (.tuple #[.agg #[], .bool false]) w := by kernel_rfl
theorem ta42 (w : World) : (Instr.typeAssert (.iface 143 (.agg #[])) 84 141 true).run Tryz.prog w = .ok (.tuple #[.agg #[], .bool false]) w := by kernel_rfl
theorem ta43 (w : World) : (Instr.typeAssert (.iface 143 (.agg #[])) 84 142 true).run Tryz.prog w = .ok (.tuple #[.agg #[], .bool false]) w := by kernel_rfl
theorem ta44 (w : World) : (Instr.typeAssert (.iface 143 (.agg #[])) 84 143 true).run Tryz.prog w = .ok (.tuple #[.agg #[], .bool true]) w := by kernel_rfl
theorem ta50 (w : World) : (Instr.typeAssert (.iface 144 (.agg #[])) 84 139 true).run Tryz.prog w = .ok (.tuple #[.agg #[], .bool false]) w := by kernel_rfl
theorem ta51 (w : World) : (Instr.typeAssert (.iface 144 (.agg #[])) 84 140 true).run Tryz.prog w = .ok (.tuple #[.agg #[], .bool false]) w := by kernel_rfl
theorem ta52 (w : World) : (Instr.typeAssert (.iface 144 (.agg #[])) 84 141 true).run Tryz.prog w = .ok (.tuple #[.agg #[], .bool false]) w := by kernel_rfl
theorem ta53 (w : World) : (Instr.typeAssert (.iface 144 (.agg #[])) 84 142 true).run Tryz.prog w = .ok (.tuple #[.agg #[], .bool false]) w := by kernel_rfl
theorem ta54 (w : World) : (Instr.typeAssert (.iface 144 (.agg #[])) 84 143 true).run Tryz.prog w = .ok (.tuple #[.agg #[], .bool false]) w := by kernel_rfl
theorem ta55 (w : World) : (Instr.typeAssert (.iface 144 (.agg #[])) 84 144 true).run Tryz.prog w = .ok (.tuple #[.agg #[], .bool true]) w := by kernel_rfl

set_option maxHeartbeats 1000000 in
theorem number_any (m : Int) (w : World) (h1 : 1 ≤ m) (h2 : m ≤ 6) :
    Calls Tryz.prog 48 #[.iface (methT m) (.agg #[])] w fun e w' => e = .returned (i64 m) ∧ w' = w := by
  have h : m = 1 ∨ m = 2 ∨ m = 3 ∨ m = 4 ∨ m = 5 ∨ m = 6 := by omega
  rcases h with rfl | rfl | rfl | rfl | rfl | rfl
  · show Calls Tryz.prog 48 #[.iface 139 (.agg #[])] w _
    have q0 := ta00
    go_enter Tryz.func48, Tryz.ntmps48
    go_wp2
    go_ret
    exact ⟨rfl, rfl⟩
  · show Calls Tryz.prog 48 #[.iface 140 (.agg #[])] w _
    have q0 := ta10
    have q1 := ta11
    go_enter Tryz.func48, Tryz.ntmps48
    go_wp2
    go_ret
    exact ⟨rfl, rfl⟩
  · show Calls Tryz.prog 48 #[.iface 141 (.agg #[])] w _
    have q0 := ta20
    have q1 := ta21
    have q2 := ta22
    go_enter Tryz.func48, Tryz.ntmps48
    go_wp2
    go_ret
    exact ⟨rfl, rfl⟩
  · show Calls Tryz.prog 48 #[.iface 142 (.agg #[])] w _
    have q0 := ta30
    have q1 := ta31
    have q2 := ta32
    have q3 := ta33
    go_enter Tryz.func48, Tryz.ntmps48
    go_wp2
    go_ret
    exact ⟨rfl, rfl⟩
  · show Calls Tryz.prog 48 #[.iface 143 (.agg #[])] w _
    have q0 := ta40
    have q1 := ta41
    have q2 := ta42
    have q3 := ta43
    have q4 := ta44
    go_enter Tryz.func48, Tryz.ntmps48
    go_wp2
    go_ret
    exact ⟨rfl, rfl⟩
  · show Calls Tryz.prog 48 #[.iface 144 (.agg #[])] w _
    have q0 := ta50
    have q1 := ta51
    have q2 := ta52
    have q3 := ta53
    have q4 := ta54
    have q5 := ta55
    go_enter Tryz.func48, Tryz.ntmps48
    go_wp2
    go_ret
    exact ⟨rfl, rfl⟩

set_option maxHeartbeats 1000000 in
theorem shape_any (s : Int) (ad : Option Addr) (n : Nat) (w : World) :
    Calls Tryz.prog 49 #[.agg #[i64 s, .slice ad n n]] w fun e w' => e = .returned (.agg #[i64 s, i64 n]) ∧ Below w.heap.size w w' := by
  go_enter Tryz.func49, Tryz.ntmps49
  go_wp2
  refine bodyPost_ret (v := .agg #[i64 s, i64 n]) (by simp [results, Tryz.results49, go_sem]) rfl ⟨rfl, ?_⟩
  exact (((Below.refl _ _).alloc (Nat.le_refl _) _).alloc (by simp) _)
end Go.Proofs.YthbbfjfekchdiaaGreat
