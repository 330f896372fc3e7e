import Derived.Test.YthbbfjfekchdiaaXLeafWalks
namespace Go.Proofs.Ythbbfjfekchdiaa
open Go.RowKit

set_option maxHeartbeats 1000000 in
theorem used_any (c : Cfg) (w : World) :
    Calls Try.prog 41 #[.agg c.cells] w fun e w' => e = .returned (.slice (some ⟨w.heap.size, 0, none⟩) c.many 4) ∧ w' = w.alloc (.cells #[i64 c.s0, i64 c.k0, i64 c.s1, i64 c.k1, i64 c.s2, i64 c.k2, i64 c.s3, i64 c.k3, i64 c.m, i64 c.f] 29) := by
  show Calls Try.prog 41 #[.agg #[i64 c.s0, i64 c.k0, i64 c.s1, i64 c.k1, i64 c.s2, i64 c.k2, i64 c.s3, i64 c.k3, i64 c.m, i64 c.f]] w _
  go_enter Try.func41, Try.ntmps41
  go_wp2
  go_loop [3] (fun n => ∃ k : Nat, k ≤ c.many ∧ n = i64 k) (fun n => 4 - (intOf n).toNat)
  case atStart => exact ⟨0, by omega, rfl⟩
  case round =>
    obtain ⟨k, hk, rfl⟩ := hrel
    have hm := c.many_le
    have h5 : k = 0 ∨ k = 1 ∨ k = 2 ∨ k = 3 ∨ k = 4 := by omega
    rcases h5 with rfl | rfl | rfl | rfl | rfl
    · have HS := hid (c.many_step 0 (by omega) hk)
      go_wp2
      · go_ret; exact ⟨by rw [HS.out.1 ⟨‹_›, ‹_›⟩]; rfl, rfl⟩
      · go_round
        case rel => exact ⟨1, HS.out.2 (fun h => absurd h.2 ‹_›), rfl⟩
        case measure => simp [intOf]
      · go_round
        case rel => exact ⟨1, HS.out.2 (fun h => absurd h.1 ‹_›), rfl⟩
        case measure => simp [intOf]
    · have HS := hid (c.many_step 1 (by omega) hk)
      go_wp2
      · go_ret; exact ⟨by rw [HS.out.1 ⟨‹_›, ‹_›⟩]; rfl, rfl⟩
      · go_round
        case rel => exact ⟨2, HS.out.2 (fun h => absurd h.2 ‹_›), rfl⟩
        case measure => simp [intOf]
      · go_round
        case rel => exact ⟨2, HS.out.2 (fun h => absurd h.1 ‹_›), rfl⟩
        case measure => simp [intOf]
    · have HS := hid (c.many_step 2 (by omega) hk)
      go_wp2
      · go_ret; exact ⟨by rw [HS.out.1 ⟨‹_›, ‹_›⟩]; rfl, rfl⟩
      · go_round
        case rel => exact ⟨3, HS.out.2 (fun h => absurd h.2 ‹_›), rfl⟩
        case measure => simp [intOf]
      · go_round
        case rel => exact ⟨3, HS.out.2 (fun h => absurd h.1 ‹_›), rfl⟩
        case measure => simp [intOf]
    · have HS := hid (c.many_step 3 (by omega) hk)
      go_wp2
      · go_ret; exact ⟨by rw [HS.out.1 ⟨‹_›, ‹_›⟩]; rfl, rfl⟩
      · go_round
        case rel => exact ⟨4, HS.out.2 (fun h => absurd h.2 ‹_›), rfl⟩
        case measure => simp [intOf]
      · go_round
        case rel => exact ⟨4, HS.out.2 (fun h => absurd h.1 ‹_›), rfl⟩
        case measure => simp [intOf]
    · have e : Hid (c.many = 4) := by show c.many = 4; omega
      go_wp2
      go_ret; exact ⟨by rw [e.out]; rfl, rfl⟩

/-- the methods' types by their numbers -/
def methT (m : Int) : TypeId :=
  if m = 1 then 112 else if m = 2 then 113 else if m = 3 then 114
  else if m = 4 then 115 else if m = 5 then 116 else 117

set_option maxHeartbeats 1000000 in
theorem bynumber_yes (m : Int) (w : World) (h1 : 1 ≤ m) (h2 : m ≤ 6) :
    Calls Try.prog 40 #[i64 m] w fun e w' => e = .returned (.tuple #[(.iface (methT m) (.agg #[])), .bool true]) ∧ w' = w := by
  have h : m = 1 ∨ m = 2 ∨ m = 3 ∨ m = 4 ∨ m = 5 ∨ m = 6 := by omega
  rcases h with rfl | rfl | rfl | rfl | rfl | rfl
  all_goals
    go_enter Try.func40, Try.ntmps40
    go_wp2
    go_ret2
    exact ⟨rfl, rfl⟩

set_option maxHeartbeats 1000000 in
theorem bynumber_no (m : Int) (w : World) (h : ¬ (1 ≤ m ∧ m ≤ 6)) :
    Calls Try.prog 40 #[i64 m] w fun e w' => e = .returned (.tuple #[.nilIface, .bool false]) ∧ w' = w := by
  have a1 : (m == 1) = false := beq_eq_false_iff_ne.2 (by omega)
  have a2 : (m == 2) = false := beq_eq_false_iff_ne.2 (by omega)
  have a3 : (m == 3) = false := beq_eq_false_iff_ne.2 (by omega)
  have a4 : (m == 4) = false := beq_eq_false_iff_ne.2 (by omega)
  have a5 : (m == 5) = false := beq_eq_false_iff_ne.2 (by omega)
  have a6 : (m == 6) = false := beq_eq_false_iff_ne.2 (by omega)
  clear h
  go_enter Try.func40, Try.ntmps40
  go_wp2
  go_ret2
  exact ⟨rfl, rfl⟩
end Go.Proofs.Ythbbfjfekchdiaa
