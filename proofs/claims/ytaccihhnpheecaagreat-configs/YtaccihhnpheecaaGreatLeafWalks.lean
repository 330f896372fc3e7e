import Derived.Test.YtaccihhnpheecaaGreatRows
import Derived.Test.YtaccihhnpheecaaGreatPlain
import Derived.WalkKit
import Derived.WalkSpells
import Derived.WalkLawsBesides
namespace Go.Proofs.YtaccihhnpheecaaGreat
open Go.RowKit

theorem hid {p : Prop} (h : p) : Hid p := h
theorem ret_int {k : IntKind} {a b : Int} (h : a = b) : Ending.returned (.int k a) = .returned (.int k b) := by rw [h]
abbrev i64 (n : Int) : Value := .int .i64 n

set_option maxHeartbeats 400000 in
theorem in_any (n lo hi : Int) (w : World) :
    Calls Tryz.prog 35 #[i64 n, i64 lo, i64 hi] w fun e w' => e = .returned (.bool (decide (lo ≤ n) && decide (n ≤ hi))) ∧ w' = w := by
  go_enter Tryz.func35, Tryz.ntmps35
  go_wp2
  all_goals go_ret
  all_goals exact ⟨by simp [*]; try omega, rfl⟩

set_option maxHeartbeats 400000 in
theorem within_any (n lo hi : Int) (w : World) :
    Calls Tryz.prog 61 #[i64 n, i64 lo, i64 hi] w fun e w' => e = .returned (.bool (decide (lo ≤ n) && decide (n ≤ hi))) ∧ w' = w := by
  go_enter Tryz.func61, Tryz.ntmps61
  go_wp2
  all_goals go_ret
  all_goals exact ⟨by simp [*]; try omega, rfl⟩

set_option maxHeartbeats 400000 in
theorem reach_any (s k : Int) (w : World) (h0 : 0 ≤ s * k) (h1 : s * k ≤ 1000000000) :
    Calls Tryz.prog 37 #[.agg #[i64 s, i64 k]] w fun e w' => e = .returned (i64 (s * k)) ∧ Below w.heap.size w w' := by
  go_enter Tryz.func37, Tryz.ntmps37
  go_wp2
  go_ret
  exact ⟨rfl, (Below.refl _ _).alloc (Nat.le_refl _) _⟩

set_option maxHeartbeats 400000 in
theorem creach_any (s k : Int) (w : World) (h0 : 0 ≤ s * k) (h1 : s * k ≤ 1000000000) :
    Calls Tryz.prog 86 #[.agg #[i64 s, i64 k]] w fun e w' => e = .returned (i64 (s * k)) ∧ Below w.heap.size w w' := by
  go_enter Tryz.func86, Tryz.ntmps86
  go_wp2
  go_ret
  exact ⟨rfl, (Below.refl _ _).alloc (Nat.le_refl _) _⟩


theorem reach_val (s k r : Int) (w : World) (h : Hid (r = s * k)) (h0 : 0 ≤ r) (h1 : r ≤ 1000000000) :
    Calls Tryz.prog 37 #[.agg #[i64 s, i64 k]] w fun e w' => e = .returned (i64 r) ∧ Below w.heap.size w w' := by
  have e := h.out; subst e; exact reach_any s k w h0 h1
theorem creach_val (s k r : Int) (w : World) (h : Hid (r = s * k)) (h0 : 0 ≤ r) (h1 : r ≤ 1000000000) :
    Calls Tryz.prog 86 #[.agg #[i64 s, i64 k]] w fun e w' => e = .returned (i64 r) ∧ Below w.heap.size w w' := by
  have e := h.out; subst e; exact creach_any s k w h0 h1

/-- a configuration's ten cells -/
abbrev Cfg.cells (c : Cfg) : Array Value := #[i64 c.s0, i64 c.k0, i64 c.s1, i64 c.k1, i64 c.s2, i64 c.k2, i64 c.s3, i64 c.k3, i64 c.m, i64 c.f]

set_option maxHeartbeats 1000000 in
theorem many_any (c : Cfg) (w : World) :
    Calls Tryz.prog 36 #[.agg c.cells] w fun e w' => e = .returned (i64 c.many) ∧ Below w.heap.size w w' := by
  show Calls Tryz.prog 36 #[.agg #[i64 c.s0, i64 c.k0, i64 c.s1, i64 c.k1, i64 c.s2, i64 c.k2, i64 c.s3, i64 c.k3, i64 c.m, i64 c.f]] w _
  go_enter Tryz.func36, Tryz.ntmps36
  go_wp2
  go_loop [3] (fun n => ∃ k : Nat, k ≤ c.many ∧ n = i64 k) (fun n => 4 - (intOf n).toNat)
  case atStart => exact ⟨0, by omega, rfl⟩
  case round =>
    obtain ⟨k, hk, rfl⟩ := hrel
    have hm := c.many_le
    have h5 : k = 0 ∨ k = 1 ∨ k = 2 ∨ k = 3 ∨ k = 4 := by omega
    rcases h5 with rfl | rfl | rfl | rfl | rfl
    · have HS := hid (c.many_step 0 (by omega) hk)
      go_wp2
      · go_ret; exact ⟨by rw [HS.out.1 ⟨‹_›, ‹_›⟩]; rfl, (Below.refl _ _).alloc (Nat.le_refl _) _⟩
      · go_round
        case rel => exact ⟨1, HS.out.2 (fun h => absurd h.2 ‹_›), rfl⟩
        case measure => simp [intOf]
      · go_round
        case rel => exact ⟨1, HS.out.2 (fun h => absurd h.1 ‹_›), rfl⟩
        case measure => simp [intOf]
    · have HS := hid (c.many_step 1 (by omega) hk)
      go_wp2
      · go_ret; exact ⟨by rw [HS.out.1 ⟨‹_›, ‹_›⟩]; rfl, (Below.refl _ _).alloc (Nat.le_refl _) _⟩
      · go_round
        case rel => exact ⟨2, HS.out.2 (fun h => absurd h.2 ‹_›), rfl⟩
        case measure => simp [intOf]
      · go_round
        case rel => exact ⟨2, HS.out.2 (fun h => absurd h.1 ‹_›), rfl⟩
        case measure => simp [intOf]
    · have HS := hid (c.many_step 2 (by omega) hk)
      go_wp2
      · go_ret; exact ⟨by rw [HS.out.1 ⟨‹_›, ‹_›⟩]; rfl, (Below.refl _ _).alloc (Nat.le_refl _) _⟩
      · go_round
        case rel => exact ⟨3, HS.out.2 (fun h => absurd h.2 ‹_›), rfl⟩
        case measure => simp [intOf]
      · go_round
        case rel => exact ⟨3, HS.out.2 (fun h => absurd h.1 ‹_›), rfl⟩
        case measure => simp [intOf]
    · have HS := hid (c.many_step 3 (by omega) hk)
      go_wp2
      · go_ret; exact ⟨by rw [HS.out.1 ⟨‹_›, ‹_›⟩]; rfl, (Below.refl _ _).alloc (Nat.le_refl _) _⟩
      · go_round
        case rel => exact ⟨4, HS.out.2 (fun h => absurd h.2 ‹_›), rfl⟩
        case measure => simp [intOf]
      · go_round
        case rel => exact ⟨4, HS.out.2 (fun h => absurd h.1 ‹_›), rfl⟩
        case measure => simp [intOf]
    · have e : Hid (c.many = 4) := by show c.many = 4; omega
      go_wp2
      go_ret; exact ⟨by rw [e.out]; rfl, (Below.refl _ _).alloc (Nat.le_refl _) _⟩
end Go.Proofs.YtaccihhnpheecaaGreat
