import Derived.Test.YthbbfjfekchdiaaGreatXLeafWalks
import Derived.Test.YthbbfjfekchdiaaGreatXCFits
import Derived.Test.YthbbfjfekchdiaaGreatXRFetch
namespace Go.Proofs.YthbbfjfekchdiaaGreat
open Go.RowKit
set_option maxHeartbeats 1000000 in
theorem used_any (c : Cfg) (w : World) :
    Calls Tryz.prog 43 #[.agg c.cells] w fun e w' => e = .returned (.slice (some ⟨w.heap.size, 0, none⟩) c.many 4) ∧ w' = w.alloc (.cells #[i64 c.s0, i64 c.k0, i64 c.s1, i64 c.k1, i64 c.s2, i64 c.k2, i64 c.s3, i64 c.k3, i64 c.m, i64 c.f] 40) := by
  show Calls Tryz.prog 43 #[.agg #[i64 c.s0, i64 c.k0, i64 c.s1, i64 c.k1, i64 c.s2, i64 c.k2, i64 c.s3, i64 c.k3, i64 c.m, i64 c.f]] w _
  go_enter Tryz.func43, Tryz.ntmps43
  go_wp2
  go_loop [3] (fun n => ∃ k : Nat, k ≤ c.many ∧ n = i64 k) (fun n => 4 - (intOf n).toNat)
  case atStart => exact ⟨0, by omega, rfl⟩
  case round =>
    obtain ⟨k, hk, rfl⟩ := hrel
    have hm := c.many_le
    have h5 : k = 0 ∨ k = 1 ∨ k = 2 ∨ k = 3 ∨ k = 4 := by omega
    rcases h5 with rfl | rfl | rfl | rfl | rfl
    · have HS := hid (c.many_step 0 (by omega) hk)
      go_wp2
      · go_ret; exact ⟨by rw [HS.out.1 ⟨‹_›, ‹_›⟩]; rfl, rfl⟩
      · go_round
        case rel => exact ⟨1, HS.out.2 (fun h => absurd h.2 ‹_›), rfl⟩
        case measure => simp [intOf]
      · go_round
        case rel => exact ⟨1, HS.out.2 (fun h => absurd h.1 ‹_›), rfl⟩
        case measure => simp [intOf]
    · have HS := hid (c.many_step 1 (by omega) hk)
      go_wp2
      · go_ret; exact ⟨by rw [HS.out.1 ⟨‹_›, ‹_›⟩]; rfl, rfl⟩
      · go_round
        case rel => exact ⟨2, HS.out.2 (fun h => absurd h.2 ‹_›), rfl⟩
        case measure => simp [intOf]
      · go_round
        case rel => exact ⟨2, HS.out.2 (fun h => absurd h.1 ‹_›), rfl⟩
        case measure => simp [intOf]
    · have HS := hid (c.many_step 2 (by omega) hk)
      go_wp2
      · go_ret; exact ⟨by rw [HS.out.1 ⟨‹_›, ‹_›⟩]; rfl, rfl⟩
      · go_round
        case rel => exact ⟨3, HS.out.2 (fun h => absurd h.2 ‹_›), rfl⟩
        case measure => simp [intOf]
      · go_round
        case rel => exact ⟨3, HS.out.2 (fun h => absurd h.1 ‹_›), rfl⟩
        case measure => simp [intOf]
    · have HS := hid (c.many_step 3 (by omega) hk)
      go_wp2
      · go_ret; exact ⟨by rw [HS.out.1 ⟨‹_›, ‹_›⟩]; rfl, rfl⟩
      · go_round
        case rel => exact ⟨4, HS.out.2 (fun h => absurd h.2 ‹_›), rfl⟩
        case measure => simp [intOf]
      · go_round
        case rel => exact ⟨4, HS.out.2 (fun h => absurd h.1 ‹_›), rfl⟩
        case measure => simp [intOf]
    · have e : Hid (c.many = 4) := by show c.many = 4; omega
      go_wp2
      go_ret; exact ⟨by rw [e.out]; rfl, rfl⟩
def methT (m : Int) : TypeId :=
  if m = 1 then 139 else if m = 2 then 140 else if m = 3 then 141
  else if m = 4 then 142 else if m = 5 then 143 else 144
set_option maxHeartbeats 1000000 in
theorem bynumber_yes (m : Int) (w : World) (h1 : 1 ≤ m) (h2 : m ≤ 6) :
    Calls Tryz.prog 42 #[i64 m] w fun e w' => e = .returned (.tuple #[(.iface (methT m) (.agg #[])), .bool true]) ∧ w' = w := by
  have h : m = 1 ∨ m = 2 ∨ m = 3 ∨ m = 4 ∨ m = 5 ∨ m = 6 := by omega
  rcases h with rfl | rfl | rfl | rfl | rfl | rfl
  all_goals
    go_enter Tryz.func42, Tryz.ntmps42
    go_wp2
    go_ret2
    exact ⟨rfl, rfl⟩
set_option maxHeartbeats 1000000 in
theorem bynumber_no (m : Int) (w : World) (h : ¬ (1 ≤ m ∧ m ≤ 6)) :
    Calls Tryz.prog 42 #[i64 m] w fun e w' => e = .returned (.tuple #[.nilIface, .bool false]) ∧ w' = w := by
  have a1 : (m == 1) = false := beq_eq_false_iff_ne.2 (by omega)
  have a2 : (m == 2) = false := beq_eq_false_iff_ne.2 (by omega)
  have a3 : (m == 3) = false := beq_eq_false_iff_ne.2 (by omega)
  have a4 : (m == 4) = false := beq_eq_false_iff_ne.2 (by omega)
  have a5 : (m == 5) = false := beq_eq_false_iff_ne.2 (by omega)
  have a6 : (m == 6) = false := beq_eq_false_iff_ne.2 (by omega)
  clear h
  go_enter Tryz.func42, Tryz.ntmps42
  go_wp2
  go_ret2
  exact ⟨rfl, rfl⟩
end Go.Proofs.YthbbfjfekchdiaaGreat
namespace Go.Proofs.YthbbfjfekchdiaaGreat
open Go.RowKit
theorem box_new (w : World) (c : Cfg) : Box (w.alloc (.cells #[i64 c.s0, i64 c.k0, i64 c.s1, i64 c.k1, i64 c.s2, i64 c.k2, i64 c.s3, i64 c.k3, i64 c.m, i64 c.f] 40)) w.heap.size c := by
  constructor <;> simp
theorem box_old {w : World} {b : Nat} {c : Cfg} (h : Box w b c) (o : Obj) : Box (w.alloc o) b c :=
  h.later ((Below.refl _ _).alloc (Nat.le_refl _) _)
def Cfg.okB (c : Cfg) : Bool := decide c.Ok
theorem Cfg.okB_no {c : Cfg} (h : ¬ ((1 ≤ c.m ∧ c.m ≤ 6) ∧ (0 ≤ c.f ∧ c.f ≤ 100) ∧ 1 ≤ c.many ∧ zeroB c c.many = true ∧ bdB c c.many = true ∧ ftB c c.many = true)) : c.okB = false := c.ok_no h
theorem Cfg.okB_yes {c : Cfg} (h : (1 ≤ c.m ∧ c.m ≤ 6) ∧ (0 ≤ c.f ∧ c.f ≤ 100) ∧ 1 ≤ c.many ∧ zeroB c c.many = true ∧ bdB c c.many = true ∧ ftB c c.many = true) : c.okB = true := c.ok_yes h
set_option maxHeartbeats 1000000 in
theorem good_short (c : Cfg) (w : World) (h : ¬ ((1 ≤ c.m ∧ c.m ≤ 6) ∧ (0 ≤ c.f ∧ c.f ≤ 100) ∧ 1 ≤ c.many)) :
    Calls Tryz.prog 41 #[.agg c.cells] w fun e w' => e = .returned (.bool c.okB) ∧ Below w.heap.size w w' := by
  show Calls Tryz.prog 41 #[.agg #[i64 c.s0, i64 c.k0, i64 c.s1, i64 c.k1, i64 c.s2, i64 c.k2, i64 c.s3, i64 c.k3, i64 c.m, i64 c.f]] w _
  have HE := hid (c.okB_no fun x => h ⟨x.1, x.2.1, x.2.2.1⟩)
  have h4 := c.many_le
  have HW := hid (fun (o1 o2 : Obj) => ((Below.refl w.heap.size w).alloc (Nat.le_refl _) o1).alloc (by simp) o2)
  by_cases a : 1 ≤ c.m ∧ c.m ≤ 6
  case neg =>
    clear h
    go_enter Tryz.func41, Tryz.ntmps41
    go_wp2_with (first | (go_at_call 42; refine (bynumber_no _ _ a).mono ?_; rintro e w' ⟨rfl, rfl⟩) | (go_at_call 43; refine (used_any c _).mono ?_; rintro e w' ⟨rfl, rfl⟩))
    go_ret
    exact ⟨ret_bool' HE.out.symm, HW.out _ _⟩
  by_cases b : 0 ≤ c.f ∧ c.f ≤ 100
  case neg =>
    have b' := and_false' b
    obtain ⟨a1, a2⟩ := a
    clear h b
    go_enter Tryz.func41, Tryz.ntmps41
    go_wp2_with (first | (go_at_call 42; refine (bynumber_yes _ _ a1 a2).mono ?_; rintro e w' ⟨rfl, rfl⟩) | (go_at_call 43; refine (used_any c _).mono ?_; rintro e w' ⟨rfl, rfl⟩) | (go_at_call 73; refine (within_any _ _ _ _).mono ?_; rintro e w' ⟨rfl, rfl⟩))
    all_goals first | (go_ret; exact ⟨ret_bool' HE.out.symm, HW.out _ _⟩) | (exfalso; simp_all; done)
  have hm : c.many = 0 := Nat.eq_zero_of_not_pos fun x => h ⟨a, b, x⟩
  obtain ⟨a1, a2⟩ := a
  obtain ⟨b1, b2⟩ := b
  clear h h4
  go_enter Tryz.func41, Tryz.ntmps41
  go_wp2_with (first | (go_at_call 42; refine (bynumber_yes _ _ a1 a2).mono ?_; rintro e w' ⟨rfl, rfl⟩) | (go_at_call 43; refine (used_any c _).mono ?_; rintro e w' ⟨rfl, rfl⟩) | (go_at_call 73; refine (within_any _ _ _ _).mono ?_; rintro e w' ⟨rfl, rfl⟩))
  go_ret
  exact ⟨ret_bool' HE.out.symm, HW.out _ _⟩
end Go.Proofs.YthbbfjfekchdiaaGreat
