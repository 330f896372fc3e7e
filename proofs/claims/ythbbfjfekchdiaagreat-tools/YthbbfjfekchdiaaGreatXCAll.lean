import Derived.Test.YthbbfjfekchdiaaGreatXLeafWalks
namespace Go.Proofs.YthbbfjfekchdiaaGreat
open Go.RowKit
structure Box (w : World) (b : Nat) (c : Cfg) : Prop where
  c0 : w.cell? ⟨b, 0, none⟩ = some (i64 c.s0)
  c1 : w.cell? ⟨b, 1, none⟩ = some (i64 c.k0)
  c2 : w.cell? ⟨b, 2, none⟩ = some (i64 c.s1)
  c3 : w.cell? ⟨b, 3, none⟩ = some (i64 c.k1)
  c4 : w.cell? ⟨b, 4, none⟩ = some (i64 c.s2)
  c5 : w.cell? ⟨b, 5, none⟩ = some (i64 c.k2)
  c6 : w.cell? ⟨b, 6, none⟩ = some (i64 c.s3)
  c7 : w.cell? ⟨b, 7, none⟩ = some (i64 c.k3)
  c8 : w.cell? ⟨b, 8, none⟩ = some (i64 c.m)
  c9 : w.cell? ⟨b, 9, none⟩ = some (i64 c.f)
theorem Box.later {w w' : World} {b : Nat} {c : Cfg} (h : Box w b c) (hb : Below w.heap.size w w') : Box w' b c :=
  ⟨cell_later hb h.c0, cell_later hb h.c1, cell_later hb h.c2, cell_later hb h.c3, cell_later hb h.c4, cell_later hb h.c5, cell_later hb h.c6, cell_later hb h.c7, cell_later hb h.c8, cell_later hb h.c9⟩
theorem upto_succ {P : Nat → Prop} {m k : Nat} (h : ∀ i, m ≤ i → i < m + k → P i) (x : P (m + k)) : ∀ i, m ≤ i → i < m + (k + 1) → P i := by
  intro i h1 h2
  by_cases e : i = m + k
  · subst e; exact x
  · exact h i h1 (by omega)
theorem upto_succ0 {P : Nat → Prop} {k : Nat} (h : ∀ i, i < k → P i) (x : P k) : ∀ i, i < k + 1 → P i := by
  intro i h2
  by_cases e : i = k
  · subst e; exact x
  · exact h i (by omega)
theorem ret_bool' {a b : Bool} (h : a = b) : Ending.returned (.bool a) = .returned (.bool b) := by rw [h]
set_option maxHeartbeats 1000000 in
theorem allzero_1 (c : Cfg) (b : Nat) (w : World) (hbox : Box w b c) :
    Calls Tryz.prog 74 #[.slice (some ⟨b, 2, none⟩) 3 3] w fun e w' => e = .returned (.bool (zeroB c 1)) ∧ Below w.heap.size w w' := by
  go_enter Tryz.func74, Tryz.ntmps74
  go_wp2
  go_loopw [7] (fun i wr => ∃ k : Nat, k ≤ 3 ∧ i = i64 k ∧ (∀ i, 1 ≤ i → i < 1 + k → c.Zero i) ∧ Below w.heap.size w wr) (fun i _ => 3 - (intOf i).toNat)
  case atStart => exact ⟨0, by omega, rfl, fun i _ _ => absurd (show i < 1 by omega) (by omega), Below.refl _ _⟩
  case round =>
    obtain ⟨k, hk, rfl, hz, hb⟩ := hrel
    have HZ := hid hz
    have HB := hid hb
    have hs := hb.size
    obtain ⟨c0, c1, c2, c3, c4, c5, c6, c7, _, _⟩ := hbox.later hb
    clear hz hb hbox
    have h5 : k = 0 ∨ k = 1 ∨ k = 2 ∨ k = 3 := by omega
    rcases h5 with rfl | rfl | rfl | rfl
    · go_wp2
      · go_roundw
        case rel => first | exact ⟨1, by omega, by first | rfl | go_num, upto_succ (m := 1) (k := 0) HZ.out ⟨by assumption, by assumption⟩, HB.out.alloc (by assumption) _⟩ | ((repeat apply Exists.intro); exact ⟨⟨1, by omega, by first | rfl | go_num, upto_succ (m := 1) (k := 0) HZ.out ⟨by assumption, by assumption⟩, HB.out.alloc (by assumption) _⟩, rfl⟩)
        case measure => simp [intOf]
      · go_ret
        exact ⟨ret_bool' (zero_no (i := 1) (by omega) (by omega) (fun h => absurd h.2 (by assumption))).symm, HB.out.alloc (by assumption) _⟩
      · go_ret
        exact ⟨ret_bool' (zero_no (i := 1) (by omega) (by omega) (fun h => absurd h.1 (by assumption))).symm, HB.out.alloc (by assumption) _⟩
    · go_wp2
      · go_roundw
        case rel => first | exact ⟨2, by omega, by first | rfl | go_num, upto_succ (m := 1) (k := 1) HZ.out ⟨by assumption, by assumption⟩, HB.out.alloc (by assumption) _⟩ | ((repeat apply Exists.intro); exact ⟨⟨2, by omega, by first | rfl | go_num, upto_succ (m := 1) (k := 1) HZ.out ⟨by assumption, by assumption⟩, HB.out.alloc (by assumption) _⟩, rfl⟩)
        case measure => simp [intOf]
      · go_ret
        exact ⟨ret_bool' (zero_no (i := 2) (by omega) (by omega) (fun h => absurd h.2 (by assumption))).symm, HB.out.alloc (by assumption) _⟩
      · go_ret
        exact ⟨ret_bool' (zero_no (i := 2) (by omega) (by omega) (fun h => absurd h.1 (by assumption))).symm, HB.out.alloc (by assumption) _⟩
    · go_wp2
      · go_roundw
        case rel => first | exact ⟨3, by omega, by first | rfl | go_num, upto_succ (m := 1) (k := 2) HZ.out ⟨by assumption, by assumption⟩, HB.out.alloc (by assumption) _⟩ | ((repeat apply Exists.intro); exact ⟨⟨3, by omega, by first | rfl | go_num, upto_succ (m := 1) (k := 2) HZ.out ⟨by assumption, by assumption⟩, HB.out.alloc (by assumption) _⟩, rfl⟩)
        case measure => simp [intOf]
      · go_ret
        exact ⟨ret_bool' (zero_no (i := 3) (by omega) (by omega) (fun h => absurd h.2 (by assumption))).symm, HB.out.alloc (by assumption) _⟩
      · go_ret
        exact ⟨ret_bool' (zero_no (i := 3) (by omega) (by omega) (fun h => absurd h.1 (by assumption))).symm, HB.out.alloc (by assumption) _⟩
    · go_wp2
      go_ret
      exact ⟨ret_bool' (zero_yes (k := 3) HZ.out (by omega)).symm, HB.out⟩
set_option maxHeartbeats 1000000 in
theorem allzero_2 (c : Cfg) (b : Nat) (w : World) (hbox : Box w b c) :
    Calls Tryz.prog 74 #[.slice (some ⟨b, 4, none⟩) 2 2] w fun e w' => e = .returned (.bool (zeroB c 2)) ∧ Below w.heap.size w w' := by
  go_enter Tryz.func74, Tryz.ntmps74
  go_wp2
  go_loopw [7] (fun i wr => ∃ k : Nat, k ≤ 2 ∧ i = i64 k ∧ (∀ i, 2 ≤ i → i < 2 + k → c.Zero i) ∧ Below w.heap.size w wr) (fun i _ => 2 - (intOf i).toNat)
  case atStart => exact ⟨0, by omega, rfl, fun i _ _ => absurd (show i < 2 by omega) (by omega), Below.refl _ _⟩
  case round =>
    obtain ⟨k, hk, rfl, hz, hb⟩ := hrel
    have HZ := hid hz
    have HB := hid hb
    have hs := hb.size
    obtain ⟨c0, c1, c2, c3, c4, c5, c6, c7, _, _⟩ := hbox.later hb
    clear hz hb hbox
    have h5 : k = 0 ∨ k = 1 ∨ k = 2 := by omega
    rcases h5 with rfl | rfl | rfl
    · go_wp2
      · go_roundw
        case rel => first | exact ⟨1, by omega, by first | rfl | go_num, upto_succ (m := 2) (k := 0) HZ.out ⟨by assumption, by assumption⟩, HB.out.alloc (by assumption) _⟩ | ((repeat apply Exists.intro); exact ⟨⟨1, by omega, by first | rfl | go_num, upto_succ (m := 2) (k := 0) HZ.out ⟨by assumption, by assumption⟩, HB.out.alloc (by assumption) _⟩, rfl⟩)
        case measure => simp [intOf]
      · go_ret
        exact ⟨ret_bool' (zero_no (i := 2) (by omega) (by omega) (fun h => absurd h.2 (by assumption))).symm, HB.out.alloc (by assumption) _⟩
      · go_ret
        exact ⟨ret_bool' (zero_no (i := 2) (by omega) (by omega) (fun h => absurd h.1 (by assumption))).symm, HB.out.alloc (by assumption) _⟩
    · go_wp2
      · go_roundw
        case rel => first | exact ⟨2, by omega, by first | rfl | go_num, upto_succ (m := 2) (k := 1) HZ.out ⟨by assumption, by assumption⟩, HB.out.alloc (by assumption) _⟩ | ((repeat apply Exists.intro); exact ⟨⟨2, by omega, by first | rfl | go_num, upto_succ (m := 2) (k := 1) HZ.out ⟨by assumption, by assumption⟩, HB.out.alloc (by assumption) _⟩, rfl⟩)
        case measure => simp [intOf]
      · go_ret
        exact ⟨ret_bool' (zero_no (i := 3) (by omega) (by omega) (fun h => absurd h.2 (by assumption))).symm, HB.out.alloc (by assumption) _⟩
      · go_ret
        exact ⟨ret_bool' (zero_no (i := 3) (by omega) (by omega) (fun h => absurd h.1 (by assumption))).symm, HB.out.alloc (by assumption) _⟩
    · go_wp2
      go_ret
      exact ⟨ret_bool' (zero_yes (k := 2) HZ.out (by omega)).symm, HB.out⟩
set_option maxHeartbeats 1000000 in
theorem allzero_3 (c : Cfg) (b : Nat) (w : World) (hbox : Box w b c) :
    Calls Tryz.prog 74 #[.slice (some ⟨b, 6, none⟩) 1 1] w fun e w' => e = .returned (.bool (zeroB c 3)) ∧ Below w.heap.size w w' := by
  go_enter Tryz.func74, Tryz.ntmps74
  go_wp2
  go_loopw [7] (fun i wr => ∃ k : Nat, k ≤ 1 ∧ i = i64 k ∧ (∀ i, 3 ≤ i → i < 3 + k → c.Zero i) ∧ Below w.heap.size w wr) (fun i _ => 1 - (intOf i).toNat)
  case atStart => exact ⟨0, by omega, rfl, fun i _ _ => absurd (show i < 3 by omega) (by omega), Below.refl _ _⟩
  case round =>
    obtain ⟨k, hk, rfl, hz, hb⟩ := hrel
    have HZ := hid hz
    have HB := hid hb
    have hs := hb.size
    obtain ⟨c0, c1, c2, c3, c4, c5, c6, c7, _, _⟩ := hbox.later hb
    clear hz hb hbox
    have h5 : k = 0 ∨ k = 1 := by omega
    rcases h5 with rfl | rfl
    · go_wp2
      · go_roundw
        case rel => first | exact ⟨1, by omega, by first | rfl | go_num, upto_succ (m := 3) (k := 0) HZ.out ⟨by assumption, by assumption⟩, HB.out.alloc (by assumption) _⟩ | ((repeat apply Exists.intro); exact ⟨⟨1, by omega, by first | rfl | go_num, upto_succ (m := 3) (k := 0) HZ.out ⟨by assumption, by assumption⟩, HB.out.alloc (by assumption) _⟩, rfl⟩)
        case measure => simp [intOf]
      · go_ret
        exact ⟨ret_bool' (zero_no (i := 3) (by omega) (by omega) (fun h => absurd h.2 (by assumption))).symm, HB.out.alloc (by assumption) _⟩
      · go_ret
        exact ⟨ret_bool' (zero_no (i := 3) (by omega) (by omega) (fun h => absurd h.1 (by assumption))).symm, HB.out.alloc (by assumption) _⟩
    · go_wp2
      go_ret
      exact ⟨ret_bool' (zero_yes (k := 1) HZ.out (by omega)).symm, HB.out⟩
set_option maxHeartbeats 1000000 in
theorem allzero_4 (c : Cfg) (a : Option Addr) (w : World) :
    Calls Tryz.prog 74 #[.slice a 0 0] w fun e w' => e = .returned (.bool (zeroB c 4)) ∧ Below w.heap.size w w' := by
  go_enter Tryz.func74, Tryz.ntmps74
  go_wp2
  refine wp_loop_rounds 1 ?_
  rw [rounds_succ]
  go_wp2
  go_ret
  exact ⟨ret_bool' (zero_yes (k := 0) (fun i h1 h2 => absurd h1 (by omega)) (by omega)).symm, Below.refl _ _⟩
set_option maxHeartbeats 1000000 in
theorem allbounded_any (c : Cfg) (n b : Nat) (w : World) (hn : n ≤ 4) (hbox : Box w b c) :
    Calls Tryz.prog 75 #[.slice (some ⟨b, 0, none⟩) n 4] w fun e w' => e = .returned (.bool (bdB c n)) ∧ Below w.heap.size w w' := by
  go_enter Tryz.func75, Tryz.ntmps75
  go_wp2
  go_loopw [7] (fun i wr => ∃ k : Nat, k ≤ n ∧ i = i64 k ∧ (∀ i, i < k → c.Bd i) ∧ Below w.heap.size w wr) (fun i _ => n - (intOf i).toNat)
  case atStart => exact ⟨0, by omega, rfl, fun i h => absurd h (by omega), Below.refl _ _⟩
  case round =>
    obtain ⟨k, hk, rfl, hz, hb⟩ := hrel
    have HZ := hid hz
    have HB := hid hb
    have hs := hb.size
    obtain ⟨c0, c1, c2, c3, c4, c5, c6, c7, _, _⟩ := hbox.later hb
    clear hz hb hbox
    by_cases hlt : k < n
    case neg =>
      go_wp2
      go_ret
      exact ⟨ret_bool' (bd_yes HZ.out (by omega)).symm, HB.out⟩
    have h5 : k = 0 ∨ k = 1 ∨ k = 2 ∨ k = 3 := by omega
    rcases h5 with rfl | rfl | rfl | rfl
    · by_cases hB : c.Bd 0
      · have HBd := hid hB
        obtain ⟨b1, b2, b3, b4⟩ := (show 1 ≤ c.s0 ∧ c.s0 ≤ 86400 ∧ 1 ≤ c.k0 ∧ c.k0 ≤ 60 from hB)
        clear hB
        go_wp2_with (go_at_call 73; refine (within_any _ _ _ _).mono ?_; rintro e w' ⟨rfl, rfl⟩)
        go_roundw
        case rel => first | exact ⟨1, by omega, by first | rfl | go_num, upto_succ0 (k := 0) HZ.out HBd.out, HB.out.alloc hs _⟩ | ((repeat apply Exists.intro); exact ⟨⟨1, by omega, by first | rfl | go_num, upto_succ0 (k := 0) HZ.out HBd.out, HB.out.alloc hs _⟩, rfl⟩)
        case measure => simp [intOf]; omega
      · have HE := hid (bd_no (n := n) (i := 0) hlt hB)
        have hb' : ¬ (1 ≤ c.s0 ∧ c.s0 ≤ 86400 ∧ 1 ≤ c.k0 ∧ c.k0 ≤ 60) := hB
        clear hB
        by_cases b1 : 1 ≤ c.s0 ∧ c.s0 ≤ 86400
        · have b3 : Hid (¬ (1 ≤ c.k0 ∧ c.k0 ≤ 60)) := fun h => hb' ⟨b1.1, b1.2, h.1, h.2⟩
          obtain ⟨b1, b2⟩ := b1
          clear hb'
          have b4 : (decide (1 ≤ c.k0) && decide (c.k0 ≤ 60)) = false := by
            have := b3.out
            rw [Bool.and_eq_false_iff]; simp only [decide_eq_false_iff_not]; omega
          go_wp2_with (go_at_call 73; refine (within_any _ _ _ _).mono ?_; rintro e w' ⟨rfl, rfl⟩)
          all_goals first | (go_ret; exact ⟨ret_bool' HE.out.symm, HB.out.alloc hs _⟩) | (exfalso; apply b3.out; simp_all)
        · clear hb'
          have b4 : (decide (1 ≤ c.s0) && decide (c.s0 ≤ 86400)) = false := by
            rw [Bool.and_eq_false_iff]; simp only [decide_eq_false_iff_not]; omega
          go_wp2_with (go_at_call 73; refine (within_any _ _ _ _).mono ?_; rintro e w' ⟨rfl, rfl⟩)
          all_goals first | (go_ret; exact ⟨ret_bool' HE.out.symm, HB.out.alloc hs _⟩) | (exfalso; apply b1; simp_all)
    · by_cases hB : c.Bd 1
      · have HBd := hid hB
        obtain ⟨b1, b2, b3, b4⟩ := (show 1 ≤ c.s1 ∧ c.s1 ≤ 86400 ∧ 1 ≤ c.k1 ∧ c.k1 ≤ 60 from hB)
        clear hB
        go_wp2_with (go_at_call 73; refine (within_any _ _ _ _).mono ?_; rintro e w' ⟨rfl, rfl⟩)
        go_roundw
        case rel => first | exact ⟨2, by omega, by first | rfl | go_num, upto_succ0 (k := 1) HZ.out HBd.out, HB.out.alloc hs _⟩ | ((repeat apply Exists.intro); exact ⟨⟨2, by omega, by first | rfl | go_num, upto_succ0 (k := 1) HZ.out HBd.out, HB.out.alloc hs _⟩, rfl⟩)
        case measure => simp [intOf]; omega
      · have HE := hid (bd_no (n := n) (i := 1) hlt hB)
        have hb' : ¬ (1 ≤ c.s1 ∧ c.s1 ≤ 86400 ∧ 1 ≤ c.k1 ∧ c.k1 ≤ 60) := hB
        clear hB
        by_cases b1 : 1 ≤ c.s1 ∧ c.s1 ≤ 86400
        · have b3 : Hid (¬ (1 ≤ c.k1 ∧ c.k1 ≤ 60)) := fun h => hb' ⟨b1.1, b1.2, h.1, h.2⟩
          obtain ⟨b1, b2⟩ := b1
          clear hb'
          have b4 : (decide (1 ≤ c.k1) && decide (c.k1 ≤ 60)) = false := by
            have := b3.out
            rw [Bool.and_eq_false_iff]; simp only [decide_eq_false_iff_not]; omega
          go_wp2_with (go_at_call 73; refine (within_any _ _ _ _).mono ?_; rintro e w' ⟨rfl, rfl⟩)
          all_goals first | (go_ret; exact ⟨ret_bool' HE.out.symm, HB.out.alloc hs _⟩) | (exfalso; apply b3.out; simp_all)
        · clear hb'
          have b4 : (decide (1 ≤ c.s1) && decide (c.s1 ≤ 86400)) = false := by
            rw [Bool.and_eq_false_iff]; simp only [decide_eq_false_iff_not]; omega
          go_wp2_with (go_at_call 73; refine (within_any _ _ _ _).mono ?_; rintro e w' ⟨rfl, rfl⟩)
          all_goals first | (go_ret; exact ⟨ret_bool' HE.out.symm, HB.out.alloc hs _⟩) | (exfalso; apply b1; simp_all)
    · by_cases hB : c.Bd 2
      · have HBd := hid hB
        obtain ⟨b1, b2, b3, b4⟩ := (show 1 ≤ c.s2 ∧ c.s2 ≤ 86400 ∧ 1 ≤ c.k2 ∧ c.k2 ≤ 60 from hB)
        clear hB
        go_wp2_with (go_at_call 73; refine (within_any _ _ _ _).mono ?_; rintro e w' ⟨rfl, rfl⟩)
        go_roundw
        case rel => first | exact ⟨3, by omega, by first | rfl | go_num, upto_succ0 (k := 2) HZ.out HBd.out, HB.out.alloc hs _⟩ | ((repeat apply Exists.intro); exact ⟨⟨3, by omega, by first | rfl | go_num, upto_succ0 (k := 2) HZ.out HBd.out, HB.out.alloc hs _⟩, rfl⟩)
        case measure => simp [intOf]; omega
      · have HE := hid (bd_no (n := n) (i := 2) hlt hB)
        have hb' : ¬ (1 ≤ c.s2 ∧ c.s2 ≤ 86400 ∧ 1 ≤ c.k2 ∧ c.k2 ≤ 60) := hB
        clear hB
        by_cases b1 : 1 ≤ c.s2 ∧ c.s2 ≤ 86400
        · have b3 : Hid (¬ (1 ≤ c.k2 ∧ c.k2 ≤ 60)) := fun h => hb' ⟨b1.1, b1.2, h.1, h.2⟩
          obtain ⟨b1, b2⟩ := b1
          clear hb'
          have b4 : (decide (1 ≤ c.k2) && decide (c.k2 ≤ 60)) = false := by
            have := b3.out
            rw [Bool.and_eq_false_iff]; simp only [decide_eq_false_iff_not]; omega
          go_wp2_with (go_at_call 73; refine (within_any _ _ _ _).mono ?_; rintro e w' ⟨rfl, rfl⟩)
          all_goals first | (go_ret; exact ⟨ret_bool' HE.out.symm, HB.out.alloc hs _⟩) | (exfalso; apply b3.out; simp_all)
        · clear hb'
          have b4 : (decide (1 ≤ c.s2) && decide (c.s2 ≤ 86400)) = false := by
            rw [Bool.and_eq_false_iff]; simp only [decide_eq_false_iff_not]; omega
          go_wp2_with (go_at_call 73; refine (within_any _ _ _ _).mono ?_; rintro e w' ⟨rfl, rfl⟩)
          all_goals first | (go_ret; exact ⟨ret_bool' HE.out.symm, HB.out.alloc hs _⟩) | (exfalso; apply b1; simp_all)
    · by_cases hB : c.Bd 3
      · have HBd := hid hB
        obtain ⟨b1, b2, b3, b4⟩ := (show 1 ≤ c.s3 ∧ c.s3 ≤ 86400 ∧ 1 ≤ c.k3 ∧ c.k3 ≤ 60 from hB)
        clear hB
        go_wp2_with (go_at_call 73; refine (within_any _ _ _ _).mono ?_; rintro e w' ⟨rfl, rfl⟩)
        go_roundw
        case rel => first | exact ⟨4, by omega, by first | rfl | go_num, upto_succ0 (k := 3) HZ.out HBd.out, HB.out.alloc hs _⟩ | ((repeat apply Exists.intro); exact ⟨⟨4, by omega, by first | rfl | go_num, upto_succ0 (k := 3) HZ.out HBd.out, HB.out.alloc hs _⟩, rfl⟩)
        case measure => simp [intOf]; omega
      · have HE := hid (bd_no (n := n) (i := 3) hlt hB)
        have hb' : ¬ (1 ≤ c.s3 ∧ c.s3 ≤ 86400 ∧ 1 ≤ c.k3 ∧ c.k3 ≤ 60) := hB
        clear hB
        by_cases b1 : 1 ≤ c.s3 ∧ c.s3 ≤ 86400
        · have b3 : Hid (¬ (1 ≤ c.k3 ∧ c.k3 ≤ 60)) := fun h => hb' ⟨b1.1, b1.2, h.1, h.2⟩
          obtain ⟨b1, b2⟩ := b1
          clear hb'
          have b4 : (decide (1 ≤ c.k3) && decide (c.k3 ≤ 60)) = false := by
            have := b3.out
            rw [Bool.and_eq_false_iff]; simp only [decide_eq_false_iff_not]; omega
          go_wp2_with (go_at_call 73; refine (within_any _ _ _ _).mono ?_; rintro e w' ⟨rfl, rfl⟩)
          all_goals first | (go_ret; exact ⟨ret_bool' HE.out.symm, HB.out.alloc hs _⟩) | (exfalso; apply b3.out; simp_all)
        · clear hb'
          have b4 : (decide (1 ≤ c.s3) && decide (c.s3 ≤ 86400)) = false := by
            rw [Bool.and_eq_false_iff]; simp only [decide_eq_false_iff_not]; omega
          go_wp2_with (go_at_call 73; refine (within_any _ _ _ _).mono ?_; rintro e w' ⟨rfl, rfl⟩)
          all_goals first | (go_ret; exact ⟨ret_bool' HE.out.symm, HB.out.alloc hs _⟩) | (exfalso; apply b1; simp_all)
end Go.Proofs.YthbbfjfekchdiaaGreat
