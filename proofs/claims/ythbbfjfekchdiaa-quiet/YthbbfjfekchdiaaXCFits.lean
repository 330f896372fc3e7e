import Derived.Test.YthbbfjfekchdiaaXCAll
import Derived.Test.YthbbfjfekchdiaaXCFit
namespace Go.Proofs.Ythbbfjfekchdiaa
open Go.RowKit
attribute [local go_sem] Go.wp_at_zero Go.wp_at_succ

set_option maxHeartbeats 2000000 in
theorem allfit_any (c : Cfg) (n b : Nat) (w : World) (h1n : 1 ≤ n) (hn : n ≤ 4) (hbox : Box w b c) (hbd : Hid (∀ i, i < n → c.Bd i)) :
    Calls Try.prog 68 #[.slice (some ⟨b, 0, none⟩) n 4] w fun e w' => e = .returned (.bool (ftB c n)) ∧ Below w.heap.size w w' := by
  go_enter Try.func68, Try.ntmps68
  go_wp2
  go_loopw [3] (fun i wr => ∃ k : Nat, 1 ≤ k ∧ k ≤ n ∧ i = i64 k ∧ (∀ i, i + 1 < k → c.Ft i) ∧ Below w.heap.size w wr) (fun i _ => n - (intOf i).toNat)
  case atStart => exact ⟨1, by omega, by omega, rfl, fun i h => absurd h (by omega), Below.refl _ _⟩
  case round =>
    obtain ⟨k, hk1, hk, rfl, hz, hb0⟩ := hrel
    have HZ := hid hz
    have HB := hid hb0
    have hs := hb0.size
    obtain ⟨c0, c1, c2, c3, c4, c5, c6, c7, _, _⟩ := hbox.later hb0
    clear hz hb0 hbox
    by_cases hlt : k < n
    case neg =>
      go_wp2
      go_ret
      exact ⟨ret_bool' (ft_yes HZ.out (by omega)).symm, HB.out⟩
    have h5 : k = 1 ∨ k = 2 ∨ k = 3 := by omega
    rcases h5 with rfl | rfl | rfl
    · have HB0 := hid (hbd.out 0 (by omega))
      have HB1 := hid (hbd.out 1 (by omega))
      obtain ⟨b1, b2, b3, b4⟩ := (show 1 ≤ c.s0 ∧ c.s0 ≤ 86400 ∧ 1 ≤ c.k0 ∧ c.k0 ≤ 60 from HB0.out)
      obtain ⟨e1, e2, e3, e4⟩ := (show 1 ≤ c.s1 ∧ c.s1 ≤ 86400 ∧ 1 ≤ c.k1 ∧ c.k1 ≤ 60 from HB1.out)
      obtain ⟨p1, p2⟩ := (show 0 ≤ c.s0 * c.k0 ∧ c.s0 * c.k0 ≤ 1000000000 from Cfg.prod_bd HB0.out)
      obtain ⟨p3, p4⟩ := (show 0 ≤ c.s1 * c.k1 ∧ c.s1 * c.k1 ≤ 1000000000 from Cfg.prod_bd HB1.out)
      have i1 : (0 : Int) < (n : Int) := by omega
      have i0 : 0 < n := by omega
      have x1 : IntKind.i64.wrap (((1 : Nat) : Int) - 1) = 0 := by decide
      have x2 : IntKind.i64.wrap (1 - 1) = 0 := by decide
      have x3 : IntKind.i64.wrap 0 = 0 := by decide
      have i2 : (1 : Int) < (n : Int) := by omega
      by_cases hF : c.Ft 0
      · have HFt := hid hF
        have hfb : fitB c.s0 c.k0 c.s1 c.k1 = true := decide_eq_true hF
        clear hF
        go_wp2_with fail
        go_region_held3 (fun w' => w'.cell? ⟨b, 0, none⟩ = some (i64 c.s0) ∧ w'.cell? ⟨b, 1, none⟩ = some (i64 c.k0) ∧ w'.cell? ⟨b, 2, none⟩ = some (i64 c.s1) ∧ w'.cell? ⟨b, 3, none⟩ = some (i64 c.k1)) (first | go_keep | (refine ⟨?_, ?_, ?_, ?_⟩ <;> exact cell_later hb (by simp [*]))) ((go_at_call 79; refine (fit_any c.s0 c.k0 c.s1 c.k1 _ b1 b2 e1 e2 p1 p2 p3 p4).mono ?_; rintro e w' ⟨rfl, hb⟩))
        go_wp2
        go_roundw
        case rel => first | exact ⟨2, by omega, by omega, by first | rfl | go_num, ft_next (j := 0) HZ.out HFt.out, HB.out.drew.trans (hb.mono hs)⟩ | ((repeat apply Exists.intro); exact ⟨⟨2, by omega, by omega, by first | rfl | go_num, ft_next (j := 0) HZ.out HFt.out, HB.out.drew.trans (hb.mono hs)⟩, rfl⟩)
        case measure => simp [intOf]; omega
      · have HE := hid (ft_no (n := n) (i := 0) (by omega) hF)
        have hfb : fitB c.s0 c.k0 c.s1 c.k1 = false := decide_eq_false hF
        clear hF
        go_wp2_with fail
        go_region_held3 (fun w' => w'.cell? ⟨b, 0, none⟩ = some (i64 c.s0) ∧ w'.cell? ⟨b, 1, none⟩ = some (i64 c.k0) ∧ w'.cell? ⟨b, 2, none⟩ = some (i64 c.s1) ∧ w'.cell? ⟨b, 3, none⟩ = some (i64 c.k1)) (first | go_keep | (refine ⟨?_, ?_, ?_, ?_⟩ <;> exact cell_later hb (by simp [*]))) ((go_at_call 79; refine (fit_any c.s0 c.k0 c.s1 c.k1 _ b1 b2 e1 e2 p1 p2 p3 p4).mono ?_; rintro e w' ⟨rfl, hb⟩))
        go_wp2
        go_ret
        exact ⟨ret_bool' HE.out.symm, HB.out.drew.trans (hb.mono hs)⟩
    · have HB0 := hid (hbd.out 1 (by omega))
      have HB1 := hid (hbd.out 2 (by omega))
      obtain ⟨b1, b2, b3, b4⟩ := (show 1 ≤ c.s1 ∧ c.s1 ≤ 86400 ∧ 1 ≤ c.k1 ∧ c.k1 ≤ 60 from HB0.out)
      obtain ⟨e1, e2, e3, e4⟩ := (show 1 ≤ c.s2 ∧ c.s2 ≤ 86400 ∧ 1 ≤ c.k2 ∧ c.k2 ≤ 60 from HB1.out)
      obtain ⟨p1, p2⟩ := (show 0 ≤ c.s1 * c.k1 ∧ c.s1 * c.k1 ≤ 1000000000 from Cfg.prod_bd HB0.out)
      obtain ⟨p3, p4⟩ := (show 0 ≤ c.s2 * c.k2 ∧ c.s2 * c.k2 ≤ 1000000000 from Cfg.prod_bd HB1.out)
      have i1 : (1 : Int) < (n : Int) := by omega
      have i0 : 1 < n := by omega
      have x1 : IntKind.i64.wrap (((2 : Nat) : Int) - 1) = 1 := by decide
      have x2 : IntKind.i64.wrap (2 - 1) = 1 := by decide
      have x3 : IntKind.i64.wrap 1 = 1 := by decide
      have i2 : (2 : Int) < (n : Int) := by omega
      by_cases hF : c.Ft 1
      · have HFt := hid hF
        have hfb : fitB c.s1 c.k1 c.s2 c.k2 = true := decide_eq_true hF
        clear hF
        go_wp2_with fail
        go_region_held3 (fun w' => w'.cell? ⟨b, 2, none⟩ = some (i64 c.s1) ∧ w'.cell? ⟨b, 3, none⟩ = some (i64 c.k1) ∧ w'.cell? ⟨b, 4, none⟩ = some (i64 c.s2) ∧ w'.cell? ⟨b, 5, none⟩ = some (i64 c.k2)) (first | go_keep | (refine ⟨?_, ?_, ?_, ?_⟩ <;> exact cell_later hb (by simp [*]))) ((go_at_call 79; refine (fit_any c.s1 c.k1 c.s2 c.k2 _ b1 b2 e1 e2 p1 p2 p3 p4).mono ?_; rintro e w' ⟨rfl, hb⟩))
        go_wp2
        go_roundw
        case rel => first | exact ⟨3, by omega, by omega, by first | rfl | go_num, ft_next (j := 1) HZ.out HFt.out, HB.out.drew.trans (hb.mono hs)⟩ | ((repeat apply Exists.intro); exact ⟨⟨3, by omega, by omega, by first | rfl | go_num, ft_next (j := 1) HZ.out HFt.out, HB.out.drew.trans (hb.mono hs)⟩, rfl⟩)
        case measure => simp [intOf]; omega
      · have HE := hid (ft_no (n := n) (i := 1) (by omega) hF)
        have hfb : fitB c.s1 c.k1 c.s2 c.k2 = false := decide_eq_false hF
        clear hF
        go_wp2_with fail
        go_region_held3 (fun w' => w'.cell? ⟨b, 2, none⟩ = some (i64 c.s1) ∧ w'.cell? ⟨b, 3, none⟩ = some (i64 c.k1) ∧ w'.cell? ⟨b, 4, none⟩ = some (i64 c.s2) ∧ w'.cell? ⟨b, 5, none⟩ = some (i64 c.k2)) (first | go_keep | (refine ⟨?_, ?_, ?_, ?_⟩ <;> exact cell_later hb (by simp [*]))) ((go_at_call 79; refine (fit_any c.s1 c.k1 c.s2 c.k2 _ b1 b2 e1 e2 p1 p2 p3 p4).mono ?_; rintro e w' ⟨rfl, hb⟩))
        go_wp2
        go_ret
        exact ⟨ret_bool' HE.out.symm, HB.out.drew.trans (hb.mono hs)⟩
    · have HB0 := hid (hbd.out 2 (by omega))
      have HB1 := hid (hbd.out 3 (by omega))
      obtain ⟨b1, b2, b3, b4⟩ := (show 1 ≤ c.s2 ∧ c.s2 ≤ 86400 ∧ 1 ≤ c.k2 ∧ c.k2 ≤ 60 from HB0.out)
      obtain ⟨e1, e2, e3, e4⟩ := (show 1 ≤ c.s3 ∧ c.s3 ≤ 86400 ∧ 1 ≤ c.k3 ∧ c.k3 ≤ 60 from HB1.out)
      obtain ⟨p1, p2⟩ := (show 0 ≤ c.s2 * c.k2 ∧ c.s2 * c.k2 ≤ 1000000000 from Cfg.prod_bd HB0.out)
      obtain ⟨p3, p4⟩ := (show 0 ≤ c.s3 * c.k3 ∧ c.s3 * c.k3 ≤ 1000000000 from Cfg.prod_bd HB1.out)
      have i1 : (2 : Int) < (n : Int) := by omega
      have i0 : 2 < n := by omega
      have x1 : IntKind.i64.wrap (((3 : Nat) : Int) - 1) = 2 := by decide
      have x2 : IntKind.i64.wrap (3 - 1) = 2 := by decide
      have x3 : IntKind.i64.wrap 2 = 2 := by decide
      have i2 : (3 : Int) < (n : Int) := by omega
      by_cases hF : c.Ft 2
      · have HFt := hid hF
        have hfb : fitB c.s2 c.k2 c.s3 c.k3 = true := decide_eq_true hF
        clear hF
        go_wp2_with fail
        go_region_held3 (fun w' => w'.cell? ⟨b, 4, none⟩ = some (i64 c.s2) ∧ w'.cell? ⟨b, 5, none⟩ = some (i64 c.k2) ∧ w'.cell? ⟨b, 6, none⟩ = some (i64 c.s3) ∧ w'.cell? ⟨b, 7, none⟩ = some (i64 c.k3)) (first | go_keep | (refine ⟨?_, ?_, ?_, ?_⟩ <;> exact cell_later hb (by simp [*]))) ((go_at_call 79; refine (fit_any c.s2 c.k2 c.s3 c.k3 _ b1 b2 e1 e2 p1 p2 p3 p4).mono ?_; rintro e w' ⟨rfl, hb⟩))
        go_wp2
        go_roundw
        case rel => first | exact ⟨4, by omega, by omega, by first | rfl | go_num, ft_next (j := 2) HZ.out HFt.out, HB.out.drew.trans (hb.mono hs)⟩ | ((repeat apply Exists.intro); exact ⟨⟨4, by omega, by omega, by first | rfl | go_num, ft_next (j := 2) HZ.out HFt.out, HB.out.drew.trans (hb.mono hs)⟩, rfl⟩)
        case measure => simp [intOf]; omega
      · have HE := hid (ft_no (n := n) (i := 2) (by omega) hF)
        have hfb : fitB c.s2 c.k2 c.s3 c.k3 = false := decide_eq_false hF
        clear hF
        go_wp2_with fail
        go_region_held3 (fun w' => w'.cell? ⟨b, 4, none⟩ = some (i64 c.s2) ∧ w'.cell? ⟨b, 5, none⟩ = some (i64 c.k2) ∧ w'.cell? ⟨b, 6, none⟩ = some (i64 c.s3) ∧ w'.cell? ⟨b, 7, none⟩ = some (i64 c.k3)) (first | go_keep | (refine ⟨?_, ?_, ?_, ?_⟩ <;> exact cell_later hb (by simp [*]))) ((go_at_call 79; refine (fit_any c.s2 c.k2 c.s3 c.k3 _ b1 b2 e1 e2 p1 p2 p3 p4).mono ?_; rintro e w' ⟨rfl, hb⟩))
        go_wp2
        go_ret
        exact ⟨ret_bool' HE.out.symm, HB.out.drew.trans (hb.mono hs)⟩
end Go.Proofs.Ythbbfjfekchdiaa
