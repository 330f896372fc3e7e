import Derived.Test.YthbbfjfekchdiaaGreatXLeafWalks
import Derived.Deep.RegionHeld3
import Derived.Deep.DrawnRows
import Derived.Deep.QuietTactic
import Derived.BigQuiet
namespace Go.Proofs.YthbbfjfekchdiaaGreat
open Go.RowKit
set_option linter.unusedSimpArgs false
attribute [local go_sem] Go.wp_at_zero Go.wp_at_succ

theorem bcell {n : Nat} {W w1 : World} (hb : Below n W w1) : (∀ b o, b < n → w1.cell? ⟨b, o, none⟩ = W.cell? ⟨b, o, none⟩) ∧ (∀ b o, b < n → w1.frozen? ⟨b, o, none⟩ = W.frozen? ⟨b, o, none⟩) :=
  ⟨fun b o h => hb.cell (p := ⟨b, o, none⟩) h, fun b o h => hb.frozen (p := ⟨b, o, none⟩) h⟩
theorem below_size {w wr : World} {O : Obj} (h : Below (w.heap.size + 1) (w.alloc O) wr) : w.heap.size + 1 ≤ wr.heap.size := by
  have := h.size; simp at this; omega
theorem below_fin {w wr : World} {O : Obj} (h : Below (w.heap.size + 1) (w.alloc O) wr) : Below w.heap.size w wr :=
  ((Below.refl _ _).alloc (Nat.le_refl _) _).trans (h.mono (by omega))
theorem below_call {w w' : World} {O : Obj} (h : Below (w.alloc O).heap.size (w.alloc O) w') : Below (w.heap.size + 1) (w.alloc O) w' := by
  have e : (w.alloc O).heap.size = w.heap.size + 1 := by simp
  rwa [e] at h

theorem below_two {w wr w1 w2 : World} {O A B : Obj} (h : Below (w.heap.size + 1) (w.alloc O) wr) (h1 : Below ((wr.alloc A).alloc B).drew.heap.size ((wr.alloc A).alloc B).drew w1) (h2 : Below w1.heap.size w1 w2) : Below (w.heap.size + 1) (w.alloc O) w2 := by
  have hz := below_size h
  have hd : ((wr.alloc A).alloc B).drew.heap.size = wr.heap.size + 1 + 1 := by show ((wr.alloc A).alloc B).heap.size = _; simp
  have hs := h1.size
  rw [hd] at h1 hs
  exact ((((h.alloc (by omega) A).alloc (by simp; omega) B).drew).trans (h1.mono (by omega))).trans (h2.mono (by omega))
theorem below_quiet {w wr : World} {O A B : Obj} (nq : Nat) (h : Below (w.heap.size + 1) (w.alloc O) wr) : Below w.heap.size w (((wr.alloc A).alloc B).drewN nq) := by
  have hz := below_size h
  exact below_drewN (((below_fin h).alloc (by omega) A).alloc (by simp; omega) B) nq

theorem mf_at {s0 k0 s1 k1 s2 k2 s3 k3 m f : Int} {c : Cfg} (h : c = ⟨s0, k0, s1, k1, s2, k2, s3, k3, m, f⟩) : c.Mf ↔ (1 ≤ m ∧ m ≤ 6 ∧ 0 ≤ f ∧ f ≤ 100 ∧ 1 ≤ c.many) := by subst h; exact Iff.rfl
theorem zero_at0 {s0 k0 s1 k1 s2 k2 s3 k3 m f : Int} {c : Cfg} (h : c = ⟨s0, k0, s1, k1, s2, k2, s3, k3, m, f⟩) : c.Zero 0 ↔ (s0 = 0 ∧ k0 = 0) := by subst h; exact Iff.rfl
theorem bd_at0 {s0 k0 s1 k1 s2 k2 s3 k3 m f : Int} {c : Cfg} (h : c = ⟨s0, k0, s1, k1, s2, k2, s3, k3, m, f⟩) : c.Bd 0 ↔ (1 ≤ s0 ∧ s0 ≤ 86400 ∧ 1 ≤ k0 ∧ k0 ≤ 60) := by subst h; exact Iff.rfl
theorem prod_at0 {s0 k0 s1 k1 s2 k2 s3 k3 m f : Int} {c : Cfg} (h : c = ⟨s0, k0, s1, k1, s2, k2, s3, k3, m, f⟩) (hb : c.Bd 0) : 0 ≤ s0 * k0 ∧ s0 * k0 ≤ 1000000000 := by subst h; exact Cfg.prod_bd hb
theorem zero_at1 {s0 k0 s1 k1 s2 k2 s3 k3 m f : Int} {c : Cfg} (h : c = ⟨s0, k0, s1, k1, s2, k2, s3, k3, m, f⟩) : c.Zero 1 ↔ (s1 = 0 ∧ k1 = 0) := by subst h; exact Iff.rfl
theorem bd_at1 {s0 k0 s1 k1 s2 k2 s3 k3 m f : Int} {c : Cfg} (h : c = ⟨s0, k0, s1, k1, s2, k2, s3, k3, m, f⟩) : c.Bd 1 ↔ (1 ≤ s1 ∧ s1 ≤ 86400 ∧ 1 ≤ k1 ∧ k1 ≤ 60) := by subst h; exact Iff.rfl
theorem prod_at1 {s0 k0 s1 k1 s2 k2 s3 k3 m f : Int} {c : Cfg} (h : c = ⟨s0, k0, s1, k1, s2, k2, s3, k3, m, f⟩) (hb : c.Bd 1) : 0 ≤ s1 * k1 ∧ s1 * k1 ≤ 1000000000 := by subst h; exact Cfg.prod_bd hb
theorem zero_at2 {s0 k0 s1 k1 s2 k2 s3 k3 m f : Int} {c : Cfg} (h : c = ⟨s0, k0, s1, k1, s2, k2, s3, k3, m, f⟩) : c.Zero 2 ↔ (s2 = 0 ∧ k2 = 0) := by subst h; exact Iff.rfl
theorem bd_at2 {s0 k0 s1 k1 s2 k2 s3 k3 m f : Int} {c : Cfg} (h : c = ⟨s0, k0, s1, k1, s2, k2, s3, k3, m, f⟩) : c.Bd 2 ↔ (1 ≤ s2 ∧ s2 ≤ 86400 ∧ 1 ≤ k2 ∧ k2 ≤ 60) := by subst h; exact Iff.rfl
theorem prod_at2 {s0 k0 s1 k1 s2 k2 s3 k3 m f : Int} {c : Cfg} (h : c = ⟨s0, k0, s1, k1, s2, k2, s3, k3, m, f⟩) (hb : c.Bd 2) : 0 ≤ s2 * k2 ∧ s2 * k2 ≤ 1000000000 := by subst h; exact Cfg.prod_bd hb
theorem zero_at3 {s0 k0 s1 k1 s2 k2 s3 k3 m f : Int} {c : Cfg} (h : c = ⟨s0, k0, s1, k1, s2, k2, s3, k3, m, f⟩) : c.Zero 3 ↔ (s3 = 0 ∧ k3 = 0) := by subst h; exact Iff.rfl
theorem bd_at3 {s0 k0 s1 k1 s2 k2 s3 k3 m f : Int} {c : Cfg} (h : c = ⟨s0, k0, s1, k1, s2, k2, s3, k3, m, f⟩) : c.Bd 3 ↔ (1 ≤ s3 ∧ s3 ≤ 86400 ∧ 1 ≤ k3 ∧ k3 ≤ 60) := by subst h; exact Iff.rfl
theorem prod_at3 {s0 k0 s1 k1 s2 k2 s3 k3 m f : Int} {c : Cfg} (h : c = ⟨s0, k0, s1, k1, s2, k2, s3, k3, m, f⟩) (hb : c.Bd 3) : 0 ≤ s3 * k3 ∧ s3 * k3 ≤ 1000000000 := by subst h; exact Cfg.prod_bd hb
theorem ft_at0 {s0 k0 s1 k1 s2 k2 s3 k3 m f : Int} {c : Cfg} (h : c = ⟨s0, k0, s1, k1, s2, k2, s3, k3, m, f⟩) : c.Ft 0 ↔ (s0 < s1 ∧ s1 % s0 = 0 ∧ s0 * k0 < s1 * k1 ∧ s1 / s0 ≤ k0) := by subst h; exact Iff.rfl
theorem ft_at1 {s0 k0 s1 k1 s2 k2 s3 k3 m f : Int} {c : Cfg} (h : c = ⟨s0, k0, s1, k1, s2, k2, s3, k3, m, f⟩) : c.Ft 1 ↔ (s1 < s2 ∧ s2 % s1 = 0 ∧ s1 * k1 < s2 * k2 ∧ s2 / s1 ≤ k1) := by subst h; exact Iff.rfl
theorem ft_at2 {s0 k0 s1 k1 s2 k2 s3 k3 m f : Int} {c : Cfg} (h : c = ⟨s0, k0, s1, k1, s2, k2, s3, k3, m, f⟩) : c.Ft 2 ↔ (s2 < s3 ∧ s3 % s2 = 0 ∧ s2 * k2 < s3 * k3 ∧ s3 / s2 ≤ k2) := by subst h; exact Iff.rfl
theorem many_vars {s0 k0 s1 k1 s2 k2 s3 k3 m f : Int} {c : Cfg} (h : Hid (c = ⟨s0, k0, s1, k1, s2, k2, s3, k3, m, f⟩)) (w : World) :
    Calls Tryz.prog 39 #[.agg #[i64 s0, i64 k0, i64 s1, i64 k1, i64 s2, i64 k2, i64 s3, i64 k3, i64 m, i64 f]] w fun e w' => e = .returned (i64 c.many) ∧ Below w.heap.size w w' := by
  have e := h.out; subst e; exact many_any _ w

set_option maxHeartbeats 8000000 in
theorem rcheck_vars (s0 k0 s1 k1 s2 k2 s3 k3 m f : Int) (c : Cfg) (HC : Hid (c = ⟨s0, k0, s1, k1, s2, k2, s3, k3, m, f⟩)) (w : World) (hMf : c.Mf) :
    Calls Tryz.prog 19 #[.agg #[i64 s0, i64 k0, i64 s1, i64 k1, i64 s2, i64 k2, i64 s3, i64 k3, i64 m, i64 f]] w fun e w' => e = .returned (i64 c.err) ∧ Below w.heap.size w w' := by
  have HMf := hid hMf
  obtain ⟨h1, h2, h3, h4, h5⟩ := (mf_at HC.out).1 hMf
  clear hMf
  have h6 := c.many_le
  have h7 : ((c.many : Int) == 0) = false := beq_eq_false_iff_ne.2 (by omega)
  go_enter Tryz.func19, Tryz.ntmps19
  go_wp2_with (first | (go_at_call 38; refine (in_any _ _ _ _).mono ?_; rintro e w' ⟨rfl, rfl⟩) | (go_at_call 39; refine (many_vars HC _).mono ?_; rintro e w' ⟨rfl, hb'⟩; have HB := hid (below_call hb'); clear hb'))
  go_loopw [6] (fun i wr => ∃ k : Nat, k ≤ 4 ∧ i = i64 k ∧ c.Ones k ∧ Below (w.heap.size + 1) (w.alloc (.cells #[i64 s0, i64 k0, i64 s1, i64 k1, i64 s2, i64 k2, i64 s3, i64 k3, i64 m, i64 f] 40)) wr) (fun i _ => 4 - (intOf i).toNat)
  case atStart => exact ⟨0, by omega, rfl, c.ones_zero, HB.out⟩
  case round =>
    clear HB
    obtain ⟨k, hk, rfl, hones, hbr⟩ := hrel
    have HO := hid hones
    have HBR := hid hbr
    obtain ⟨hc, hf⟩ := bcell hbr
    have hz : w.heap.size < wr.heap.size := below_size hbr
    clear hones hbr
    have hk5 : k = 0 ∨ k = 1 ∨ k = 2 ∨ k = 3 ∨ k = 4 := by omega
    rcases hk5 with rfl | rfl | rfl | rfl | rfl
    · by_cases hkn : c.many ≤ 0
      · exact absurd hkn (by omega)
      · by_cases hB : c.Bd 0
        · have HB := hid hB
          obtain ⟨b1, b2, b3, b4⟩ := ((bd_at0 HC.out).1 hB)
          clear hB
          go_wp2_with (first | (go_at_call 38; refine (in_any _ _ _ _).mono ?_; rintro e w' ⟨rfl, rfl⟩))
          go_roundw
          case rel => first | exact ⟨1, by omega, rfl, c.ones_succ HO.out (fun h => absurd h hkn) (fun _ => HB.out), HBR.out.alloc hz _⟩ | ((repeat apply Exists.intro); exact ⟨⟨1, by omega, rfl, c.ones_succ HO.out (fun h => absurd h hkn) (fun _ => HB.out), HBR.out.alloc hz _⟩, rfl⟩)
          case measure => simp [intOf]
        · have HB := hid hB
          have hb' : ¬ (1 ≤ s0 ∧ s0 ≤ 86400 ∧ 1 ≤ k0 ∧ k0 ≤ 60) := fun h => hB ((bd_at0 HC.out).2 h)
          clear hB
          have HE := hid (c.not_ok_bd (j := 0) (by omega) HB.out)
          by_cases b1 : 1 ≤ s0 ∧ s0 ≤ 86400
          · have b3 : Hid (¬ (1 ≤ k0 ∧ k0 ≤ 60)) := fun h => hb' ⟨b1.1, b1.2, h.1, h.2⟩
            obtain ⟨b1, b2⟩ := b1
            clear hb' HB
            have b4 : (decide (1 ≤ k0) && decide (k0 ≤ 60)) = false := by
              have := b3.out
              rw [Bool.and_eq_false_iff]; simp only [decide_eq_false_iff_not]; omega
            go_wp2_with (first | (go_at_call 38; refine (in_any _ _ _ _).mono ?_; rintro e w' ⟨rfl, rfl⟩))
            all_goals first | (go_ret; exact ⟨ret_int HE.out.symm, (below_fin HBR.out).alloc (by omega) _⟩) | (exfalso; apply b3.out; simp_all)
          · clear hb' HB
            have b4 : (decide (1 ≤ s0) && decide (s0 ≤ 86400)) = false := by
              rw [Bool.and_eq_false_iff]; simp only [decide_eq_false_iff_not]; omega
            go_wp2_with (first | (go_at_call 38; refine (in_any _ _ _ _).mono ?_; rintro e w' ⟨rfl, rfl⟩))
            all_goals first | (go_ret; exact ⟨ret_int HE.out.symm, (below_fin HBR.out).alloc (by omega) _⟩) | (exfalso; apply b1; simp_all)
    · by_cases hkn : c.many ≤ 1
      · by_cases hZ : c.Zero 1
        · have HZ := hid hZ
          obtain ⟨rfl, rfl⟩ := ((zero_at1 HC.out).1 hZ)
          clear hZ
          go_wp2_with (first | (go_at_call 38; refine (in_any _ _ _ _).mono ?_; rintro e w' ⟨rfl, rfl⟩))
          go_roundw
          case rel => first | exact ⟨2, by omega, rfl, c.ones_succ HO.out (fun _ => HZ.out) (fun h => absurd h (by omega)), HBR.out.alloc hz _⟩ | ((repeat apply Exists.intro); exact ⟨⟨2, by omega, rfl, c.ones_succ HO.out (fun _ => HZ.out) (fun h => absurd h (by omega)), HBR.out.alloc hz _⟩, rfl⟩)
          case measure => simp [intOf]
        · have HZ := hid hZ
          have hz' : ¬ (s1 = 0 ∧ k1 = 0) := fun h => hZ ((zero_at1 HC.out).2 h)
          clear hZ
          by_cases z1 : s1 = 0
          · have z2 : ¬ k1 = 0 := fun h => hz' ⟨z1, h⟩
            clear hz'
            go_wp2_with (first | (go_at_call 38; refine (in_any _ _ _ _).mono ?_; rintro e w' ⟨rfl, rfl⟩))
            go_ret
            exact ⟨ret_int (c.not_ok_zero (j := 1) (by omega) hkn HZ.out).symm, (below_fin HBR.out).alloc (by omega) _⟩
          · clear hz'
            go_wp2_with (first | (go_at_call 38; refine (in_any _ _ _ _).mono ?_; rintro e w' ⟨rfl, rfl⟩))
            go_ret
            exact ⟨ret_int (c.not_ok_zero (j := 1) (by omega) hkn HZ.out).symm, (below_fin HBR.out).alloc (by omega) _⟩
      · by_cases hB : c.Bd 1
        · have HB := hid hB
          obtain ⟨b1, b2, b3, b4⟩ := ((bd_at1 HC.out).1 hB)
          clear hB
          go_wp2_with (first | (go_at_call 38; refine (in_any _ _ _ _).mono ?_; rintro e w' ⟨rfl, rfl⟩))
          go_roundw
          case rel => first | exact ⟨2, by omega, rfl, c.ones_succ HO.out (fun h => absurd h hkn) (fun _ => HB.out), HBR.out.alloc hz _⟩ | ((repeat apply Exists.intro); exact ⟨⟨2, by omega, rfl, c.ones_succ HO.out (fun h => absurd h hkn) (fun _ => HB.out), HBR.out.alloc hz _⟩, rfl⟩)
          case measure => simp [intOf]
        · have HB := hid hB
          have hb' : ¬ (1 ≤ s1 ∧ s1 ≤ 86400 ∧ 1 ≤ k1 ∧ k1 ≤ 60) := fun h => hB ((bd_at1 HC.out).2 h)
          clear hB
          have HE := hid (c.not_ok_bd (j := 1) (by omega) HB.out)
          by_cases b1 : 1 ≤ s1 ∧ s1 ≤ 86400
          · have b3 : Hid (¬ (1 ≤ k1 ∧ k1 ≤ 60)) := fun h => hb' ⟨b1.1, b1.2, h.1, h.2⟩
            obtain ⟨b1, b2⟩ := b1
            clear hb' HB
            have b4 : (decide (1 ≤ k1) && decide (k1 ≤ 60)) = false := by
              have := b3.out
              rw [Bool.and_eq_false_iff]; simp only [decide_eq_false_iff_not]; omega
            go_wp2_with (first | (go_at_call 38; refine (in_any _ _ _ _).mono ?_; rintro e w' ⟨rfl, rfl⟩))
            all_goals first | (go_ret; exact ⟨ret_int HE.out.symm, (below_fin HBR.out).alloc (by omega) _⟩) | (exfalso; apply b3.out; simp_all)
          · clear hb' HB
            have b4 : (decide (1 ≤ s1) && decide (s1 ≤ 86400)) = false := by
              rw [Bool.and_eq_false_iff]; simp only [decide_eq_false_iff_not]; omega
            go_wp2_with (first | (go_at_call 38; refine (in_any _ _ _ _).mono ?_; rintro e w' ⟨rfl, rfl⟩))
            all_goals first | (go_ret; exact ⟨ret_int HE.out.symm, (below_fin HBR.out).alloc (by omega) _⟩) | (exfalso; apply b1; simp_all)
    · by_cases hkn : c.many ≤ 2
      · by_cases hZ : c.Zero 2
        · have HZ := hid hZ
          obtain ⟨rfl, rfl⟩ := ((zero_at2 HC.out).1 hZ)
          clear hZ
          go_wp2_with (first | (go_at_call 38; refine (in_any _ _ _ _).mono ?_; rintro e w' ⟨rfl, rfl⟩))
          go_roundw
          case rel => first | exact ⟨3, by omega, rfl, c.ones_succ HO.out (fun _ => HZ.out) (fun h => absurd h (by omega)), HBR.out.alloc hz _⟩ | ((repeat apply Exists.intro); exact ⟨⟨3, by omega, rfl, c.ones_succ HO.out (fun _ => HZ.out) (fun h => absurd h (by omega)), HBR.out.alloc hz _⟩, rfl⟩)
          case measure => simp [intOf]
        · have HZ := hid hZ
          have hz' : ¬ (s2 = 0 ∧ k2 = 0) := fun h => hZ ((zero_at2 HC.out).2 h)
          clear hZ
          by_cases z1 : s2 = 0
          · have z2 : ¬ k2 = 0 := fun h => hz' ⟨z1, h⟩
            clear hz'
            go_wp2_with (first | (go_at_call 38; refine (in_any _ _ _ _).mono ?_; rintro e w' ⟨rfl, rfl⟩))
            go_ret
            exact ⟨ret_int (c.not_ok_zero (j := 2) (by omega) hkn HZ.out).symm, (below_fin HBR.out).alloc (by omega) _⟩
          · clear hz'
            go_wp2_with (first | (go_at_call 38; refine (in_any _ _ _ _).mono ?_; rintro e w' ⟨rfl, rfl⟩))
            go_ret
            exact ⟨ret_int (c.not_ok_zero (j := 2) (by omega) hkn HZ.out).symm, (below_fin HBR.out).alloc (by omega) _⟩
      · by_cases hB : c.Bd 2
        · have HB := hid hB
          obtain ⟨b1, b2, b3, b4⟩ := ((bd_at2 HC.out).1 hB)
          clear hB
          go_wp2_with (first | (go_at_call 38; refine (in_any _ _ _ _).mono ?_; rintro e w' ⟨rfl, rfl⟩))
          go_roundw
          case rel => first | exact ⟨3, by omega, rfl, c.ones_succ HO.out (fun h => absurd h hkn) (fun _ => HB.out), HBR.out.alloc hz _⟩ | ((repeat apply Exists.intro); exact ⟨⟨3, by omega, rfl, c.ones_succ HO.out (fun h => absurd h hkn) (fun _ => HB.out), HBR.out.alloc hz _⟩, rfl⟩)
          case measure => simp [intOf]
        · have HB := hid hB
          have hb' : ¬ (1 ≤ s2 ∧ s2 ≤ 86400 ∧ 1 ≤ k2 ∧ k2 ≤ 60) := fun h => hB ((bd_at2 HC.out).2 h)
          clear hB
          have HE := hid (c.not_ok_bd (j := 2) (by omega) HB.out)
          by_cases b1 : 1 ≤ s2 ∧ s2 ≤ 86400
          · have b3 : Hid (¬ (1 ≤ k2 ∧ k2 ≤ 60)) := fun h => hb' ⟨b1.1, b1.2, h.1, h.2⟩
            obtain ⟨b1, b2⟩ := b1
            clear hb' HB
            have b4 : (decide (1 ≤ k2) && decide (k2 ≤ 60)) = false := by
              have := b3.out
              rw [Bool.and_eq_false_iff]; simp only [decide_eq_false_iff_not]; omega
            go_wp2_with (first | (go_at_call 38; refine (in_any _ _ _ _).mono ?_; rintro e w' ⟨rfl, rfl⟩))
            all_goals first | (go_ret; exact ⟨ret_int HE.out.symm, (below_fin HBR.out).alloc (by omega) _⟩) | (exfalso; apply b3.out; simp_all)
          · clear hb' HB
            have b4 : (decide (1 ≤ s2) && decide (s2 ≤ 86400)) = false := by
              rw [Bool.and_eq_false_iff]; simp only [decide_eq_false_iff_not]; omega
            go_wp2_with (first | (go_at_call 38; refine (in_any _ _ _ _).mono ?_; rintro e w' ⟨rfl, rfl⟩))
            all_goals first | (go_ret; exact ⟨ret_int HE.out.symm, (below_fin HBR.out).alloc (by omega) _⟩) | (exfalso; apply b1; simp_all)
    · by_cases hkn : c.many ≤ 3
      · by_cases hZ : c.Zero 3
        · have HZ := hid hZ
          obtain ⟨rfl, rfl⟩ := ((zero_at3 HC.out).1 hZ)
          clear hZ
          go_wp2_with (first | (go_at_call 38; refine (in_any _ _ _ _).mono ?_; rintro e w' ⟨rfl, rfl⟩))
          go_roundw
          case rel => first | exact ⟨4, by omega, rfl, c.ones_succ HO.out (fun _ => HZ.out) (fun h => absurd h (by omega)), HBR.out.alloc hz _⟩ | ((repeat apply Exists.intro); exact ⟨⟨4, by omega, rfl, c.ones_succ HO.out (fun _ => HZ.out) (fun h => absurd h (by omega)), HBR.out.alloc hz _⟩, rfl⟩)
          case measure => simp [intOf]
        · have HZ := hid hZ
          have hz' : ¬ (s3 = 0 ∧ k3 = 0) := fun h => hZ ((zero_at3 HC.out).2 h)
          clear hZ
          by_cases z1 : s3 = 0
          · have z2 : ¬ k3 = 0 := fun h => hz' ⟨z1, h⟩
            clear hz'
            go_wp2_with (first | (go_at_call 38; refine (in_any _ _ _ _).mono ?_; rintro e w' ⟨rfl, rfl⟩))
            go_ret
            exact ⟨ret_int (c.not_ok_zero (j := 3) (by omega) hkn HZ.out).symm, (below_fin HBR.out).alloc (by omega) _⟩
          · clear hz'
            go_wp2_with (first | (go_at_call 38; refine (in_any _ _ _ _).mono ?_; rintro e w' ⟨rfl, rfl⟩))
            go_ret
            exact ⟨ret_int (c.not_ok_zero (j := 3) (by omega) hkn HZ.out).symm, (below_fin HBR.out).alloc (by omega) _⟩
      · by_cases hB : c.Bd 3
        · have HB := hid hB
          obtain ⟨b1, b2, b3, b4⟩ := ((bd_at3 HC.out).1 hB)
          clear hB
          go_wp2_with (first | (go_at_call 38; refine (in_any _ _ _ _).mono ?_; rintro e w' ⟨rfl, rfl⟩))
          go_roundw
          case rel => first | exact ⟨4, by omega, rfl, c.ones_succ HO.out (fun h => absurd h hkn) (fun _ => HB.out), HBR.out.alloc hz _⟩ | ((repeat apply Exists.intro); exact ⟨⟨4, by omega, rfl, c.ones_succ HO.out (fun h => absurd h hkn) (fun _ => HB.out), HBR.out.alloc hz _⟩, rfl⟩)
          case measure => simp [intOf]
        · have HB := hid hB
          have hb' : ¬ (1 ≤ s3 ∧ s3 ≤ 86400 ∧ 1 ≤ k3 ∧ k3 ≤ 60) := fun h => hB ((bd_at3 HC.out).2 h)
          clear hB
          have HE := hid (c.not_ok_bd (j := 3) (by omega) HB.out)
          by_cases b1 : 1 ≤ s3 ∧ s3 ≤ 86400
          · have b3 : Hid (¬ (1 ≤ k3 ∧ k3 ≤ 60)) := fun h => hb' ⟨b1.1, b1.2, h.1, h.2⟩
            obtain ⟨b1, b2⟩ := b1
            clear hb' HB
            have b4 : (decide (1 ≤ k3) && decide (k3 ≤ 60)) = false := by
              have := b3.out
              rw [Bool.and_eq_false_iff]; simp only [decide_eq_false_iff_not]; omega
            go_wp2_with (first | (go_at_call 38; refine (in_any _ _ _ _).mono ?_; rintro e w' ⟨rfl, rfl⟩))
            all_goals first | (go_ret; exact ⟨ret_int HE.out.symm, (below_fin HBR.out).alloc (by omega) _⟩) | (exfalso; apply b3.out; simp_all)
          · clear hb' HB
            have b4 : (decide (1 ≤ s3) && decide (s3 ≤ 86400)) = false := by
              rw [Bool.and_eq_false_iff]; simp only [decide_eq_false_iff_not]; omega
            go_wp2_with (first | (go_at_call 38; refine (in_any _ _ _ _).mono ?_; rintro e w' ⟨rfl, rfl⟩))
            all_goals first | (go_ret; exact ⟨ret_int HE.out.symm, (below_fin HBR.out).alloc (by omega) _⟩) | (exfalso; apply b1; simp_all)
    · have HO3 := hid (show ∀ i, i < c.many → c.Bd i from fun i h => (HO.out i (by omega)).2 h)
      go_wp2
      go_loopw [10] (fun i wr => ∃ k : Nat, k ≤ 3 ∧ i = i64 k ∧ c.Twos k ∧ Below (w.heap.size + 1) (w.alloc (.cells #[i64 s0, i64 k0, i64 s1, i64 k1, i64 s2, i64 k2, i64 s3, i64 k3, i64 m, i64 f] 40)) wr) (fun i _ => 4 - (intOf i).toNat)
      case atStart => exact ⟨0, by omega, rfl, c.twos_zero, HBR.out⟩
      case round =>
        clear HBR hz hc hf
        obtain ⟨k, hk, rfl, htwos, hbr⟩ := hrel
        have HT := hid htwos
        have HBR := hid hbr
        obtain ⟨hc, hf⟩ := bcell hbr
        have hz : w.heap.size < wr.heap.size := below_size hbr
        clear htwos hbr
        by_cases hkn : c.many ≤ k + 1
        · go_wp2
          go_ret
          exact ⟨ret_int (c.is_ok HMf.out HO.out HT.out hkn).symm, below_fin HBR.out⟩
        · have hk3 : k = 0 ∨ k = 1 ∨ k = 2 := by omega
          rcases hk3 with rfl | rfl | rfl
          · have HB0 := hid (HO3.out 0 (by omega))
            have HB1 := hid (HO3.out 1 (by omega))
            obtain ⟨b1, b2, b3, b4⟩ := ((bd_at0 HC.out).1 HB0.out)
            obtain ⟨e1, e2, e3, e4⟩ := ((bd_at1 HC.out).1 HB1.out)
            obtain ⟨p1, p2⟩ := (prod_at0 HC.out HB0.out)
            obtain ⟨p3, p4⟩ := (prod_at1 HC.out HB1.out)
            have HF := hid (show c.Ft 0 ↔ (s0 < s1 ∧ s1 % s0 = 0 ∧ s0 * k0 < s1 * k1 ∧ s1 / s0 ≤ k0) from ft_at0 HC.out)
            obtain ⟨r0, hr0⟩ : ∃ r, r = s0 * k0 := ⟨_, rfl⟩
            obtain ⟨r1, hr1⟩ : ∃ r, r = s1 * k1 := ⟨_, rfl⟩
            rw [← hr0] at p1 p2 HF
            rw [← hr1] at p3 p4 HF
            have HR0 := hid hr0
            have HR1 := hid hr1
            clear hr0 hr1
            by_cases t1 : s1 ≤ s0
            · have HE := hid (c.not_ok_ft (j := 0) (by omega) (fun h => absurd (HF.out.1 h).1 (by omega)))
              have g1 : decide (s1 ≤ s0) = true := by simp; omega
              go_wp2_with fail
              go_quiet (fail)
              go_wp2
              go_ret
              exact ⟨ret_int HE.out.symm, below_quiet _ HBR.out⟩
            by_cases t2 : s1 % s0 = 0
            case neg =>
              have HE := hid (c.not_ok_ft (j := 0) (by omega) (fun h => t2 (HF.out.1 h).2.1))
              have n2 : ¬ s0 = 0 := by omega
              have m1 : s1.tmod s0 = s1 % s0 := IntWalk.rem_in _ _ (by omega)
              have m2 : IntKind.i64.wrap (s1.tdiv s0) = s1 / s0 := IntWalk.i64_quo _ _ ⟨by omega, by omega, b1⟩
              have g1 : decide (s1 ≤ s0) = false := by simp; omega
              have g2 : (s1 % s0 != 0) = true := by simpa using t2
              go_wp2_with fail
              go_quiet (fail)
              go_wp2
              go_ret
              exact ⟨ret_int HE.out.symm, below_quiet _ HBR.out⟩
            by_cases t3 : r1 ≤ r0
            · have HE := hid (c.not_ok_ft (j := 0) (by omega) (fun h => absurd (HF.out.1 h).2.2.1 (by omega)))
              have n2 : ¬ s0 = 0 := by omega
              have m1 : s1.tmod s0 = s1 % s0 := IntWalk.rem_in _ _ (by omega)
              have m2 : IntKind.i64.wrap (s1.tdiv s0) = s1 / s0 := IntWalk.i64_quo _ _ ⟨by omega, by omega, b1⟩
              have g1 : decide (s1 ≤ s0) = false := by simp; omega
              have g2 : (s1 % s0 != 0) = false := by simpa using t2
              have g3 : decide (r1 ≤ r0) = true := by simpa using t3
              clear t2 t3
              go_wp2_with fail
              refine wp_region_held_drew (S := (fun w' => w'.cell? ⟨wr.heap.size, 0, none⟩ = some (i64 s0) ∧ w'.cell? ⟨wr.heap.size, 1, none⟩ = some (i64 k0) ∧ w'.cell? ⟨wr.heap.size + 1, 0, none⟩ = some (i64 s1) ∧ w'.cell? ⟨wr.heap.size + 1, 1, none⟩ = some (i64 k1))) (by kernel_rfl) ?_ (fun hHeld => ?_)
              · go_keep
              refine wpAnyH_take (i := 0) (oi := { dst := some 77, op := Op.fieldAddr 37 (Operand.tmp 11) 0, type := 0, pos := _, after := #[], guard := none }) (v := ?v0x0) rfl (by kernel_rfl) (by kernel_rfl) (by kernel_rfl) (fun _ _ _ h => h) (Or.inl ⟨by rfl, ?h0x0⟩) (by assumption) ?_
              case h0x0 => (intro w hSw; (try dsimp only at hSw); go_simp; try with_reducible rfl)
              try simp only [Act.put, List.setIfInBounds_toArray, List.set_cons_zero, List.set_cons_succ]
              refine wpAnyH_take (i := 1) (oi := { dst := some 78, op := Op.load 3 (Operand.tmp 77), type := 3, pos := _, after := #[{ on := 0, ground := Ground.data }], guard := none }) (v := ?v0x1) rfl (by kernel_rfl) (by kernel_rfl) (by kernel_rfl) (fun _ _ _ h => h) (Or.inl ⟨by rfl, ?h0x1⟩) (by assumption) ?_
              case h0x1 => (intro w hSw; (try dsimp only at hSw); go_simp; try with_reducible rfl)
              try simp only [Act.put, List.setIfInBounds_toArray, List.set_cons_zero, List.set_cons_succ]
              refine wpAnyH_take (i := 2) (oi := { dst := some 79, op := Op.fieldAddr 37 (Operand.tmp 12) 0, type := 0, pos := _, after := #[], guard := none }) (v := ?v0x2) rfl (by kernel_rfl) (by kernel_rfl) (by kernel_rfl) (fun _ _ _ h => h) (Or.inl ⟨by rfl, ?h0x2⟩) (by assumption) ?_
              case h0x2 => (intro w hSw; (try dsimp only at hSw); go_simp; try with_reducible rfl)
              try simp only [Act.put, List.setIfInBounds_toArray, List.set_cons_zero, List.set_cons_succ]
              refine wpAnyH_take (i := 3) (oi := { dst := some 80, op := Op.load 3 (Operand.tmp 79), type := 3, pos := _, after := #[{ on := 2, ground := Ground.data }], guard := none }) (v := ?v0x3) rfl (by kernel_rfl) (by kernel_rfl) (by kernel_rfl) (fun _ _ _ h => h) (Or.inl ⟨by rfl, ?h0x3⟩) (by assumption) ?_
              case h0x3 => (intro w hSw; (try dsimp only at hSw); go_simp; try with_reducible rfl)
              try simp only [Act.put, List.setIfInBounds_toArray, List.set_cons_zero, List.set_cons_succ]
              refine wpAnyH_take (i := 4) (oi := { dst := some 81, op := Op.binOp BinOp.geq 3 (Operand.tmp 78) (Operand.tmp 80) 3, type := 4, pos := _, after := #[{ on := 1, ground := Ground.data }, { on := 3, ground := Ground.data }], guard := none }) (v := ?v0x4) rfl (by kernel_rfl) (by kernel_rfl) (by kernel_rfl) (fun _ _ _ h => h) (Or.inl ⟨by rfl, ?h0x4⟩) (by assumption) ?_
              case h0x4 => (intro w hSw; (try dsimp only at hSw); go_simp; try with_reducible rfl)
              try simp only [Act.put, List.setIfInBounds_toArray, List.set_cons_zero, List.set_cons_succ]
              refine wpAnyH_take (i := 5) (oi := { dst := some 82, op := Op.move (Operand.tmp 81), type := 4, pos := _, after := #[{ on := 4, ground := Ground.data }], guard := none }) (v := ?v0x5) rfl (by kernel_rfl) (by kernel_rfl) (by kernel_rfl) (fun _ _ _ h => h) (Or.inl ⟨by rfl, ?h0x5⟩) (by assumption) ?_
              case h0x5 => (intro w hSw; (try dsimp only at hSw); go_simp; try with_reducible rfl)
              try simp only [Act.put, List.setIfInBounds_toArray, List.set_cons_zero, List.set_cons_succ]
              refine wpAnyH_take (i := 6) (oi := { dst := some 83, op := Op.fieldAddr 37 (Operand.tmp 12) 0, type := 0, pos := _, after := #[{ on := 5, ground := Ground.guard }], guard := some (5, false) }) (v := ?v0x6) rfl (by kernel_rfl) (by kernel_rfl) (by kernel_rfl) (fun _ _ _ h => h) (Or.inl ⟨by rfl, ?h0x6⟩) (by assumption) ?_
              case h0x6 => (intro w hSw; (try dsimp only at hSw); go_simp; try with_reducible rfl)
              try simp only [Act.put, List.setIfInBounds_toArray, List.set_cons_zero, List.set_cons_succ]
              refine wpAnyH_take (i := 7) (oi := { dst := some 84, op := Op.load 3 (Operand.tmp 83), type := 3, pos := _, after := #[{ on := 6, ground := Ground.data }, { on := 5, ground := Ground.guard }], guard := some (5, false) }) (v := ?v0x7) rfl (by kernel_rfl) (by kernel_rfl) (by kernel_rfl) (fun _ _ _ h => h) (Or.inl ⟨by rfl, ?h0x7⟩) (by assumption) ?_
              case h0x7 => (intro w hSw; (try dsimp only at hSw); go_simp; try with_reducible rfl)
              try simp only [Act.put, List.setIfInBounds_toArray, List.set_cons_zero, List.set_cons_succ]
              refine wpAnyH_take (i := 8) (oi := { dst := some 85, op := Op.fieldAddr 37 (Operand.tmp 11) 0, type := 0, pos := _, after := #[{ on := 5, ground := Ground.guard }], guard := some (5, false) }) (v := ?v0x8) rfl (by kernel_rfl) (by kernel_rfl) (by kernel_rfl) (fun _ _ _ h => h) (Or.inl ⟨by rfl, ?h0x8⟩) (by assumption) ?_
              case h0x8 => (intro w hSw; (try dsimp only at hSw); go_simp; try with_reducible rfl)
              try simp only [Act.put, List.setIfInBounds_toArray, List.set_cons_zero, List.set_cons_succ]
              refine wpAnyH_take (i := 9) (oi := { dst := some 86, op := Op.load 3 (Operand.tmp 85), type := 3, pos := _, after := #[{ on := 8, ground := Ground.data }, { on := 5, ground := Ground.guard }], guard := some (5, false) }) (v := ?v0x9) rfl (by kernel_rfl) (by kernel_rfl) (by kernel_rfl) (fun _ _ _ h => h) (Or.inl ⟨by rfl, ?h0x9⟩) (by assumption) ?_
              case h0x9 => (intro w hSw; (try dsimp only at hSw); go_simp; try with_reducible rfl)
              try simp only [Act.put, List.setIfInBounds_toArray, List.set_cons_zero, List.set_cons_succ]
              refine wpAnyH_take (i := 10) (oi := { dst := some 87, op := Op.binOp BinOp.rem 3 (Operand.tmp 84) (Operand.tmp 86) 3, type := 3, pos := _, after := #[{ on := 7, ground := Ground.data }, { on := 9, ground := Ground.data }, { on := 5, ground := Ground.guard }], guard := some (5, false) }) (v := ?v0x10) rfl (by kernel_rfl) (by kernel_rfl) (by kernel_rfl) (fun _ _ _ h => h) (Or.inl ⟨by rfl, ?h0x10⟩) (by assumption) ?_
              case h0x10 => (intro w hSw; (try dsimp only at hSw); go_simp; try with_reducible rfl)
              try simp only [Act.put, List.setIfInBounds_toArray, List.set_cons_zero, List.set_cons_succ]
              refine wpAnyH_take (i := 11) (oi := { dst := some 88, op := Op.binOp BinOp.neq 3 (Operand.tmp 87) (Operand.const (Value.int IntKind.i64 0)) 3, type := 4, pos := _, after := #[{ on := 10, ground := Ground.data }, { on := 5, ground := Ground.guard }], guard := some (5, false) }) (v := ?v0x11) rfl (by kernel_rfl) (by kernel_rfl) (by kernel_rfl) (fun _ _ _ h => h) (Or.inl ⟨by rfl, ?h0x11⟩) (by assumption) ?_
              case h0x11 => (intro w hSw; (try dsimp only at hSw); go_simp; try with_reducible rfl)
              try simp only [Act.put, List.setIfInBounds_toArray, List.set_cons_zero, List.set_cons_succ]
              refine wpAnyH_take (i := 12) (oi := { dst := some 89, op := Op.pick (Operand.tmp 82) (Operand.const (Value.bool true)) (Operand.tmp 88), type := 4, pos := _, after := #[{ on := 5, ground := Ground.data }, { on := 11, ground := Ground.data }], guard := none }) (v := ?v0x12) rfl (by kernel_rfl) (by kernel_rfl) (by kernel_rfl) (fun _ _ _ h => h) (Or.inl ⟨by rfl, ?h0x12⟩) (by assumption) ?_
              case h0x12 => (intro w hSw; (try dsimp only at hSw); go_simp; try with_reducible rfl)
              try simp only [Act.put, List.setIfInBounds_toArray, List.set_cons_zero, List.set_cons_succ]
              refine wpAnyH_take (i := 13) (oi := { dst := some 90, op := Op.move (Operand.tmp 89), type := 4, pos := _, after := #[{ on := 12, ground := Ground.data }, { on := 5, ground := Ground.chain }], guard := none }) (v := ?v0x13) rfl (by kernel_rfl) (by kernel_rfl) (by kernel_rfl) (fun _ _ _ h => h) (Or.inl ⟨by rfl, ?h0x13⟩) (by assumption) ?_
              case h0x13 => (intro w hSw; (try dsimp only at hSw); go_simp; try with_reducible rfl)
              try simp only [Act.put, List.setIfInBounds_toArray, List.set_cons_zero, List.set_cons_succ]
              refine wpAnyH_take (i := 14) (oi := { dst := some 91, op := Op.load 37 (Operand.tmp 11), type := 37, pos := _, after := #[{ on := 13, ground := Ground.guard }], guard := some (13, false) }) (v := ?v0x14) rfl (by kernel_rfl) (by kernel_rfl) (by kernel_rfl) (fun _ _ _ h => h) (Or.inl ⟨by rfl, ?h0x14⟩) (by assumption) ?_
              case h0x14 => (intro w hSw; (try dsimp only at hSw); go_simp; try with_reducible rfl)
              try simp only [Act.put, List.setIfInBounds_toArray, List.set_cons_zero, List.set_cons_succ]
              refine wpAnyH_take (i := 16) (oi := { dst := some 93, op := Op.load 37 (Operand.tmp 12), type := 37, pos := _, after := #[{ on := 13, ground := Ground.guard }], guard := some (13, false) }) (v := ?v0x16) rfl (by kernel_rfl) (by kernel_rfl) (by kernel_rfl) (fun _ _ _ h => h) (Or.inl ⟨by rfl, ?h0x16⟩) (by assumption) ?_
              case h0x16 => (intro w hSw; (try dsimp only at hSw); go_simp; try with_reducible rfl)
              try simp only [Act.put, List.setIfInBounds_toArray, List.set_cons_zero, List.set_cons_succ]
              refine wpAnyH_ready (rs := [15]) (by kernel_rfl) (by simp) ?_
              refine AllReadyH.cons rfl (fun K hK => ?_) AllReadyH.nil
              go_simp
              go_wp2_with ((go_at_call 40; refine (reach_val s0 k0 r0 _ HR0 p1 p2).mono ?_; rintro e w1 ⟨rfl, hb1⟩))
              refine hK.out _ _ ?_ (fun hHeld => ?_)
              · refine ⟨?_, ?_, ?_, ?_⟩ <;> exact cell_later hb1 (by simp [*])
              clear hK K
              refine wpAnyH_ready (rs := [17]) (by kernel_rfl) (by simp) ?_
              refine AllReadyH.cons rfl (fun K hK => ?_) AllReadyH.nil
              go_simp
              go_wp2_with ((go_at_call 40; refine (reach_val s1 k1 r1 _ HR1 p3 p4).mono ?_; rintro e w2 ⟨rfl, hb2⟩))
              refine hK.out _ _ ?_ (fun hHeld => ?_)
              · refine ⟨?_, ?_, ?_, ?_⟩ <;> exact cell_later hb2 (by simp [*])
              clear hK K
              refine wpAnyH_take (i := 18) (oi := { dst := some 95, op := Op.binOp BinOp.geq 3 (Operand.tmp 92) (Operand.tmp 94) 3, type := 4, pos := _, after := #[{ on := 15, ground := Ground.data }, { on := 17, ground := Ground.data }, { on := 13, ground := Ground.guard }], guard := some (13, false) }) (v := ?v0x18) rfl (by kernel_rfl) (by kernel_rfl) (by kernel_rfl) (fun _ _ _ h => h) (Or.inl ⟨by rfl, ?h0x18⟩) (by assumption) ?_
              case h0x18 => (intro w hSw; (try dsimp only at hSw); go_simp; try with_reducible rfl)
              try simp only [Act.put, List.setIfInBounds_toArray, List.set_cons_zero, List.set_cons_succ]
              refine wpAnyH_take (i := 19) (oi := { dst := some 96, op := Op.pick (Operand.tmp 90) (Operand.const (Value.bool true)) (Operand.tmp 95), type := 4, pos := _, after := #[{ on := 13, ground := Ground.data }, { on := 18, ground := Ground.data }], guard := none }) (v := ?v0x19) rfl (by kernel_rfl) (by kernel_rfl) (by kernel_rfl) (fun _ _ _ h => h) (Or.inl ⟨by rfl, ?h0x19⟩) (by assumption) ?_
              case h0x19 => (intro w hSw; (try dsimp only at hSw); go_simp; try with_reducible rfl)
              try simp only [Act.put, List.setIfInBounds_toArray, List.set_cons_zero, List.set_cons_succ]
              refine wpAnyH_take (i := 20) (oi := { dst := some 97, op := Op.move (Operand.tmp 96), type := 4, pos := _, after := #[{ on := 19, ground := Ground.data }, { on := 17, ground := Ground.chain }], guard := none }) (v := ?v0x20) rfl (by kernel_rfl) (by kernel_rfl) (by kernel_rfl) (fun _ _ _ h => h) (Or.inl ⟨by rfl, ?h0x20⟩) (by assumption) ?_
              case h0x20 => (intro w hSw; (try dsimp only at hSw); go_simp; try with_reducible rfl)
              try simp only [Act.put, List.setIfInBounds_toArray, List.set_cons_zero, List.set_cons_succ]
              refine wpAnyH_take (i := 21) (oi := { dst := some 98, op := Op.fieldAddr 37 (Operand.tmp 11) 1, type := 0, pos := _, after := #[{ on := 20, ground := Ground.guard }], guard := some (20, false) }) (v := undef) rfl (by kernel_rfl) (by kernel_rfl) (by kernel_rfl) (fun _ _ _ h => h) (Or.inr ⟨by rfl, rfl⟩) (by assumption) ?_
              try simp only [Act.put, List.setIfInBounds_toArray, List.set_cons_zero, List.set_cons_succ]
              refine wpAnyH_take (i := 22) (oi := { dst := some 99, op := Op.load 3 (Operand.tmp 98), type := 3, pos := _, after := #[{ on := 21, ground := Ground.data }, { on := 20, ground := Ground.guard }], guard := some (20, false) }) (v := undef) rfl (by kernel_rfl) (by kernel_rfl) (by kernel_rfl) (fun _ _ _ h => h) (Or.inr ⟨by rfl, rfl⟩) (by assumption) ?_
              try simp only [Act.put, List.setIfInBounds_toArray, List.set_cons_zero, List.set_cons_succ]
              refine wpAnyH_take (i := 23) (oi := { dst := some 100, op := Op.fieldAddr 37 (Operand.tmp 12) 0, type := 0, pos := _, after := #[{ on := 20, ground := Ground.guard }], guard := some (20, false) }) (v := undef) rfl (by kernel_rfl) (by kernel_rfl) (by kernel_rfl) (fun _ _ _ h => h) (Or.inr ⟨by rfl, rfl⟩) (by assumption) ?_
              try simp only [Act.put, List.setIfInBounds_toArray, List.set_cons_zero, List.set_cons_succ]
              refine wpAnyH_take (i := 24) (oi := { dst := some 101, op := Op.load 3 (Operand.tmp 100), type := 3, pos := _, after := #[{ on := 23, ground := Ground.data }, { on := 20, ground := Ground.guard }], guard := some (20, false) }) (v := undef) rfl (by kernel_rfl) (by kernel_rfl) (by kernel_rfl) (fun _ _ _ h => h) (Or.inr ⟨by rfl, rfl⟩) (by assumption) ?_
              try simp only [Act.put, List.setIfInBounds_toArray, List.set_cons_zero, List.set_cons_succ]
              refine wpAnyH_take (i := 25) (oi := { dst := some 102, op := Op.fieldAddr 37 (Operand.tmp 11) 0, type := 0, pos := _, after := #[{ on := 20, ground := Ground.guard }], guard := some (20, false) }) (v := undef) rfl (by kernel_rfl) (by kernel_rfl) (by kernel_rfl) (fun _ _ _ h => h) (Or.inr ⟨by rfl, rfl⟩) (by assumption) ?_
              try simp only [Act.put, List.setIfInBounds_toArray, List.set_cons_zero, List.set_cons_succ]
              refine wpAnyH_take (i := 26) (oi := { dst := some 103, op := Op.load 3 (Operand.tmp 102), type := 3, pos := _, after := #[{ on := 25, ground := Ground.data }, { on := 20, ground := Ground.guard }], guard := some (20, false) }) (v := undef) rfl (by kernel_rfl) (by kernel_rfl) (by kernel_rfl) (fun _ _ _ h => h) (Or.inr ⟨by rfl, rfl⟩) (by assumption) ?_
              try simp only [Act.put, List.setIfInBounds_toArray, List.set_cons_zero, List.set_cons_succ]
              refine wpAnyH_take (i := 27) (oi := { dst := some 104, op := Op.binOp BinOp.quo 3 (Operand.tmp 101) (Operand.tmp 103) 3, type := 3, pos := _, after := #[{ on := 24, ground := Ground.data }, { on := 26, ground := Ground.data }, { on := 20, ground := Ground.guard }], guard := some (20, false) }) (v := undef) rfl (by kernel_rfl) (by kernel_rfl) (by kernel_rfl) (fun _ _ _ h => h) (Or.inr ⟨by rfl, rfl⟩) (by assumption) ?_
              try simp only [Act.put, List.setIfInBounds_toArray, List.set_cons_zero, List.set_cons_succ]
              refine wpAnyH_take (i := 28) (oi := { dst := some 105, op := Op.binOp BinOp.lss 3 (Operand.tmp 99) (Operand.tmp 104) 3, type := 4, pos := _, after := #[{ on := 22, ground := Ground.data }, { on := 27, ground := Ground.data }, { on := 20, ground := Ground.guard }], guard := some (20, false) }) (v := undef) rfl (by kernel_rfl) (by kernel_rfl) (by kernel_rfl) (fun _ _ _ h => h) (Or.inr ⟨by rfl, rfl⟩) (by assumption) ?_
              try simp only [Act.put, List.setIfInBounds_toArray, List.set_cons_zero, List.set_cons_succ]
              refine wpAnyH_take (i := 29) (oi := { dst := some 106, op := Op.pick (Operand.tmp 97) (Operand.const (Value.bool true)) (Operand.tmp 105), type := 4, pos := _, after := #[{ on := 20, ground := Ground.data }, { on := 28, ground := Ground.data }], guard := none }) (v := ?v0x29) rfl (by kernel_rfl) (by kernel_rfl) (by kernel_rfl) (fun _ _ _ h => h) (Or.inl ⟨by rfl, ?h0x29⟩) (by assumption) ?_
              case h0x29 => (intro w hSw; (try dsimp only at hSw); go_simp; try with_reducible rfl)
              try simp only [Act.put, List.setIfInBounds_toArray, List.set_cons_zero, List.set_cons_succ]
              refine wpAnyH_done (by kernel_rfl) ?_ _
              go_wp2
              go_ret
              exact ⟨ret_int HE.out.symm, below_fin (below_two HBR.out hb1 hb2)⟩
            · have HG := hid (show s1 / s0 ≤ k0 → c.Ft 0 from fun h => HF.out.2 ⟨by omega, t2, by omega, h⟩)
              have HN := hid (show ¬ s1 / s0 ≤ k0 → c.err = 2 from fun h => c.not_ok_ft (j := 0) (by omega) (fun x => h (HF.out.1 x).2.2.2))
              have n2 : ¬ s0 = 0 := by omega
              have m1 : s1.tmod s0 = s1 % s0 := IntWalk.rem_in _ _ (by omega)
              have m2 : IntKind.i64.wrap (s1.tdiv s0) = s1 / s0 := IntWalk.i64_quo _ _ ⟨by omega, by omega, b1⟩
              have g1 : decide (s1 ≤ s0) = false := by simp; omega
              have g2 : (s1 % s0 != 0) = false := by simpa using t2
              have g3 : decide (r1 ≤ r0) = false := by simpa using t3
              clear t2 t3
              go_wp2_with fail
              refine wp_region_held_drew (S := (fun w' => w'.cell? ⟨wr.heap.size, 0, none⟩ = some (i64 s0) ∧ w'.cell? ⟨wr.heap.size, 1, none⟩ = some (i64 k0) ∧ w'.cell? ⟨wr.heap.size + 1, 0, none⟩ = some (i64 s1) ∧ w'.cell? ⟨wr.heap.size + 1, 1, none⟩ = some (i64 k1))) (by kernel_rfl) ?_ (fun hHeld => ?_)
              · go_keep
              refine wpAnyH_take (i := 0) (oi := { dst := some 77, op := Op.fieldAddr 37 (Operand.tmp 11) 0, type := 0, pos := _, after := #[], guard := none }) (v := ?v1x0) rfl (by kernel_rfl) (by kernel_rfl) (by kernel_rfl) (fun _ _ _ h => h) (Or.inl ⟨by rfl, ?h1x0⟩) (by assumption) ?_
              case h1x0 => (intro w hSw; (try dsimp only at hSw); go_simp; try with_reducible rfl)
              try simp only [Act.put, List.setIfInBounds_toArray, List.set_cons_zero, List.set_cons_succ]
              refine wpAnyH_take (i := 1) (oi := { dst := some 78, op := Op.load 3 (Operand.tmp 77), type := 3, pos := _, after := #[{ on := 0, ground := Ground.data }], guard := none }) (v := ?v1x1) rfl (by kernel_rfl) (by kernel_rfl) (by kernel_rfl) (fun _ _ _ h => h) (Or.inl ⟨by rfl, ?h1x1⟩) (by assumption) ?_
              case h1x1 => (intro w hSw; (try dsimp only at hSw); go_simp; try with_reducible rfl)
              try simp only [Act.put, List.setIfInBounds_toArray, List.set_cons_zero, List.set_cons_succ]
              refine wpAnyH_take (i := 2) (oi := { dst := some 79, op := Op.fieldAddr 37 (Operand.tmp 12) 0, type := 0, pos := _, after := #[], guard := none }) (v := ?v1x2) rfl (by kernel_rfl) (by kernel_rfl) (by kernel_rfl) (fun _ _ _ h => h) (Or.inl ⟨by rfl, ?h1x2⟩) (by assumption) ?_
              case h1x2 => (intro w hSw; (try dsimp only at hSw); go_simp; try with_reducible rfl)
              try simp only [Act.put, List.setIfInBounds_toArray, List.set_cons_zero, List.set_cons_succ]
              refine wpAnyH_take (i := 3) (oi := { dst := some 80, op := Op.load 3 (Operand.tmp 79), type := 3, pos := _, after := #[{ on := 2, ground := Ground.data }], guard := none }) (v := ?v1x3) rfl (by kernel_rfl) (by kernel_rfl) (by kernel_rfl) (fun _ _ _ h => h) (Or.inl ⟨by rfl, ?h1x3⟩) (by assumption) ?_
              case h1x3 => (intro w hSw; (try dsimp only at hSw); go_simp; try with_reducible rfl)
              try simp only [Act.put, List.setIfInBounds_toArray, List.set_cons_zero, List.set_cons_succ]
              refine wpAnyH_take (i := 4) (oi := { dst := some 81, op := Op.binOp BinOp.geq 3 (Operand.tmp 78) (Operand.tmp 80) 3, type := 4, pos := _, after := #[{ on := 1, ground := Ground.data }, { on := 3, ground := Ground.data }], guard := none }) (v := ?v1x4) rfl (by kernel_rfl) (by kernel_rfl) (by kernel_rfl) (fun _ _ _ h => h) (Or.inl ⟨by rfl, ?h1x4⟩) (by assumption) ?_
              case h1x4 => (intro w hSw; (try dsimp only at hSw); go_simp; try with_reducible rfl)
              try simp only [Act.put, List.setIfInBounds_toArray, List.set_cons_zero, List.set_cons_succ]
              refine wpAnyH_take (i := 5) (oi := { dst := some 82, op := Op.move (Operand.tmp 81), type := 4, pos := _, after := #[{ on := 4, ground := Ground.data }], guard := none }) (v := ?v1x5) rfl (by kernel_rfl) (by kernel_rfl) (by kernel_rfl) (fun _ _ _ h => h) (Or.inl ⟨by rfl, ?h1x5⟩) (by assumption) ?_
              case h1x5 => (intro w hSw; (try dsimp only at hSw); go_simp; try with_reducible rfl)
              try simp only [Act.put, List.setIfInBounds_toArray, List.set_cons_zero, List.set_cons_succ]
              refine wpAnyH_take (i := 6) (oi := { dst := some 83, op := Op.fieldAddr 37 (Operand.tmp 12) 0, type := 0, pos := _, after := #[{ on := 5, ground := Ground.guard }], guard := some (5, false) }) (v := ?v1x6) rfl (by kernel_rfl) (by kernel_rfl) (by kernel_rfl) (fun _ _ _ h => h) (Or.inl ⟨by rfl, ?h1x6⟩) (by assumption) ?_
              case h1x6 => (intro w hSw; (try dsimp only at hSw); go_simp; try with_reducible rfl)
              try simp only [Act.put, List.setIfInBounds_toArray, List.set_cons_zero, List.set_cons_succ]
              refine wpAnyH_take (i := 7) (oi := { dst := some 84, op := Op.load 3 (Operand.tmp 83), type := 3, pos := _, after := #[{ on := 6, ground := Ground.data }, { on := 5, ground := Ground.guard }], guard := some (5, false) }) (v := ?v1x7) rfl (by kernel_rfl) (by kernel_rfl) (by kernel_rfl) (fun _ _ _ h => h) (Or.inl ⟨by rfl, ?h1x7⟩) (by assumption) ?_
              case h1x7 => (intro w hSw; (try dsimp only at hSw); go_simp; try with_reducible rfl)
              try simp only [Act.put, List.setIfInBounds_toArray, List.set_cons_zero, List.set_cons_succ]
              refine wpAnyH_take (i := 8) (oi := { dst := some 85, op := Op.fieldAddr 37 (Operand.tmp 11) 0, type := 0, pos := _, after := #[{ on := 5, ground := Ground.guard }], guard := some (5, false) }) (v := ?v1x8) rfl (by kernel_rfl) (by kernel_rfl) (by kernel_rfl) (fun _ _ _ h => h) (Or.inl ⟨by rfl, ?h1x8⟩) (by assumption) ?_
              case h1x8 => (intro w hSw; (try dsimp only at hSw); go_simp; try with_reducible rfl)
              try simp only [Act.put, List.setIfInBounds_toArray, List.set_cons_zero, List.set_cons_succ]
              refine wpAnyH_take (i := 9) (oi := { dst := some 86, op := Op.load 3 (Operand.tmp 85), type := 3, pos := _, after := #[{ on := 8, ground := Ground.data }, { on := 5, ground := Ground.guard }], guard := some (5, false) }) (v := ?v1x9) rfl (by kernel_rfl) (by kernel_rfl) (by kernel_rfl) (fun _ _ _ h => h) (Or.inl ⟨by rfl, ?h1x9⟩) (by assumption) ?_
              case h1x9 => (intro w hSw; (try dsimp only at hSw); go_simp; try with_reducible rfl)
              try simp only [Act.put, List.setIfInBounds_toArray, List.set_cons_zero, List.set_cons_succ]
              refine wpAnyH_take (i := 10) (oi := { dst := some 87, op := Op.binOp BinOp.rem 3 (Operand.tmp 84) (Operand.tmp 86) 3, type := 3, pos := _, after := #[{ on := 7, ground := Ground.data }, { on := 9, ground := Ground.data }, { on := 5, ground := Ground.guard }], guard := some (5, false) }) (v := ?v1x10) rfl (by kernel_rfl) (by kernel_rfl) (by kernel_rfl) (fun _ _ _ h => h) (Or.inl ⟨by rfl, ?h1x10⟩) (by assumption) ?_
              case h1x10 => (intro w hSw; (try dsimp only at hSw); go_simp; try with_reducible rfl)
              try simp only [Act.put, List.setIfInBounds_toArray, List.set_cons_zero, List.set_cons_succ]
              refine wpAnyH_take (i := 11) (oi := { dst := some 88, op := Op.binOp BinOp.neq 3 (Operand.tmp 87) (Operand.const (Value.int IntKind.i64 0)) 3, type := 4, pos := _, after := #[{ on := 10, ground := Ground.data }, { on := 5, ground := Ground.guard }], guard := some (5, false) }) (v := ?v1x11) rfl (by kernel_rfl) (by kernel_rfl) (by kernel_rfl) (fun _ _ _ h => h) (Or.inl ⟨by rfl, ?h1x11⟩) (by assumption) ?_
              case h1x11 => (intro w hSw; (try dsimp only at hSw); go_simp; try with_reducible rfl)
              try simp only [Act.put, List.setIfInBounds_toArray, List.set_cons_zero, List.set_cons_succ]
              refine wpAnyH_take (i := 12) (oi := { dst := some 89, op := Op.pick (Operand.tmp 82) (Operand.const (Value.bool true)) (Operand.tmp 88), type := 4, pos := _, after := #[{ on := 5, ground := Ground.data }, { on := 11, ground := Ground.data }], guard := none }) (v := ?v1x12) rfl (by kernel_rfl) (by kernel_rfl) (by kernel_rfl) (fun _ _ _ h => h) (Or.inl ⟨by rfl, ?h1x12⟩) (by assumption) ?_
              case h1x12 => (intro w hSw; (try dsimp only at hSw); go_simp; try with_reducible rfl)
              try simp only [Act.put, List.setIfInBounds_toArray, List.set_cons_zero, List.set_cons_succ]
              refine wpAnyH_take (i := 13) (oi := { dst := some 90, op := Op.move (Operand.tmp 89), type := 4, pos := _, after := #[{ on := 12, ground := Ground.data }, { on := 5, ground := Ground.chain }], guard := none }) (v := ?v1x13) rfl (by kernel_rfl) (by kernel_rfl) (by kernel_rfl) (fun _ _ _ h => h) (Or.inl ⟨by rfl, ?h1x13⟩) (by assumption) ?_
              case h1x13 => (intro w hSw; (try dsimp only at hSw); go_simp; try with_reducible rfl)
              try simp only [Act.put, List.setIfInBounds_toArray, List.set_cons_zero, List.set_cons_succ]
              refine wpAnyH_take (i := 14) (oi := { dst := some 91, op := Op.load 37 (Operand.tmp 11), type := 37, pos := _, after := #[{ on := 13, ground := Ground.guard }], guard := some (13, false) }) (v := ?v1x14) rfl (by kernel_rfl) (by kernel_rfl) (by kernel_rfl) (fun _ _ _ h => h) (Or.inl ⟨by rfl, ?h1x14⟩) (by assumption) ?_
              case h1x14 => (intro w hSw; (try dsimp only at hSw); go_simp; try with_reducible rfl)
              try simp only [Act.put, List.setIfInBounds_toArray, List.set_cons_zero, List.set_cons_succ]
              refine wpAnyH_take (i := 16) (oi := { dst := some 93, op := Op.load 37 (Operand.tmp 12), type := 37, pos := _, after := #[{ on := 13, ground := Ground.guard }], guard := some (13, false) }) (v := ?v1x16) rfl (by kernel_rfl) (by kernel_rfl) (by kernel_rfl) (fun _ _ _ h => h) (Or.inl ⟨by rfl, ?h1x16⟩) (by assumption) ?_
              case h1x16 => (intro w hSw; (try dsimp only at hSw); go_simp; try with_reducible rfl)
              try simp only [Act.put, List.setIfInBounds_toArray, List.set_cons_zero, List.set_cons_succ]
              refine wpAnyH_ready (rs := [15]) (by kernel_rfl) (by simp) ?_
              refine AllReadyH.cons rfl (fun K hK => ?_) AllReadyH.nil
              go_simp
              go_wp2_with ((go_at_call 40; refine (reach_val s0 k0 r0 _ HR0 p1 p2).mono ?_; rintro e w1 ⟨rfl, hb1⟩))
              refine hK.out _ _ ?_ (fun hHeld => ?_)
              · refine ⟨?_, ?_, ?_, ?_⟩ <;> exact cell_later hb1 (by simp [*])
              clear hK K
              refine wpAnyH_ready (rs := [17]) (by kernel_rfl) (by simp) ?_
              refine AllReadyH.cons rfl (fun K hK => ?_) AllReadyH.nil
              go_simp
              go_wp2_with ((go_at_call 40; refine (reach_val s1 k1 r1 _ HR1 p3 p4).mono ?_; rintro e w2 ⟨rfl, hb2⟩))
              refine hK.out _ _ ?_ (fun hHeld => ?_)
              · refine ⟨?_, ?_, ?_, ?_⟩ <;> exact cell_later hb2 (by simp [*])
              clear hK K
              refine wpAnyH_take (i := 18) (oi := { dst := some 95, op := Op.binOp BinOp.geq 3 (Operand.tmp 92) (Operand.tmp 94) 3, type := 4, pos := _, after := #[{ on := 15, ground := Ground.data }, { on := 17, ground := Ground.data }, { on := 13, ground := Ground.guard }], guard := some (13, false) }) (v := ?v1x18) rfl (by kernel_rfl) (by kernel_rfl) (by kernel_rfl) (fun _ _ _ h => h) (Or.inl ⟨by rfl, ?h1x18⟩) (by assumption) ?_
              case h1x18 => (intro w hSw; (try dsimp only at hSw); go_simp; try with_reducible rfl)
              try simp only [Act.put, List.setIfInBounds_toArray, List.set_cons_zero, List.set_cons_succ]
              refine wpAnyH_take (i := 19) (oi := { dst := some 96, op := Op.pick (Operand.tmp 90) (Operand.const (Value.bool true)) (Operand.tmp 95), type := 4, pos := _, after := #[{ on := 13, ground := Ground.data }, { on := 18, ground := Ground.data }], guard := none }) (v := ?v1x19) rfl (by kernel_rfl) (by kernel_rfl) (by kernel_rfl) (fun _ _ _ h => h) (Or.inl ⟨by rfl, ?h1x19⟩) (by assumption) ?_
              case h1x19 => (intro w hSw; (try dsimp only at hSw); go_simp; try with_reducible rfl)
              try simp only [Act.put, List.setIfInBounds_toArray, List.set_cons_zero, List.set_cons_succ]
              refine wpAnyH_take (i := 20) (oi := { dst := some 97, op := Op.move (Operand.tmp 96), type := 4, pos := _, after := #[{ on := 19, ground := Ground.data }, { on := 17, ground := Ground.chain }], guard := none }) (v := ?v1x20) rfl (by kernel_rfl) (by kernel_rfl) (by kernel_rfl) (fun _ _ _ h => h) (Or.inl ⟨by rfl, ?h1x20⟩) (by assumption) ?_
              case h1x20 => (intro w hSw; (try dsimp only at hSw); go_simp; try with_reducible rfl)
              try simp only [Act.put, List.setIfInBounds_toArray, List.set_cons_zero, List.set_cons_succ]
              refine wpAnyH_take (i := 21) (oi := { dst := some 98, op := Op.fieldAddr 37 (Operand.tmp 11) 1, type := 0, pos := _, after := #[{ on := 20, ground := Ground.guard }], guard := some (20, false) }) (v := ?v1x21) rfl (by kernel_rfl) (by kernel_rfl) (by kernel_rfl) (fun _ _ _ h => h) (Or.inl ⟨by rfl, ?h1x21⟩) (by assumption) ?_
              case h1x21 => (intro w hSw; (try dsimp only at hSw); go_simp; try with_reducible rfl)
              try simp only [Act.put, List.setIfInBounds_toArray, List.set_cons_zero, List.set_cons_succ]
              refine wpAnyH_take (i := 22) (oi := { dst := some 99, op := Op.load 3 (Operand.tmp 98), type := 3, pos := _, after := #[{ on := 21, ground := Ground.data }, { on := 20, ground := Ground.guard }], guard := some (20, false) }) (v := ?v1x22) rfl (by kernel_rfl) (by kernel_rfl) (by kernel_rfl) (fun _ _ _ h => h) (Or.inl ⟨by rfl, ?h1x22⟩) (by assumption) ?_
              case h1x22 => (intro w hSw; (try dsimp only at hSw); go_simp; try with_reducible rfl)
              try simp only [Act.put, List.setIfInBounds_toArray, List.set_cons_zero, List.set_cons_succ]
              refine wpAnyH_take (i := 23) (oi := { dst := some 100, op := Op.fieldAddr 37 (Operand.tmp 12) 0, type := 0, pos := _, after := #[{ on := 20, ground := Ground.guard }], guard := some (20, false) }) (v := ?v1x23) rfl (by kernel_rfl) (by kernel_rfl) (by kernel_rfl) (fun _ _ _ h => h) (Or.inl ⟨by rfl, ?h1x23⟩) (by assumption) ?_
              case h1x23 => (intro w hSw; (try dsimp only at hSw); go_simp; try with_reducible rfl)
              try simp only [Act.put, List.setIfInBounds_toArray, List.set_cons_zero, List.set_cons_succ]
              refine wpAnyH_take (i := 24) (oi := { dst := some 101, op := Op.load 3 (Operand.tmp 100), type := 3, pos := _, after := #[{ on := 23, ground := Ground.data }, { on := 20, ground := Ground.guard }], guard := some (20, false) }) (v := ?v1x24) rfl (by kernel_rfl) (by kernel_rfl) (by kernel_rfl) (fun _ _ _ h => h) (Or.inl ⟨by rfl, ?h1x24⟩) (by assumption) ?_
              case h1x24 => (intro w hSw; (try dsimp only at hSw); go_simp; try with_reducible rfl)
              try simp only [Act.put, List.setIfInBounds_toArray, List.set_cons_zero, List.set_cons_succ]
              refine wpAnyH_take (i := 25) (oi := { dst := some 102, op := Op.fieldAddr 37 (Operand.tmp 11) 0, type := 0, pos := _, after := #[{ on := 20, ground := Ground.guard }], guard := some (20, false) }) (v := ?v1x25) rfl (by kernel_rfl) (by kernel_rfl) (by kernel_rfl) (fun _ _ _ h => h) (Or.inl ⟨by rfl, ?h1x25⟩) (by assumption) ?_
              case h1x25 => (intro w hSw; (try dsimp only at hSw); go_simp; try with_reducible rfl)
              try simp only [Act.put, List.setIfInBounds_toArray, List.set_cons_zero, List.set_cons_succ]
              refine wpAnyH_take (i := 26) (oi := { dst := some 103, op := Op.load 3 (Operand.tmp 102), type := 3, pos := _, after := #[{ on := 25, ground := Ground.data }, { on := 20, ground := Ground.guard }], guard := some (20, false) }) (v := ?v1x26) rfl (by kernel_rfl) (by kernel_rfl) (by kernel_rfl) (fun _ _ _ h => h) (Or.inl ⟨by rfl, ?h1x26⟩) (by assumption) ?_
              case h1x26 => (intro w hSw; (try dsimp only at hSw); go_simp; try with_reducible rfl)
              try simp only [Act.put, List.setIfInBounds_toArray, List.set_cons_zero, List.set_cons_succ]
              refine wpAnyH_take (i := 27) (oi := { dst := some 104, op := Op.binOp BinOp.quo 3 (Operand.tmp 101) (Operand.tmp 103) 3, type := 3, pos := _, after := #[{ on := 24, ground := Ground.data }, { on := 26, ground := Ground.data }, { on := 20, ground := Ground.guard }], guard := some (20, false) }) (v := ?v1x27) rfl (by kernel_rfl) (by kernel_rfl) (by kernel_rfl) (fun _ _ _ h => h) (Or.inl ⟨by rfl, ?h1x27⟩) (by assumption) ?_
              case h1x27 => (intro w hSw; (try dsimp only at hSw); go_simp; try with_reducible rfl)
              try simp only [Act.put, List.setIfInBounds_toArray, List.set_cons_zero, List.set_cons_succ]
              refine wpAnyH_take (i := 28) (oi := { dst := some 105, op := Op.binOp BinOp.lss 3 (Operand.tmp 99) (Operand.tmp 104) 3, type := 4, pos := _, after := #[{ on := 22, ground := Ground.data }, { on := 27, ground := Ground.data }, { on := 20, ground := Ground.guard }], guard := some (20, false) }) (v := ?v1x28) rfl (by kernel_rfl) (by kernel_rfl) (by kernel_rfl) (fun _ _ _ h => h) (Or.inl ⟨by rfl, ?h1x28⟩) (by assumption) ?_
              case h1x28 => (intro w hSw; (try dsimp only at hSw); go_simp; try with_reducible rfl)
              try simp only [Act.put, List.setIfInBounds_toArray, List.set_cons_zero, List.set_cons_succ]
              refine wpAnyH_take (i := 29) (oi := { dst := some 106, op := Op.pick (Operand.tmp 97) (Operand.const (Value.bool true)) (Operand.tmp 105), type := 4, pos := _, after := #[{ on := 20, ground := Ground.data }, { on := 28, ground := Ground.data }], guard := none }) (v := ?v1x29) rfl (by kernel_rfl) (by kernel_rfl) (by kernel_rfl) (fun _ _ _ h => h) (Or.inl ⟨by rfl, ?h1x29⟩) (by assumption) ?_
              case h1x29 => (intro w hSw; (try dsimp only at hSw); go_simp; try with_reducible rfl)
              try simp only [Act.put, List.setIfInBounds_toArray, List.set_cons_zero, List.set_cons_succ]
              refine wpAnyH_done (by kernel_rfl) ?_ _
              go_wp2
              · go_ret
                exact ⟨ret_int (HN.out (by omega)).symm, below_fin (below_two HBR.out hb1 hb2)⟩
              · go_roundw
                case rel => first | exact ⟨1, by omega, rfl, c.twos_succ HT.out (fun _ => HG.out (by assumption)), below_two HBR.out hb1 hb2⟩ | ((repeat apply Exists.intro); exact ⟨⟨1, by omega, rfl, c.twos_succ HT.out (fun _ => HG.out (by assumption)), below_two HBR.out hb1 hb2⟩, rfl⟩)
                case measure => simp [intOf]
          · have HB0 := hid (HO3.out 1 (by omega))
            have HB1 := hid (HO3.out 2 (by omega))
            obtain ⟨b1, b2, b3, b4⟩ := ((bd_at1 HC.out).1 HB0.out)
            obtain ⟨e1, e2, e3, e4⟩ := ((bd_at2 HC.out).1 HB1.out)
            obtain ⟨p1, p2⟩ := (prod_at1 HC.out HB0.out)
            obtain ⟨p3, p4⟩ := (prod_at2 HC.out HB1.out)
            have HF := hid (show c.Ft 1 ↔ (s1 < s2 ∧ s2 % s1 = 0 ∧ s1 * k1 < s2 * k2 ∧ s2 / s1 ≤ k1) from ft_at1 HC.out)
            obtain ⟨r0, hr0⟩ : ∃ r, r = s1 * k1 := ⟨_, rfl⟩
            obtain ⟨r1, hr1⟩ : ∃ r, r = s2 * k2 := ⟨_, rfl⟩
            rw [← hr0] at p1 p2 HF
            rw [← hr1] at p3 p4 HF
            have HR0 := hid hr0
            have HR1 := hid hr1
            clear hr0 hr1
            by_cases t1 : s2 ≤ s1
            · have HE := hid (c.not_ok_ft (j := 1) (by omega) (fun h => absurd (HF.out.1 h).1 (by omega)))
              have g1 : decide (s2 ≤ s1) = true := by simp; omega
              go_wp2_with fail
              go_quiet (fail)
              go_wp2
              go_ret
              exact ⟨ret_int HE.out.symm, below_quiet _ HBR.out⟩
            by_cases t2 : s2 % s1 = 0
            case neg =>
              have HE := hid (c.not_ok_ft (j := 1) (by omega) (fun h => t2 (HF.out.1 h).2.1))
              have n2 : ¬ s1 = 0 := by omega
              have m1 : s2.tmod s1 = s2 % s1 := IntWalk.rem_in _ _ (by omega)
              have m2 : IntKind.i64.wrap (s2.tdiv s1) = s2 / s1 := IntWalk.i64_quo _ _ ⟨by omega, by omega, b1⟩
              have g1 : decide (s2 ≤ s1) = false := by simp; omega
              have g2 : (s2 % s1 != 0) = true := by simpa using t2
              go_wp2_with fail
              go_quiet (fail)
              go_wp2
              go_ret
              exact ⟨ret_int HE.out.symm, below_quiet _ HBR.out⟩
            by_cases t3 : r1 ≤ r0
            · have HE := hid (c.not_ok_ft (j := 1) (by omega) (fun h => absurd (HF.out.1 h).2.2.1 (by omega)))
              have n2 : ¬ s1 = 0 := by omega
              have m1 : s2.tmod s1 = s2 % s1 := IntWalk.rem_in _ _ (by omega)
              have m2 : IntKind.i64.wrap (s2.tdiv s1) = s2 / s1 := IntWalk.i64_quo _ _ ⟨by omega, by omega, b1⟩
              have g1 : decide (s2 ≤ s1) = false := by simp; omega
              have g2 : (s2 % s1 != 0) = false := by simpa using t2
              have g3 : decide (r1 ≤ r0) = true := by simpa using t3
              clear t2 t3
              go_wp2_with fail
              refine wp_region_held_drew (S := (fun w' => w'.cell? ⟨wr.heap.size, 0, none⟩ = some (i64 s1) ∧ w'.cell? ⟨wr.heap.size, 1, none⟩ = some (i64 k1) ∧ w'.cell? ⟨wr.heap.size + 1, 0, none⟩ = some (i64 s2) ∧ w'.cell? ⟨wr.heap.size + 1, 1, none⟩ = some (i64 k2))) (by kernel_rfl) ?_ (fun hHeld => ?_)
              · go_keep
              refine wpAnyH_take (i := 0) (oi := { dst := some 77, op := Op.fieldAddr 37 (Operand.tmp 11) 0, type := 0, pos := _, after := #[], guard := none }) (v := ?v2x0) rfl (by kernel_rfl) (by kernel_rfl) (by kernel_rfl) (fun _ _ _ h => h) (Or.inl ⟨by rfl, ?h2x0⟩) (by assumption) ?_
              case h2x0 => (intro w hSw; (try dsimp only at hSw); go_simp; try with_reducible rfl)
              try simp only [Act.put, List.setIfInBounds_toArray, List.set_cons_zero, List.set_cons_succ]
              refine wpAnyH_take (i := 1) (oi := { dst := some 78, op := Op.load 3 (Operand.tmp 77), type := 3, pos := _, after := #[{ on := 0, ground := Ground.data }], guard := none }) (v := ?v2x1) rfl (by kernel_rfl) (by kernel_rfl) (by kernel_rfl) (fun _ _ _ h => h) (Or.inl ⟨by rfl, ?h2x1⟩) (by assumption) ?_
              case h2x1 => (intro w hSw; (try dsimp only at hSw); go_simp; try with_reducible rfl)
              try simp only [Act.put, List.setIfInBounds_toArray, List.set_cons_zero, List.set_cons_succ]
              refine wpAnyH_take (i := 2) (oi := { dst := some 79, op := Op.fieldAddr 37 (Operand.tmp 12) 0, type := 0, pos := _, after := #[], guard := none }) (v := ?v2x2) rfl (by kernel_rfl) (by kernel_rfl) (by kernel_rfl) (fun _ _ _ h => h) (Or.inl ⟨by rfl, ?h2x2⟩) (by assumption) ?_
              case h2x2 => (intro w hSw; (try dsimp only at hSw); go_simp; try with_reducible rfl)
              try simp only [Act.put, List.setIfInBounds_toArray, List.set_cons_zero, List.set_cons_succ]
              refine wpAnyH_take (i := 3) (oi := { dst := some 80, op := Op.load 3 (Operand.tmp 79), type := 3, pos := _, after := #[{ on := 2, ground := Ground.data }], guard := none }) (v := ?v2x3) rfl (by kernel_rfl) (by kernel_rfl) (by kernel_rfl) (fun _ _ _ h => h) (Or.inl ⟨by rfl, ?h2x3⟩) (by assumption) ?_
              case h2x3 => (intro w hSw; (try dsimp only at hSw); go_simp; try with_reducible rfl)
              try simp only [Act.put, List.setIfInBounds_toArray, List.set_cons_zero, List.set_cons_succ]
              refine wpAnyH_take (i := 4) (oi := { dst := some 81, op := Op.binOp BinOp.geq 3 (Operand.tmp 78) (Operand.tmp 80) 3, type := 4, pos := _, after := #[{ on := 1, ground := Ground.data }, { on := 3, ground := Ground.data }], guard := none }) (v := ?v2x4) rfl (by kernel_rfl) (by kernel_rfl) (by kernel_rfl) (fun _ _ _ h => h) (Or.inl ⟨by rfl, ?h2x4⟩) (by assumption) ?_
              case h2x4 => (intro w hSw; (try dsimp only at hSw); go_simp; try with_reducible rfl)
              try simp only [Act.put, List.setIfInBounds_toArray, List.set_cons_zero, List.set_cons_succ]
              refine wpAnyH_take (i := 5) (oi := { dst := some 82, op := Op.move (Operand.tmp 81), type := 4, pos := _, after := #[{ on := 4, ground := Ground.data }], guard := none }) (v := ?v2x5) rfl (by kernel_rfl) (by kernel_rfl) (by kernel_rfl) (fun _ _ _ h => h) (Or.inl ⟨by rfl, ?h2x5⟩) (by assumption) ?_
              case h2x5 => (intro w hSw; (try dsimp only at hSw); go_simp; try with_reducible rfl)
              try simp only [Act.put, List.setIfInBounds_toArray, List.set_cons_zero, List.set_cons_succ]
              refine wpAnyH_take (i := 6) (oi := { dst := some 83, op := Op.fieldAddr 37 (Operand.tmp 12) 0, type := 0, pos := _, after := #[{ on := 5, ground := Ground.guard }], guard := some (5, false) }) (v := ?v2x6) rfl (by kernel_rfl) (by kernel_rfl) (by kernel_rfl) (fun _ _ _ h => h) (Or.inl ⟨by rfl, ?h2x6⟩) (by assumption) ?_
              case h2x6 => (intro w hSw; (try dsimp only at hSw); go_simp; try with_reducible rfl)
              try simp only [Act.put, List.setIfInBounds_toArray, List.set_cons_zero, List.set_cons_succ]
              refine wpAnyH_take (i := 7) (oi := { dst := some 84, op := Op.load 3 (Operand.tmp 83), type := 3, pos := _, after := #[{ on := 6, ground := Ground.data }, { on := 5, ground := Ground.guard }], guard := some (5, false) }) (v := ?v2x7) rfl (by kernel_rfl) (by kernel_rfl) (by kernel_rfl) (fun _ _ _ h => h) (Or.inl ⟨by rfl, ?h2x7⟩) (by assumption) ?_
              case h2x7 => (intro w hSw; (try dsimp only at hSw); go_simp; try with_reducible rfl)
              try simp only [Act.put, List.setIfInBounds_toArray, List.set_cons_zero, List.set_cons_succ]
              refine wpAnyH_take (i := 8) (oi := { dst := some 85, op := Op.fieldAddr 37 (Operand.tmp 11) 0, type := 0, pos := _, after := #[{ on := 5, ground := Ground.guard }], guard := some (5, false) }) (v := ?v2x8) rfl (by kernel_rfl) (by kernel_rfl) (by kernel_rfl) (fun _ _ _ h => h) (Or.inl ⟨by rfl, ?h2x8⟩) (by assumption) ?_
              case h2x8 => (intro w hSw; (try dsimp only at hSw); go_simp; try with_reducible rfl)
              try simp only [Act.put, List.setIfInBounds_toArray, List.set_cons_zero, List.set_cons_succ]
              refine wpAnyH_take (i := 9) (oi := { dst := some 86, op := Op.load 3 (Operand.tmp 85), type := 3, pos := _, after := #[{ on := 8, ground := Ground.data }, { on := 5, ground := Ground.guard }], guard := some (5, false) }) (v := ?v2x9) rfl (by kernel_rfl) (by kernel_rfl) (by kernel_rfl) (fun _ _ _ h => h) (Or.inl ⟨by rfl, ?h2x9⟩) (by assumption) ?_
              case h2x9 => (intro w hSw; (try dsimp only at hSw); go_simp; try with_reducible rfl)
              try simp only [Act.put, List.setIfInBounds_toArray, List.set_cons_zero, List.set_cons_succ]
              refine wpAnyH_take (i := 10) (oi := { dst := some 87, op := Op.binOp BinOp.rem 3 (Operand.tmp 84) (Operand.tmp 86) 3, type := 3, pos := _, after := #[{ on := 7, ground := Ground.data }, { on := 9, ground := Ground.data }, { on := 5, ground := Ground.guard }], guard := some (5, false) }) (v := ?v2x10) rfl (by kernel_rfl) (by kernel_rfl) (by kernel_rfl) (fun _ _ _ h => h) (Or.inl ⟨by rfl, ?h2x10⟩) (by assumption) ?_
              case h2x10 => (intro w hSw; (try dsimp only at hSw); go_simp; try with_reducible rfl)
              try simp only [Act.put, List.setIfInBounds_toArray, List.set_cons_zero, List.set_cons_succ]
              refine wpAnyH_take (i := 11) (oi := { dst := some 88, op := Op.binOp BinOp.neq 3 (Operand.tmp 87) (Operand.const (Value.int IntKind.i64 0)) 3, type := 4, pos := _, after := #[{ on := 10, ground := Ground.data }, { on := 5, ground := Ground.guard }], guard := some (5, false) }) (v := ?v2x11) rfl (by kernel_rfl) (by kernel_rfl) (by kernel_rfl) (fun _ _ _ h => h) (Or.inl ⟨by rfl, ?h2x11⟩) (by assumption) ?_
              case h2x11 => (intro w hSw; (try dsimp only at hSw); go_simp; try with_reducible rfl)
              try simp only [Act.put, List.setIfInBounds_toArray, List.set_cons_zero, List.set_cons_succ]
              refine wpAnyH_take (i := 12) (oi := { dst := some 89, op := Op.pick (Operand.tmp 82) (Operand.const (Value.bool true)) (Operand.tmp 88), type := 4, pos := _, after := #[{ on := 5, ground := Ground.data }, { on := 11, ground := Ground.data }], guard := none }) (v := ?v2x12) rfl (by kernel_rfl) (by kernel_rfl) (by kernel_rfl) (fun _ _ _ h => h) (Or.inl ⟨by rfl, ?h2x12⟩) (by assumption) ?_
              case h2x12 => (intro w hSw; (try dsimp only at hSw); go_simp; try with_reducible rfl)
              try simp only [Act.put, List.setIfInBounds_toArray, List.set_cons_zero, List.set_cons_succ]
              refine wpAnyH_take (i := 13) (oi := { dst := some 90, op := Op.move (Operand.tmp 89), type := 4, pos := _, after := #[{ on := 12, ground := Ground.data }, { on := 5, ground := Ground.chain }], guard := none }) (v := ?v2x13) rfl (by kernel_rfl) (by kernel_rfl) (by kernel_rfl) (fun _ _ _ h => h) (Or.inl ⟨by rfl, ?h2x13⟩) (by assumption) ?_
              case h2x13 => (intro w hSw; (try dsimp only at hSw); go_simp; try with_reducible rfl)
              try simp only [Act.put, List.setIfInBounds_toArray, List.set_cons_zero, List.set_cons_succ]
              refine wpAnyH_take (i := 14) (oi := { dst := some 91, op := Op.load 37 (Operand.tmp 11), type := 37, pos := _, after := #[{ on := 13, ground := Ground.guard }], guard := some (13, false) }) (v := ?v2x14) rfl (by kernel_rfl) (by kernel_rfl) (by kernel_rfl) (fun _ _ _ h => h) (Or.inl ⟨by rfl, ?h2x14⟩) (by assumption) ?_
              case h2x14 => (intro w hSw; (try dsimp only at hSw); go_simp; try with_reducible rfl)
              try simp only [Act.put, List.setIfInBounds_toArray, List.set_cons_zero, List.set_cons_succ]
              refine wpAnyH_take (i := 16) (oi := { dst := some 93, op := Op.load 37 (Operand.tmp 12), type := 37, pos := _, after := #[{ on := 13, ground := Ground.guard }], guard := some (13, false) }) (v := ?v2x16) rfl (by kernel_rfl) (by kernel_rfl) (by kernel_rfl) (fun _ _ _ h => h) (Or.inl ⟨by rfl, ?h2x16⟩) (by assumption) ?_
              case h2x16 => (intro w hSw; (try dsimp only at hSw); go_simp; try with_reducible rfl)
              try simp only [Act.put, List.setIfInBounds_toArray, List.set_cons_zero, List.set_cons_succ]
              refine wpAnyH_ready (rs := [15]) (by kernel_rfl) (by simp) ?_
              refine AllReadyH.cons rfl (fun K hK => ?_) AllReadyH.nil
              go_simp
              go_wp2_with ((go_at_call 40; refine (reach_val s1 k1 r0 _ HR0 p1 p2).mono ?_; rintro e w1 ⟨rfl, hb1⟩))
              refine hK.out _ _ ?_ (fun hHeld => ?_)
              · refine ⟨?_, ?_, ?_, ?_⟩ <;> exact cell_later hb1 (by simp [*])
              clear hK K
              refine wpAnyH_ready (rs := [17]) (by kernel_rfl) (by simp) ?_
              refine AllReadyH.cons rfl (fun K hK => ?_) AllReadyH.nil
              go_simp
              go_wp2_with ((go_at_call 40; refine (reach_val s2 k2 r1 _ HR1 p3 p4).mono ?_; rintro e w2 ⟨rfl, hb2⟩))
              refine hK.out _ _ ?_ (fun hHeld => ?_)
              · refine ⟨?_, ?_, ?_, ?_⟩ <;> exact cell_later hb2 (by simp [*])
              clear hK K
              refine wpAnyH_take (i := 18) (oi := { dst := some 95, op := Op.binOp BinOp.geq 3 (Operand.tmp 92) (Operand.tmp 94) 3, type := 4, pos := _, after := #[{ on := 15, ground := Ground.data }, { on := 17, ground := Ground.data }, { on := 13, ground := Ground.guard }], guard := some (13, false) }) (v := ?v2x18) rfl (by kernel_rfl) (by kernel_rfl) (by kernel_rfl) (fun _ _ _ h => h) (Or.inl ⟨by rfl, ?h2x18⟩) (by assumption) ?_
              case h2x18 => (intro w hSw; (try dsimp only at hSw); go_simp; try with_reducible rfl)
              try simp only [Act.put, List.setIfInBounds_toArray, List.set_cons_zero, List.set_cons_succ]
              refine wpAnyH_take (i := 19) (oi := { dst := some 96, op := Op.pick (Operand.tmp 90) (Operand.const (Value.bool true)) (Operand.tmp 95), type := 4, pos := _, after := #[{ on := 13, ground := Ground.data }, { on := 18, ground := Ground.data }], guard := none }) (v := ?v2x19) rfl (by kernel_rfl) (by kernel_rfl) (by kernel_rfl) (fun _ _ _ h => h) (Or.inl ⟨by rfl, ?h2x19⟩) (by assumption) ?_
              case h2x19 => (intro w hSw; (try dsimp only at hSw); go_simp; try with_reducible rfl)
              try simp only [Act.put, List.setIfInBounds_toArray, List.set_cons_zero, List.set_cons_succ]
              refine wpAnyH_take (i := 20) (oi := { dst := some 97, op := Op.move (Operand.tmp 96), type := 4, pos := _, after := #[{ on := 19, ground := Ground.data }, { on := 17, ground := Ground.chain }], guard := none }) (v := ?v2x20) rfl (by kernel_rfl) (by kernel_rfl) (by kernel_rfl) (fun _ _ _ h => h) (Or.inl ⟨by rfl, ?h2x20⟩) (by assumption) ?_
              case h2x20 => (intro w hSw; (try dsimp only at hSw); go_simp; try with_reducible rfl)
              try simp only [Act.put, List.setIfInBounds_toArray, List.set_cons_zero, List.set_cons_succ]
              refine wpAnyH_take (i := 21) (oi := { dst := some 98, op := Op.fieldAddr 37 (Operand.tmp 11) 1, type := 0, pos := _, after := #[{ on := 20, ground := Ground.guard }], guard := some (20, false) }) (v := undef) rfl (by kernel_rfl) (by kernel_rfl) (by kernel_rfl) (fun _ _ _ h => h) (Or.inr ⟨by rfl, rfl⟩) (by assumption) ?_
              try simp only [Act.put, List.setIfInBounds_toArray, List.set_cons_zero, List.set_cons_succ]
              refine wpAnyH_take (i := 22) (oi := { dst := some 99, op := Op.load 3 (Operand.tmp 98), type := 3, pos := _, after := #[{ on := 21, ground := Ground.data }, { on := 20, ground := Ground.guard }], guard := some (20, false) }) (v := undef) rfl (by kernel_rfl) (by kernel_rfl) (by kernel_rfl) (fun _ _ _ h => h) (Or.inr ⟨by rfl, rfl⟩) (by assumption) ?_
              try simp only [Act.put, List.setIfInBounds_toArray, List.set_cons_zero, List.set_cons_succ]
              refine wpAnyH_take (i := 23) (oi := { dst := some 100, op := Op.fieldAddr 37 (Operand.tmp 12) 0, type := 0, pos := _, after := #[{ on := 20, ground := Ground.guard }], guard := some (20, false) }) (v := undef) rfl (by kernel_rfl) (by kernel_rfl) (by kernel_rfl) (fun _ _ _ h => h) (Or.inr ⟨by rfl, rfl⟩) (by assumption) ?_
              try simp only [Act.put, List.setIfInBounds_toArray, List.set_cons_zero, List.set_cons_succ]
              refine wpAnyH_take (i := 24) (oi := { dst := some 101, op := Op.load 3 (Operand.tmp 100), type := 3, pos := _, after := #[{ on := 23, ground := Ground.data }, { on := 20, ground := Ground.guard }], guard := some (20, false) }) (v := undef) rfl (by kernel_rfl) (by kernel_rfl) (by kernel_rfl) (fun _ _ _ h => h) (Or.inr ⟨by rfl, rfl⟩) (by assumption) ?_
              try simp only [Act.put, List.setIfInBounds_toArray, List.set_cons_zero, List.set_cons_succ]
              refine wpAnyH_take (i := 25) (oi := { dst := some 102, op := Op.fieldAddr 37 (Operand.tmp 11) 0, type := 0, pos := _, after := #[{ on := 20, ground := Ground.guard }], guard := some (20, false) }) (v := undef) rfl (by kernel_rfl) (by kernel_rfl) (by kernel_rfl) (fun _ _ _ h => h) (Or.inr ⟨by rfl, rfl⟩) (by assumption) ?_
              try simp only [Act.put, List.setIfInBounds_toArray, List.set_cons_zero, List.set_cons_succ]
              refine wpAnyH_take (i := 26) (oi := { dst := some 103, op := Op.load 3 (Operand.tmp 102), type := 3, pos := _, after := #[{ on := 25, ground := Ground.data }, { on := 20, ground := Ground.guard }], guard := some (20, false) }) (v := undef) rfl (by kernel_rfl) (by kernel_rfl) (by kernel_rfl) (fun _ _ _ h => h) (Or.inr ⟨by rfl, rfl⟩) (by assumption) ?_
              try simp only [Act.put, List.setIfInBounds_toArray, List.set_cons_zero, List.set_cons_succ]
              refine wpAnyH_take (i := 27) (oi := { dst := some 104, op := Op.binOp BinOp.quo 3 (Operand.tmp 101) (Operand.tmp 103) 3, type := 3, pos := _, after := #[{ on := 24, ground := Ground.data }, { on := 26, ground := Ground.data }, { on := 20, ground := Ground.guard }], guard := some (20, false) }) (v := undef) rfl (by kernel_rfl) (by kernel_rfl) (by kernel_rfl) (fun _ _ _ h => h) (Or.inr ⟨by rfl, rfl⟩) (by assumption) ?_
              try simp only [Act.put, List.setIfInBounds_toArray, List.set_cons_zero, List.set_cons_succ]
              refine wpAnyH_take (i := 28) (oi := { dst := some 105, op := Op.binOp BinOp.lss 3 (Operand.tmp 99) (Operand.tmp 104) 3, type := 4, pos := _, after := #[{ on := 22, ground := Ground.data }, { on := 27, ground := Ground.data }, { on := 20, ground := Ground.guard }], guard := some (20, false) }) (v := undef) rfl (by kernel_rfl) (by kernel_rfl) (by kernel_rfl) (fun _ _ _ h => h) (Or.inr ⟨by rfl, rfl⟩) (by assumption) ?_
              try simp only [Act.put, List.setIfInBounds_toArray, List.set_cons_zero, List.set_cons_succ]
              refine wpAnyH_take (i := 29) (oi := { dst := some 106, op := Op.pick (Operand.tmp 97) (Operand.const (Value.bool true)) (Operand.tmp 105), type := 4, pos := _, after := #[{ on := 20, ground := Ground.data }, { on := 28, ground := Ground.data }], guard := none }) (v := ?v2x29) rfl (by kernel_rfl) (by kernel_rfl) (by kernel_rfl) (fun _ _ _ h => h) (Or.inl ⟨by rfl, ?h2x29⟩) (by assumption) ?_
              case h2x29 => (intro w hSw; (try dsimp only at hSw); go_simp; try with_reducible rfl)
              try simp only [Act.put, List.setIfInBounds_toArray, List.set_cons_zero, List.set_cons_succ]
              refine wpAnyH_done (by kernel_rfl) ?_ _
              go_wp2
              go_ret
              exact ⟨ret_int HE.out.symm, below_fin (below_two HBR.out hb1 hb2)⟩
            · have HG := hid (show s2 / s1 ≤ k1 → c.Ft 1 from fun h => HF.out.2 ⟨by omega, t2, by omega, h⟩)
              have HN := hid (show ¬ s2 / s1 ≤ k1 → c.err = 2 from fun h => c.not_ok_ft (j := 1) (by omega) (fun x => h (HF.out.1 x).2.2.2))
              have n2 : ¬ s1 = 0 := by omega
              have m1 : s2.tmod s1 = s2 % s1 := IntWalk.rem_in _ _ (by omega)
              have m2 : IntKind.i64.wrap (s2.tdiv s1) = s2 / s1 := IntWalk.i64_quo _ _ ⟨by omega, by omega, b1⟩
              have g1 : decide (s2 ≤ s1) = false := by simp; omega
              have g2 : (s2 % s1 != 0) = false := by simpa using t2
              have g3 : decide (r1 ≤ r0) = false := by simpa using t3
              clear t2 t3
              go_wp2_with fail
              refine wp_region_held_drew (S := (fun w' => w'.cell? ⟨wr.heap.size, 0, none⟩ = some (i64 s1) ∧ w'.cell? ⟨wr.heap.size, 1, none⟩ = some (i64 k1) ∧ w'.cell? ⟨wr.heap.size + 1, 0, none⟩ = some (i64 s2) ∧ w'.cell? ⟨wr.heap.size + 1, 1, none⟩ = some (i64 k2))) (by kernel_rfl) ?_ (fun hHeld => ?_)
              · go_keep
              refine wpAnyH_take (i := 0) (oi := { dst := some 77, op := Op.fieldAddr 37 (Operand.tmp 11) 0, type := 0, pos := _, after := #[], guard := none }) (v := ?v3x0) rfl (by kernel_rfl) (by kernel_rfl) (by kernel_rfl) (fun _ _ _ h => h) (Or.inl ⟨by rfl, ?h3x0⟩) (by assumption) ?_
              case h3x0 => (intro w hSw; (try dsimp only at hSw); go_simp; try with_reducible rfl)
              try simp only [Act.put, List.setIfInBounds_toArray, List.set_cons_zero, List.set_cons_succ]
              refine wpAnyH_take (i := 1) (oi := { dst := some 78, op := Op.load 3 (Operand.tmp 77), type := 3, pos := _, after := #[{ on := 0, ground := Ground.data }], guard := none }) (v := ?v3x1) rfl (by kernel_rfl) (by kernel_rfl) (by kernel_rfl) (fun _ _ _ h => h) (Or.inl ⟨by rfl, ?h3x1⟩) (by assumption) ?_
              case h3x1 => (intro w hSw; (try dsimp only at hSw); go_simp; try with_reducible rfl)
              try simp only [Act.put, List.setIfInBounds_toArray, List.set_cons_zero, List.set_cons_succ]
              refine wpAnyH_take (i := 2) (oi := { dst := some 79, op := Op.fieldAddr 37 (Operand.tmp 12) 0, type := 0, pos := _, after := #[], guard := none }) (v := ?v3x2) rfl (by kernel_rfl) (by kernel_rfl) (by kernel_rfl) (fun _ _ _ h => h) (Or.inl ⟨by rfl, ?h3x2⟩) (by assumption) ?_
              case h3x2 => (intro w hSw; (try dsimp only at hSw); go_simp; try with_reducible rfl)
              try simp only [Act.put, List.setIfInBounds_toArray, List.set_cons_zero, List.set_cons_succ]
              refine wpAnyH_take (i := 3) (oi := { dst := some 80, op := Op.load 3 (Operand.tmp 79), type := 3, pos := _, after := #[{ on := 2, ground := Ground.data }], guard := none }) (v := ?v3x3) rfl (by kernel_rfl) (by kernel_rfl) (by kernel_rfl) (fun _ _ _ h => h) (Or.inl ⟨by rfl, ?h3x3⟩) (by assumption) ?_
              case h3x3 => (intro w hSw; (try dsimp only at hSw); go_simp; try with_reducible rfl)
              try simp only [Act.put, List.setIfInBounds_toArray, List.set_cons_zero, List.set_cons_succ]
              refine wpAnyH_take (i := 4) (oi := { dst := some 81, op := Op.binOp BinOp.geq 3 (Operand.tmp 78) (Operand.tmp 80) 3, type := 4, pos := _, after := #[{ on := 1, ground := Ground.data }, { on := 3, ground := Ground.data }], guard := none }) (v := ?v3x4) rfl (by kernel_rfl) (by kernel_rfl) (by kernel_rfl) (fun _ _ _ h => h) (Or.inl ⟨by rfl, ?h3x4⟩) (by assumption) ?_
              case h3x4 => (intro w hSw; (try dsimp only at hSw); go_simp; try with_reducible rfl)
              try simp only [Act.put, List.setIfInBounds_toArray, List.set_cons_zero, List.set_cons_succ]
              refine wpAnyH_take (i := 5) (oi := { dst := some 82, op := Op.move (Operand.tmp 81), type := 4, pos := _, after := #[{ on := 4, ground := Ground.data }], guard := none }) (v := ?v3x5) rfl (by kernel_rfl) (by kernel_rfl) (by kernel_rfl) (fun _ _ _ h => h) (Or.inl ⟨by rfl, ?h3x5⟩) (by assumption) ?_
              case h3x5 => (intro w hSw; (try dsimp only at hSw); go_simp; try with_reducible rfl)
              try simp only [Act.put, List.setIfInBounds_toArray, List.set_cons_zero, List.set_cons_succ]
              refine wpAnyH_take (i := 6) (oi := { dst := some 83, op := Op.fieldAddr 37 (Operand.tmp 12) 0, type := 0, pos := _, after := #[{ on := 5, ground := Ground.guard }], guard := some (5, false) }) (v := ?v3x6) rfl (by kernel_rfl) (by kernel_rfl) (by kernel_rfl) (fun _ _ _ h => h) (Or.inl ⟨by rfl, ?h3x6⟩) (by assumption) ?_
              case h3x6 => (intro w hSw; (try dsimp only at hSw); go_simp; try with_reducible rfl)
              try simp only [Act.put, List.setIfInBounds_toArray, List.set_cons_zero, List.set_cons_succ]
              refine wpAnyH_take (i := 7) (oi := { dst := some 84, op := Op.load 3 (Operand.tmp 83), type := 3, pos := _, after := #[{ on := 6, ground := Ground.data }, { on := 5, ground := Ground.guard }], guard := some (5, false) }) (v := ?v3x7) rfl (by kernel_rfl) (by kernel_rfl) (by kernel_rfl) (fun _ _ _ h => h) (Or.inl ⟨by rfl, ?h3x7⟩) (by assumption) ?_
              case h3x7 => (intro w hSw; (try dsimp only at hSw); go_simp; try with_reducible rfl)
              try simp only [Act.put, List.setIfInBounds_toArray, List.set_cons_zero, List.set_cons_succ]
              refine wpAnyH_take (i := 8) (oi := { dst := some 85, op := Op.fieldAddr 37 (Operand.tmp 11) 0, type := 0, pos := _, after := #[{ on := 5, ground := Ground.guard }], guard := some (5, false) }) (v := ?v3x8) rfl (by kernel_rfl) (by kernel_rfl) (by kernel_rfl) (fun _ _ _ h => h) (Or.inl ⟨by rfl, ?h3x8⟩) (by assumption) ?_
              case h3x8 => (intro w hSw; (try dsimp only at hSw); go_simp; try with_reducible rfl)
              try simp only [Act.put, List.setIfInBounds_toArray, List.set_cons_zero, List.set_cons_succ]
              refine wpAnyH_take (i := 9) (oi := { dst := some 86, op := Op.load 3 (Operand.tmp 85), type := 3, pos := _, after := #[{ on := 8, ground := Ground.data }, { on := 5, ground := Ground.guard }], guard := some (5, false) }) (v := ?v3x9) rfl (by kernel_rfl) (by kernel_rfl) (by kernel_rfl) (fun _ _ _ h => h) (Or.inl ⟨by rfl, ?h3x9⟩) (by assumption) ?_
              case h3x9 => (intro w hSw; (try dsimp only at hSw); go_simp; try with_reducible rfl)
              try simp only [Act.put, List.setIfInBounds_toArray, List.set_cons_zero, List.set_cons_succ]
              refine wpAnyH_take (i := 10) (oi := { dst := some 87, op := Op.binOp BinOp.rem 3 (Operand.tmp 84) (Operand.tmp 86) 3, type := 3, pos := _, after := #[{ on := 7, ground := Ground.data }, { on := 9, ground := Ground.data }, { on := 5, ground := Ground.guard }], guard := some (5, false) }) (v := ?v3x10) rfl (by kernel_rfl) (by kernel_rfl) (by kernel_rfl) (fun _ _ _ h => h) (Or.inl ⟨by rfl, ?h3x10⟩) (by assumption) ?_
              case h3x10 => (intro w hSw; (try dsimp only at hSw); go_simp; try with_reducible rfl)
              try simp only [Act.put, List.setIfInBounds_toArray, List.set_cons_zero, List.set_cons_succ]
              refine wpAnyH_take (i := 11) (oi := { dst := some 88, op := Op.binOp BinOp.neq 3 (Operand.tmp 87) (Operand.const (Value.int IntKind.i64 0)) 3, type := 4, pos := _, after := #[{ on := 10, ground := Ground.data }, { on := 5, ground := Ground.guard }], guard := some (5, false) }) (v := ?v3x11) rfl (by kernel_rfl) (by kernel_rfl) (by kernel_rfl) (fun _ _ _ h => h) (Or.inl ⟨by rfl, ?h3x11⟩) (by assumption) ?_
              case h3x11 => (intro w hSw; (try dsimp only at hSw); go_simp; try with_reducible rfl)
              try simp only [Act.put, List.setIfInBounds_toArray, List.set_cons_zero, List.set_cons_succ]
              refine wpAnyH_take (i := 12) (oi := { dst := some 89, op := Op.pick (Operand.tmp 82) (Operand.const (Value.bool true)) (Operand.tmp 88), type := 4, pos := _, after := #[{ on := 5, ground := Ground.data }, { on := 11, ground := Ground.data }], guard := none }) (v := ?v3x12) rfl (by kernel_rfl) (by kernel_rfl) (by kernel_rfl) (fun _ _ _ h => h) (Or.inl ⟨by rfl, ?h3x12⟩) (by assumption) ?_
              case h3x12 => (intro w hSw; (try dsimp only at hSw); go_simp; try with_reducible rfl)
              try simp only [Act.put, List.setIfInBounds_toArray, List.set_cons_zero, List.set_cons_succ]
              refine wpAnyH_take (i := 13) (oi := { dst := some 90, op := Op.move (Operand.tmp 89), type := 4, pos := _, after := #[{ on := 12, ground := Ground.data }, { on := 5, ground := Ground.chain }], guard := none }) (v := ?v3x13) rfl (by kernel_rfl) (by kernel_rfl) (by kernel_rfl) (fun _ _ _ h => h) (Or.inl ⟨by rfl, ?h3x13⟩) (by assumption) ?_
              case h3x13 => (intro w hSw; (try dsimp only at hSw); go_simp; try with_reducible rfl)
              try simp only [Act.put, List.setIfInBounds_toArray, List.set_cons_zero, List.set_cons_succ]
              refine wpAnyH_take (i := 14) (oi := { dst := some 91, op := Op.load 37 (Operand.tmp 11), type := 37, pos := _, after := #[{ on := 13, ground := Ground.guard }], guard := some (13, false) }) (v := ?v3x14) rfl (by kernel_rfl) (by kernel_rfl) (by kernel_rfl) (fun _ _ _ h => h) (Or.inl ⟨by rfl, ?h3x14⟩) (by assumption) ?_
              case h3x14 => (intro w hSw; (try dsimp only at hSw); go_simp; try with_reducible rfl)
              try simp only [Act.put, List.setIfInBounds_toArray, List.set_cons_zero, List.set_cons_succ]
              refine wpAnyH_take (i := 16) (oi := { dst := some 93, op := Op.load 37 (Operand.tmp 12), type := 37, pos := _, after := #[{ on := 13, ground := Ground.guard }], guard := some (13, false) }) (v := ?v3x16) rfl (by kernel_rfl) (by kernel_rfl) (by kernel_rfl) (fun _ _ _ h => h) (Or.inl ⟨by rfl, ?h3x16⟩) (by assumption) ?_
              case h3x16 => (intro w hSw; (try dsimp only at hSw); go_simp; try with_reducible rfl)
              try simp only [Act.put, List.setIfInBounds_toArray, List.set_cons_zero, List.set_cons_succ]
              refine wpAnyH_ready (rs := [15]) (by kernel_rfl) (by simp) ?_
              refine AllReadyH.cons rfl (fun K hK => ?_) AllReadyH.nil
              go_simp
              go_wp2_with ((go_at_call 40; refine (reach_val s1 k1 r0 _ HR0 p1 p2).mono ?_; rintro e w1 ⟨rfl, hb1⟩))
              refine hK.out _ _ ?_ (fun hHeld => ?_)
              · refine ⟨?_, ?_, ?_, ?_⟩ <;> exact cell_later hb1 (by simp [*])
              clear hK K
              refine wpAnyH_ready (rs := [17]) (by kernel_rfl) (by simp) ?_
              refine AllReadyH.cons rfl (fun K hK => ?_) AllReadyH.nil
              go_simp
              go_wp2_with ((go_at_call 40; refine (reach_val s2 k2 r1 _ HR1 p3 p4).mono ?_; rintro e w2 ⟨rfl, hb2⟩))
              refine hK.out _ _ ?_ (fun hHeld => ?_)
              · refine ⟨?_, ?_, ?_, ?_⟩ <;> exact cell_later hb2 (by simp [*])
              clear hK K
              refine wpAnyH_take (i := 18) (oi := { dst := some 95, op := Op.binOp BinOp.geq 3 (Operand.tmp 92) (Operand.tmp 94) 3, type := 4, pos := _, after := #[{ on := 15, ground := Ground.data }, { on := 17, ground := Ground.data }, { on := 13, ground := Ground.guard }], guard := some (13, false) }) (v := ?v3x18) rfl (by kernel_rfl) (by kernel_rfl) (by kernel_rfl) (fun _ _ _ h => h) (Or.inl ⟨by rfl, ?h3x18⟩) (by assumption) ?_
              case h3x18 => (intro w hSw; (try dsimp only at hSw); go_simp; try with_reducible rfl)
              try simp only [Act.put, List.setIfInBounds_toArray, List.set_cons_zero, List.set_cons_succ]
              refine wpAnyH_take (i := 19) (oi := { dst := some 96, op := Op.pick (Operand.tmp 90) (Operand.const (Value.bool true)) (Operand.tmp 95), type := 4, pos := _, after := #[{ on := 13, ground := Ground.data }, { on := 18, ground := Ground.data }], guard := none }) (v := ?v3x19) rfl (by kernel_rfl) (by kernel_rfl) (by kernel_rfl) (fun _ _ _ h => h) (Or.inl ⟨by rfl, ?h3x19⟩) (by assumption) ?_
              case h3x19 => (intro w hSw; (try dsimp only at hSw); go_simp; try with_reducible rfl)
              try simp only [Act.put, List.setIfInBounds_toArray, List.set_cons_zero, List.set_cons_succ]
              refine wpAnyH_take (i := 20) (oi := { dst := some 97, op := Op.move (Operand.tmp 96), type := 4, pos := _, after := #[{ on := 19, ground := Ground.data }, { on := 17, ground := Ground.chain }], guard := none }) (v := ?v3x20) rfl (by kernel_rfl) (by kernel_rfl) (by kernel_rfl) (fun _ _ _ h => h) (Or.inl ⟨by rfl, ?h3x20⟩) (by assumption) ?_
              case h3x20 => (intro w hSw; (try dsimp only at hSw); go_simp; try with_reducible rfl)
              try simp only [Act.put, List.setIfInBounds_toArray, List.set_cons_zero, List.set_cons_succ]
              refine wpAnyH_take (i := 21) (oi := { dst := some 98, op := Op.fieldAddr 37 (Operand.tmp 11) 1, type := 0, pos := _, after := #[{ on := 20, ground := Ground.guard }], guard := some (20, false) }) (v := ?v3x21) rfl (by kernel_rfl) (by kernel_rfl) (by kernel_rfl) (fun _ _ _ h => h) (Or.inl ⟨by rfl, ?h3x21⟩) (by assumption) ?_
              case h3x21 => (intro w hSw; (try dsimp only at hSw); go_simp; try with_reducible rfl)
              try simp only [Act.put, List.setIfInBounds_toArray, List.set_cons_zero, List.set_cons_succ]
              refine wpAnyH_take (i := 22) (oi := { dst := some 99, op := Op.load 3 (Operand.tmp 98), type := 3, pos := _, after := #[{ on := 21, ground := Ground.data }, { on := 20, ground := Ground.guard }], guard := some (20, false) }) (v := ?v3x22) rfl (by kernel_rfl) (by kernel_rfl) (by kernel_rfl) (fun _ _ _ h => h) (Or.inl ⟨by rfl, ?h3x22⟩) (by assumption) ?_
              case h3x22 => (intro w hSw; (try dsimp only at hSw); go_simp; try with_reducible rfl)
              try simp only [Act.put, List.setIfInBounds_toArray, List.set_cons_zero, List.set_cons_succ]
              refine wpAnyH_take (i := 23) (oi := { dst := some 100, op := Op.fieldAddr 37 (Operand.tmp 12) 0, type := 0, pos := _, after := #[{ on := 20, ground := Ground.guard }], guard := some (20, false) }) (v := ?v3x23) rfl (by kernel_rfl) (by kernel_rfl) (by kernel_rfl) (fun _ _ _ h => h) (Or.inl ⟨by rfl, ?h3x23⟩) (by assumption) ?_
              case h3x23 => (intro w hSw; (try dsimp only at hSw); go_simp; try with_reducible rfl)
              try simp only [Act.put, List.setIfInBounds_toArray, List.set_cons_zero, List.set_cons_succ]
              refine wpAnyH_take (i := 24) (oi := { dst := some 101, op := Op.load 3 (Operand.tmp 100), type := 3, pos := _, after := #[{ on := 23, ground := Ground.data }, { on := 20, ground := Ground.guard }], guard := some (20, false) }) (v := ?v3x24) rfl (by kernel_rfl) (by kernel_rfl) (by kernel_rfl) (fun _ _ _ h => h) (Or.inl ⟨by rfl, ?h3x24⟩) (by assumption) ?_
              case h3x24 => (intro w hSw; (try dsimp only at hSw); go_simp; try with_reducible rfl)
              try simp only [Act.put, List.setIfInBounds_toArray, List.set_cons_zero, List.set_cons_succ]
              refine wpAnyH_take (i := 25) (oi := { dst := some 102, op := Op.fieldAddr 37 (Operand.tmp 11) 0, type := 0, pos := _, after := #[{ on := 20, ground := Ground.guard }], guard := some (20, false) }) (v := ?v3x25) rfl (by kernel_rfl) (by kernel_rfl) (by kernel_rfl) (fun _ _ _ h => h) (Or.inl ⟨by rfl, ?h3x25⟩) (by assumption) ?_
              case h3x25 => (intro w hSw; (try dsimp only at hSw); go_simp; try with_reducible rfl)
              try simp only [Act.put, List.setIfInBounds_toArray, List.set_cons_zero, List.set_cons_succ]
              refine wpAnyH_take (i := 26) (oi := { dst := some 103, op := Op.load 3 (Operand.tmp 102), type := 3, pos := _, after := #[{ on := 25, ground := Ground.data }, { on := 20, ground := Ground.guard }], guard := some (20, false) }) (v := ?v3x26) rfl (by kernel_rfl) (by kernel_rfl) (by kernel_rfl) (fun _ _ _ h => h) (Or.inl ⟨by rfl, ?h3x26⟩) (by assumption) ?_
              case h3x26 => (intro w hSw; (try dsimp only at hSw); go_simp; try with_reducible rfl)
              try simp only [Act.put, List.setIfInBounds_toArray, List.set_cons_zero, List.set_cons_succ]
              refine wpAnyH_take (i := 27) (oi := { dst := some 104, op := Op.binOp BinOp.quo 3 (Operand.tmp 101) (Operand.tmp 103) 3, type := 3, pos := _, after := #[{ on := 24, ground := Ground.data }, { on := 26, ground := Ground.data }, { on := 20, ground := Ground.guard }], guard := some (20, false) }) (v := ?v3x27) rfl (by kernel_rfl) (by kernel_rfl) (by kernel_rfl) (fun _ _ _ h => h) (Or.inl ⟨by rfl, ?h3x27⟩) (by assumption) ?_
              case h3x27 => (intro w hSw; (try dsimp only at hSw); go_simp; try with_reducible rfl)
              try simp only [Act.put, List.setIfInBounds_toArray, List.set_cons_zero, List.set_cons_succ]
              refine wpAnyH_take (i := 28) (oi := { dst := some 105, op := Op.binOp BinOp.lss 3 (Operand.tmp 99) (Operand.tmp 104) 3, type := 4, pos := _, after := #[{ on := 22, ground := Ground.data }, { on := 27, ground := Ground.data }, { on := 20, ground := Ground.guard }], guard := some (20, false) }) (v := ?v3x28) rfl (by kernel_rfl) (by kernel_rfl) (by kernel_rfl) (fun _ _ _ h => h) (Or.inl ⟨by rfl, ?h3x28⟩) (by assumption) ?_
              case h3x28 => (intro w hSw; (try dsimp only at hSw); go_simp; try with_reducible rfl)
              try simp only [Act.put, List.setIfInBounds_toArray, List.set_cons_zero, List.set_cons_succ]
              refine wpAnyH_take (i := 29) (oi := { dst := some 106, op := Op.pick (Operand.tmp 97) (Operand.const (Value.bool true)) (Operand.tmp 105), type := 4, pos := _, after := #[{ on := 20, ground := Ground.data }, { on := 28, ground := Ground.data }], guard := none }) (v := ?v3x29) rfl (by kernel_rfl) (by kernel_rfl) (by kernel_rfl) (fun _ _ _ h => h) (Or.inl ⟨by rfl, ?h3x29⟩) (by assumption) ?_
              case h3x29 => (intro w hSw; (try dsimp only at hSw); go_simp; try with_reducible rfl)
              try simp only [Act.put, List.setIfInBounds_toArray, List.set_cons_zero, List.set_cons_succ]
              refine wpAnyH_done (by kernel_rfl) ?_ _
              go_wp2
              · go_ret
                exact ⟨ret_int (HN.out (by omega)).symm, below_fin (below_two HBR.out hb1 hb2)⟩
              · go_roundw
                case rel => first | exact ⟨2, by omega, rfl, c.twos_succ HT.out (fun _ => HG.out (by assumption)), below_two HBR.out hb1 hb2⟩ | ((repeat apply Exists.intro); exact ⟨⟨2, by omega, rfl, c.twos_succ HT.out (fun _ => HG.out (by assumption)), below_two HBR.out hb1 hb2⟩, rfl⟩)
                case measure => simp [intOf]
          · have HB0 := hid (HO3.out 2 (by omega))
            have HB1 := hid (HO3.out 3 (by omega))
            obtain ⟨b1, b2, b3, b4⟩ := ((bd_at2 HC.out).1 HB0.out)
            obtain ⟨e1, e2, e3, e4⟩ := ((bd_at3 HC.out).1 HB1.out)
            obtain ⟨p1, p2⟩ := (prod_at2 HC.out HB0.out)
            obtain ⟨p3, p4⟩ := (prod_at3 HC.out HB1.out)
            have HF := hid (show c.Ft 2 ↔ (s2 < s3 ∧ s3 % s2 = 0 ∧ s2 * k2 < s3 * k3 ∧ s3 / s2 ≤ k2) from ft_at2 HC.out)
            obtain ⟨r0, hr0⟩ : ∃ r, r = s2 * k2 := ⟨_, rfl⟩
            obtain ⟨r1, hr1⟩ : ∃ r, r = s3 * k3 := ⟨_, rfl⟩
            rw [← hr0] at p1 p2 HF
            rw [← hr1] at p3 p4 HF
            have HR0 := hid hr0
            have HR1 := hid hr1
            clear hr0 hr1
            by_cases t1 : s3 ≤ s2
            · have HE := hid (c.not_ok_ft (j := 2) (by omega) (fun h => absurd (HF.out.1 h).1 (by omega)))
              have g1 : decide (s3 ≤ s2) = true := by simp; omega
              go_wp2_with fail
              go_quiet (fail)
              go_wp2
              go_ret
              exact ⟨ret_int HE.out.symm, below_quiet _ HBR.out⟩
            by_cases t2 : s3 % s2 = 0
            case neg =>
              have HE := hid (c.not_ok_ft (j := 2) (by omega) (fun h => t2 (HF.out.1 h).2.1))
              have n2 : ¬ s2 = 0 := by omega
              have m1 : s3.tmod s2 = s3 % s2 := IntWalk.rem_in _ _ (by omega)
              have m2 : IntKind.i64.wrap (s3.tdiv s2) = s3 / s2 := IntWalk.i64_quo _ _ ⟨by omega, by omega, b1⟩
              have g1 : decide (s3 ≤ s2) = false := by simp; omega
              have g2 : (s3 % s2 != 0) = true := by simpa using t2
              go_wp2_with fail
              go_quiet (fail)
              go_wp2
              go_ret
              exact ⟨ret_int HE.out.symm, below_quiet _ HBR.out⟩
            by_cases t3 : r1 ≤ r0
            · have HE := hid (c.not_ok_ft (j := 2) (by omega) (fun h => absurd (HF.out.1 h).2.2.1 (by omega)))
              have n2 : ¬ s2 = 0 := by omega
              have m1 : s3.tmod s2 = s3 % s2 := IntWalk.rem_in _ _ (by omega)
              have m2 : IntKind.i64.wrap (s3.tdiv s2) = s3 / s2 := IntWalk.i64_quo _ _ ⟨by omega, by omega, b1⟩
              have g1 : decide (s3 ≤ s2) = false := by simp; omega
              have g2 : (s3 % s2 != 0) = false := by simpa using t2
              have g3 : decide (r1 ≤ r0) = true := by simpa using t3
              clear t2 t3
              go_wp2_with fail
              refine wp_region_held_drew (S := (fun w' => w'.cell? ⟨wr.heap.size, 0, none⟩ = some (i64 s2) ∧ w'.cell? ⟨wr.heap.size, 1, none⟩ = some (i64 k2) ∧ w'.cell? ⟨wr.heap.size + 1, 0, none⟩ = some (i64 s3) ∧ w'.cell? ⟨wr.heap.size + 1, 1, none⟩ = some (i64 k3))) (by kernel_rfl) ?_ (fun hHeld => ?_)
              · go_keep
              refine wpAnyH_take (i := 0) (oi := { dst := some 77, op := Op.fieldAddr 37 (Operand.tmp 11) 0, type := 0, pos := _, after := #[], guard := none }) (v := ?v4x0) rfl (by kernel_rfl) (by kernel_rfl) (by kernel_rfl) (fun _ _ _ h => h) (Or.inl ⟨by rfl, ?h4x0⟩) (by assumption) ?_
              case h4x0 => (intro w hSw; (try dsimp only at hSw); go_simp; try with_reducible rfl)
              try simp only [Act.put, List.setIfInBounds_toArray, List.set_cons_zero, List.set_cons_succ]
              refine wpAnyH_take (i := 1) (oi := { dst := some 78, op := Op.load 3 (Operand.tmp 77), type := 3, pos := _, after := #[{ on := 0, ground := Ground.data }], guard := none }) (v := ?v4x1) rfl (by kernel_rfl) (by kernel_rfl) (by kernel_rfl) (fun _ _ _ h => h) (Or.inl ⟨by rfl, ?h4x1⟩) (by assumption) ?_
              case h4x1 => (intro w hSw; (try dsimp only at hSw); go_simp; try with_reducible rfl)
              try simp only [Act.put, List.setIfInBounds_toArray, List.set_cons_zero, List.set_cons_succ]
              refine wpAnyH_take (i := 2) (oi := { dst := some 79, op := Op.fieldAddr 37 (Operand.tmp 12) 0, type := 0, pos := _, after := #[], guard := none }) (v := ?v4x2) rfl (by kernel_rfl) (by kernel_rfl) (by kernel_rfl) (fun _ _ _ h => h) (Or.inl ⟨by rfl, ?h4x2⟩) (by assumption) ?_
              case h4x2 => (intro w hSw; (try dsimp only at hSw); go_simp; try with_reducible rfl)
              try simp only [Act.put, List.setIfInBounds_toArray, List.set_cons_zero, List.set_cons_succ]
              refine wpAnyH_take (i := 3) (oi := { dst := some 80, op := Op.load 3 (Operand.tmp 79), type := 3, pos := _, after := #[{ on := 2, ground := Ground.data }], guard := none }) (v := ?v4x3) rfl (by kernel_rfl) (by kernel_rfl) (by kernel_rfl) (fun _ _ _ h => h) (Or.inl ⟨by rfl, ?h4x3⟩) (by assumption) ?_
              case h4x3 => (intro w hSw; (try dsimp only at hSw); go_simp; try with_reducible rfl)
              try simp only [Act.put, List.setIfInBounds_toArray, List.set_cons_zero, List.set_cons_succ]
              refine wpAnyH_take (i := 4) (oi := { dst := some 81, op := Op.binOp BinOp.geq 3 (Operand.tmp 78) (Operand.tmp 80) 3, type := 4, pos := _, after := #[{ on := 1, ground := Ground.data }, { on := 3, ground := Ground.data }], guard := none }) (v := ?v4x4) rfl (by kernel_rfl) (by kernel_rfl) (by kernel_rfl) (fun _ _ _ h => h) (Or.inl ⟨by rfl, ?h4x4⟩) (by assumption) ?_
              case h4x4 => (intro w hSw; (try dsimp only at hSw); go_simp; try with_reducible rfl)
              try simp only [Act.put, List.setIfInBounds_toArray, List.set_cons_zero, List.set_cons_succ]
              refine wpAnyH_take (i := 5) (oi := { dst := some 82, op := Op.move (Operand.tmp 81), type := 4, pos := _, after := #[{ on := 4, ground := Ground.data }], guard := none }) (v := ?v4x5) rfl (by kernel_rfl) (by kernel_rfl) (by kernel_rfl) (fun _ _ _ h => h) (Or.inl ⟨by rfl, ?h4x5⟩) (by assumption) ?_
              case h4x5 => (intro w hSw; (try dsimp only at hSw); go_simp; try with_reducible rfl)
              try simp only [Act.put, List.setIfInBounds_toArray, List.set_cons_zero, List.set_cons_succ]
              refine wpAnyH_take (i := 6) (oi := { dst := some 83, op := Op.fieldAddr 37 (Operand.tmp 12) 0, type := 0, pos := _, after := #[{ on := 5, ground := Ground.guard }], guard := some (5, false) }) (v := ?v4x6) rfl (by kernel_rfl) (by kernel_rfl) (by kernel_rfl) (fun _ _ _ h => h) (Or.inl ⟨by rfl, ?h4x6⟩) (by assumption) ?_
              case h4x6 => (intro w hSw; (try dsimp only at hSw); go_simp; try with_reducible rfl)
              try simp only [Act.put, List.setIfInBounds_toArray, List.set_cons_zero, List.set_cons_succ]
              refine wpAnyH_take (i := 7) (oi := { dst := some 84, op := Op.load 3 (Operand.tmp 83), type := 3, pos := _, after := #[{ on := 6, ground := Ground.data }, { on := 5, ground := Ground.guard }], guard := some (5, false) }) (v := ?v4x7) rfl (by kernel_rfl) (by kernel_rfl) (by kernel_rfl) (fun _ _ _ h => h) (Or.inl ⟨by rfl, ?h4x7⟩) (by assumption) ?_
              case h4x7 => (intro w hSw; (try dsimp only at hSw); go_simp; try with_reducible rfl)
              try simp only [Act.put, List.setIfInBounds_toArray, List.set_cons_zero, List.set_cons_succ]
              refine wpAnyH_take (i := 8) (oi := { dst := some 85, op := Op.fieldAddr 37 (Operand.tmp 11) 0, type := 0, pos := _, after := #[{ on := 5, ground := Ground.guard }], guard := some (5, false) }) (v := ?v4x8) rfl (by kernel_rfl) (by kernel_rfl) (by kernel_rfl) (fun _ _ _ h => h) (Or.inl ⟨by rfl, ?h4x8⟩) (by assumption) ?_
              case h4x8 => (intro w hSw; (try dsimp only at hSw); go_simp; try with_reducible rfl)
              try simp only [Act.put, List.setIfInBounds_toArray, List.set_cons_zero, List.set_cons_succ]
              refine wpAnyH_take (i := 9) (oi := { dst := some 86, op := Op.load 3 (Operand.tmp 85), type := 3, pos := _, after := #[{ on := 8, ground := Ground.data }, { on := 5, ground := Ground.guard }], guard := some (5, false) }) (v := ?v4x9) rfl (by kernel_rfl) (by kernel_rfl) (by kernel_rfl) (fun _ _ _ h => h) (Or.inl ⟨by rfl, ?h4x9⟩) (by assumption) ?_
              case h4x9 => (intro w hSw; (try dsimp only at hSw); go_simp; try with_reducible rfl)
              try simp only [Act.put, List.setIfInBounds_toArray, List.set_cons_zero, List.set_cons_succ]
              refine wpAnyH_take (i := 10) (oi := { dst := some 87, op := Op.binOp BinOp.rem 3 (Operand.tmp 84) (Operand.tmp 86) 3, type := 3, pos := _, after := #[{ on := 7, ground := Ground.data }, { on := 9, ground := Ground.data }, { on := 5, ground := Ground.guard }], guard := some (5, false) }) (v := ?v4x10) rfl (by kernel_rfl) (by kernel_rfl) (by kernel_rfl) (fun _ _ _ h => h) (Or.inl ⟨by rfl, ?h4x10⟩) (by assumption) ?_
              case h4x10 => (intro w hSw; (try dsimp only at hSw); go_simp; try with_reducible rfl)
              try simp only [Act.put, List.setIfInBounds_toArray, List.set_cons_zero, List.set_cons_succ]
              refine wpAnyH_take (i := 11) (oi := { dst := some 88, op := Op.binOp BinOp.neq 3 (Operand.tmp 87) (Operand.const (Value.int IntKind.i64 0)) 3, type := 4, pos := _, after := #[{ on := 10, ground := Ground.data }, { on := 5, ground := Ground.guard }], guard := some (5, false) }) (v := ?v4x11) rfl (by kernel_rfl) (by kernel_rfl) (by kernel_rfl) (fun _ _ _ h => h) (Or.inl ⟨by rfl, ?h4x11⟩) (by assumption) ?_
              case h4x11 => (intro w hSw; (try dsimp only at hSw); go_simp; try with_reducible rfl)
              try simp only [Act.put, List.setIfInBounds_toArray, List.set_cons_zero, List.set_cons_succ]
              refine wpAnyH_take (i := 12) (oi := { dst := some 89, op := Op.pick (Operand.tmp 82) (Operand.const (Value.bool true)) (Operand.tmp 88), type := 4, pos := _, after := #[{ on := 5, ground := Ground.data }, { on := 11, ground := Ground.data }], guard := none }) (v := ?v4x12) rfl (by kernel_rfl) (by kernel_rfl) (by kernel_rfl) (fun _ _ _ h => h) (Or.inl ⟨by rfl, ?h4x12⟩) (by assumption) ?_
              case h4x12 => (intro w hSw; (try dsimp only at hSw); go_simp; try with_reducible rfl)
              try simp only [Act.put, List.setIfInBounds_toArray, List.set_cons_zero, List.set_cons_succ]
              refine wpAnyH_take (i := 13) (oi := { dst := some 90, op := Op.move (Operand.tmp 89), type := 4, pos := _, after := #[{ on := 12, ground := Ground.data }, { on := 5, ground := Ground.chain }], guard := none }) (v := ?v4x13) rfl (by kernel_rfl) (by kernel_rfl) (by kernel_rfl) (fun _ _ _ h => h) (Or.inl ⟨by rfl, ?h4x13⟩) (by assumption) ?_
              case h4x13 => (intro w hSw; (try dsimp only at hSw); go_simp; try with_reducible rfl)
              try simp only [Act.put, List.setIfInBounds_toArray, List.set_cons_zero, List.set_cons_succ]
              refine wpAnyH_take (i := 14) (oi := { dst := some 91, op := Op.load 37 (Operand.tmp 11), type := 37, pos := _, after := #[{ on := 13, ground := Ground.guard }], guard := some (13, false) }) (v := ?v4x14) rfl (by kernel_rfl) (by kernel_rfl) (by kernel_rfl) (fun _ _ _ h => h) (Or.inl ⟨by rfl, ?h4x14⟩) (by assumption) ?_
              case h4x14 => (intro w hSw; (try dsimp only at hSw); go_simp; try with_reducible rfl)
              try simp only [Act.put, List.setIfInBounds_toArray, List.set_cons_zero, List.set_cons_succ]
              refine wpAnyH_take (i := 16) (oi := { dst := some 93, op := Op.load 37 (Operand.tmp 12), type := 37, pos := _, after := #[{ on := 13, ground := Ground.guard }], guard := some (13, false) }) (v := ?v4x16) rfl (by kernel_rfl) (by kernel_rfl) (by kernel_rfl) (fun _ _ _ h => h) (Or.inl ⟨by rfl, ?h4x16⟩) (by assumption) ?_
              case h4x16 => (intro w hSw; (try dsimp only at hSw); go_simp; try with_reducible rfl)
              try simp only [Act.put, List.setIfInBounds_toArray, List.set_cons_zero, List.set_cons_succ]
              refine wpAnyH_ready (rs := [15]) (by kernel_rfl) (by simp) ?_
              refine AllReadyH.cons rfl (fun K hK => ?_) AllReadyH.nil
              go_simp
              go_wp2_with ((go_at_call 40; refine (reach_val s2 k2 r0 _ HR0 p1 p2).mono ?_; rintro e w1 ⟨rfl, hb1⟩))
              refine hK.out _ _ ?_ (fun hHeld => ?_)
              · refine ⟨?_, ?_, ?_, ?_⟩ <;> exact cell_later hb1 (by simp [*])
              clear hK K
              refine wpAnyH_ready (rs := [17]) (by kernel_rfl) (by simp) ?_
              refine AllReadyH.cons rfl (fun K hK => ?_) AllReadyH.nil
              go_simp
              go_wp2_with ((go_at_call 40; refine (reach_val s3 k3 r1 _ HR1 p3 p4).mono ?_; rintro e w2 ⟨rfl, hb2⟩))
              refine hK.out _ _ ?_ (fun hHeld => ?_)
              · refine ⟨?_, ?_, ?_, ?_⟩ <;> exact cell_later hb2 (by simp [*])
              clear hK K
              refine wpAnyH_take (i := 18) (oi := { dst := some 95, op := Op.binOp BinOp.geq 3 (Operand.tmp 92) (Operand.tmp 94) 3, type := 4, pos := _, after := #[{ on := 15, ground := Ground.data }, { on := 17, ground := Ground.data }, { on := 13, ground := Ground.guard }], guard := some (13, false) }) (v := ?v4x18) rfl (by kernel_rfl) (by kernel_rfl) (by kernel_rfl) (fun _ _ _ h => h) (Or.inl ⟨by rfl, ?h4x18⟩) (by assumption) ?_
              case h4x18 => (intro w hSw; (try dsimp only at hSw); go_simp; try with_reducible rfl)
              try simp only [Act.put, List.setIfInBounds_toArray, List.set_cons_zero, List.set_cons_succ]
              refine wpAnyH_take (i := 19) (oi := { dst := some 96, op := Op.pick (Operand.tmp 90) (Operand.const (Value.bool true)) (Operand.tmp 95), type := 4, pos := _, after := #[{ on := 13, ground := Ground.data }, { on := 18, ground := Ground.data }], guard := none }) (v := ?v4x19) rfl (by kernel_rfl) (by kernel_rfl) (by kernel_rfl) (fun _ _ _ h => h) (Or.inl ⟨by rfl, ?h4x19⟩) (by assumption) ?_
              case h4x19 => (intro w hSw; (try dsimp only at hSw); go_simp; try with_reducible rfl)
              try simp only [Act.put, List.setIfInBounds_toArray, List.set_cons_zero, List.set_cons_succ]
              refine wpAnyH_take (i := 20) (oi := { dst := some 97, op := Op.move (Operand.tmp 96), type := 4, pos := _, after := #[{ on := 19, ground := Ground.data }, { on := 17, ground := Ground.chain }], guard := none }) (v := ?v4x20) rfl (by kernel_rfl) (by kernel_rfl) (by kernel_rfl) (fun _ _ _ h => h) (Or.inl ⟨by rfl, ?h4x20⟩) (by assumption) ?_
              case h4x20 => (intro w hSw; (try dsimp only at hSw); go_simp; try with_reducible rfl)
              try simp only [Act.put, List.setIfInBounds_toArray, List.set_cons_zero, List.set_cons_succ]
              refine wpAnyH_take (i := 21) (oi := { dst := some 98, op := Op.fieldAddr 37 (Operand.tmp 11) 1, type := 0, pos := _, after := #[{ on := 20, ground := Ground.guard }], guard := some (20, false) }) (v := undef) rfl (by kernel_rfl) (by kernel_rfl) (by kernel_rfl) (fun _ _ _ h => h) (Or.inr ⟨by rfl, rfl⟩) (by assumption) ?_
              try simp only [Act.put, List.setIfInBounds_toArray, List.set_cons_zero, List.set_cons_succ]
              refine wpAnyH_take (i := 22) (oi := { dst := some 99, op := Op.load 3 (Operand.tmp 98), type := 3, pos := _, after := #[{ on := 21, ground := Ground.data }, { on := 20, ground := Ground.guard }], guard := some (20, false) }) (v := undef) rfl (by kernel_rfl) (by kernel_rfl) (by kernel_rfl) (fun _ _ _ h => h) (Or.inr ⟨by rfl, rfl⟩) (by assumption) ?_
              try simp only [Act.put, List.setIfInBounds_toArray, List.set_cons_zero, List.set_cons_succ]
              refine wpAnyH_take (i := 23) (oi := { dst := some 100, op := Op.fieldAddr 37 (Operand.tmp 12) 0, type := 0, pos := _, after := #[{ on := 20, ground := Ground.guard }], guard := some (20, false) }) (v := undef) rfl (by kernel_rfl) (by kernel_rfl) (by kernel_rfl) (fun _ _ _ h => h) (Or.inr ⟨by rfl, rfl⟩) (by assumption) ?_
              try simp only [Act.put, List.setIfInBounds_toArray, List.set_cons_zero, List.set_cons_succ]
              refine wpAnyH_take (i := 24) (oi := { dst := some 101, op := Op.load 3 (Operand.tmp 100), type := 3, pos := _, after := #[{ on := 23, ground := Ground.data }, { on := 20, ground := Ground.guard }], guard := some (20, false) }) (v := undef) rfl (by kernel_rfl) (by kernel_rfl) (by kernel_rfl) (fun _ _ _ h => h) (Or.inr ⟨by rfl, rfl⟩) (by assumption) ?_
              try simp only [Act.put, List.setIfInBounds_toArray, List.set_cons_zero, List.set_cons_succ]
              refine wpAnyH_take (i := 25) (oi := { dst := some 102, op := Op.fieldAddr 37 (Operand.tmp 11) 0, type := 0, pos := _, after := #[{ on := 20, ground := Ground.guard }], guard := some (20, false) }) (v := undef) rfl (by kernel_rfl) (by kernel_rfl) (by kernel_rfl) (fun _ _ _ h => h) (Or.inr ⟨by rfl, rfl⟩) (by assumption) ?_
              try simp only [Act.put, List.setIfInBounds_toArray, List.set_cons_zero, List.set_cons_succ]
              refine wpAnyH_take (i := 26) (oi := { dst := some 103, op := Op.load 3 (Operand.tmp 102), type := 3, pos := _, after := #[{ on := 25, ground := Ground.data }, { on := 20, ground := Ground.guard }], guard := some (20, false) }) (v := undef) rfl (by kernel_rfl) (by kernel_rfl) (by kernel_rfl) (fun _ _ _ h => h) (Or.inr ⟨by rfl, rfl⟩) (by assumption) ?_
              try simp only [Act.put, List.setIfInBounds_toArray, List.set_cons_zero, List.set_cons_succ]
              refine wpAnyH_take (i := 27) (oi := { dst := some 104, op := Op.binOp BinOp.quo 3 (Operand.tmp 101) (Operand.tmp 103) 3, type := 3, pos := _, after := #[{ on := 24, ground := Ground.data }, { on := 26, ground := Ground.data }, { on := 20, ground := Ground.guard }], guard := some (20, false) }) (v := undef) rfl (by kernel_rfl) (by kernel_rfl) (by kernel_rfl) (fun _ _ _ h => h) (Or.inr ⟨by rfl, rfl⟩) (by assumption) ?_
              try simp only [Act.put, List.setIfInBounds_toArray, List.set_cons_zero, List.set_cons_succ]
              refine wpAnyH_take (i := 28) (oi := { dst := some 105, op := Op.binOp BinOp.lss 3 (Operand.tmp 99) (Operand.tmp 104) 3, type := 4, pos := _, after := #[{ on := 22, ground := Ground.data }, { on := 27, ground := Ground.data }, { on := 20, ground := Ground.guard }], guard := some (20, false) }) (v := undef) rfl (by kernel_rfl) (by kernel_rfl) (by kernel_rfl) (fun _ _ _ h => h) (Or.inr ⟨by rfl, rfl⟩) (by assumption) ?_
              try simp only [Act.put, List.setIfInBounds_toArray, List.set_cons_zero, List.set_cons_succ]
              refine wpAnyH_take (i := 29) (oi := { dst := some 106, op := Op.pick (Operand.tmp 97) (Operand.const (Value.bool true)) (Operand.tmp 105), type := 4, pos := _, after := #[{ on := 20, ground := Ground.data }, { on := 28, ground := Ground.data }], guard := none }) (v := ?v4x29) rfl (by kernel_rfl) (by kernel_rfl) (by kernel_rfl) (fun _ _ _ h => h) (Or.inl ⟨by rfl, ?h4x29⟩) (by assumption) ?_
              case h4x29 => (intro w hSw; (try dsimp only at hSw); go_simp; try with_reducible rfl)
              try simp only [Act.put, List.setIfInBounds_toArray, List.set_cons_zero, List.set_cons_succ]
              refine wpAnyH_done (by kernel_rfl) ?_ _
              go_wp2
              go_ret
              exact ⟨ret_int HE.out.symm, below_fin (below_two HBR.out hb1 hb2)⟩
            · have HG := hid (show s3 / s2 ≤ k2 → c.Ft 2 from fun h => HF.out.2 ⟨by omega, t2, by omega, h⟩)
              have HN := hid (show ¬ s3 / s2 ≤ k2 → c.err = 2 from fun h => c.not_ok_ft (j := 2) (by omega) (fun x => h (HF.out.1 x).2.2.2))
              have n2 : ¬ s2 = 0 := by omega
              have m1 : s3.tmod s2 = s3 % s2 := IntWalk.rem_in _ _ (by omega)
              have m2 : IntKind.i64.wrap (s3.tdiv s2) = s3 / s2 := IntWalk.i64_quo _ _ ⟨by omega, by omega, b1⟩
              have g1 : decide (s3 ≤ s2) = false := by simp; omega
              have g2 : (s3 % s2 != 0) = false := by simpa using t2
              have g3 : decide (r1 ≤ r0) = false := by simpa using t3
              clear t2 t3
              go_wp2_with fail
              refine wp_region_held_drew (S := (fun w' => w'.cell? ⟨wr.heap.size, 0, none⟩ = some (i64 s2) ∧ w'.cell? ⟨wr.heap.size, 1, none⟩ = some (i64 k2) ∧ w'.cell? ⟨wr.heap.size + 1, 0, none⟩ = some (i64 s3) ∧ w'.cell? ⟨wr.heap.size + 1, 1, none⟩ = some (i64 k3))) (by kernel_rfl) ?_ (fun hHeld => ?_)
              · go_keep
              refine wpAnyH_take (i := 0) (oi := { dst := some 77, op := Op.fieldAddr 37 (Operand.tmp 11) 0, type := 0, pos := _, after := #[], guard := none }) (v := ?v5x0) rfl (by kernel_rfl) (by kernel_rfl) (by kernel_rfl) (fun _ _ _ h => h) (Or.inl ⟨by rfl, ?h5x0⟩) (by assumption) ?_
              case h5x0 => (intro w hSw; (try dsimp only at hSw); go_simp; try with_reducible rfl)
              try simp only [Act.put, List.setIfInBounds_toArray, List.set_cons_zero, List.set_cons_succ]
              refine wpAnyH_take (i := 1) (oi := { dst := some 78, op := Op.load 3 (Operand.tmp 77), type := 3, pos := _, after := #[{ on := 0, ground := Ground.data }], guard := none }) (v := ?v5x1) rfl (by kernel_rfl) (by kernel_rfl) (by kernel_rfl) (fun _ _ _ h => h) (Or.inl ⟨by rfl, ?h5x1⟩) (by assumption) ?_
              case h5x1 => (intro w hSw; (try dsimp only at hSw); go_simp; try with_reducible rfl)
              try simp only [Act.put, List.setIfInBounds_toArray, List.set_cons_zero, List.set_cons_succ]
              refine wpAnyH_take (i := 2) (oi := { dst := some 79, op := Op.fieldAddr 37 (Operand.tmp 12) 0, type := 0, pos := _, after := #[], guard := none }) (v := ?v5x2) rfl (by kernel_rfl) (by kernel_rfl) (by kernel_rfl) (fun _ _ _ h => h) (Or.inl ⟨by rfl, ?h5x2⟩) (by assumption) ?_
              case h5x2 => (intro w hSw; (try dsimp only at hSw); go_simp; try with_reducible rfl)
              try simp only [Act.put, List.setIfInBounds_toArray, List.set_cons_zero, List.set_cons_succ]
              refine wpAnyH_take (i := 3) (oi := { dst := some 80, op := Op.load 3 (Operand.tmp 79), type := 3, pos := _, after := #[{ on := 2, ground := Ground.data }], guard := none }) (v := ?v5x3) rfl (by kernel_rfl) (by kernel_rfl) (by kernel_rfl) (fun _ _ _ h => h) (Or.inl ⟨by rfl, ?h5x3⟩) (by assumption) ?_
              case h5x3 => (intro w hSw; (try dsimp only at hSw); go_simp; try with_reducible rfl)
              try simp only [Act.put, List.setIfInBounds_toArray, List.set_cons_zero, List.set_cons_succ]
              refine wpAnyH_take (i := 4) (oi := { dst := some 81, op := Op.binOp BinOp.geq 3 (Operand.tmp 78) (Operand.tmp 80) 3, type := 4, pos := _, after := #[{ on := 1, ground := Ground.data }, { on := 3, ground := Ground.data }], guard := none }) (v := ?v5x4) rfl (by kernel_rfl) (by kernel_rfl) (by kernel_rfl) (fun _ _ _ h => h) (Or.inl ⟨by rfl, ?h5x4⟩) (by assumption) ?_
              case h5x4 => (intro w hSw; (try dsimp only at hSw); go_simp; try with_reducible rfl)
              try simp only [Act.put, List.setIfInBounds_toArray, List.set_cons_zero, List.set_cons_succ]
              refine wpAnyH_take (i := 5) (oi := { dst := some 82, op := Op.move (Operand.tmp 81), type := 4, pos := _, after := #[{ on := 4, ground := Ground.data }], guard := none }) (v := ?v5x5) rfl (by kernel_rfl) (by kernel_rfl) (by kernel_rfl) (fun _ _ _ h => h) (Or.inl ⟨by rfl, ?h5x5⟩) (by assumption) ?_
              case h5x5 => (intro w hSw; (try dsimp only at hSw); go_simp; try with_reducible rfl)
              try simp only [Act.put, List.setIfInBounds_toArray, List.set_cons_zero, List.set_cons_succ]
              refine wpAnyH_take (i := 6) (oi := { dst := some 83, op := Op.fieldAddr 37 (Operand.tmp 12) 0, type := 0, pos := _, after := #[{ on := 5, ground := Ground.guard }], guard := some (5, false) }) (v := ?v5x6) rfl (by kernel_rfl) (by kernel_rfl) (by kernel_rfl) (fun _ _ _ h => h) (Or.inl ⟨by rfl, ?h5x6⟩) (by assumption) ?_
              case h5x6 => (intro w hSw; (try dsimp only at hSw); go_simp; try with_reducible rfl)
              try simp only [Act.put, List.setIfInBounds_toArray, List.set_cons_zero, List.set_cons_succ]
              refine wpAnyH_take (i := 7) (oi := { dst := some 84, op := Op.load 3 (Operand.tmp 83), type := 3, pos := _, after := #[{ on := 6, ground := Ground.data }, { on := 5, ground := Ground.guard }], guard := some (5, false) }) (v := ?v5x7) rfl (by kernel_rfl) (by kernel_rfl) (by kernel_rfl) (fun _ _ _ h => h) (Or.inl ⟨by rfl, ?h5x7⟩) (by assumption) ?_
              case h5x7 => (intro w hSw; (try dsimp only at hSw); go_simp; try with_reducible rfl)
              try simp only [Act.put, List.setIfInBounds_toArray, List.set_cons_zero, List.set_cons_succ]
              refine wpAnyH_take (i := 8) (oi := { dst := some 85, op := Op.fieldAddr 37 (Operand.tmp 11) 0, type := 0, pos := _, after := #[{ on := 5, ground := Ground.guard }], guard := some (5, false) }) (v := ?v5x8) rfl (by kernel_rfl) (by kernel_rfl) (by kernel_rfl) (fun _ _ _ h => h) (Or.inl ⟨by rfl, ?h5x8⟩) (by assumption) ?_
              case h5x8 => (intro w hSw; (try dsimp only at hSw); go_simp; try with_reducible rfl)
              try simp only [Act.put, List.setIfInBounds_toArray, List.set_cons_zero, List.set_cons_succ]
              refine wpAnyH_take (i := 9) (oi := { dst := some 86, op := Op.load 3 (Operand.tmp 85), type := 3, pos := _, after := #[{ on := 8, ground := Ground.data }, { on := 5, ground := Ground.guard }], guard := some (5, false) }) (v := ?v5x9) rfl (by kernel_rfl) (by kernel_rfl) (by kernel_rfl) (fun _ _ _ h => h) (Or.inl ⟨by rfl, ?h5x9⟩) (by assumption) ?_
              case h5x9 => (intro w hSw; (try dsimp only at hSw); go_simp; try with_reducible rfl)
              try simp only [Act.put, List.setIfInBounds_toArray, List.set_cons_zero, List.set_cons_succ]
              refine wpAnyH_take (i := 10) (oi := { dst := some 87, op := Op.binOp BinOp.rem 3 (Operand.tmp 84) (Operand.tmp 86) 3, type := 3, pos := _, after := #[{ on := 7, ground := Ground.data }, { on := 9, ground := Ground.data }, { on := 5, ground := Ground.guard }], guard := some (5, false) }) (v := ?v5x10) rfl (by kernel_rfl) (by kernel_rfl) (by kernel_rfl) (fun _ _ _ h => h) (Or.inl ⟨by rfl, ?h5x10⟩) (by assumption) ?_
              case h5x10 => (intro w hSw; (try dsimp only at hSw); go_simp; try with_reducible rfl)
              try simp only [Act.put, List.setIfInBounds_toArray, List.set_cons_zero, List.set_cons_succ]
              refine wpAnyH_take (i := 11) (oi := { dst := some 88, op := Op.binOp BinOp.neq 3 (Operand.tmp 87) (Operand.const (Value.int IntKind.i64 0)) 3, type := 4, pos := _, after := #[{ on := 10, ground := Ground.data }, { on := 5, ground := Ground.guard }], guard := some (5, false) }) (v := ?v5x11) rfl (by kernel_rfl) (by kernel_rfl) (by kernel_rfl) (fun _ _ _ h => h) (Or.inl ⟨by rfl, ?h5x11⟩) (by assumption) ?_
              case h5x11 => (intro w hSw; (try dsimp only at hSw); go_simp; try with_reducible rfl)
              try simp only [Act.put, List.setIfInBounds_toArray, List.set_cons_zero, List.set_cons_succ]
              refine wpAnyH_take (i := 12) (oi := { dst := some 89, op := Op.pick (Operand.tmp 82) (Operand.const (Value.bool true)) (Operand.tmp 88), type := 4, pos := _, after := #[{ on := 5, ground := Ground.data }, { on := 11, ground := Ground.data }], guard := none }) (v := ?v5x12) rfl (by kernel_rfl) (by kernel_rfl) (by kernel_rfl) (fun _ _ _ h => h) (Or.inl ⟨by rfl, ?h5x12⟩) (by assumption) ?_
              case h5x12 => (intro w hSw; (try dsimp only at hSw); go_simp; try with_reducible rfl)
              try simp only [Act.put, List.setIfInBounds_toArray, List.set_cons_zero, List.set_cons_succ]
              refine wpAnyH_take (i := 13) (oi := { dst := some 90, op := Op.move (Operand.tmp 89), type := 4, pos := _, after := #[{ on := 12, ground := Ground.data }, { on := 5, ground := Ground.chain }], guard := none }) (v := ?v5x13) rfl (by kernel_rfl) (by kernel_rfl) (by kernel_rfl) (fun _ _ _ h => h) (Or.inl ⟨by rfl, ?h5x13⟩) (by assumption) ?_
              case h5x13 => (intro w hSw; (try dsimp only at hSw); go_simp; try with_reducible rfl)
              try simp only [Act.put, List.setIfInBounds_toArray, List.set_cons_zero, List.set_cons_succ]
              refine wpAnyH_take (i := 14) (oi := { dst := some 91, op := Op.load 37 (Operand.tmp 11), type := 37, pos := _, after := #[{ on := 13, ground := Ground.guard }], guard := some (13, false) }) (v := ?v5x14) rfl (by kernel_rfl) (by kernel_rfl) (by kernel_rfl) (fun _ _ _ h => h) (Or.inl ⟨by rfl, ?h5x14⟩) (by assumption) ?_
              case h5x14 => (intro w hSw; (try dsimp only at hSw); go_simp; try with_reducible rfl)
              try simp only [Act.put, List.setIfInBounds_toArray, List.set_cons_zero, List.set_cons_succ]
              refine wpAnyH_take (i := 16) (oi := { dst := some 93, op := Op.load 37 (Operand.tmp 12), type := 37, pos := _, after := #[{ on := 13, ground := Ground.guard }], guard := some (13, false) }) (v := ?v5x16) rfl (by kernel_rfl) (by kernel_rfl) (by kernel_rfl) (fun _ _ _ h => h) (Or.inl ⟨by rfl, ?h5x16⟩) (by assumption) ?_
              case h5x16 => (intro w hSw; (try dsimp only at hSw); go_simp; try with_reducible rfl)
              try simp only [Act.put, List.setIfInBounds_toArray, List.set_cons_zero, List.set_cons_succ]
              refine wpAnyH_ready (rs := [15]) (by kernel_rfl) (by simp) ?_
              refine AllReadyH.cons rfl (fun K hK => ?_) AllReadyH.nil
              go_simp
              go_wp2_with ((go_at_call 40; refine (reach_val s2 k2 r0 _ HR0 p1 p2).mono ?_; rintro e w1 ⟨rfl, hb1⟩))
              refine hK.out _ _ ?_ (fun hHeld => ?_)
              · refine ⟨?_, ?_, ?_, ?_⟩ <;> exact cell_later hb1 (by simp [*])
              clear hK K
              refine wpAnyH_ready (rs := [17]) (by kernel_rfl) (by simp) ?_
              refine AllReadyH.cons rfl (fun K hK => ?_) AllReadyH.nil
              go_simp
              go_wp2_with ((go_at_call 40; refine (reach_val s3 k3 r1 _ HR1 p3 p4).mono ?_; rintro e w2 ⟨rfl, hb2⟩))
              refine hK.out _ _ ?_ (fun hHeld => ?_)
              · refine ⟨?_, ?_, ?_, ?_⟩ <;> exact cell_later hb2 (by simp [*])
              clear hK K
              refine wpAnyH_take (i := 18) (oi := { dst := some 95, op := Op.binOp BinOp.geq 3 (Operand.tmp 92) (Operand.tmp 94) 3, type := 4, pos := _, after := #[{ on := 15, ground := Ground.data }, { on := 17, ground := Ground.data }, { on := 13, ground := Ground.guard }], guard := some (13, false) }) (v := ?v5x18) rfl (by kernel_rfl) (by kernel_rfl) (by kernel_rfl) (fun _ _ _ h => h) (Or.inl ⟨by rfl, ?h5x18⟩) (by assumption) ?_
              case h5x18 => (intro w hSw; (try dsimp only at hSw); go_simp; try with_reducible rfl)
              try simp only [Act.put, List.setIfInBounds_toArray, List.set_cons_zero, List.set_cons_succ]
              refine wpAnyH_take (i := 19) (oi := { dst := some 96, op := Op.pick (Operand.tmp 90) (Operand.const (Value.bool true)) (Operand.tmp 95), type := 4, pos := _, after := #[{ on := 13, ground := Ground.data }, { on := 18, ground := Ground.data }], guard := none }) (v := ?v5x19) rfl (by kernel_rfl) (by kernel_rfl) (by kernel_rfl) (fun _ _ _ h => h) (Or.inl ⟨by rfl, ?h5x19⟩) (by assumption) ?_
              case h5x19 => (intro w hSw; (try dsimp only at hSw); go_simp; try with_reducible rfl)
              try simp only [Act.put, List.setIfInBounds_toArray, List.set_cons_zero, List.set_cons_succ]
              refine wpAnyH_take (i := 20) (oi := { dst := some 97, op := Op.move (Operand.tmp 96), type := 4, pos := _, after := #[{ on := 19, ground := Ground.data }, { on := 17, ground := Ground.chain }], guard := none }) (v := ?v5x20) rfl (by kernel_rfl) (by kernel_rfl) (by kernel_rfl) (fun _ _ _ h => h) (Or.inl ⟨by rfl, ?h5x20⟩) (by assumption) ?_
              case h5x20 => (intro w hSw; (try dsimp only at hSw); go_simp; try with_reducible rfl)
              try simp only [Act.put, List.setIfInBounds_toArray, List.set_cons_zero, List.set_cons_succ]
              refine wpAnyH_take (i := 21) (oi := { dst := some 98, op := Op.fieldAddr 37 (Operand.tmp 11) 1, type := 0, pos := _, after := #[{ on := 20, ground := Ground.guard }], guard := some (20, false) }) (v := ?v5x21) rfl (by kernel_rfl) (by kernel_rfl) (by kernel_rfl) (fun _ _ _ h => h) (Or.inl ⟨by rfl, ?h5x21⟩) (by assumption) ?_
              case h5x21 => (intro w hSw; (try dsimp only at hSw); go_simp; try with_reducible rfl)
              try simp only [Act.put, List.setIfInBounds_toArray, List.set_cons_zero, List.set_cons_succ]
              refine wpAnyH_take (i := 22) (oi := { dst := some 99, op := Op.load 3 (Operand.tmp 98), type := 3, pos := _, after := #[{ on := 21, ground := Ground.data }, { on := 20, ground := Ground.guard }], guard := some (20, false) }) (v := ?v5x22) rfl (by kernel_rfl) (by kernel_rfl) (by kernel_rfl) (fun _ _ _ h => h) (Or.inl ⟨by rfl, ?h5x22⟩) (by assumption) ?_
              case h5x22 => (intro w hSw; (try dsimp only at hSw); go_simp; try with_reducible rfl)
              try simp only [Act.put, List.setIfInBounds_toArray, List.set_cons_zero, List.set_cons_succ]
              refine wpAnyH_take (i := 23) (oi := { dst := some 100, op := Op.fieldAddr 37 (Operand.tmp 12) 0, type := 0, pos := _, after := #[{ on := 20, ground := Ground.guard }], guard := some (20, false) }) (v := ?v5x23) rfl (by kernel_rfl) (by kernel_rfl) (by kernel_rfl) (fun _ _ _ h => h) (Or.inl ⟨by rfl, ?h5x23⟩) (by assumption) ?_
              case h5x23 => (intro w hSw; (try dsimp only at hSw); go_simp; try with_reducible rfl)
              try simp only [Act.put, List.setIfInBounds_toArray, List.set_cons_zero, List.set_cons_succ]
              refine wpAnyH_take (i := 24) (oi := { dst := some 101, op := Op.load 3 (Operand.tmp 100), type := 3, pos := _, after := #[{ on := 23, ground := Ground.data }, { on := 20, ground := Ground.guard }], guard := some (20, false) }) (v := ?v5x24) rfl (by kernel_rfl) (by kernel_rfl) (by kernel_rfl) (fun _ _ _ h => h) (Or.inl ⟨by rfl, ?h5x24⟩) (by assumption) ?_
              case h5x24 => (intro w hSw; (try dsimp only at hSw); go_simp; try with_reducible rfl)
              try simp only [Act.put, List.setIfInBounds_toArray, List.set_cons_zero, List.set_cons_succ]
              refine wpAnyH_take (i := 25) (oi := { dst := some 102, op := Op.fieldAddr 37 (Operand.tmp 11) 0, type := 0, pos := _, after := #[{ on := 20, ground := Ground.guard }], guard := some (20, false) }) (v := ?v5x25) rfl (by kernel_rfl) (by kernel_rfl) (by kernel_rfl) (fun _ _ _ h => h) (Or.inl ⟨by rfl, ?h5x25⟩) (by assumption) ?_
              case h5x25 => (intro w hSw; (try dsimp only at hSw); go_simp; try with_reducible rfl)
              try simp only [Act.put, List.setIfInBounds_toArray, List.set_cons_zero, List.set_cons_succ]
              refine wpAnyH_take (i := 26) (oi := { dst := some 103, op := Op.load 3 (Operand.tmp 102), type := 3, pos := _, after := #[{ on := 25, ground := Ground.data }, { on := 20, ground := Ground.guard }], guard := some (20, false) }) (v := ?v5x26) rfl (by kernel_rfl) (by kernel_rfl) (by kernel_rfl) (fun _ _ _ h => h) (Or.inl ⟨by rfl, ?h5x26⟩) (by assumption) ?_
              case h5x26 => (intro w hSw; (try dsimp only at hSw); go_simp; try with_reducible rfl)
              try simp only [Act.put, List.setIfInBounds_toArray, List.set_cons_zero, List.set_cons_succ]
              refine wpAnyH_take (i := 27) (oi := { dst := some 104, op := Op.binOp BinOp.quo 3 (Operand.tmp 101) (Operand.tmp 103) 3, type := 3, pos := _, after := #[{ on := 24, ground := Ground.data }, { on := 26, ground := Ground.data }, { on := 20, ground := Ground.guard }], guard := some (20, false) }) (v := ?v5x27) rfl (by kernel_rfl) (by kernel_rfl) (by kernel_rfl) (fun _ _ _ h => h) (Or.inl ⟨by rfl, ?h5x27⟩) (by assumption) ?_
              case h5x27 => (intro w hSw; (try dsimp only at hSw); go_simp; try with_reducible rfl)
              try simp only [Act.put, List.setIfInBounds_toArray, List.set_cons_zero, List.set_cons_succ]
              refine wpAnyH_take (i := 28) (oi := { dst := some 105, op := Op.binOp BinOp.lss 3 (Operand.tmp 99) (Operand.tmp 104) 3, type := 4, pos := _, after := #[{ on := 22, ground := Ground.data }, { on := 27, ground := Ground.data }, { on := 20, ground := Ground.guard }], guard := some (20, false) }) (v := ?v5x28) rfl (by kernel_rfl) (by kernel_rfl) (by kernel_rfl) (fun _ _ _ h => h) (Or.inl ⟨by rfl, ?h5x28⟩) (by assumption) ?_
              case h5x28 => (intro w hSw; (try dsimp only at hSw); go_simp; try with_reducible rfl)
              try simp only [Act.put, List.setIfInBounds_toArray, List.set_cons_zero, List.set_cons_succ]
              refine wpAnyH_take (i := 29) (oi := { dst := some 106, op := Op.pick (Operand.tmp 97) (Operand.const (Value.bool true)) (Operand.tmp 105), type := 4, pos := _, after := #[{ on := 20, ground := Ground.data }, { on := 28, ground := Ground.data }], guard := none }) (v := ?v5x29) rfl (by kernel_rfl) (by kernel_rfl) (by kernel_rfl) (fun _ _ _ h => h) (Or.inl ⟨by rfl, ?h5x29⟩) (by assumption) ?_
              case h5x29 => (intro w hSw; (try dsimp only at hSw); go_simp; try with_reducible rfl)
              try simp only [Act.put, List.setIfInBounds_toArray, List.set_cons_zero, List.set_cons_succ]
              refine wpAnyH_done (by kernel_rfl) ?_ _
              go_wp2
              · go_ret
                exact ⟨ret_int (HN.out (by omega)).symm, below_fin (below_two HBR.out hb1 hb2)⟩
              · go_roundw
                case rel => first | exact ⟨3, by omega, rfl, c.twos_succ HT.out (fun _ => HG.out (by assumption)), below_two HBR.out hb1 hb2⟩ | ((repeat apply Exists.intro); exact ⟨⟨3, by omega, rfl, c.twos_succ HT.out (fun _ => HG.out (by assumption)), below_two HBR.out hb1 hb2⟩, rfl⟩)
                case measure => simp [intOf]
theorem rcheck_yes (c : Cfg) (w : World) (hMf : c.Mf) :
    Calls Tryz.prog 19 #[.agg c.cells] w fun e w' => e = .returned (i64 c.err) ∧ Below w.heap.size w w' :=
  rcheck_vars c.s0 c.k0 c.s1 c.k1 c.s2 c.k2 c.s3 c.k3 c.m c.f c rfl w hMf
end Go.Proofs.YthbbfjfekchdiaaGreat
