import Derived.Test.YthbbfjfekchdiaaGreatXHPick
import Derived.Test.YthbbfjfekchdiaaGreatXTk
import Derived.Test.YthbbfjfekchdiaaGreatXLeafWalks
import Derived.Deep.RegionHeld3
import Derived.Deep.DrawnRows
import Derived.Deep.QuietTactic
import Derived.BigQuiet
namespace Go.Proofs.YthbbfjfekchdiaaGreat
open Go.RowKit
set_option linter.unusedSimpArgs false
attribute [local go_sem] Go.wp_at_zero Go.wp_at_succ
end Go.Proofs.YthbbfjfekchdiaaGreat
namespace Go.Proofs.YthbbfjfekchdiaaGreat
open Go.RowKit
set_option linter.unusedSimpArgs false
attribute [local go_sem] Go.wp_at_zero Go.wp_at_succ
theorem bcell {n : Nat} {W w1 : World} (hb : Below n W w1) : (∀ b o, b < n → w1.cell? ⟨b, o, none⟩ = W.cell? ⟨b, o, none⟩) ∧ (∀ b o, b < n → w1.frozen? ⟨b, o, none⟩ = W.frozen? ⟨b, o, none⟩) :=
  ⟨fun b o h => hb.cell (p := ⟨b, o, none⟩) h, fun b o h => hb.frozen (p := ⟨b, o, none⟩) h⟩
theorem below_size {w wr : World} {O : Obj} (h : Below (w.heap.size + 1) (w.alloc O) wr) : w.heap.size + 1 ≤ wr.heap.size := by
  have := h.size; simp at this; omega
theorem below_fin {w wr : World} {O : Obj} (h : Below (w.heap.size + 1) (w.alloc O) wr) : Below w.heap.size w wr :=
  ((Below.refl _ _).alloc (Nat.le_refl _) _).trans (h.mono (by omega))
theorem below_call {w w' : World} {O : Obj} (h : Below (w.alloc O).heap.size (w.alloc O) w') : Below (w.heap.size + 1) (w.alloc O) w' := by
  have e : (w.alloc O).heap.size = w.heap.size + 1 := by simp
  rwa [e] at h
theorem below_two {w wr w1 w2 : World} {O A B : Obj} (h : Below (w.heap.size + 1) (w.alloc O) wr) (h1 : Below ((wr.alloc A).alloc B).drew.heap.size ((wr.alloc A).alloc B).drew w1) (h2 : Below w1.heap.size w1 w2) : Below (w.heap.size + 1) (w.alloc O) w2 := by
  have hz := below_size h
  have hd : ((wr.alloc A).alloc B).drew.heap.size = wr.heap.size + 1 + 1 := by show ((wr.alloc A).alloc B).heap.size = _; simp
  have hs := h1.size
  rw [hd] at h1 hs
  exact ((((h.alloc (by omega) A).alloc (by simp; omega) B).drew).trans (h1.mono (by omega))).trans (h2.mono (by omega))
theorem below_quiet {w wr : World} {O A B : Obj} (nq : Nat) (h : Below (w.heap.size + 1) (w.alloc O) wr) : Below w.heap.size w (((wr.alloc A).alloc B).drewN nq) := by
  have hz := below_size h
  exact below_drewN (((below_fin h).alloc (by omega) A).alloc (by simp; omega) B) nq
theorem mf_at {s0 k0 s1 k1 s2 k2 s3 k3 m f : Int} {c : Cfg} (h : c = ⟨s0, k0, s1, k1, s2, k2, s3, k3, m, f⟩) : c.Mf ↔ (1 ≤ m ∧ m ≤ 6 ∧ 0 ≤ f ∧ f ≤ 100 ∧ 1 ≤ c.many) := by subst h; exact Iff.rfl
theorem bd_at0 {s0 k0 s1 k1 s2 k2 s3 k3 m f : Int} {c : Cfg} (h : c = ⟨s0, k0, s1, k1, s2, k2, s3, k3, m, f⟩) : c.Bd 0 ↔ (1 ≤ s0 ∧ s0 ≤ 86400 ∧ 1 ≤ k0 ∧ k0 ≤ 60) := by subst h; exact Iff.rfl
theorem prod_at0 {s0 k0 s1 k1 s2 k2 s3 k3 m f : Int} {c : Cfg} (h : c = ⟨s0, k0, s1, k1, s2, k2, s3, k3, m, f⟩) (hb : c.Bd 0) : 0 ≤ s0 * k0 ∧ s0 * k0 ≤ 1000000000 := by subst h; exact Cfg.prod_bd hb
theorem zero_at1 {s0 k0 s1 k1 s2 k2 s3 k3 m f : Int} {c : Cfg} (h : c = ⟨s0, k0, s1, k1, s2, k2, s3, k3, m, f⟩) : c.Zero 1 ↔ (s1 = 0 ∧ k1 = 0) := by subst h; exact Iff.rfl
theorem bd_at1 {s0 k0 s1 k1 s2 k2 s3 k3 m f : Int} {c : Cfg} (h : c = ⟨s0, k0, s1, k1, s2, k2, s3, k3, m, f⟩) : c.Bd 1 ↔ (1 ≤ s1 ∧ s1 ≤ 86400 ∧ 1 ≤ k1 ∧ k1 ≤ 60) := by subst h; exact Iff.rfl
theorem prod_at1 {s0 k0 s1 k1 s2 k2 s3 k3 m f : Int} {c : Cfg} (h : c = ⟨s0, k0, s1, k1, s2, k2, s3, k3, m, f⟩) (hb : c.Bd 1) : 0 ≤ s1 * k1 ∧ s1 * k1 ≤ 1000000000 := by subst h; exact Cfg.prod_bd hb
theorem zero_at2 {s0 k0 s1 k1 s2 k2 s3 k3 m f : Int} {c : Cfg} (h : c = ⟨s0, k0, s1, k1, s2, k2, s3, k3, m, f⟩) : c.Zero 2 ↔ (s2 = 0 ∧ k2 = 0) := by subst h; exact Iff.rfl
theorem bd_at2 {s0 k0 s1 k1 s2 k2 s3 k3 m f : Int} {c : Cfg} (h : c = ⟨s0, k0, s1, k1, s2, k2, s3, k3, m, f⟩) : c.Bd 2 ↔ (1 ≤ s2 ∧ s2 ≤ 86400 ∧ 1 ≤ k2 ∧ k2 ≤ 60) := by subst h; exact Iff.rfl
theorem prod_at2 {s0 k0 s1 k1 s2 k2 s3 k3 m f : Int} {c : Cfg} (h : c = ⟨s0, k0, s1, k1, s2, k2, s3, k3, m, f⟩) (hb : c.Bd 2) : 0 ≤ s2 * k2 ∧ s2 * k2 ≤ 1000000000 := by subst h; exact Cfg.prod_bd hb
theorem zero_at3 {s0 k0 s1 k1 s2 k2 s3 k3 m f : Int} {c : Cfg} (h : c = ⟨s0, k0, s1, k1, s2, k2, s3, k3, m, f⟩) : c.Zero 3 ↔ (s3 = 0 ∧ k3 = 0) := by subst h; exact Iff.rfl
theorem bd_at3 {s0 k0 s1 k1 s2 k2 s3 k3 m f : Int} {c : Cfg} (h : c = ⟨s0, k0, s1, k1, s2, k2, s3, k3, m, f⟩) : c.Bd 3 ↔ (1 ≤ s3 ∧ s3 ≤ 86400 ∧ 1 ≤ k3 ∧ k3 ≤ 60) := by subst h; exact Iff.rfl
theorem prod_at3 {s0 k0 s1 k1 s2 k2 s3 k3 m f : Int} {c : Cfg} (h : c = ⟨s0, k0, s1, k1, s2, k2, s3, k3, m, f⟩) (hb : c.Bd 3) : 0 ≤ s3 * k3 ∧ s3 * k3 ≤ 1000000000 := by subst h; exact Cfg.prod_bd hb
theorem ft_at0 {s0 k0 s1 k1 s2 k2 s3 k3 m f : Int} {c : Cfg} (h : c = ⟨s0, k0, s1, k1, s2, k2, s3, k3, m, f⟩) : c.Ft 0 ↔ (s0 < s1 ∧ s1 % s0 = 0 ∧ s0 * k0 < s1 * k1 ∧ s1 / s0 ≤ k0) := by subst h; exact Iff.rfl
theorem ft_at1 {s0 k0 s1 k1 s2 k2 s3 k3 m f : Int} {c : Cfg} (h : c = ⟨s0, k0, s1, k1, s2, k2, s3, k3, m, f⟩) : c.Ft 1 ↔ (s1 < s2 ∧ s2 % s1 = 0 ∧ s1 * k1 < s2 * k2 ∧ s2 / s1 ≤ k1) := by subst h; exact Iff.rfl
theorem ft_at2 {s0 k0 s1 k1 s2 k2 s3 k3 m f : Int} {c : Cfg} (h : c = ⟨s0, k0, s1, k1, s2, k2, s3, k3, m, f⟩) : c.Ft 2 ↔ (s2 < s3 ∧ s3 % s2 = 0 ∧ s2 * k2 < s3 * k3 ∧ s3 / s2 ≤ k2) := by subst h; exact Iff.rfl
theorem many_vars {s0 k0 s1 k1 s2 k2 s3 k3 m f : Int} {c : Cfg} (h : Hid (c = ⟨s0, k0, s1, k1, s2, k2, s3, k3, m, f⟩)) (w : World) :
    Calls Tryz.prog 39 #[.agg #[i64 s0, i64 k0, i64 s1, i64 k1, i64 s2, i64 k2, i64 s3, i64 k3, i64 m, i64 f]] w fun e w' => e = .returned (i64 c.many) ∧ Below w.heap.size w w' := by
  have e := h.out; subst e; exact many_any _ w
set_option maxHeartbeats 8000000 in
theorem rcheck_vars (s0 k0 s1 k1 s2 k2 s3 k3 m f : Int) (c : Cfg) (HC : Hid (c = ⟨s0, k0, s1, k1, s2, k2, s3, k3, m, f⟩)) (w : World) (hMf : c.Mf) :
    Calls Tryz.prog 19 #[.agg #[i64 s0, i64 k0, i64 s1, i64 k1, i64 s2, i64 k2, i64 s3, i64 k3, i64 m, i64 f]] w fun e w' => e = .returned (i64 c.err) ∧ Below w.heap.size w w' := by
  have HMf := hid hMf
  obtain ⟨h1, h2, h3, h4, h5⟩ := (mf_at HC.out).1 hMf
  clear hMf
  have h6 := c.many_le
  have h7 : ((c.many : Int) == 0) = false := beq_eq_false_iff_ne.2 (by omega)
  go_enter Tryz.func19, Tryz.ntmps19
  go_wp2_with (first | (go_at_call 38; refine (in_any _ _ _ _).mono ?_; rintro e w' ⟨rfl, rfl⟩) | (go_at_call 39; refine (many_vars HC _).mono ?_; rintro e w' ⟨rfl, hb'⟩; have HB := hid (below_call hb'); clear hb'))
  go_loopw [6] (fun i wr => ∃ k : Nat, k ≤ 4 ∧ i = i64 k ∧ c.Ones k ∧ Below (w.heap.size + 1) (w.alloc (.cells #[i64 s0, i64 k0, i64 s1, i64 k1, i64 s2, i64 k2, i64 s3, i64 k3, i64 m, i64 f] 40)) wr) (fun i _ => 4 - (intOf i).toNat)
  case atStart => exact ⟨0, by omega, rfl, c.ones_zero, HB.out⟩
  case round =>
    clear HB
    obtain ⟨k, hk, rfl, hones, hbr⟩ := hrel
    have HO := hid hones
    have HBR := hid hbr
    obtain ⟨hc, hf⟩ := bcell hbr
    have hz : w.heap.size < wr.heap.size := below_size hbr
    clear hones hbr
    have hk5 : k = 0 ∨ k = 1 ∨ k = 2 ∨ k = 3 ∨ k = 4 := by omega
    rcases hk5 with rfl | rfl | rfl | rfl | rfl
    · by_cases hkn : c.many ≤ 0
      · exact absurd hkn (by omega)
      · by_cases hB : c.Bd 0
        · have HB := hid hB
          obtain ⟨b1, b2, b3, b4⟩ := ((bd_at0 HC.out).1 hB)
          clear hB
          go_wp2_with (first | (go_at_call 38; refine (in_any _ _ _ _).mono ?_; rintro e w' ⟨rfl, rfl⟩))
          go_roundw
          case rel => first | exact ⟨1, by omega, rfl, c.ones_succ HO.out (fun h => absurd h hkn) (fun _ => HB.out), HBR.out.alloc hz _⟩ | ((repeat apply Exists.intro); exact ⟨⟨1, by omega, rfl, c.ones_succ HO.out (fun h => absurd h hkn) (fun _ => HB.out), HBR.out.alloc hz _⟩, rfl⟩)
          case measure => simp [intOf]
        · have HB := hid hB
          have hb' : ¬ (1 ≤ s0 ∧ s0 ≤ 86400 ∧ 1 ≤ k0 ∧ k0 ≤ 60) := fun h => hB ((bd_at0 HC.out).2 h)
          clear hB
          have HE := hid (c.not_ok_bd (j := 0) (by omega) HB.out)
          by_cases b1 : 1 ≤ s0 ∧ s0 ≤ 86400
          · have b3 : Hid (¬ (1 ≤ k0 ∧ k0 ≤ 60)) := fun h => hb' ⟨b1.1, b1.2, h.1, h.2⟩
            obtain ⟨b1, b2⟩ := b1
            clear hb' HB
            have b4 : (decide (1 ≤ k0) && decide (k0 ≤ 60)) = false := by
              have := b3.out
              rw [Bool.and_eq_false_iff]; simp only [decide_eq_false_iff_not]; omega
            go_wp2_with (first | (go_at_call 38; refine (in_any _ _ _ _).mono ?_; rintro e w' ⟨rfl, rfl⟩))
            all_goals first | (go_ret; exact ⟨ret_int HE.out.symm, (below_fin HBR.out).alloc (by omega) _⟩) | (exfalso; apply b3.out; simp_all)
          · clear hb' HB
            have b4 : (decide (1 ≤ s0) && decide (s0 ≤ 86400)) = false := by
              rw [Bool.and_eq_false_iff]; simp only [decide_eq_false_iff_not]; omega
            go_wp2_with (first | (go_at_call 38; refine (in_any _ _ _ _).mono ?_; rintro e w' ⟨rfl, rfl⟩))
            all_goals first | (go_ret; exact ⟨ret_int HE.out.symm, (below_fin HBR.out).alloc (by omega) _⟩) | (exfalso; apply b1; simp_all)
    · by_cases hkn : c.many ≤ 1
      · by_cases hZ : c.Zero 1
        · have HZ := hid hZ
          obtain ⟨rfl, rfl⟩ := ((zero_at1 HC.out).1 hZ)
          clear hZ
          go_wp2_with (first | (go_at_call 38; refine (in_any _ _ _ _).mono ?_; rintro e w' ⟨rfl, rfl⟩))
          go_roundw
          case rel => first | exact ⟨2, by omega, rfl, c.ones_succ HO.out (fun _ => HZ.out) (fun h => absurd h (by omega)), HBR.out.alloc hz _⟩ | ((repeat apply Exists.intro); exact ⟨⟨2, by omega, rfl, c.ones_succ HO.out (fun _ => HZ.out) (fun h => absurd h (by omega)), HBR.out.alloc hz _⟩, rfl⟩)
          case measure => simp [intOf]
        · have HZ := hid hZ
          have hz' : ¬ (s1 = 0 ∧ k1 = 0) := fun h => hZ ((zero_at1 HC.out).2 h)
          clear hZ
          by_cases z1 : s1 = 0
          · have z2 : ¬ k1 = 0 := fun h => hz' ⟨z1, h⟩
            clear hz'
            go_wp2_with (first | (go_at_call 38; refine (in_any _ _ _ _).mono ?_; rintro e w' ⟨rfl, rfl⟩))
            go_ret
            exact ⟨ret_int (c.not_ok_zero (j := 1) (by omega) hkn HZ.out).symm, (below_fin HBR.out).alloc (by omega) _⟩
          · clear hz'
            go_wp2_with (first | (go_at_call 38; refine (in_any _ _ _ _).mono ?_; rintro e w' ⟨rfl, rfl⟩))
            go_ret
            exact ⟨ret_int (c.not_ok_zero (j := 1) (by omega) hkn HZ.out).symm, (below_fin HBR.out).alloc (by omega) _⟩
      · by_cases hB : c.Bd 1
        · have HB := hid hB
          obtain ⟨b1, b2, b3, b4⟩ := ((bd_at1 HC.out).1 hB)
          clear hB
          go_wp2_with (first | (go_at_call 38; refine (in_any _ _ _ _).mono ?_; rintro e w' ⟨rfl, rfl⟩))
          go_roundw
          case rel => first | exact ⟨2, by omega, rfl, c.ones_succ HO.out (fun h => absurd h hkn) (fun _ => HB.out), HBR.out.alloc hz _⟩ | ((repeat apply Exists.intro); exact ⟨⟨2, by omega, rfl, c.ones_succ HO.out (fun h => absurd h hkn) (fun _ => HB.out), HBR.out.alloc hz _⟩, rfl⟩)
          case measure => simp [intOf]
        · have HB := hid hB
          have hb' : ¬ (1 ≤ s1 ∧ s1 ≤ 86400 ∧ 1 ≤ k1 ∧ k1 ≤ 60) := fun h => hB ((bd_at1 HC.out).2 h)
          clear hB
          have HE := hid (c.not_ok_bd (j := 1) (by omega) HB.out)
          by_cases b1 : 1 ≤ s1 ∧ s1 ≤ 86400
          · have b3 : Hid (¬ (1 ≤ k1 ∧ k1 ≤ 60)) := fun h => hb' ⟨b1.1, b1.2, h.1, h.2⟩
            obtain ⟨b1, b2⟩ := b1
            clear hb' HB
            have b4 : (decide (1 ≤ k1) && decide (k1 ≤ 60)) = false := by
              have := b3.out
              rw [Bool.and_eq_false_iff]; simp only [decide_eq_false_iff_not]; omega
            go_wp2_with (first | (go_at_call 38; refine (in_any _ _ _ _).mono ?_; rintro e w' ⟨rfl, rfl⟩))
            all_goals first | (go_ret; exact ⟨ret_int HE.out.symm, (below_fin HBR.out).alloc (by omega) _⟩) | (exfalso; apply b3.out; simp_all)
          · clear hb' HB
            have b4 : (decide (1 ≤ s1) && decide (s1 ≤ 86400)) = false := by
              rw [Bool.and_eq_false_iff]; simp only [decide_eq_false_iff_not]; omega
            go_wp2_with (first | (go_at_call 38; refine (in_any _ _ _ _).mono ?_; rintro e w' ⟨rfl, rfl⟩))
            all_goals first | (go_ret; exact ⟨ret_int HE.out.symm, (below_fin HBR.out).alloc (by omega) _⟩) | (exfalso; apply b1; simp_all)
    · by_cases hkn : c.many ≤ 2
      · by_cases hZ : c.Zero 2
        · have HZ := hid hZ
          obtain ⟨rfl, rfl⟩ := ((zero_at2 HC.out).1 hZ)
          clear hZ
          go_wp2_with (first | (go_at_call 38; refine (in_any _ _ _ _).mono ?_; rintro e w' ⟨rfl, rfl⟩))
          go_roundw
          case rel => first | exact ⟨3, by omega, rfl, c.ones_succ HO.out (fun _ => HZ.out) (fun h => absurd h (by omega)), HBR.out.alloc hz _⟩ | ((repeat apply Exists.intro); exact ⟨⟨3, by omega, rfl, c.ones_succ HO.out (fun _ => HZ.out) (fun h => absurd h (by omega)), HBR.out.alloc hz _⟩, rfl⟩)
          case measure => simp [intOf]
        · have HZ := hid hZ
          have hz' : ¬ (s2 = 0 ∧ k2 = 0) := fun h => hZ ((zero_at2 HC.out).2 h)
          clear hZ
          by_cases z1 : s2 = 0
          · have z2 : ¬ k2 = 0 := fun h => hz' ⟨z1, h⟩
            clear hz'
            go_wp2_with (first | (go_at_call 38; refine (in_any _ _ _ _).mono ?_; rintro e w' ⟨rfl, rfl⟩))
            go_ret
            exact ⟨ret_int (c.not_ok_zero (j := 2) (by omega) hkn HZ.out).symm, (below_fin HBR.out).alloc (by omega) _⟩
          · clear hz'
            go_wp2_with (first | (go_at_call 38; refine (in_any _ _ _ _).mono ?_; rintro e w' ⟨rfl, rfl⟩))
            go_ret
            exact ⟨ret_int (c.not_ok_zero (j := 2) (by omega) hkn HZ.out).symm, (below_fin HBR.out).alloc (by omega) _⟩
      · by_cases hB : c.Bd 2
        · have HB := hid hB
          obtain ⟨b1, b2, b3, b4⟩ := ((bd_at2 HC.out).1 hB)
          clear hB
          go_wp2_with (first | (go_at_call 38; refine (in_any _ _ _ _).mono ?_; rintro e w' ⟨rfl, rfl⟩))
          go_roundw
          case rel => first | exact ⟨3, by omega, rfl, c.ones_succ HO.out (fun h => absurd h hkn) (fun _ => HB.out), HBR.out.alloc hz _⟩ | ((repeat apply Exists.intro); exact ⟨⟨3, by omega, rfl, c.ones_succ HO.out (fun h => absurd h hkn) (fun _ => HB.out), HBR.out.alloc hz _⟩, rfl⟩)
          case measure => simp [intOf]
        · have HB := hid hB
          have hb' : ¬ (1 ≤ s2 ∧ s2 ≤ 86400 ∧ 1 ≤ k2 ∧ k2 ≤ 60) := fun h => hB ((bd_at2 HC.out).2 h)
          clear hB
          have HE := hid (c.not_ok_bd (j := 2) (by omega) HB.out)
          by_cases b1 : 1 ≤ s2 ∧ s2 ≤ 86400
          · have b3 : Hid (¬ (1 ≤ k2 ∧ k2 ≤ 60)) := fun h => hb' ⟨b1.1, b1.2, h.1, h.2⟩
            obtain ⟨b1, b2⟩ := b1
            clear hb' HB
            have b4 : (decide (1 ≤ k2) && decide (k2 ≤ 60)) = false := by
              have := b3.out
              rw [Bool.and_eq_false_iff]; simp only [decide_eq_false_iff_not]; omega
            go_wp2_with (first | (go_at_call 38; refine (in_any _ _ _ _).mono ?_; rintro e w' ⟨rfl, rfl⟩))
            all_goals first | (go_ret; exact ⟨ret_int HE.out.symm, (below_fin HBR.out).alloc (by omega) _⟩) | (exfalso; apply b3.out; simp_all)
          · clear hb' HB
            have b4 : (decide (1 ≤ s2) && decide (s2 ≤ 86400)) = false := by
              rw [Bool.and_eq_false_iff]; simp only [decide_eq_false_iff_not]; omega
            go_wp2_with (first | (go_at_call 38; refine (in_any _ _ _ _).mono ?_; rintro e w' ⟨rfl, rfl⟩))
            all_goals first | (go_ret; exact ⟨ret_int HE.out.symm, (below_fin HBR.out).alloc (by omega) _⟩) | (exfalso; apply b1; simp_all)
    · by_cases hkn : c.many ≤ 3
      · by_cases hZ : c.Zero 3
        · have HZ := hid hZ
          obtain ⟨rfl, rfl⟩ := ((zero_at3 HC.out).1 hZ)
          clear hZ
          go_wp2_with (first | (go_at_call 38; refine (in_any _ _ _ _).mono ?_; rintro e w' ⟨rfl, rfl⟩))
          go_roundw
          case rel => first | exact ⟨4, by omega, rfl, c.ones_succ HO.out (fun _ => HZ.out) (fun h => absurd h (by omega)), HBR.out.alloc hz _⟩ | ((repeat apply Exists.intro); exact ⟨⟨4, by omega, rfl, c.ones_succ HO.out (fun _ => HZ.out) (fun h => absurd h (by omega)), HBR.out.alloc hz _⟩, rfl⟩)
          case measure => simp [intOf]
        · have HZ := hid hZ
          have hz' : ¬ (s3 = 0 ∧ k3 = 0) := fun h => hZ ((zero_at3 HC.out).2 h)
          clear hZ
          by_cases z1 : s3 = 0
          · have z2 : ¬ k3 = 0 := fun h => hz' ⟨z1, h⟩
            clear hz'
            go_wp2_with (first | (go_at_call 38; refine (in_any _ _ _ _).mono ?_; rintro e w' ⟨rfl, rfl⟩))
            go_ret
            exact ⟨ret_int (c.not_ok_zero (j := 3) (by omega) hkn HZ.out).symm, (below_fin HBR.out).alloc (by omega) _⟩
          · clear hz'
            go_wp2_with (first | (go_at_call 38; refine (in_any _ _ _ _).mono ?_; rintro e w' ⟨rfl, rfl⟩))
            go_ret
            exact ⟨ret_int (c.not_ok_zero (j := 3) (by omega) hkn HZ.out).symm, (below_fin HBR.out).alloc (by omega) _⟩
      · by_cases hB : c.Bd 3
        · have HB := hid hB
          obtain ⟨b1, b2, b3, b4⟩ := ((bd_at3 HC.out).1 hB)
          clear hB
          go_wp2_with (first | (go_at_call 38; refine (in_any _ _ _ _).mono ?_; rintro e w' ⟨rfl, rfl⟩))
          go_roundw
          case rel => first | exact ⟨4, by omega, rfl, c.ones_succ HO.out (fun h => absurd h hkn) (fun _ => HB.out), HBR.out.alloc hz _⟩ | ((repeat apply Exists.intro); exact ⟨⟨4, by omega, rfl, c.ones_succ HO.out (fun h => absurd h hkn) (fun _ => HB.out), HBR.out.alloc hz _⟩, rfl⟩)
          case measure => simp [intOf]
        · have HB := hid hB
          have hb' : ¬ (1 ≤ s3 ∧ s3 ≤ 86400 ∧ 1 ≤ k3 ∧ k3 ≤ 60) := fun h => hB ((bd_at3 HC.out).2 h)
          clear hB
          have HE := hid (c.not_ok_bd (j := 3) (by omega) HB.out)
          by_cases b1 : 1 ≤ s3 ∧ s3 ≤ 86400
          · have b3 : Hid (¬ (1 ≤ k3 ∧ k3 ≤ 60)) := fun h => hb' ⟨b1.1, b1.2, h.1, h.2⟩
            obtain ⟨b1, b2⟩ := b1
            clear hb' HB
            have b4 : (decide (1 ≤ k3) && decide (k3 ≤ 60)) = false := by
              have := b3.out
              rw [Bool.and_eq_false_iff]; simp only [decide_eq_false_iff_not]; omega
            go_wp2_with (first | (go_at_call 38; refine (in_any _ _ _ _).mono ?_; rintro e w' ⟨rfl, rfl⟩))
            all_goals first | (go_ret; exact ⟨ret_int HE.out.symm, (below_fin HBR.out).alloc (by omega) _⟩) | (exfalso; apply b3.out; simp_all)
          · clear hb' HB
            have b4 : (decide (1 ≤ s3) && decide (s3 ≤ 86400)) = false := by
              rw [Bool.and_eq_false_iff]; simp only [decide_eq_false_iff_not]; omega
            go_wp2_with (first | (go_at_call 38; refine (in_any _ _ _ _).mono ?_; rintro e w' ⟨rfl, rfl⟩))
            all_goals first | (go_ret; exact ⟨ret_int HE.out.symm, (below_fin HBR.out).alloc (by omega) _⟩) | (exfalso; apply b1; simp_all)
    · have HO3 := hid (show ∀ i, i < c.many → c.Bd i from fun i h => (HO.out i (by omega)).2 h)
      go_wp2
      go_loopw [10] (fun i wr => ∃ k : Nat, k ≤ 3 ∧ i = i64 k ∧ c.Twos k ∧ Below (w.heap.size + 1) (w.alloc (.cells #[i64 s0, i64 k0, i64 s1, i64 k1, i64 s2, i64 k2, i64 s3, i64 k3, i64 m, i64 f] 40)) wr) (fun i _ => 4 - (intOf i).toNat)
      case atStart => exact ⟨0, by omega, rfl, c.twos_zero, HBR.out⟩
      case round =>
        clear HBR hz hc hf
        obtain ⟨k, hk, rfl, htwos, hbr⟩ := hrel
        have HT := hid htwos
        have HBR := hid hbr
        obtain ⟨hc, hf⟩ := bcell hbr
        have hz : w.heap.size < wr.heap.size := below_size hbr
        clear htwos hbr
        by_cases hkn : c.many ≤ k + 1
        · go_wp2
          go_ret
          exact ⟨ret_int (c.is_ok HMf.out HO.out HT.out hkn).symm, below_fin HBR.out⟩
        · have hk3 : k = 0 ∨ k = 1 ∨ k = 2 := by omega
          rcases hk3 with rfl | rfl | rfl
          · have HB0 := hid (HO3.out 0 (by omega))
            have HB1 := hid (HO3.out 1 (by omega))
            obtain ⟨b1, b2, b3, b4⟩ := ((bd_at0 HC.out).1 HB0.out)
            obtain ⟨e1, e2, e3, e4⟩ := ((bd_at1 HC.out).1 HB1.out)
            obtain ⟨p1, p2⟩ := (prod_at0 HC.out HB0.out)
            obtain ⟨p3, p4⟩ := (prod_at1 HC.out HB1.out)
            have HF := hid (show c.Ft 0 ↔ (s0 < s1 ∧ s1 % s0 = 0 ∧ s0 * k0 < s1 * k1 ∧ s1 / s0 ≤ k0) from ft_at0 HC.out)
            obtain ⟨r0, hr0⟩ : ∃ r, r = s0 * k0 := ⟨_, rfl⟩
            obtain ⟨r1, hr1⟩ : ∃ r, r = s1 * k1 := ⟨_, rfl⟩
            rw [← hr0] at p1 p2 HF
            rw [← hr1] at p3 p4 HF
            have HR0 := hid hr0
            have HR1 := hid hr1
            clear hr0 hr1
            by_cases t1 : s1 ≤ s0
            · have HE := hid (c.not_ok_ft (j := 0) (by omega) (fun h => absurd (HF.out.1 h).1 (by omega)))
              have g1 : decide (s1 ≤ s0) = true := by simp; omega
              go_wp2_with fail
              go_quiet (fail)
              go_wp2
              go_ret
              exact ⟨ret_int HE.out.symm, below_quiet _ HBR.out⟩
            by_cases t2 : s1 % s0 = 0
            case neg =>
              have HE := hid (c.not_ok_ft (j := 0) (by omega) (fun h => t2 (HF.out.1 h).2.1))
              have n2 : ¬ s0 = 0 := by omega
              have m1 : s1.tmod s0 = s1 % s0 := IntWalk.rem_in _ _ (by omega)
              have m2 : IntKind.i64.wrap (s1.tdiv s0) = s1 / s0 := IntWalk.i64_quo _ _ ⟨by omega, by omega, b1⟩
              have g1 : decide (s1 ≤ s0) = false := by simp; omega
              have g2 : (s1 % s0 != 0) = true := by simpa using t2
              go_wp2_with fail
              go_quiet (fail)
              go_wp2
              go_ret
              exact ⟨ret_int HE.out.symm, below_quiet _ HBR.out⟩
            by_cases t3 : r1 ≤ r0
            · have HE := hid (c.not_ok_ft (j := 0) (by omega) (fun h => absurd (HF.out.1 h).2.2.1 (by omega)))
              have n2 : ¬ s0 = 0 := by omega
              have m1 : s1.tmod s0 = s1 % s0 := IntWalk.rem_in _ _ (by omega)
              have m2 : IntKind.i64.wrap (s1.tdiv s0) = s1 / s0 := IntWalk.i64_quo _ _ ⟨by omega, by omega, b1⟩
              have g1 : decide (s1 ≤ s0) = false := by simp; omega
              have g2 : (s1 % s0 != 0) = false := by simpa using t2
              have g3 : decide (r1 ≤ r0) = true := by simpa using t3
              clear t2 t3
              go_wp2_with fail
              refine wp_region_held_drew (S := (fun w' => w'.cell? ⟨wr.heap.size, 0, none⟩ = some (i64 s0) ∧ w'.cell? ⟨wr.heap.size, 1, none⟩ = some (i64 k0) ∧ w'.cell? ⟨wr.heap.size + 1, 0, none⟩ = some (i64 s1) ∧ w'.cell? ⟨wr.heap.size + 1, 1, none⟩ = some (i64 k1))) (by kernel_rfl) ?_ (fun hHeld => ?_)
              · go_keep
              refine tkI (i := 0) (oi := ⟨some 77, .fieldAddr 37 (.tmp 11) 0, 0, _, #[], none⟩) ?_
              try simp only [Act.put, tkA, tkB, tkC]
              refine tkI (i := 1) (oi := ⟨some 78, .load 3 (.tmp 77), 3, _, #[⟨0, .data⟩], none⟩) ?_
              try simp only [Act.put, tkA, tkB, tkC]
              refine tkI (i := 2) (oi := ⟨some 79, .fieldAddr 37 (.tmp 12) 0, 0, _, #[], none⟩) ?_
              try simp only [Act.put, tkA, tkB, tkC]
              refine tkI (i := 3) (oi := ⟨some 80, .load 3 (.tmp 79), 3, _, #[⟨2, .data⟩], none⟩) ?_
              try simp only [Act.put, tkA, tkB, tkC]
              refine tkI (i := 4) (oi := ⟨some 81, .binOp .geq 3 (.tmp 78) (.tmp 80) 3, 4, _, #[⟨1, .data⟩, ⟨3, .data⟩], none⟩) ?_
              try simp only [Act.put, tkA, tkB, tkC]
              refine tkI (i := 5) (oi := ⟨some 82, .move (.tmp 81), 4, _, #[⟨4, .data⟩], none⟩) ?_
              try simp only [Act.put, tkA, tkB, tkC]
              refine tkI (i := 6) (oi := ⟨some 83, .fieldAddr 37 (.tmp 12) 0, 0, _, #[⟨5, .guard⟩], some (5, false)⟩) ?_
              try simp only [Act.put, tkA, tkB, tkC]
              refine tkI (i := 7) (oi := ⟨some 84, .load 3 (.tmp 83), 3, _, #[⟨6, .data⟩, ⟨5, .guard⟩], some (5, false)⟩) ?_
              try simp only [Act.put, tkA, tkB, tkC]
              refine tkI (i := 8) (oi := ⟨some 85, .fieldAddr 37 (.tmp 11) 0, 0, _, #[⟨5, .guard⟩], some (5, false)⟩) ?_
              try simp only [Act.put, tkA, tkB, tkC]
              refine tkI (i := 9) (oi := ⟨some 86, .load 3 (.tmp 85), 3, _, #[⟨8, .data⟩, ⟨5, .guard⟩], some (5, false)⟩) ?_
              try simp only [Act.put, tkA, tkB, tkC]
              refine tkI (i := 10) (oi := ⟨some 87, .binOp .rem 3 (.tmp 84) (.tmp 86) 3, 3, _, #[⟨7, .data⟩, ⟨9, .data⟩, ⟨5, .guard⟩], some (5, false)⟩) ?_
              try simp only [Act.put, tkA, tkB, tkC]
              refine tkI (i := 11) (oi := ⟨some 88, .binOp .neq 3 (.tmp 87) (.const (Value.int .i64 0)) 3, 4, _, #[⟨10, .data⟩, ⟨5, .guard⟩], some (5, false)⟩) ?_
              try simp only [Act.put, tkA, tkB, tkC]
              refine tkI (i := 12) (oi := ⟨some 89, .pick (.tmp 82) (.const (Value.bool true)) (.tmp 88), 4, _, #[⟨5, .data⟩, ⟨11, .data⟩], none⟩) ?_
              try simp only [Act.put, tkA, tkB, tkC]
              refine tkI (i := 13) (oi := ⟨some 90, .move (.tmp 89), 4, _, #[⟨12, .data⟩, ⟨5, .chain⟩], none⟩) ?_
              try simp only [Act.put, tkA, tkB, tkC]
              refine tkI (i := 14) (oi := ⟨some 91, .load 37 (.tmp 11), 37, _, #[⟨13, .guard⟩], some (13, false)⟩) ?_
              try simp only [Act.put, tkA, tkB, tkC]
              refine tkI (i := 16) (oi := ⟨some 93, .load 37 (.tmp 12), 37, _, #[⟨13, .guard⟩], some (13, false)⟩) ?_
              try simp only [Act.put, tkA, tkB, tkC]
              refine wpAnyH_ready (rs := [15]) (by kernel_rfl) (by simp) ?_
              refine AllReadyH.cons rfl (fun K hK => ?_) AllReadyH.nil
              go_simp
              go_wp2_with ((go_at_call 40; refine (reach_val s0 k0 r0 _ HR0 p1 p2).mono ?_; rintro e w1 ⟨rfl, hb1⟩))
              refine hK.out _ _ ?_ (fun hHeld => ?_)
              · refine ⟨?_, ?_, ?_, ?_⟩ <;> exact cell_later hb1 (by simp [*])
              clear hK K
              refine wpAnyH_ready (rs := [17]) (by kernel_rfl) (by simp) ?_
              refine AllReadyH.cons rfl (fun K hK => ?_) AllReadyH.nil
              go_simp
              go_wp2_with ((go_at_call 40; refine (reach_val s1 k1 r1 _ HR1 p3 p4).mono ?_; rintro e w2 ⟨rfl, hb2⟩))
              refine hK.out _ _ ?_ (fun hHeld => ?_)
              · refine ⟨?_, ?_, ?_, ?_⟩ <;> exact cell_later hb2 (by simp [*])
              clear hK K
              refine tkI (i := 18) (oi := ⟨some 95, .binOp .geq 3 (.tmp 92) (.tmp 94) 3, 4, _, #[⟨15, .data⟩, ⟨17, .data⟩, ⟨13, .guard⟩], some (13, false)⟩) ?_
              try simp only [Act.put, tkA, tkB, tkC]
              refine tkI (i := 19) (oi := ⟨some 96, .pick (.tmp 90) (.const (Value.bool true)) (.tmp 95), 4, _, #[⟨13, .data⟩, ⟨18, .data⟩], none⟩) ?_
              try simp only [Act.put, tkA, tkB, tkC]
              refine tkI (i := 20) (oi := ⟨some 97, .move (.tmp 96), 4, _, #[⟨19, .data⟩, ⟨17, .chain⟩], none⟩) ?_
              try simp only [Act.put, tkA, tkB, tkC]
              refine tkJ (i := 21) (oi := ⟨some 98, .fieldAddr 37 (.tmp 11) 1, 0, _, #[⟨20, .guard⟩], some (20, false)⟩) ?_
              try simp only [Act.put, tkA, tkB, tkC]
              refine tkJ (i := 22) (oi := ⟨some 99, .load 3 (.tmp 98), 3, _, #[⟨21, .data⟩, ⟨20, .guard⟩], some (20, false)⟩) ?_
              try simp only [Act.put, tkA, tkB, tkC]
              refine tkJ (i := 23) (oi := ⟨some 100, .fieldAddr 37 (.tmp 12) 0, 0, _, #[⟨20, .guard⟩], some (20, false)⟩) ?_
              try simp only [Act.put, tkA, tkB, tkC]
              refine tkJ (i := 24) (oi := ⟨some 101, .load 3 (.tmp 100), 3, _, #[⟨23, .data⟩, ⟨20, .guard⟩], some (20, false)⟩) ?_
              try simp only [Act.put, tkA, tkB, tkC]
              refine tkJ (i := 25) (oi := ⟨some 102, .fieldAddr 37 (.tmp 11) 0, 0, _, #[⟨20, .guard⟩], some (20, false)⟩) ?_
              try simp only [Act.put, tkA, tkB, tkC]
              refine tkJ (i := 26) (oi := ⟨some 103, .load 3 (.tmp 102), 3, _, #[⟨25, .data⟩, ⟨20, .guard⟩], some (20, false)⟩) ?_
              try simp only [Act.put, tkA, tkB, tkC]
              refine tkJ (i := 27) (oi := ⟨some 104, .binOp .quo 3 (.tmp 101) (.tmp 103) 3, 3, _, #[⟨24, .data⟩, ⟨26, .data⟩, ⟨20, .guard⟩], some (20, false)⟩) ?_
              try simp only [Act.put, tkA, tkB, tkC]
              refine tkJ (i := 28) (oi := ⟨some 105, .binOp .lss 3 (.tmp 99) (.tmp 104) 3, 4, _, #[⟨22, .data⟩, ⟨27, .data⟩, ⟨20, .guard⟩], some (20, false)⟩) ?_
              try simp only [Act.put, tkA, tkB, tkC]
              refine tkI (i := 29) (oi := ⟨some 106, .pick (.tmp 97) (.const (Value.bool true)) (.tmp 105), 4, _, #[⟨20, .data⟩, ⟨28, .data⟩], none⟩) ?_
              try simp only [Act.put, tkA, tkB, tkC]
              refine wpAnyH_done (by kernel_rfl) ?_ _
              go_wp2
              go_ret
              exact ⟨ret_int HE.out.symm, below_fin (below_two HBR.out hb1 hb2)⟩
            · have HG := hid (show s1 / s0 ≤ k0 → c.Ft 0 from fun h => HF.out.2 ⟨by omega, t2, by omega, h⟩)
              have HN := hid (show ¬ s1 / s0 ≤ k0 → c.err = 2 from fun h => c.not_ok_ft (j := 0) (by omega) (fun x => h (HF.out.1 x).2.2.2))
              have n2 : ¬ s0 = 0 := by omega
              have m1 : s1.tmod s0 = s1 % s0 := IntWalk.rem_in _ _ (by omega)
              have m2 : IntKind.i64.wrap (s1.tdiv s0) = s1 / s0 := IntWalk.i64_quo _ _ ⟨by omega, by omega, b1⟩
              have g1 : decide (s1 ≤ s0) = false := by simp; omega
              have g2 : (s1 % s0 != 0) = false := by simpa using t2
              have g3 : decide (r1 ≤ r0) = false := by simpa using t3
              clear t2 t3
              go_wp2_with fail
              refine wp_region_held_drew (S := (fun w' => w'.cell? ⟨wr.heap.size, 0, none⟩ = some (i64 s0) ∧ w'.cell? ⟨wr.heap.size, 1, none⟩ = some (i64 k0) ∧ w'.cell? ⟨wr.heap.size + 1, 0, none⟩ = some (i64 s1) ∧ w'.cell? ⟨wr.heap.size + 1, 1, none⟩ = some (i64 k1))) (by kernel_rfl) ?_ (fun hHeld => ?_)
              · go_keep
              refine tkI (i := 0) (oi := ⟨some 77, .fieldAddr 37 (.tmp 11) 0, 0, _, #[], none⟩) ?_
              try simp only [Act.put, tkA, tkB, tkC]
              refine tkI (i := 1) (oi := ⟨some 78, .load 3 (.tmp 77), 3, _, #[⟨0, .data⟩], none⟩) ?_
              try simp only [Act.put, tkA, tkB, tkC]
              refine tkI (i := 2) (oi := ⟨some 79, .fieldAddr 37 (.tmp 12) 0, 0, _, #[], none⟩) ?_
              try simp only [Act.put, tkA, tkB, tkC]
              refine tkI (i := 3) (oi := ⟨some 80, .load 3 (.tmp 79), 3, _, #[⟨2, .data⟩], none⟩) ?_
              try simp only [Act.put, tkA, tkB, tkC]
              refine tkI (i := 4) (oi := ⟨some 81, .binOp .geq 3 (.tmp 78) (.tmp 80) 3, 4, _, #[⟨1, .data⟩, ⟨3, .data⟩], none⟩) ?_
              try simp only [Act.put, tkA, tkB, tkC]
              refine tkI (i := 5) (oi := ⟨some 82, .move (.tmp 81), 4, _, #[⟨4, .data⟩], none⟩) ?_
              try simp only [Act.put, tkA, tkB, tkC]
              refine tkI (i := 6) (oi := ⟨some 83, .fieldAddr 37 (.tmp 12) 0, 0, _, #[⟨5, .guard⟩], some (5, false)⟩) ?_
              try simp only [Act.put, tkA, tkB, tkC]
              refine tkI (i := 7) (oi := ⟨some 84, .load 3 (.tmp 83), 3, _, #[⟨6, .data⟩, ⟨5, .guard⟩], some (5, false)⟩) ?_
              try simp only [Act.put, tkA, tkB, tkC]
              refine tkI (i := 8) (oi := ⟨some 85, .fieldAddr 37 (.tmp 11) 0, 0, _, #[⟨5, .guard⟩], some (5, false)⟩) ?_
              try simp only [Act.put, tkA, tkB, tkC]
              refine tkI (i := 9) (oi := ⟨some 86, .load 3 (.tmp 85), 3, _, #[⟨8, .data⟩, ⟨5, .guard⟩], some (5, false)⟩) ?_
              try simp only [Act.put, tkA, tkB, tkC]
              refine tkI (i := 10) (oi := ⟨some 87, .binOp .rem 3 (.tmp 84) (.tmp 86) 3, 3, _, #[⟨7, .data⟩, ⟨9, .data⟩, ⟨5, .guard⟩], some (5, false)⟩) ?_
              try simp only [Act.put, tkA, tkB, tkC]
              refine tkI (i := 11) (oi := ⟨some 88, .binOp .neq 3 (.tmp 87) (.const (Value.int .i64 0)) 3, 4, _, #[⟨10, .data⟩, ⟨5, .guard⟩], some (5, false)⟩) ?_
              try simp only [Act.put, tkA, tkB, tkC]
              refine tkI (i := 12) (oi := ⟨some 89, .pick (.tmp 82) (.const (Value.bool true)) (.tmp 88), 4, _, #[⟨5, .data⟩, ⟨11, .data⟩], none⟩) ?_
              try simp only [Act.put, tkA, tkB, tkC]
              refine tkI (i := 13) (oi := ⟨some 90, .move (.tmp 89), 4, _, #[⟨12, .data⟩, ⟨5, .chain⟩], none⟩) ?_
              try simp only [Act.put, tkA, tkB, tkC]
              refine tkI (i := 14) (oi := ⟨some 91, .load 37 (.tmp 11), 37, _, #[⟨13, .guard⟩], some (13, false)⟩) ?_
              try simp only [Act.put, tkA, tkB, tkC]
              refine tkI (i := 16) (oi := ⟨some 93, .load 37 (.tmp 12), 37, _, #[⟨13, .guard⟩], some (13, false)⟩) ?_
              try simp only [Act.put, tkA, tkB, tkC]
              refine wpAnyH_ready (rs := [15]) (by kernel_rfl) (by simp) ?_
              refine AllReadyH.cons rfl (fun K hK => ?_) AllReadyH.nil
              go_simp
              go_wp2_with ((go_at_call 40; refine (reach_val s0 k0 r0 _ HR0 p1 p2).mono ?_; rintro e w1 ⟨rfl, hb1⟩))
              refine hK.out _ _ ?_ (fun hHeld => ?_)
              · refine ⟨?_, ?_, ?_, ?_⟩ <;> exact cell_later hb1 (by simp [*])
              clear hK K
              refine wpAnyH_ready (rs := [17]) (by kernel_rfl) (by simp) ?_
              refine AllReadyH.cons rfl (fun K hK => ?_) AllReadyH.nil
              go_simp
              go_wp2_with ((go_at_call 40; refine (reach_val s1 k1 r1 _ HR1 p3 p4).mono ?_; rintro e w2 ⟨rfl, hb2⟩))
              refine hK.out _ _ ?_ (fun hHeld => ?_)
              · refine ⟨?_, ?_, ?_, ?_⟩ <;> exact cell_later hb2 (by simp [*])
              clear hK K
              refine tkI (i := 18) (oi := ⟨some 95, .binOp .geq 3 (.tmp 92) (.tmp 94) 3, 4, _, #[⟨15, .data⟩, ⟨17, .data⟩, ⟨13, .guard⟩], some (13, false)⟩) ?_
              try simp only [Act.put, tkA, tkB, tkC]
              refine tkI (i := 19) (oi := ⟨some 96, .pick (.tmp 90) (.const (Value.bool true)) (.tmp 95), 4, _, #[⟨13, .data⟩, ⟨18, .data⟩], none⟩) ?_
              try simp only [Act.put, tkA, tkB, tkC]
              refine tkI (i := 20) (oi := ⟨some 97, .move (.tmp 96), 4, _, #[⟨19, .data⟩, ⟨17, .chain⟩], none⟩) ?_
              try simp only [Act.put, tkA, tkB, tkC]
              refine tkI (i := 21) (oi := ⟨some 98, .fieldAddr 37 (.tmp 11) 1, 0, _, #[⟨20, .guard⟩], some (20, false)⟩) ?_
              try simp only [Act.put, tkA, tkB, tkC]
              refine tkI (i := 22) (oi := ⟨some 99, .load 3 (.tmp 98), 3, _, #[⟨21, .data⟩, ⟨20, .guard⟩], some (20, false)⟩) ?_
              try simp only [Act.put, tkA, tkB, tkC]
              refine tkI (i := 23) (oi := ⟨some 100, .fieldAddr 37 (.tmp 12) 0, 0, _, #[⟨20, .guard⟩], some (20, false)⟩) ?_
              try simp only [Act.put, tkA, tkB, tkC]
              refine tkI (i := 24) (oi := ⟨some 101, .load 3 (.tmp 100), 3, _, #[⟨23, .data⟩, ⟨20, .guard⟩], some (20, false)⟩) ?_
              try simp only [Act.put, tkA, tkB, tkC]
              refine tkI (i := 25) (oi := ⟨some 102, .fieldAddr 37 (.tmp 11) 0, 0, _, #[⟨20, .guard⟩], some (20, false)⟩) ?_
              try simp only [Act.put, tkA, tkB, tkC]
              refine tkI (i := 26) (oi := ⟨some 103, .load 3 (.tmp 102), 3, _, #[⟨25, .data⟩, ⟨20, .guard⟩], some (20, false)⟩) ?_
              try simp only [Act.put, tkA, tkB, tkC]
              refine tkI (i := 27) (oi := ⟨some 104, .binOp .quo 3 (.tmp 101) (.tmp 103) 3, 3, _, #[⟨24, .data⟩, ⟨26, .data⟩, ⟨20, .guard⟩], some (20, false)⟩) ?_
              try simp only [Act.put, tkA, tkB, tkC]
              refine tkI (i := 28) (oi := ⟨some 105, .binOp .lss 3 (.tmp 99) (.tmp 104) 3, 4, _, #[⟨22, .data⟩, ⟨27, .data⟩, ⟨20, .guard⟩], some (20, false)⟩) ?_
              try simp only [Act.put, tkA, tkB, tkC]
              refine tkI (i := 29) (oi := ⟨some 106, .pick (.tmp 97) (.const (Value.bool true)) (.tmp 105), 4, _, #[⟨20, .data⟩, ⟨28, .data⟩], none⟩) ?_
              try simp only [Act.put, tkA, tkB, tkC]
              refine wpAnyH_done (by kernel_rfl) ?_ _
              go_wp2
              · go_ret
                exact ⟨ret_int (HN.out (by omega)).symm, below_fin (below_two HBR.out hb1 hb2)⟩
              · go_roundw
                case rel => first | exact ⟨1, by omega, rfl, c.twos_succ HT.out (fun _ => HG.out (by assumption)), below_two HBR.out hb1 hb2⟩ | ((repeat apply Exists.intro); exact ⟨⟨1, by omega, rfl, c.twos_succ HT.out (fun _ => HG.out (by assumption)), below_two HBR.out hb1 hb2⟩, rfl⟩)
                case measure => simp [intOf]
          · have HB0 := hid (HO3.out 1 (by omega))
            have HB1 := hid (HO3.out 2 (by omega))
            obtain ⟨b1, b2, b3, b4⟩ := ((bd_at1 HC.out).1 HB0.out)
            obtain ⟨e1, e2, e3, e4⟩ := ((bd_at2 HC.out).1 HB1.out)
            obtain ⟨p1, p2⟩ := (prod_at1 HC.out HB0.out)
            obtain ⟨p3, p4⟩ := (prod_at2 HC.out HB1.out)
            have HF := hid (show c.Ft 1 ↔ (s1 < s2 ∧ s2 % s1 = 0 ∧ s1 * k1 < s2 * k2 ∧ s2 / s1 ≤ k1) from ft_at1 HC.out)
            obtain ⟨r0, hr0⟩ : ∃ r, r = s1 * k1 := ⟨_, rfl⟩
            obtain ⟨r1, hr1⟩ : ∃ r, r = s2 * k2 := ⟨_, rfl⟩
            rw [← hr0] at p1 p2 HF
            rw [← hr1] at p3 p4 HF
            have HR0 := hid hr0
            have HR1 := hid hr1
            clear hr0 hr1
            by_cases t1 : s2 ≤ s1
            · have HE := hid (c.not_ok_ft (j := 1) (by omega) (fun h => absurd (HF.out.1 h).1 (by omega)))
              have g1 : decide (s2 ≤ s1) = true := by simp; omega
              go_wp2_with fail
              go_quiet (fail)
              go_wp2
              go_ret
              exact ⟨ret_int HE.out.symm, below_quiet _ HBR.out⟩
            by_cases t2 : s2 % s1 = 0
            case neg =>
              have HE := hid (c.not_ok_ft (j := 1) (by omega) (fun h => t2 (HF.out.1 h).2.1))
              have n2 : ¬ s1 = 0 := by omega
              have m1 : s2.tmod s1 = s2 % s1 := IntWalk.rem_in _ _ (by omega)
              have m2 : IntKind.i64.wrap (s2.tdiv s1) = s2 / s1 := IntWalk.i64_quo _ _ ⟨by omega, by omega, b1⟩
              have g1 : decide (s2 ≤ s1) = false := by simp; omega
              have g2 : (s2 % s1 != 0) = true := by simpa using t2
              go_wp2_with fail
              go_quiet (fail)
              go_wp2
              go_ret
              exact ⟨ret_int HE.out.symm, below_quiet _ HBR.out⟩
            by_cases t3 : r1 ≤ r0
            · have HE := hid (c.not_ok_ft (j := 1) (by omega) (fun h => absurd (HF.out.1 h).2.2.1 (by omega)))
              have n2 : ¬ s1 = 0 := by omega
              have m1 : s2.tmod s1 = s2 % s1 := IntWalk.rem_in _ _ (by omega)
              have m2 : IntKind.i64.wrap (s2.tdiv s1) = s2 / s1 := IntWalk.i64_quo _ _ ⟨by omega, by omega, b1⟩
              have g1 : decide (s2 ≤ s1) = false := by simp; omega
              have g2 : (s2 % s1 != 0) = false := by simpa using t2
              have g3 : decide (r1 ≤ r0) = true := by simpa using t3
              clear t2 t3
              go_wp2_with fail
              refine wp_region_held_drew (S := (fun w' => w'.cell? ⟨wr.heap.size, 0, none⟩ = some (i64 s1) ∧ w'.cell? ⟨wr.heap.size, 1, none⟩ = some (i64 k1) ∧ w'.cell? ⟨wr.heap.size + 1, 0, none⟩ = some (i64 s2) ∧ w'.cell? ⟨wr.heap.size + 1, 1, none⟩ = some (i64 k2))) (by kernel_rfl) ?_ (fun hHeld => ?_)
              · go_keep
              refine tkI (i := 0) (oi := ⟨some 77, .fieldAddr 37 (.tmp 11) 0, 0, _, #[], none⟩) ?_
              try simp only [Act.put, tkA, tkB, tkC]
              refine tkI (i := 1) (oi := ⟨some 78, .load 3 (.tmp 77), 3, _, #[⟨0, .data⟩], none⟩) ?_
              try simp only [Act.put, tkA, tkB, tkC]
              refine tkI (i := 2) (oi := ⟨some 79, .fieldAddr 37 (.tmp 12) 0, 0, _, #[], none⟩) ?_
              try simp only [Act.put, tkA, tkB, tkC]
              refine tkI (i := 3) (oi := ⟨some 80, .load 3 (.tmp 79), 3, _, #[⟨2, .data⟩], none⟩) ?_
              try simp only [Act.put, tkA, tkB, tkC]
              refine tkI (i := 4) (oi := ⟨some 81, .binOp .geq 3 (.tmp 78) (.tmp 80) 3, 4, _, #[⟨1, .data⟩, ⟨3, .data⟩], none⟩) ?_
              try simp only [Act.put, tkA, tkB, tkC]
              refine tkI (i := 5) (oi := ⟨some 82, .move (.tmp 81), 4, _, #[⟨4, .data⟩], none⟩) ?_
              try simp only [Act.put, tkA, tkB, tkC]
              refine tkI (i := 6) (oi := ⟨some 83, .fieldAddr 37 (.tmp 12) 0, 0, _, #[⟨5, .guard⟩], some (5, false)⟩) ?_
              try simp only [Act.put, tkA, tkB, tkC]
              refine tkI (i := 7) (oi := ⟨some 84, .load 3 (.tmp 83), 3, _, #[⟨6, .data⟩, ⟨5, .guard⟩], some (5, false)⟩) ?_
              try simp only [Act.put, tkA, tkB, tkC]
              refine tkI (i := 8) (oi := ⟨some 85, .fieldAddr 37 (.tmp 11) 0, 0, _, #[⟨5, .guard⟩], some (5, false)⟩) ?_
              try simp only [Act.put, tkA, tkB, tkC]
              refine tkI (i := 9) (oi := ⟨some 86, .load 3 (.tmp 85), 3, _, #[⟨8, .data⟩, ⟨5, .guard⟩], some (5, false)⟩) ?_
              try simp only [Act.put, tkA, tkB, tkC]
              refine tkI (i := 10) (oi := ⟨some 87, .binOp .rem 3 (.tmp 84) (.tmp 86) 3, 3, _, #[⟨7, .data⟩, ⟨9, .data⟩, ⟨5, .guard⟩], some (5, false)⟩) ?_
              try simp only [Act.put, tkA, tkB, tkC]
              refine tkI (i := 11) (oi := ⟨some 88, .binOp .neq 3 (.tmp 87) (.const (Value.int .i64 0)) 3, 4, _, #[⟨10, .data⟩, ⟨5, .guard⟩], some (5, false)⟩) ?_
              try simp only [Act.put, tkA, tkB, tkC]
              refine tkI (i := 12) (oi := ⟨some 89, .pick (.tmp 82) (.const (Value.bool true)) (.tmp 88), 4, _, #[⟨5, .data⟩, ⟨11, .data⟩], none⟩) ?_
              try simp only [Act.put, tkA, tkB, tkC]
              refine tkI (i := 13) (oi := ⟨some 90, .move (.tmp 89), 4, _, #[⟨12, .data⟩, ⟨5, .chain⟩], none⟩) ?_
              try simp only [Act.put, tkA, tkB, tkC]
              refine tkI (i := 14) (oi := ⟨some 91, .load 37 (.tmp 11), 37, _, #[⟨13, .guard⟩], some (13, false)⟩) ?_
              try simp only [Act.put, tkA, tkB, tkC]
              refine tkI (i := 16) (oi := ⟨some 93, .load 37 (.tmp 12), 37, _, #[⟨13, .guard⟩], some (13, false)⟩) ?_
              try simp only [Act.put, tkA, tkB, tkC]
              refine wpAnyH_ready (rs := [15]) (by kernel_rfl) (by simp) ?_
              refine AllReadyH.cons rfl (fun K hK => ?_) AllReadyH.nil
              go_simp
              go_wp2_with ((go_at_call 40; refine (reach_val s1 k1 r0 _ HR0 p1 p2).mono ?_; rintro e w1 ⟨rfl, hb1⟩))
              refine hK.out _ _ ?_ (fun hHeld => ?_)
              · refine ⟨?_, ?_, ?_, ?_⟩ <;> exact cell_later hb1 (by simp [*])
              clear hK K
              refine wpAnyH_ready (rs := [17]) (by kernel_rfl) (by simp) ?_
              refine AllReadyH.cons rfl (fun K hK => ?_) AllReadyH.nil
              go_simp
              go_wp2_with ((go_at_call 40; refine (reach_val s2 k2 r1 _ HR1 p3 p4).mono ?_; rintro e w2 ⟨rfl, hb2⟩))
              refine hK.out _ _ ?_ (fun hHeld => ?_)
              · refine ⟨?_, ?_, ?_, ?_⟩ <;> exact cell_later hb2 (by simp [*])
              clear hK K
              refine tkI (i := 18) (oi := ⟨some 95, .binOp .geq 3 (.tmp 92) (.tmp 94) 3, 4, _, #[⟨15, .data⟩, ⟨17, .data⟩, ⟨13, .guard⟩], some (13, false)⟩) ?_
              try simp only [Act.put, tkA, tkB, tkC]
              refine tkI (i := 19) (oi := ⟨some 96, .pick (.tmp 90) (.const (Value.bool true)) (.tmp 95), 4, _, #[⟨13, .data⟩, ⟨18, .data⟩], none⟩) ?_
              try simp only [Act.put, tkA, tkB, tkC]
              refine tkI (i := 20) (oi := ⟨some 97, .move (.tmp 96), 4, _, #[⟨19, .data⟩, ⟨17, .chain⟩], none⟩) ?_
              try simp only [Act.put, tkA, tkB, tkC]
              refine tkJ (i := 21) (oi := ⟨some 98, .fieldAddr 37 (.tmp 11) 1, 0, _, #[⟨20, .guard⟩], some (20, false)⟩) ?_
              try simp only [Act.put, tkA, tkB, tkC]
              refine tkJ (i := 22) (oi := ⟨some 99, .load 3 (.tmp 98), 3, _, #[⟨21, .data⟩, ⟨20, .guard⟩], some (20, false)⟩) ?_
              try simp only [Act.put, tkA, tkB, tkC]
              refine tkJ (i := 23) (oi := ⟨some 100, .fieldAddr 37 (.tmp 12) 0, 0, _, #[⟨20, .guard⟩], some (20, false)⟩) ?_
              try simp only [Act.put, tkA, tkB, tkC]
              refine tkJ (i := 24) (oi := ⟨some 101, .load 3 (.tmp 100), 3, _, #[⟨23, .data⟩, ⟨20, .guard⟩], some (20, false)⟩) ?_
              try simp only [Act.put, tkA, tkB, tkC]
              refine tkJ (i := 25) (oi := ⟨some 102, .fieldAddr 37 (.tmp 11) 0, 0, _, #[⟨20, .guard⟩], some (20, false)⟩) ?_
              try simp only [Act.put, tkA, tkB, tkC]
              refine tkJ (i := 26) (oi := ⟨some 103, .load 3 (.tmp 102), 3, _, #[⟨25, .data⟩, ⟨20, .guard⟩], some (20, false)⟩) ?_
              try simp only [Act.put, tkA, tkB, tkC]
              refine tkJ (i := 27) (oi := ⟨some 104, .binOp .quo 3 (.tmp 101) (.tmp 103) 3, 3, _, #[⟨24, .data⟩, ⟨26, .data⟩, ⟨20, .guard⟩], some (20, false)⟩) ?_
              try simp only [Act.put, tkA, tkB, tkC]
              refine tkJ (i := 28) (oi := ⟨some 105, .binOp .lss 3 (.tmp 99) (.tmp 104) 3, 4, _, #[⟨22, .data⟩, ⟨27, .data⟩, ⟨20, .guard⟩], some (20, false)⟩) ?_
              try simp only [Act.put, tkA, tkB, tkC]
              refine tkI (i := 29) (oi := ⟨some 106, .pick (.tmp 97) (.const (Value.bool true)) (.tmp 105), 4, _, #[⟨20, .data⟩, ⟨28, .data⟩], none⟩) ?_
              try simp only [Act.put, tkA, tkB, tkC]
              refine wpAnyH_done (by kernel_rfl) ?_ _
              go_wp2
              go_ret
              exact ⟨ret_int HE.out.symm, below_fin (below_two HBR.out hb1 hb2)⟩
            · have HG := hid (show s2 / s1 ≤ k1 → c.Ft 1 from fun h => HF.out.2 ⟨by omega, t2, by omega, h⟩)
              have HN := hid (show ¬ s2 / s1 ≤ k1 → c.err = 2 from fun h => c.not_ok_ft (j := 1) (by omega) (fun x => h (HF.out.1 x).2.2.2))
              have n2 : ¬ s1 = 0 := by omega
              have m1 : s2.tmod s1 = s2 % s1 := IntWalk.rem_in _ _ (by omega)
              have m2 : IntKind.i64.wrap (s2.tdiv s1) = s2 / s1 := IntWalk.i64_quo _ _ ⟨by omega, by omega, b1⟩
              have g1 : decide (s2 ≤ s1) = false := by simp; omega
              have g2 : (s2 % s1 != 0) = false := by simpa using t2
              have g3 : decide (r1 ≤ r0) = false := by simpa using t3
              clear t2 t3
              go_wp2_with fail
              refine wp_region_held_drew (S := (fun w' => w'.cell? ⟨wr.heap.size, 0, none⟩ = some (i64 s1) ∧ w'.cell? ⟨wr.heap.size, 1, none⟩ = some (i64 k1) ∧ w'.cell? ⟨wr.heap.size + 1, 0, none⟩ = some (i64 s2) ∧ w'.cell? ⟨wr.heap.size + 1, 1, none⟩ = some (i64 k2))) (by kernel_rfl) ?_ (fun hHeld => ?_)
              · go_keep
              refine tkI (i := 0) (oi := ⟨some 77, .fieldAddr 37 (.tmp 11) 0, 0, _, #[], none⟩) ?_
              try simp only [Act.put, tkA, tkB, tkC]
              refine tkI (i := 1) (oi := ⟨some 78, .load 3 (.tmp 77), 3, _, #[⟨0, .data⟩], none⟩) ?_
              try simp only [Act.put, tkA, tkB, tkC]
              refine tkI (i := 2) (oi := ⟨some 79, .fieldAddr 37 (.tmp 12) 0, 0, _, #[], none⟩) ?_
              try simp only [Act.put, tkA, tkB, tkC]
              refine tkI (i := 3) (oi := ⟨some 80, .load 3 (.tmp 79), 3, _, #[⟨2, .data⟩], none⟩) ?_
              try simp only [Act.put, tkA, tkB, tkC]
              refine tkI (i := 4) (oi := ⟨some 81, .binOp .geq 3 (.tmp 78) (.tmp 80) 3, 4, _, #[⟨1, .data⟩, ⟨3, .data⟩], none⟩) ?_
              try simp only [Act.put, tkA, tkB, tkC]
              refine tkI (i := 5) (oi := ⟨some 82, .move (.tmp 81), 4, _, #[⟨4, .data⟩], none⟩) ?_
              try simp only [Act.put, tkA, tkB, tkC]
              refine tkI (i := 6) (oi := ⟨some 83, .fieldAddr 37 (.tmp 12) 0, 0, _, #[⟨5, .guard⟩], some (5, false)⟩) ?_
              try simp only [Act.put, tkA, tkB, tkC]
              refine tkI (i := 7) (oi := ⟨some 84, .load 3 (.tmp 83), 3, _, #[⟨6, .data⟩, ⟨5, .guard⟩], some (5, false)⟩) ?_
              try simp only [Act.put, tkA, tkB, tkC]
              refine tkI (i := 8) (oi := ⟨some 85, .fieldAddr 37 (.tmp 11) 0, 0, _, #[⟨5, .guard⟩], some (5, false)⟩) ?_
              try simp only [Act.put, tkA, tkB, tkC]
              refine tkI (i := 9) (oi := ⟨some 86, .load 3 (.tmp 85), 3, _, #[⟨8, .data⟩, ⟨5, .guard⟩], some (5, false)⟩) ?_
              try simp only [Act.put, tkA, tkB, tkC]
              refine tkI (i := 10) (oi := ⟨some 87, .binOp .rem 3 (.tmp 84) (.tmp 86) 3, 3, _, #[⟨7, .data⟩, ⟨9, .data⟩, ⟨5, .guard⟩], some (5, false)⟩) ?_
              try simp only [Act.put, tkA, tkB, tkC]
              refine tkI (i := 11) (oi := ⟨some 88, .binOp .neq 3 (.tmp 87) (.const (Value.int .i64 0)) 3, 4, _, #[⟨10, .data⟩, ⟨5, .guard⟩], some (5, false)⟩) ?_
              try simp only [Act.put, tkA, tkB, tkC]
              refine tkI (i := 12) (oi := ⟨some 89, .pick (.tmp 82) (.const (Value.bool true)) (.tmp 88), 4, _, #[⟨5, .data⟩, ⟨11, .data⟩], none⟩) ?_
              try simp only [Act.put, tkA, tkB, tkC]
              refine tkI (i := 13) (oi := ⟨some 90, .move (.tmp 89), 4, _, #[⟨12, .data⟩, ⟨5, .chain⟩], none⟩) ?_
              try simp only [Act.put, tkA, tkB, tkC]
              refine tkI (i := 14) (oi := ⟨some 91, .load 37 (.tmp 11), 37, _, #[⟨13, .guard⟩], some (13, false)⟩) ?_
              try simp only [Act.put, tkA, tkB, tkC]
              refine tkI (i := 16) (oi := ⟨some 93, .load 37 (.tmp 12), 37, _, #[⟨13, .guard⟩], some (13, false)⟩) ?_
              try simp only [Act.put, tkA, tkB, tkC]
              refine wpAnyH_ready (rs := [15]) (by kernel_rfl) (by simp) ?_
              refine AllReadyH.cons rfl (fun K hK => ?_) AllReadyH.nil
              go_simp
              go_wp2_with ((go_at_call 40; refine (reach_val s1 k1 r0 _ HR0 p1 p2).mono ?_; rintro e w1 ⟨rfl, hb1⟩))
              refine hK.out _ _ ?_ (fun hHeld => ?_)
              · refine ⟨?_, ?_, ?_, ?_⟩ <;> exact cell_later hb1 (by simp [*])
              clear hK K
              refine wpAnyH_ready (rs := [17]) (by kernel_rfl) (by simp) ?_
              refine AllReadyH.cons rfl (fun K hK => ?_) AllReadyH.nil
              go_simp
              go_wp2_with ((go_at_call 40; refine (reach_val s2 k2 r1 _ HR1 p3 p4).mono ?_; rintro e w2 ⟨rfl, hb2⟩))
              refine hK.out _ _ ?_ (fun hHeld => ?_)
              · refine ⟨?_, ?_, ?_, ?_⟩ <;> exact cell_later hb2 (by simp [*])
              clear hK K
              refine tkI (i := 18) (oi := ⟨some 95, .binOp .geq 3 (.tmp 92) (.tmp 94) 3, 4, _, #[⟨15, .data⟩, ⟨17, .data⟩, ⟨13, .guard⟩], some (13, false)⟩) ?_
              try simp only [Act.put, tkA, tkB, tkC]
              refine tkI (i := 19) (oi := ⟨some 96, .pick (.tmp 90) (.const (Value.bool true)) (.tmp 95), 4, _, #[⟨13, .data⟩, ⟨18, .data⟩], none⟩) ?_
              try simp only [Act.put, tkA, tkB, tkC]
              refine tkI (i := 20) (oi := ⟨some 97, .move (.tmp 96), 4, _, #[⟨19, .data⟩, ⟨17, .chain⟩], none⟩) ?_
              try simp only [Act.put, tkA, tkB, tkC]
              refine tkI (i := 21) (oi := ⟨some 98, .fieldAddr 37 (.tmp 11) 1, 0, _, #[⟨20, .guard⟩], some (20, false)⟩) ?_
              try simp only [Act.put, tkA, tkB, tkC]
              refine tkI (i := 22) (oi := ⟨some 99, .load 3 (.tmp 98), 3, _, #[⟨21, .data⟩, ⟨20, .guard⟩], some (20, false)⟩) ?_
              try simp only [Act.put, tkA, tkB, tkC]
              refine tkI (i := 23) (oi := ⟨some 100, .fieldAddr 37 (.tmp 12) 0, 0, _, #[⟨20, .guard⟩], some (20, false)⟩) ?_
              try simp only [Act.put, tkA, tkB, tkC]
              refine tkI (i := 24) (oi := ⟨some 101, .load 3 (.tmp 100), 3, _, #[⟨23, .data⟩, ⟨20, .guard⟩], some (20, false)⟩) ?_
              try simp only [Act.put, tkA, tkB, tkC]
              refine tkI (i := 25) (oi := ⟨some 102, .fieldAddr 37 (.tmp 11) 0, 0, _, #[⟨20, .guard⟩], some (20, false)⟩) ?_
              try simp only [Act.put, tkA, tkB, tkC]
              refine tkI (i := 26) (oi := ⟨some 103, .load 3 (.tmp 102), 3, _, #[⟨25, .data⟩, ⟨20, .guard⟩], some (20, false)⟩) ?_
              try simp only [Act.put, tkA, tkB, tkC]
              refine tkI (i := 27) (oi := ⟨some 104, .binOp .quo 3 (.tmp 101) (.tmp 103) 3, 3, _, #[⟨24, .data⟩, ⟨26, .data⟩, ⟨20, .guard⟩], some (20, false)⟩) ?_
              try simp only [Act.put, tkA, tkB, tkC]
              refine tkI (i := 28) (oi := ⟨some 105, .binOp .lss 3 (.tmp 99) (.tmp 104) 3, 4, _, #[⟨22, .data⟩, ⟨27, .data⟩, ⟨20, .guard⟩], some (20, false)⟩) ?_
              try simp only [Act.put, tkA, tkB, tkC]
              refine tkI (i := 29) (oi := ⟨some 106, .pick (.tmp 97) (.const (Value.bool true)) (.tmp 105), 4, _, #[⟨20, .data⟩, ⟨28, .data⟩], none⟩) ?_
              try simp only [Act.put, tkA, tkB, tkC]
              refine wpAnyH_done (by kernel_rfl) ?_ _
              go_wp2
              · go_ret
                exact ⟨ret_int (HN.out (by omega)).symm, below_fin (below_two HBR.out hb1 hb2)⟩
              · go_roundw
                case rel => first | exact ⟨2, by omega, rfl, c.twos_succ HT.out (fun _ => HG.out (by assumption)), below_two HBR.out hb1 hb2⟩ | ((repeat apply Exists.intro); exact ⟨⟨2, by omega, rfl, c.twos_succ HT.out (fun _ => HG.out (by assumption)), below_two HBR.out hb1 hb2⟩, rfl⟩)
                case measure => simp [intOf]
          · have HB0 := hid (HO3.out 2 (by omega))
            have HB1 := hid (HO3.out 3 (by omega))
            obtain ⟨b1, b2, b3, b4⟩ := ((bd_at2 HC.out).1 HB0.out)
            obtain ⟨e1, e2, e3, e4⟩ := ((bd_at3 HC.out).1 HB1.out)
            obtain ⟨p1, p2⟩ := (prod_at2 HC.out HB0.out)
            obtain ⟨p3, p4⟩ := (prod_at3 HC.out HB1.out)
            have HF := hid (show c.Ft 2 ↔ (s2 < s3 ∧ s3 % s2 = 0 ∧ s2 * k2 < s3 * k3 ∧ s3 / s2 ≤ k2) from ft_at2 HC.out)
            obtain ⟨r0, hr0⟩ : ∃ r, r = s2 * k2 := ⟨_, rfl⟩
            obtain ⟨r1, hr1⟩ : ∃ r, r = s3 * k3 := ⟨_, rfl⟩
            rw [← hr0] at p1 p2 HF
            rw [← hr1] at p3 p4 HF
            have HR0 := hid hr0
            have HR1 := hid hr1
            clear hr0 hr1
            by_cases t1 : s3 ≤ s2
            · have HE := hid (c.not_ok_ft (j := 2) (by omega) (fun h => absurd (HF.out.1 h).1 (by omega)))
              have g1 : decide (s3 ≤ s2) = true := by simp; omega
              go_wp2_with fail
              go_quiet (fail)
              go_wp2
              go_ret
              exact ⟨ret_int HE.out.symm, below_quiet _ HBR.out⟩
            by_cases t2 : s3 % s2 = 0
            case neg =>
              have HE := hid (c.not_ok_ft (j := 2) (by omega) (fun h => t2 (HF.out.1 h).2.1))
              have n2 : ¬ s2 = 0 := by omega
              have m1 : s3.tmod s2 = s3 % s2 := IntWalk.rem_in _ _ (by omega)
              have m2 : IntKind.i64.wrap (s3.tdiv s2) = s3 / s2 := IntWalk.i64_quo _ _ ⟨by omega, by omega, b1⟩
              have g1 : decide (s3 ≤ s2) = false := by simp; omega
              have g2 : (s3 % s2 != 0) = true := by simpa using t2
              go_wp2_with fail
              go_quiet (fail)
              go_wp2
              go_ret
              exact ⟨ret_int HE.out.symm, below_quiet _ HBR.out⟩
            by_cases t3 : r1 ≤ r0
            · have HE := hid (c.not_ok_ft (j := 2) (by omega) (fun h => absurd (HF.out.1 h).2.2.1 (by omega)))
              have n2 : ¬ s2 = 0 := by omega
              have m1 : s3.tmod s2 = s3 % s2 := IntWalk.rem_in _ _ (by omega)
              have m2 : IntKind.i64.wrap (s3.tdiv s2) = s3 / s2 := IntWalk.i64_quo _ _ ⟨by omega, by omega, b1⟩
              have g1 : decide (s3 ≤ s2) = false := by simp; omega
              have g2 : (s3 % s2 != 0) = false := by simpa using t2
              have g3 : decide (r1 ≤ r0) = true := by simpa using t3
              clear t2 t3
              go_wp2_with fail
              refine wp_region_held_drew (S := (fun w' => w'.cell? ⟨wr.heap.size, 0, none⟩ = some (i64 s2) ∧ w'.cell? ⟨wr.heap.size, 1, none⟩ = some (i64 k2) ∧ w'.cell? ⟨wr.heap.size + 1, 0, none⟩ = some (i64 s3) ∧ w'.cell? ⟨wr.heap.size + 1, 1, none⟩ = some (i64 k3))) (by kernel_rfl) ?_ (fun hHeld => ?_)
              · go_keep
              refine tkI (i := 0) (oi := ⟨some 77, .fieldAddr 37 (.tmp 11) 0, 0, _, #[], none⟩) ?_
              try simp only [Act.put, tkA, tkB, tkC]
              refine tkI (i := 1) (oi := ⟨some 78, .load 3 (.tmp 77), 3, _, #[⟨0, .data⟩], none⟩) ?_
              try simp only [Act.put, tkA, tkB, tkC]
              refine tkI (i := 2) (oi := ⟨some 79, .fieldAddr 37 (.tmp 12) 0, 0, _, #[], none⟩) ?_
              try simp only [Act.put, tkA, tkB, tkC]
              refine tkI (i := 3) (oi := ⟨some 80, .load 3 (.tmp 79), 3, _, #[⟨2, .data⟩], none⟩) ?_
              try simp only [Act.put, tkA, tkB, tkC]
              refine tkI (i := 4) (oi := ⟨some 81, .binOp .geq 3 (.tmp 78) (.tmp 80) 3, 4, _, #[⟨1, .data⟩, ⟨3, .data⟩], none⟩) ?_
              try simp only [Act.put, tkA, tkB, tkC]
              refine tkI (i := 5) (oi := ⟨some 82, .move (.tmp 81), 4, _, #[⟨4, .data⟩], none⟩) ?_
              try simp only [Act.put, tkA, tkB, tkC]
              refine tkI (i := 6) (oi := ⟨some 83, .fieldAddr 37 (.tmp 12) 0, 0, _, #[⟨5, .guard⟩], some (5, false)⟩) ?_
              try simp only [Act.put, tkA, tkB, tkC]
              refine tkI (i := 7) (oi := ⟨some 84, .load 3 (.tmp 83), 3, _, #[⟨6, .data⟩, ⟨5, .guard⟩], some (5, false)⟩) ?_
              try simp only [Act.put, tkA, tkB, tkC]
              refine tkI (i := 8) (oi := ⟨some 85, .fieldAddr 37 (.tmp 11) 0, 0, _, #[⟨5, .guard⟩], some (5, false)⟩) ?_
              try simp only [Act.put, tkA, tkB, tkC]
              refine tkI (i := 9) (oi := ⟨some 86, .load 3 (.tmp 85), 3, _, #[⟨8, .data⟩, ⟨5, .guard⟩], some (5, false)⟩) ?_
              try simp only [Act.put, tkA, tkB, tkC]
              refine tkI (i := 10) (oi := ⟨some 87, .binOp .rem 3 (.tmp 84) (.tmp 86) 3, 3, _, #[⟨7, .data⟩, ⟨9, .data⟩, ⟨5, .guard⟩], some (5, false)⟩) ?_
              try simp only [Act.put, tkA, tkB, tkC]
              refine tkI (i := 11) (oi := ⟨some 88, .binOp .neq 3 (.tmp 87) (.const (Value.int .i64 0)) 3, 4, _, #[⟨10, .data⟩, ⟨5, .guard⟩], some (5, false)⟩) ?_
              try simp only [Act.put, tkA, tkB, tkC]
              refine tkI (i := 12) (oi := ⟨some 89, .pick (.tmp 82) (.const (Value.bool true)) (.tmp 88), 4, _, #[⟨5, .data⟩, ⟨11, .data⟩], none⟩) ?_
              try simp only [Act.put, tkA, tkB, tkC]
              refine tkI (i := 13) (oi := ⟨some 90, .move (.tmp 89), 4, _, #[⟨12, .data⟩, ⟨5, .chain⟩], none⟩) ?_
              try simp only [Act.put, tkA, tkB, tkC]
              refine tkI (i := 14) (oi := ⟨some 91, .load 37 (.tmp 11), 37, _, #[⟨13, .guard⟩], some (13, false)⟩) ?_
              try simp only [Act.put, tkA, tkB, tkC]
              refine tkI (i := 16) (oi := ⟨some 93, .load 37 (.tmp 12), 37, _, #[⟨13, .guard⟩], some (13, false)⟩) ?_
              try simp only [Act.put, tkA, tkB, tkC]
              refine wpAnyH_ready (rs := [15]) (by kernel_rfl) (by simp) ?_
              refine AllReadyH.cons rfl (fun K hK => ?_) AllReadyH.nil
              go_simp
              go_wp2_with ((go_at_call 40; refine (reach_val s2 k2 r0 _ HR0 p1 p2).mono ?_; rintro e w1 ⟨rfl, hb1⟩))
              refine hK.out _ _ ?_ (fun hHeld => ?_)
              · refine ⟨?_, ?_, ?_, ?_⟩ <;> exact cell_later hb1 (by simp [*])
              clear hK K
              refine wpAnyH_ready (rs := [17]) (by kernel_rfl) (by simp) ?_
              refine AllReadyH.cons rfl (fun K hK => ?_) AllReadyH.nil
              go_simp
              go_wp2_with ((go_at_call 40; refine (reach_val s3 k3 r1 _ HR1 p3 p4).mono ?_; rintro e w2 ⟨rfl, hb2⟩))
              refine hK.out _ _ ?_ (fun hHeld => ?_)
              · refine ⟨?_, ?_, ?_, ?_⟩ <;> exact cell_later hb2 (by simp [*])
              clear hK K
              refine tkI (i := 18) (oi := ⟨some 95, .binOp .geq 3 (.tmp 92) (.tmp 94) 3, 4, _, #[⟨15, .data⟩, ⟨17, .data⟩, ⟨13, .guard⟩], some (13, false)⟩) ?_
              try simp only [Act.put, tkA, tkB, tkC]
              refine tkI (i := 19) (oi := ⟨some 96, .pick (.tmp 90) (.const (Value.bool true)) (.tmp 95), 4, _, #[⟨13, .data⟩, ⟨18, .data⟩], none⟩) ?_
              try simp only [Act.put, tkA, tkB, tkC]
              refine tkI (i := 20) (oi := ⟨some 97, .move (.tmp 96), 4, _, #[⟨19, .data⟩, ⟨17, .chain⟩], none⟩) ?_
              try simp only [Act.put, tkA, tkB, tkC]
              refine tkJ (i := 21) (oi := ⟨some 98, .fieldAddr 37 (.tmp 11) 1, 0, _, #[⟨20, .guard⟩], some (20, false)⟩) ?_
              try simp only [Act.put, tkA, tkB, tkC]
              refine tkJ (i := 22) (oi := ⟨some 99, .load 3 (.tmp 98), 3, _, #[⟨21, .data⟩, ⟨20, .guard⟩], some (20, false)⟩) ?_
              try simp only [Act.put, tkA, tkB, tkC]
              refine tkJ (i := 23) (oi := ⟨some 100, .fieldAddr 37 (.tmp 12) 0, 0, _, #[⟨20, .guard⟩], some (20, false)⟩) ?_
              try simp only [Act.put, tkA, tkB, tkC]
              refine tkJ (i := 24) (oi := ⟨some 101, .load 3 (.tmp 100), 3, _, #[⟨23, .data⟩, ⟨20, .guard⟩], some (20, false)⟩) ?_
              try simp only [Act.put, tkA, tkB, tkC]
              refine tkJ (i := 25) (oi := ⟨some 102, .fieldAddr 37 (.tmp 11) 0, 0, _, #[⟨20, .guard⟩], some (20, false)⟩) ?_
              try simp only [Act.put, tkA, tkB, tkC]
              refine tkJ (i := 26) (oi := ⟨some 103, .load 3 (.tmp 102), 3, _, #[⟨25, .data⟩, ⟨20, .guard⟩], some (20, false)⟩) ?_
              try simp only [Act.put, tkA, tkB, tkC]
              refine tkJ (i := 27) (oi := ⟨some 104, .binOp .quo 3 (.tmp 101) (.tmp 103) 3, 3, _, #[⟨24, .data⟩, ⟨26, .data⟩, ⟨20, .guard⟩], some (20, false)⟩) ?_
              try simp only [Act.put, tkA, tkB, tkC]
              refine tkJ (i := 28) (oi := ⟨some 105, .binOp .lss 3 (.tmp 99) (.tmp 104) 3, 4, _, #[⟨22, .data⟩, ⟨27, .data⟩, ⟨20, .guard⟩], some (20, false)⟩) ?_
              try simp only [Act.put, tkA, tkB, tkC]
              refine tkI (i := 29) (oi := ⟨some 106, .pick (.tmp 97) (.const (Value.bool true)) (.tmp 105), 4, _, #[⟨20, .data⟩, ⟨28, .data⟩], none⟩) ?_
              try simp only [Act.put, tkA, tkB, tkC]
              refine wpAnyH_done (by kernel_rfl) ?_ _
              go_wp2
              go_ret
              exact ⟨ret_int HE.out.symm, below_fin (below_two HBR.out hb1 hb2)⟩
            · have HG := hid (show s3 / s2 ≤ k2 → c.Ft 2 from fun h => HF.out.2 ⟨by omega, t2, by omega, h⟩)
              have HN := hid (show ¬ s3 / s2 ≤ k2 → c.err = 2 from fun h => c.not_ok_ft (j := 2) (by omega) (fun x => h (HF.out.1 x).2.2.2))
              have n2 : ¬ s2 = 0 := by omega
              have m1 : s3.tmod s2 = s3 % s2 := IntWalk.rem_in _ _ (by omega)
              have m2 : IntKind.i64.wrap (s3.tdiv s2) = s3 / s2 := IntWalk.i64_quo _ _ ⟨by omega, by omega, b1⟩
              have g1 : decide (s3 ≤ s2) = false := by simp; omega
              have g2 : (s3 % s2 != 0) = false := by simpa using t2
              have g3 : decide (r1 ≤ r0) = false := by simpa using t3
              clear t2 t3
              go_wp2_with fail
              refine wp_region_held_drew (S := (fun w' => w'.cell? ⟨wr.heap.size, 0, none⟩ = some (i64 s2) ∧ w'.cell? ⟨wr.heap.size, 1, none⟩ = some (i64 k2) ∧ w'.cell? ⟨wr.heap.size + 1, 0, none⟩ = some (i64 s3) ∧ w'.cell? ⟨wr.heap.size + 1, 1, none⟩ = some (i64 k3))) (by kernel_rfl) ?_ (fun hHeld => ?_)
              · go_keep
              refine tkI (i := 0) (oi := ⟨some 77, .fieldAddr 37 (.tmp 11) 0, 0, _, #[], none⟩) ?_
              try simp only [Act.put, tkA, tkB, tkC]
              refine tkI (i := 1) (oi := ⟨some 78, .load 3 (.tmp 77), 3, _, #[⟨0, .data⟩], none⟩) ?_
              try simp only [Act.put, tkA, tkB, tkC]
              refine tkI (i := 2) (oi := ⟨some 79, .fieldAddr 37 (.tmp 12) 0, 0, _, #[], none⟩) ?_
              try simp only [Act.put, tkA, tkB, tkC]
              refine tkI (i := 3) (oi := ⟨some 80, .load 3 (.tmp 79), 3, _, #[⟨2, .data⟩], none⟩) ?_
              try simp only [Act.put, tkA, tkB, tkC]
              refine tkI (i := 4) (oi := ⟨some 81, .binOp .geq 3 (.tmp 78) (.tmp 80) 3, 4, _, #[⟨1, .data⟩, ⟨3, .data⟩], none⟩) ?_
              try simp only [Act.put, tkA, tkB, tkC]
              refine tkI (i := 5) (oi := ⟨some 82, .move (.tmp 81), 4, _, #[⟨4, .data⟩], none⟩) ?_
              try simp only [Act.put, tkA, tkB, tkC]
              refine tkI (i := 6) (oi := ⟨some 83, .fieldAddr 37 (.tmp 12) 0, 0, _, #[⟨5, .guard⟩], some (5, false)⟩) ?_
              try simp only [Act.put, tkA, tkB, tkC]
              refine tkI (i := 7) (oi := ⟨some 84, .load 3 (.tmp 83), 3, _, #[⟨6, .data⟩, ⟨5, .guard⟩], some (5, false)⟩) ?_
              try simp only [Act.put, tkA, tkB, tkC]
              refine tkI (i := 8) (oi := ⟨some 85, .fieldAddr 37 (.tmp 11) 0, 0, _, #[⟨5, .guard⟩], some (5, false)⟩) ?_
              try simp only [Act.put, tkA, tkB, tkC]
              refine tkI (i := 9) (oi := ⟨some 86, .load 3 (.tmp 85), 3, _, #[⟨8, .data⟩, ⟨5, .guard⟩], some (5, false)⟩) ?_
              try simp only [Act.put, tkA, tkB, tkC]
              refine tkI (i := 10) (oi := ⟨some 87, .binOp .rem 3 (.tmp 84) (.tmp 86) 3, 3, _, #[⟨7, .data⟩, ⟨9, .data⟩, ⟨5, .guard⟩], some (5, false)⟩) ?_
              try simp only [Act.put, tkA, tkB, tkC]
              refine tkI (i := 11) (oi := ⟨some 88, .binOp .neq 3 (.tmp 87) (.const (Value.int .i64 0)) 3, 4, _, #[⟨10, .data⟩, ⟨5, .guard⟩], some (5, false)⟩) ?_
              try simp only [Act.put, tkA, tkB, tkC]
              refine tkI (i := 12) (oi := ⟨some 89, .pick (.tmp 82) (.const (Value.bool true)) (.tmp 88), 4, _, #[⟨5, .data⟩, ⟨11, .data⟩], none⟩) ?_
              try simp only [Act.put, tkA, tkB, tkC]
              refine tkI (i := 13) (oi := ⟨some 90, .move (.tmp 89), 4, _, #[⟨12, .data⟩, ⟨5, .chain⟩], none⟩) ?_
              try simp only [Act.put, tkA, tkB, tkC]
              refine tkI (i := 14) (oi := ⟨some 91, .load 37 (.tmp 11), 37, _, #[⟨13, .guard⟩], some (13, false)⟩) ?_
              try simp only [Act.put, tkA, tkB, tkC]
              refine tkI (i := 16) (oi := ⟨some 93, .load 37 (.tmp 12), 37, _, #[⟨13, .guard⟩], some (13, false)⟩) ?_
              try simp only [Act.put, tkA, tkB, tkC]
              refine wpAnyH_ready (rs := [15]) (by kernel_rfl) (by simp) ?_
              refine AllReadyH.cons rfl (fun K hK => ?_) AllReadyH.nil
              go_simp
              go_wp2_with ((go_at_call 40; refine (reach_val s2 k2 r0 _ HR0 p1 p2).mono ?_; rintro e w1 ⟨rfl, hb1⟩))
              refine hK.out _ _ ?_ (fun hHeld => ?_)
              · refine ⟨?_, ?_, ?_, ?_⟩ <;> exact cell_later hb1 (by simp [*])
              clear hK K
              refine wpAnyH_ready (rs := [17]) (by kernel_rfl) (by simp) ?_
              refine AllReadyH.cons rfl (fun K hK => ?_) AllReadyH.nil
              go_simp
              go_wp2_with ((go_at_call 40; refine (reach_val s3 k3 r1 _ HR1 p3 p4).mono ?_; rintro e w2 ⟨rfl, hb2⟩))
              refine hK.out _ _ ?_ (fun hHeld => ?_)
              · refine ⟨?_, ?_, ?_, ?_⟩ <;> exact cell_later hb2 (by simp [*])
              clear hK K
              refine tkI (i := 18) (oi := ⟨some 95, .binOp .geq 3 (.tmp 92) (.tmp 94) 3, 4, _, #[⟨15, .data⟩, ⟨17, .data⟩, ⟨13, .guard⟩], some (13, false)⟩) ?_
              try simp only [Act.put, tkA, tkB, tkC]
              refine tkI (i := 19) (oi := ⟨some 96, .pick (.tmp 90) (.const (Value.bool true)) (.tmp 95), 4, _, #[⟨13, .data⟩, ⟨18, .data⟩], none⟩) ?_
              try simp only [Act.put, tkA, tkB, tkC]
              refine tkI (i := 20) (oi := ⟨some 97, .move (.tmp 96), 4, _, #[⟨19, .data⟩, ⟨17, .chain⟩], none⟩) ?_
              try simp only [Act.put, tkA, tkB, tkC]
              refine tkI (i := 21) (oi := ⟨some 98, .fieldAddr 37 (.tmp 11) 1, 0, _, #[⟨20, .guard⟩], some (20, false)⟩) ?_
              try simp only [Act.put, tkA, tkB, tkC]
              refine tkI (i := 22) (oi := ⟨some 99, .load 3 (.tmp 98), 3, _, #[⟨21, .data⟩, ⟨20, .guard⟩], some (20, false)⟩) ?_
              try simp only [Act.put, tkA, tkB, tkC]
              refine tkI (i := 23) (oi := ⟨some 100, .fieldAddr 37 (.tmp 12) 0, 0, _, #[⟨20, .guard⟩], some (20, false)⟩) ?_
              try simp only [Act.put, tkA, tkB, tkC]
              refine tkI (i := 24) (oi := ⟨some 101, .load 3 (.tmp 100), 3, _, #[⟨23, .data⟩, ⟨20, .guard⟩], some (20, false)⟩) ?_
              try simp only [Act.put, tkA, tkB, tkC]
              refine tkI (i := 25) (oi := ⟨some 102, .fieldAddr 37 (.tmp 11) 0, 0, _, #[⟨20, .guard⟩], some (20, false)⟩) ?_
              try simp only [Act.put, tkA, tkB, tkC]
              refine tkI (i := 26) (oi := ⟨some 103, .load 3 (.tmp 102), 3, _, #[⟨25, .data⟩, ⟨20, .guard⟩], some (20, false)⟩) ?_
              try simp only [Act.put, tkA, tkB, tkC]
              refine tkI (i := 27) (oi := ⟨some 104, .binOp .quo 3 (.tmp 101) (.tmp 103) 3, 3, _, #[⟨24, .data⟩, ⟨26, .data⟩, ⟨20, .guard⟩], some (20, false)⟩) ?_
              try simp only [Act.put, tkA, tkB, tkC]
              refine tkI (i := 28) (oi := ⟨some 105, .binOp .lss 3 (.tmp 99) (.tmp 104) 3, 4, _, #[⟨22, .data⟩, ⟨27, .data⟩, ⟨20, .guard⟩], some (20, false)⟩) ?_
              try simp only [Act.put, tkA, tkB, tkC]
              refine tkI (i := 29) (oi := ⟨some 106, .pick (.tmp 97) (.const (Value.bool true)) (.tmp 105), 4, _, #[⟨20, .data⟩, ⟨28, .data⟩], none⟩) ?_
              try simp only [Act.put, tkA, tkB, tkC]
              refine wpAnyH_done (by kernel_rfl) ?_ _
              go_wp2
              · go_ret
                exact ⟨ret_int (HN.out (by omega)).symm, below_fin (below_two HBR.out hb1 hb2)⟩
              · go_roundw
                case rel => first | exact ⟨3, by omega, rfl, c.twos_succ HT.out (fun _ => HG.out (by assumption)), below_two HBR.out hb1 hb2⟩ | ((repeat apply Exists.intro); exact ⟨⟨3, by omega, rfl, c.twos_succ HT.out (fun _ => HG.out (by assumption)), below_two HBR.out hb1 hb2⟩, rfl⟩)
                case measure => simp [intOf]
theorem rcheck_yes (c : Cfg) (w : World) (hMf : c.Mf) :
    Calls Tryz.prog 19 #[.agg c.cells] w fun e w' => e = .returned (i64 c.err) ∧ Below w.heap.size w w' :=
  rcheck_vars c.s0 c.k0 c.s1 c.k1 c.s2 c.k2 c.s3 c.k3 c.m c.f c rfl w hMf
end Go.Proofs.YthbbfjfekchdiaaGreat
