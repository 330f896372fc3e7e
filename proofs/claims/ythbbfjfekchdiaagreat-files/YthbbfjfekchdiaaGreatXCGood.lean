import Derived.Test.YthbbfjfekchdiaaGreatXZBytes
import Derived.Test.YthbbfjfekchdiaaGreatXCGood0
namespace Go.Proofs.YthbbfjfekchdiaaGreat
theorem num1 {n : Int} (h0 : 0 ≤ n) (h1 : n < 256) : numL n 1 = [n] := by
  show [] ++ [n % 256] = [n]
  rw [Int.emod_eq_of_lt h0 h1]; rfl
def saveHead (d : RDb) : List Int := [83, 85, 78, 1, d.c.m, d.c.f, (d.c.many : Int)]
def saveA (d : RDb) (n : Nat) : List Int := saveHead d ++ (List.range n).flatMap (arcBytes d.c)
def slotsB (c : Cfg) (i : Nat) (l : List Pt) (n : Nat) : List Int := (List.range n).flatMap fun j => slotBytes (slotAt c i l j)
def saveB (d : RDb) (n : Nat) : List Int := saveA d d.c.many ++ (List.range n).flatMap fun i => slotsB d.c i ((d.L[i]?).getD []) (d.c.k i).toNat
theorem saveA_succ (d : RDb) (n : Nat) : saveA d (n + 1) = saveA d n ++ (numL (d.c.s n) 4 ++ numL (d.c.k n) 4) := by
  unfold saveA
  rw [List.range_succ, List.flatMap_append, List.append_assoc]
  simp [arcBytes]
theorem saveB_succ (d : RDb) (n : Nat) : saveB d (n + 1) = saveB d n ++ slotsB d.c n ((d.L[n]?).getD []) (d.c.k n).toNat := by
  unfold saveB
  rw [List.range_succ, List.flatMap_append, List.append_assoc]
  simp
theorem slotsB_succ (c : Cfg) (i : Nat) (l : List Pt) (n : Nat) : slotsB c i l (n + 1) = slotsB c i l n ++ (numL (optPt (slotAt c i l n)).1 4 ++ numL (optPt (slotAt c i l n)).2 8) := by
  unfold slotsB
  rw [List.range_succ, List.flatMap_append]
  simp [slotBytes]
theorem saveB_zero (d : RDb) : saveB d 0 = saveA d d.c.many := by unfold saveB; simp
theorem slotsB_len (c : Cfg) (i : Nat) (l : List Pt) (n : Nat) : (slotsB c i l n).length = 12 * n := by
  induction n with
  | zero => rfl
  | succ n ih => rw [slotsB_succ, List.length_append, List.length_append, numL_len, numL_len, ih]; omega
theorem saveA_len (d : RDb) (n : Nat) : (saveA d n).length = 7 + 8 * n := by
  induction n with
  | zero => rfl
  | succ n ih => rw [saveA_succ, List.length_append, List.length_append, numL_len, numL_len, ih]; omega
theorem saveB_len {d : RDb} (hd : d.Ok) (n : Nat) (h : n ≤ d.c.many) : (saveB d n).length ≤ 39 + 720 * n := by
  induction n with
  | zero => rw [saveB_zero, saveA_len]; have := d.c.many_le; omega
  | succ n ih =>
    have hbd := (bdB_all (d.c.ok_iff.1 hd.cfg).2.2.2.2.1) n (by omega)
    obtain ⟨b1, b2, b3, b4⟩ := (show 1 ≤ d.c.s n ∧ d.c.s n ≤ 86400 ∧ 1 ≤ d.c.k n ∧ d.c.k n ≤ 60 from hbd)
    rw [saveB_succ, List.length_append, slotsB_len]
    have := ih (by omega)
    omega
theorem saveB_all (d : RDb) : saveB d d.c.many = saveL d := by
  unfold saveB saveA saveL bytesOf arcsOf slotsL slotsB saveHead
  rw [List.append_assoc]
  congr 1
  congr 1
  rw [List.flatMap_map]
  congr 1
  funext i
  rw [List.flatMap_map]
end Go.Proofs.YthbbfjfekchdiaaGreat
namespace Go.Proofs.YthbbfjfekchdiaaGreat
open Go.RowKit
theorem below_after {w w' : World} {o1 o2 : Obj} (h : Below ((w.alloc o1).alloc o2).heap.size ((w.alloc o1).alloc o2) w') : Below w.heap.size w w' := by
  have e : ((w.alloc o1).alloc o2).heap.size = w.heap.size + 1 + 1 := by simp
  rw [e] at h
  exact (((Below.refl _ w).alloc (Nat.le_refl _) _).alloc (by simp) _).trans (h.mono (by omega))
theorem box_two (w : World) (c : Cfg) (o : Obj) : Box ((w.alloc o).alloc (.cells #[i64 c.s0, i64 c.k0, i64 c.s1, i64 c.k1, i64 c.s2, i64 c.k2, i64 c.s3, i64 c.k3, i64 c.m, i64 c.f] 40)) (w.heap.size + 1) c := by
  have h := box_new (w.alloc o) c
  have e : (w.alloc o).heap.size = w.heap.size + 1 := by simp
  rwa [e] at h
set_option maxHeartbeats 2000000 in
theorem good_1 (c : Cfg) (w : World) (a1 : 1 ≤ c.m) (a2 : c.m ≤ 6) (b1 : 0 ≤ c.f) (b2 : c.f ≤ 100) (hm : c.many = 1) :
    Calls Tryz.prog 41 #[.agg c.cells] w fun e w' => e = .returned (.bool c.okB) ∧ Below w.heap.size w w' := by
  show Calls Tryz.prog 41 #[.agg #[i64 c.s0, i64 c.k0, i64 c.s1, i64 c.k1, i64 c.s2, i64 c.k2, i64 c.s3, i64 c.k3, i64 c.m, i64 c.f]] w _
  have HA := hid (c.ok_iff)
  have HN := hid (c.okB_no)
  have HY := hid (c.okB_yes)
  rw [hm] at HA HN HY
  by_cases z : zeroB c 1 = true
  case neg =>
    have HE := hid (HN.out fun x => z x.2.2.2.1)
    have z' : zeroB c 1 = false := by simpa using z
    clear z HA HN HY
    go_enter Tryz.func41, Tryz.ntmps41
    go_wp2_with (first | (go_at_call 42; refine (bynumber_yes _ _ a1 a2).mono ?_; rintro e w' ⟨rfl, rfl⟩) | (go_at_call 43; refine (used_any c _).mono ?_; rintro e w' ⟨rfl, rfl⟩) | (go_at_call 73; refine (within_any _ _ _ _).mono ?_; rintro e w' ⟨rfl, rfl⟩) | (go_at_call 74; refine (allzero_1 c _ _ (box_old (box_new w c) _)).mono ?_; rintro e wz ⟨rfl, hbz⟩))
    go_ret
    exact ⟨ret_bool' HE.out.symm, below_after hbz⟩
  by_cases b : bdB c 1 = true
  case neg =>
    have HE := hid (HN.out fun x => b x.2.2.2.2.1)
    have b' : bdB c 1 = false := by simpa using b
    clear b HA HN HY
    go_enter Tryz.func41, Tryz.ntmps41
    go_wp2_with (first | (go_at_call 42; refine (bynumber_yes _ _ a1 a2).mono ?_; rintro e w' ⟨rfl, rfl⟩) | (go_at_call 43; refine (used_any c _).mono ?_; rintro e w' ⟨rfl, rfl⟩) | (go_at_call 73; refine (within_any _ _ _ _).mono ?_; rintro e w' ⟨rfl, rfl⟩) | (go_at_call 74; refine (allzero_1 c _ _ (box_old (box_new w c) _)).mono ?_; rintro e wz ⟨rfl, hbz⟩) | (go_at_call 75; refine (allbounded_any c 1 _ _ (by omega) ((box_two w c _).later hbz)).mono ?_; rintro e wb ⟨rfl, hbb⟩))
    go_ret
    exact ⟨ret_bool' HE.out.symm, (below_after hbz).trans (hbb.mono (below_after hbz).size)⟩
  have HBD := hid (bdB_all b)
  have HE := hid (show c.okB = ftB c 1 by
    by_cases f : ftB c 1 = true
    · rw [f]; exact HY.out ⟨⟨a1, a2⟩, ⟨b1, b2⟩, by omega, z, b, f⟩
    · rw [HN.out fun x => f x.2.2.2.2.2]; simpa using f)
  clear HA HN HY
  go_enter Tryz.func41, Tryz.ntmps41
  go_wp2_with (first | (go_at_call 42; refine (bynumber_yes _ _ a1 a2).mono ?_; rintro e w' ⟨rfl, rfl⟩) | (go_at_call 43; refine (used_any c _).mono ?_; rintro e w' ⟨rfl, rfl⟩) | (go_at_call 73; refine (within_any _ _ _ _).mono ?_; rintro e w' ⟨rfl, rfl⟩) | (go_at_call 74; refine (allzero_1 c _ _ (box_old (box_new w c) _)).mono ?_; rintro e wz ⟨rfl, hbz⟩) | (go_at_call 75; refine (allbounded_any c 1 _ _ (by omega) ((box_two w c _).later hbz)).mono ?_; rintro e wb ⟨rfl, hbb⟩) | (go_at_call 76; refine (allfit_any c 1 _ _ (by omega) (by omega) (((box_two w c _).later hbz).later hbb) HBD).mono ?_; rintro e wf ⟨rfl, hbf⟩))
  go_ret
  exact ⟨ret_bool' HE.out.symm, ((below_after hbz).trans (hbb.mono (below_after hbz).size)).trans (hbf.mono (Nat.le_trans (below_after hbz).size hbb.size))⟩
set_option maxHeartbeats 2000000 in
theorem good_2 (c : Cfg) (w : World) (a1 : 1 ≤ c.m) (a2 : c.m ≤ 6) (b1 : 0 ≤ c.f) (b2 : c.f ≤ 100) (hm : c.many = 2) :
    Calls Tryz.prog 41 #[.agg c.cells] w fun e w' => e = .returned (.bool c.okB) ∧ Below w.heap.size w w' := by
  show Calls Tryz.prog 41 #[.agg #[i64 c.s0, i64 c.k0, i64 c.s1, i64 c.k1, i64 c.s2, i64 c.k2, i64 c.s3, i64 c.k3, i64 c.m, i64 c.f]] w _
  have HA := hid (c.ok_iff)
  have HN := hid (c.okB_no)
  have HY := hid (c.okB_yes)
  rw [hm] at HA HN HY
  by_cases z : zeroB c 2 = true
  case neg =>
    have HE := hid (HN.out fun x => z x.2.2.2.1)
    have z' : zeroB c 2 = false := by simpa using z
    clear z HA HN HY
    go_enter Tryz.func41, Tryz.ntmps41
    go_wp2_with (first | (go_at_call 42; refine (bynumber_yes _ _ a1 a2).mono ?_; rintro e w' ⟨rfl, rfl⟩) | (go_at_call 43; refine (used_any c _).mono ?_; rintro e w' ⟨rfl, rfl⟩) | (go_at_call 73; refine (within_any _ _ _ _).mono ?_; rintro e w' ⟨rfl, rfl⟩) | (go_at_call 74; refine (allzero_2 c _ _ (box_old (box_new w c) _)).mono ?_; rintro e wz ⟨rfl, hbz⟩))
    go_ret
    exact ⟨ret_bool' HE.out.symm, below_after hbz⟩
  by_cases b : bdB c 2 = true
  case neg =>
    have HE := hid (HN.out fun x => b x.2.2.2.2.1)
    have b' : bdB c 2 = false := by simpa using b
    clear b HA HN HY
    go_enter Tryz.func41, Tryz.ntmps41
    go_wp2_with (first | (go_at_call 42; refine (bynumber_yes _ _ a1 a2).mono ?_; rintro e w' ⟨rfl, rfl⟩) | (go_at_call 43; refine (used_any c _).mono ?_; rintro e w' ⟨rfl, rfl⟩) | (go_at_call 73; refine (within_any _ _ _ _).mono ?_; rintro e w' ⟨rfl, rfl⟩) | (go_at_call 74; refine (allzero_2 c _ _ (box_old (box_new w c) _)).mono ?_; rintro e wz ⟨rfl, hbz⟩) | (go_at_call 75; refine (allbounded_any c 2 _ _ (by omega) ((box_two w c _).later hbz)).mono ?_; rintro e wb ⟨rfl, hbb⟩))
    go_ret
    exact ⟨ret_bool' HE.out.symm, (below_after hbz).trans (hbb.mono (below_after hbz).size)⟩
  have HBD := hid (bdB_all b)
  have HE := hid (show c.okB = ftB c 2 by
    by_cases f : ftB c 2 = true
    · rw [f]; exact HY.out ⟨⟨a1, a2⟩, ⟨b1, b2⟩, by omega, z, b, f⟩
    · rw [HN.out fun x => f x.2.2.2.2.2]; simpa using f)
  clear HA HN HY
  go_enter Tryz.func41, Tryz.ntmps41
  go_wp2_with (first | (go_at_call 42; refine (bynumber_yes _ _ a1 a2).mono ?_; rintro e w' ⟨rfl, rfl⟩) | (go_at_call 43; refine (used_any c _).mono ?_; rintro e w' ⟨rfl, rfl⟩) | (go_at_call 73; refine (within_any _ _ _ _).mono ?_; rintro e w' ⟨rfl, rfl⟩) | (go_at_call 74; refine (allzero_2 c _ _ (box_old (box_new w c) _)).mono ?_; rintro e wz ⟨rfl, hbz⟩) | (go_at_call 75; refine (allbounded_any c 2 _ _ (by omega) ((box_two w c _).later hbz)).mono ?_; rintro e wb ⟨rfl, hbb⟩) | (go_at_call 76; refine (allfit_any c 2 _ _ (by omega) (by omega) (((box_two w c _).later hbz).later hbb) HBD).mono ?_; rintro e wf ⟨rfl, hbf⟩))
  go_ret
  exact ⟨ret_bool' HE.out.symm, ((below_after hbz).trans (hbb.mono (below_after hbz).size)).trans (hbf.mono (Nat.le_trans (below_after hbz).size hbb.size))⟩
set_option maxHeartbeats 2000000 in
theorem good_3 (c : Cfg) (w : World) (a1 : 1 ≤ c.m) (a2 : c.m ≤ 6) (b1 : 0 ≤ c.f) (b2 : c.f ≤ 100) (hm : c.many = 3) :
    Calls Tryz.prog 41 #[.agg c.cells] w fun e w' => e = .returned (.bool c.okB) ∧ Below w.heap.size w w' := by
  show Calls Tryz.prog 41 #[.agg #[i64 c.s0, i64 c.k0, i64 c.s1, i64 c.k1, i64 c.s2, i64 c.k2, i64 c.s3, i64 c.k3, i64 c.m, i64 c.f]] w _
  have HA := hid (c.ok_iff)
  have HN := hid (c.okB_no)
  have HY := hid (c.okB_yes)
  rw [hm] at HA HN HY
  by_cases z : zeroB c 3 = true
  case neg =>
    have HE := hid (HN.out fun x => z x.2.2.2.1)
    have z' : zeroB c 3 = false := by simpa using z
    clear z HA HN HY
    go_enter Tryz.func41, Tryz.ntmps41
    go_wp2_with (first | (go_at_call 42; refine (bynumber_yes _ _ a1 a2).mono ?_; rintro e w' ⟨rfl, rfl⟩) | (go_at_call 43; refine (used_any c _).mono ?_; rintro e w' ⟨rfl, rfl⟩) | (go_at_call 73; refine (within_any _ _ _ _).mono ?_; rintro e w' ⟨rfl, rfl⟩) | (go_at_call 74; refine (allzero_3 c _ _ (box_old (box_new w c) _)).mono ?_; rintro e wz ⟨rfl, hbz⟩))
    go_ret
    exact ⟨ret_bool' HE.out.symm, below_after hbz⟩
  by_cases b : bdB c 3 = true
  case neg =>
    have HE := hid (HN.out fun x => b x.2.2.2.2.1)
    have b' : bdB c 3 = false := by simpa using b
    clear b HA HN HY
    go_enter Tryz.func41, Tryz.ntmps41
    go_wp2_with (first | (go_at_call 42; refine (bynumber_yes _ _ a1 a2).mono ?_; rintro e w' ⟨rfl, rfl⟩) | (go_at_call 43; refine (used_any c _).mono ?_; rintro e w' ⟨rfl, rfl⟩) | (go_at_call 73; refine (within_any _ _ _ _).mono ?_; rintro e w' ⟨rfl, rfl⟩) | (go_at_call 74; refine (allzero_3 c _ _ (box_old (box_new w c) _)).mono ?_; rintro e wz ⟨rfl, hbz⟩) | (go_at_call 75; refine (allbounded_any c 3 _ _ (by omega) ((box_two w c _).later hbz)).mono ?_; rintro e wb ⟨rfl, hbb⟩))
    go_ret
    exact ⟨ret_bool' HE.out.symm, (below_after hbz).trans (hbb.mono (below_after hbz).size)⟩
  have HBD := hid (bdB_all b)
  have HE := hid (show c.okB = ftB c 3 by
    by_cases f : ftB c 3 = true
    · rw [f]; exact HY.out ⟨⟨a1, a2⟩, ⟨b1, b2⟩, by omega, z, b, f⟩
    · rw [HN.out fun x => f x.2.2.2.2.2]; simpa using f)
  clear HA HN HY
  go_enter Tryz.func41, Tryz.ntmps41
  go_wp2_with (first | (go_at_call 42; refine (bynumber_yes _ _ a1 a2).mono ?_; rintro e w' ⟨rfl, rfl⟩) | (go_at_call 43; refine (used_any c _).mono ?_; rintro e w' ⟨rfl, rfl⟩) | (go_at_call 73; refine (within_any _ _ _ _).mono ?_; rintro e w' ⟨rfl, rfl⟩) | (go_at_call 74; refine (allzero_3 c _ _ (box_old (box_new w c) _)).mono ?_; rintro e wz ⟨rfl, hbz⟩) | (go_at_call 75; refine (allbounded_any c 3 _ _ (by omega) ((box_two w c _).later hbz)).mono ?_; rintro e wb ⟨rfl, hbb⟩) | (go_at_call 76; refine (allfit_any c 3 _ _ (by omega) (by omega) (((box_two w c _).later hbz).later hbb) HBD).mono ?_; rintro e wf ⟨rfl, hbf⟩))
  go_ret
  exact ⟨ret_bool' HE.out.symm, ((below_after hbz).trans (hbb.mono (below_after hbz).size)).trans (hbf.mono (Nat.le_trans (below_after hbz).size hbb.size))⟩
set_option maxHeartbeats 2000000 in
theorem good_4 (c : Cfg) (w : World) (a1 : 1 ≤ c.m) (a2 : c.m ≤ 6) (b1 : 0 ≤ c.f) (b2 : c.f ≤ 100) (hm : c.many = 4) :
    Calls Tryz.prog 41 #[.agg c.cells] w fun e w' => e = .returned (.bool c.okB) ∧ Below w.heap.size w w' := by
  show Calls Tryz.prog 41 #[.agg #[i64 c.s0, i64 c.k0, i64 c.s1, i64 c.k1, i64 c.s2, i64 c.k2, i64 c.s3, i64 c.k3, i64 c.m, i64 c.f]] w _
  have HA := hid (c.ok_iff)
  have HN := hid (c.okB_no)
  have HY := hid (c.okB_yes)
  rw [hm] at HA HN HY
  by_cases z : zeroB c 4 = true
  case neg =>
    have HE := hid (HN.out fun x => z x.2.2.2.1)
    have z' : zeroB c 4 = false := by simpa using z
    clear z HA HN HY
    go_enter Tryz.func41, Tryz.ntmps41
    go_wp2_with (first | (go_at_call 42; refine (bynumber_yes _ _ a1 a2).mono ?_; rintro e w' ⟨rfl, rfl⟩) | (go_at_call 43; refine (used_any c _).mono ?_; rintro e w' ⟨rfl, rfl⟩) | (go_at_call 73; refine (within_any _ _ _ _).mono ?_; rintro e w' ⟨rfl, rfl⟩) | (go_at_call 74; refine (allzero_4 c _ _).mono ?_; rintro e wz ⟨rfl, hbz⟩))
    go_ret
    exact ⟨ret_bool' HE.out.symm, below_after hbz⟩
  by_cases b : bdB c 4 = true
  case neg =>
    have HE := hid (HN.out fun x => b x.2.2.2.2.1)
    have b' : bdB c 4 = false := by simpa using b
    clear b HA HN HY
    go_enter Tryz.func41, Tryz.ntmps41
    go_wp2_with (first | (go_at_call 42; refine (bynumber_yes _ _ a1 a2).mono ?_; rintro e w' ⟨rfl, rfl⟩) | (go_at_call 43; refine (used_any c _).mono ?_; rintro e w' ⟨rfl, rfl⟩) | (go_at_call 73; refine (within_any _ _ _ _).mono ?_; rintro e w' ⟨rfl, rfl⟩) | (go_at_call 74; refine (allzero_4 c _ _).mono ?_; rintro e wz ⟨rfl, hbz⟩) | (go_at_call 75; refine (allbounded_any c 4 _ _ (by omega) ((box_two w c _).later hbz)).mono ?_; rintro e wb ⟨rfl, hbb⟩))
    go_ret
    exact ⟨ret_bool' HE.out.symm, (below_after hbz).trans (hbb.mono (below_after hbz).size)⟩
  have HBD := hid (bdB_all b)
  have HE := hid (show c.okB = ftB c 4 by
    by_cases f : ftB c 4 = true
    · rw [f]; exact HY.out ⟨⟨a1, a2⟩, ⟨b1, b2⟩, by omega, z, b, f⟩
    · rw [HN.out fun x => f x.2.2.2.2.2]; simpa using f)
  clear HA HN HY
  go_enter Tryz.func41, Tryz.ntmps41
  go_wp2_with (first | (go_at_call 42; refine (bynumber_yes _ _ a1 a2).mono ?_; rintro e w' ⟨rfl, rfl⟩) | (go_at_call 43; refine (used_any c _).mono ?_; rintro e w' ⟨rfl, rfl⟩) | (go_at_call 73; refine (within_any _ _ _ _).mono ?_; rintro e w' ⟨rfl, rfl⟩) | (go_at_call 74; refine (allzero_4 c _ _).mono ?_; rintro e wz ⟨rfl, hbz⟩) | (go_at_call 75; refine (allbounded_any c 4 _ _ (by omega) ((box_two w c _).later hbz)).mono ?_; rintro e wb ⟨rfl, hbb⟩) | (go_at_call 76; refine (allfit_any c 4 _ _ (by omega) (by omega) (((box_two w c _).later hbz).later hbb) HBD).mono ?_; rintro e wf ⟨rfl, hbf⟩))
  go_ret
  exact ⟨ret_bool' HE.out.symm, ((below_after hbz).trans (hbb.mono (below_after hbz).size)).trans (hbf.mono (Nat.le_trans (below_after hbz).size hbb.size))⟩
theorem good_any (c : Cfg) (w : World) :
    Calls Tryz.prog 41 #[.agg c.cells] w fun e w' => e = .returned (.bool c.okB) ∧ Below w.heap.size w w' := by
  by_cases h : (1 ≤ c.m ∧ c.m ≤ 6) ∧ (0 ≤ c.f ∧ c.f ≤ 100) ∧ 1 ≤ c.many
  · obtain ⟨⟨a1, a2⟩, ⟨b1, b2⟩, h1⟩ := h
    have h4 := c.many_le
    have h5 : c.many = 1 ∨ c.many = 2 ∨ c.many = 3 ∨ c.many = 4 := by omega
    rcases h5 with e | e | e | e
    · exact good_1 c w a1 a2 b1 b2 e
    · exact good_2 c w a1 a2 b1 b2 e
    · exact good_3 c w a1 a2 b1 b2 e
    · exact good_4 c w a1 a2 b1 b2 e
  · exact good_short c w h
set_option maxHeartbeats 1000000 in
theorem pcheck_any (c : Cfg) (w : World) :
    Calls Tryz.prog 20 #[.agg c.cells] w fun e w' => e = .returned (i64 c.err) ∧ Below w.heap.size w w' := by
  show Calls Tryz.prog 20 #[.agg #[i64 c.s0, i64 c.k0, i64 c.s1, i64 c.k1, i64 c.s2, i64 c.k2, i64 c.s3, i64 c.k3, i64 c.m, i64 c.f]] w _
  by_cases h : c.Ok
  · have HE := hid (c.err_ok h)
    have h' : c.okB = true := decide_eq_true h
    clear h
    go_enter Tryz.func20, Tryz.ntmps20
    go_wp2_with (go_at_call 41; refine (good_any c _).mono ?_; rintro e w' ⟨rfl, hb⟩)
    go_ret
    exact ⟨ret_int HE.out.symm, below_one hb⟩
  · have HE := hid (c.err_no h)
    have h' : c.okB = false := decide_eq_false h
    clear h
    go_enter Tryz.func20, Tryz.ntmps20
    go_wp2_with (go_at_call 41; refine (good_any c _).mono ?_; rintro e w' ⟨rfl, hb⟩)
    go_ret
    exact ⟨ret_int HE.out.symm, below_one hb⟩
end Go.Proofs.YthbbfjfekchdiaaGreat
