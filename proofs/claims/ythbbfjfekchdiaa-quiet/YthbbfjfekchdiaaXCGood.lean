import Derived.Test.YthbbfjfekchdiaaXCGood0
namespace Go.Proofs.Ythbbfjfekchdiaa
open Go.RowKit

theorem below_after {w w' : World} {o1 o2 : Obj} (h : Below ((w.alloc o1).alloc o2).heap.size ((w.alloc o1).alloc o2) w') : Below w.heap.size w w' := by
  have e : ((w.alloc o1).alloc o2).heap.size = w.heap.size + 1 + 1 := by simp
  rw [e] at h
  exact (((Below.refl _ w).alloc (Nat.le_refl _) _).alloc (by simp) _).trans (h.mono (by omega))
theorem box_two (w : World) (c : Cfg) (o : Obj) : Box ((w.alloc o).alloc (.cells #[i64 c.s0, i64 c.k0, i64 c.s1, i64 c.k1, i64 c.s2, i64 c.k2, i64 c.s3, i64 c.k3, i64 c.m, i64 c.f] 29)) (w.heap.size + 1) c := by
  have h := box_new (w.alloc o) c
  have e : (w.alloc o).heap.size = w.heap.size + 1 := by simp
  rwa [e] at h

set_option maxHeartbeats 2000000 in
theorem good_1 (c : Cfg) (w : World) (a1 : 1 ≤ c.m) (a2 : c.m ≤ 6) (b1 : 0 ≤ c.f) (b2 : c.f ≤ 100) (hm : c.many = 1) :
    Calls Try.prog 56 #[.agg c.cells] w fun e w' => e = .returned (.bool c.okB) ∧ Below w.heap.size w w' := by
  show Calls Try.prog 56 #[.agg #[i64 c.s0, i64 c.k0, i64 c.s1, i64 c.k1, i64 c.s2, i64 c.k2, i64 c.s3, i64 c.k3, i64 c.m, i64 c.f]] w _
  have HA := hid (c.ok_iff)
  have HN := hid (c.okB_no)
  have HY := hid (c.okB_yes)
  rw [hm] at HA HN HY
  by_cases z : zeroB c 1 = true
  case neg =>
    have HE := hid (HN.out fun x => z x.2.2.2.1)
    have z' : zeroB c 1 = false := by simpa using z
    clear z HA HN HY
    go_enter Try.func56, Try.ntmps56
    go_wp2_with (first | (go_at_call 40; refine (bynumber_yes _ _ a1 a2).mono ?_; rintro e w' ⟨rfl, rfl⟩) | (go_at_call 41; refine (used_any c _).mono ?_; rintro e w' ⟨rfl, rfl⟩) | (go_at_call 65; refine (within_any _ _ _ _).mono ?_; rintro e w' ⟨rfl, rfl⟩) | (go_at_call 66; refine (allzero_1 c _ _ (box_old (box_new w c) _)).mono ?_; rintro e wz ⟨rfl, hbz⟩))
    go_ret
    exact ⟨ret_bool' HE.out.symm, below_after hbz⟩
  by_cases b : bdB c 1 = true
  case neg =>
    have HE := hid (HN.out fun x => b x.2.2.2.2.1)
    have b' : bdB c 1 = false := by simpa using b
    clear b HA HN HY
    go_enter Try.func56, Try.ntmps56
    go_wp2_with (first | (go_at_call 40; refine (bynumber_yes _ _ a1 a2).mono ?_; rintro e w' ⟨rfl, rfl⟩) | (go_at_call 41; refine (used_any c _).mono ?_; rintro e w' ⟨rfl, rfl⟩) | (go_at_call 65; refine (within_any _ _ _ _).mono ?_; rintro e w' ⟨rfl, rfl⟩) | (go_at_call 66; refine (allzero_1 c _ _ (box_old (box_new w c) _)).mono ?_; rintro e wz ⟨rfl, hbz⟩) | (go_at_call 67; refine (allbounded_any c 1 _ _ (by omega) ((box_two w c _).later hbz)).mono ?_; rintro e wb ⟨rfl, hbb⟩))
    go_ret
    exact ⟨ret_bool' HE.out.symm, (below_after hbz).trans (hbb.mono (below_after hbz).size)⟩
  have HBD := hid (bdB_all b)
  have HE := hid (show c.okB = ftB c 1 by
    by_cases f : ftB c 1 = true
    · rw [f]; exact HY.out ⟨⟨a1, a2⟩, ⟨b1, b2⟩, by omega, z, b, f⟩
    · rw [HN.out fun x => f x.2.2.2.2.2]; simpa using f)
  clear HA HN HY
  go_enter Try.func56, Try.ntmps56
  go_wp2_with (first | (go_at_call 40; refine (bynumber_yes _ _ a1 a2).mono ?_; rintro e w' ⟨rfl, rfl⟩) | (go_at_call 41; refine (used_any c _).mono ?_; rintro e w' ⟨rfl, rfl⟩) | (go_at_call 65; refine (within_any _ _ _ _).mono ?_; rintro e w' ⟨rfl, rfl⟩) | (go_at_call 66; refine (allzero_1 c _ _ (box_old (box_new w c) _)).mono ?_; rintro e wz ⟨rfl, hbz⟩) | (go_at_call 67; refine (allbounded_any c 1 _ _ (by omega) ((box_two w c _).later hbz)).mono ?_; rintro e wb ⟨rfl, hbb⟩) | (go_at_call 68; refine (allfit_any c 1 _ _ (by omega) (by omega) (((box_two w c _).later hbz).later hbb) HBD).mono ?_; rintro e wf ⟨rfl, hbf⟩))
  go_ret
  exact ⟨ret_bool' HE.out.symm, ((below_after hbz).trans (hbb.mono (below_after hbz).size)).trans (hbf.mono (Nat.le_trans (below_after hbz).size hbb.size))⟩

set_option maxHeartbeats 2000000 in
theorem good_2 (c : Cfg) (w : World) (a1 : 1 ≤ c.m) (a2 : c.m ≤ 6) (b1 : 0 ≤ c.f) (b2 : c.f ≤ 100) (hm : c.many = 2) :
    Calls Try.prog 56 #[.agg c.cells] w fun e w' => e = .returned (.bool c.okB) ∧ Below w.heap.size w w' := by
  show Calls Try.prog 56 #[.agg #[i64 c.s0, i64 c.k0, i64 c.s1, i64 c.k1, i64 c.s2, i64 c.k2, i64 c.s3, i64 c.k3, i64 c.m, i64 c.f]] w _
  have HA := hid (c.ok_iff)
  have HN := hid (c.okB_no)
  have HY := hid (c.okB_yes)
  rw [hm] at HA HN HY
  by_cases z : zeroB c 2 = true
  case neg =>
    have HE := hid (HN.out fun x => z x.2.2.2.1)
    have z' : zeroB c 2 = false := by simpa using z
    clear z HA HN HY
    go_enter Try.func56, Try.ntmps56
    go_wp2_with (first | (go_at_call 40; refine (bynumber_yes _ _ a1 a2).mono ?_; rintro e w' ⟨rfl, rfl⟩) | (go_at_call 41; refine (used_any c _).mono ?_; rintro e w' ⟨rfl, rfl⟩) | (go_at_call 65; refine (within_any _ _ _ _).mono ?_; rintro e w' ⟨rfl, rfl⟩) | (go_at_call 66; refine (allzero_2 c _ _ (box_old (box_new w c) _)).mono ?_; rintro e wz ⟨rfl, hbz⟩))
    go_ret
    exact ⟨ret_bool' HE.out.symm, below_after hbz⟩
  by_cases b : bdB c 2 = true
  case neg =>
    have HE := hid (HN.out fun x => b x.2.2.2.2.1)
    have b' : bdB c 2 = false := by simpa using b
    clear b HA HN HY
    go_enter Try.func56, Try.ntmps56
    go_wp2_with (first | (go_at_call 40; refine (bynumber_yes _ _ a1 a2).mono ?_; rintro e w' ⟨rfl, rfl⟩) | (go_at_call 41; refine (used_any c _).mono ?_; rintro e w' ⟨rfl, rfl⟩) | (go_at_call 65; refine (within_any _ _ _ _).mono ?_; rintro e w' ⟨rfl, rfl⟩) | (go_at_call 66; refine (allzero_2 c _ _ (box_old (box_new w c) _)).mono ?_; rintro e wz ⟨rfl, hbz⟩) | (go_at_call 67; refine (allbounded_any c 2 _ _ (by omega) ((box_two w c _).later hbz)).mono ?_; rintro e wb ⟨rfl, hbb⟩))
    go_ret
    exact ⟨ret_bool' HE.out.symm, (below_after hbz).trans (hbb.mono (below_after hbz).size)⟩
  have HBD := hid (bdB_all b)
  have HE := hid (show c.okB = ftB c 2 by
    by_cases f : ftB c 2 = true
    · rw [f]; exact HY.out ⟨⟨a1, a2⟩, ⟨b1, b2⟩, by omega, z, b, f⟩
    · rw [HN.out fun x => f x.2.2.2.2.2]; simpa using f)
  clear HA HN HY
  go_enter Try.func56, Try.ntmps56
  go_wp2_with (first | (go_at_call 40; refine (bynumber_yes _ _ a1 a2).mono ?_; rintro e w' ⟨rfl, rfl⟩) | (go_at_call 41; refine (used_any c _).mono ?_; rintro e w' ⟨rfl, rfl⟩) | (go_at_call 65; refine (within_any _ _ _ _).mono ?_; rintro e w' ⟨rfl, rfl⟩) | (go_at_call 66; refine (allzero_2 c _ _ (box_old (box_new w c) _)).mono ?_; rintro e wz ⟨rfl, hbz⟩) | (go_at_call 67; refine (allbounded_any c 2 _ _ (by omega) ((box_two w c _).later hbz)).mono ?_; rintro e wb ⟨rfl, hbb⟩) | (go_at_call 68; refine (allfit_any c 2 _ _ (by omega) (by omega) (((box_two w c _).later hbz).later hbb) HBD).mono ?_; rintro e wf ⟨rfl, hbf⟩))
  go_ret
  exact ⟨ret_bool' HE.out.symm, ((below_after hbz).trans (hbb.mono (below_after hbz).size)).trans (hbf.mono (Nat.le_trans (below_after hbz).size hbb.size))⟩

set_option maxHeartbeats 2000000 in
theorem good_3 (c : Cfg) (w : World) (a1 : 1 ≤ c.m) (a2 : c.m ≤ 6) (b1 : 0 ≤ c.f) (b2 : c.f ≤ 100) (hm : c.many = 3) :
    Calls Try.prog 56 #[.agg c.cells] w fun e w' => e = .returned (.bool c.okB) ∧ Below w.heap.size w w' := by
  show Calls Try.prog 56 #[.agg #[i64 c.s0, i64 c.k0, i64 c.s1, i64 c.k1, i64 c.s2, i64 c.k2, i64 c.s3, i64 c.k3, i64 c.m, i64 c.f]] w _
  have HA := hid (c.ok_iff)
  have HN := hid (c.okB_no)
  have HY := hid (c.okB_yes)
  rw [hm] at HA HN HY
  by_cases z : zeroB c 3 = true
  case neg =>
    have HE := hid (HN.out fun x => z x.2.2.2.1)
    have z' : zeroB c 3 = false := by simpa using z
    clear z HA HN HY
    go_enter Try.func56, Try.ntmps56
    go_wp2_with (first | (go_at_call 40; refine (bynumber_yes _ _ a1 a2).mono ?_; rintro e w' ⟨rfl, rfl⟩) | (go_at_call 41; refine (used_any c _).mono ?_; rintro e w' ⟨rfl, rfl⟩) | (go_at_call 65; refine (within_any _ _ _ _).mono ?_; rintro e w' ⟨rfl, rfl⟩) | (go_at_call 66; refine (allzero_3 c _ _ (box_old (box_new w c) _)).mono ?_; rintro e wz ⟨rfl, hbz⟩))
    go_ret
    exact ⟨ret_bool' HE.out.symm, below_after hbz⟩
  by_cases b : bdB c 3 = true
  case neg =>
    have HE := hid (HN.out fun x => b x.2.2.2.2.1)
    have b' : bdB c 3 = false := by simpa using b
    clear b HA HN HY
    go_enter Try.func56, Try.ntmps56
    go_wp2_with (first | (go_at_call 40; refine (bynumber_yes _ _ a1 a2).mono ?_; rintro e w' ⟨rfl, rfl⟩) | (go_at_call 41; refine (used_any c _).mono ?_; rintro e w' ⟨rfl, rfl⟩) | (go_at_call 65; refine (within_any _ _ _ _).mono ?_; rintro e w' ⟨rfl, rfl⟩) | (go_at_call 66; refine (allzero_3 c _ _ (box_old (box_new w c) _)).mono ?_; rintro e wz ⟨rfl, hbz⟩) | (go_at_call 67; refine (allbounded_any c 3 _ _ (by omega) ((box_two w c _).later hbz)).mono ?_; rintro e wb ⟨rfl, hbb⟩))
    go_ret
    exact ⟨ret_bool' HE.out.symm, (below_after hbz).trans (hbb.mono (below_after hbz).size)⟩
  have HBD := hid (bdB_all b)
  have HE := hid (show c.okB = ftB c 3 by
    by_cases f : ftB c 3 = true
    · rw [f]; exact HY.out ⟨⟨a1, a2⟩, ⟨b1, b2⟩, by omega, z, b, f⟩
    · rw [HN.out fun x => f x.2.2.2.2.2]; simpa using f)
  clear HA HN HY
  go_enter Try.func56, Try.ntmps56
  go_wp2_with (first | (go_at_call 40; refine (bynumber_yes _ _ a1 a2).mono ?_; rintro e w' ⟨rfl, rfl⟩) | (go_at_call 41; refine (used_any c _).mono ?_; rintro e w' ⟨rfl, rfl⟩) | (go_at_call 65; refine (within_any _ _ _ _).mono ?_; rintro e w' ⟨rfl, rfl⟩) | (go_at_call 66; refine (allzero_3 c _ _ (box_old (box_new w c) _)).mono ?_; rintro e wz ⟨rfl, hbz⟩) | (go_at_call 67; refine (allbounded_any c 3 _ _ (by omega) ((box_two w c _).later hbz)).mono ?_; rintro e wb ⟨rfl, hbb⟩) | (go_at_call 68; refine (allfit_any c 3 _ _ (by omega) (by omega) (((box_two w c _).later hbz).later hbb) HBD).mono ?_; rintro e wf ⟨rfl, hbf⟩))
  go_ret
  exact ⟨ret_bool' HE.out.symm, ((below_after hbz).trans (hbb.mono (below_after hbz).size)).trans (hbf.mono (Nat.le_trans (below_after hbz).size hbb.size))⟩

set_option maxHeartbeats 2000000 in
theorem good_4 (c : Cfg) (w : World) (a1 : 1 ≤ c.m) (a2 : c.m ≤ 6) (b1 : 0 ≤ c.f) (b2 : c.f ≤ 100) (hm : c.many = 4) :
    Calls Try.prog 56 #[.agg c.cells] w fun e w' => e = .returned (.bool c.okB) ∧ Below w.heap.size w w' := by
  show Calls Try.prog 56 #[.agg #[i64 c.s0, i64 c.k0, i64 c.s1, i64 c.k1, i64 c.s2, i64 c.k2, i64 c.s3, i64 c.k3, i64 c.m, i64 c.f]] w _
  have HA := hid (c.ok_iff)
  have HN := hid (c.okB_no)
  have HY := hid (c.okB_yes)
  rw [hm] at HA HN HY
  by_cases z : zeroB c 4 = true
  case neg =>
    have HE := hid (HN.out fun x => z x.2.2.2.1)
    have z' : zeroB c 4 = false := by simpa using z
    clear z HA HN HY
    go_enter Try.func56, Try.ntmps56
    go_wp2_with (first | (go_at_call 40; refine (bynumber_yes _ _ a1 a2).mono ?_; rintro e w' ⟨rfl, rfl⟩) | (go_at_call 41; refine (used_any c _).mono ?_; rintro e w' ⟨rfl, rfl⟩) | (go_at_call 65; refine (within_any _ _ _ _).mono ?_; rintro e w' ⟨rfl, rfl⟩) | (go_at_call 66; refine (allzero_4 c _ _).mono ?_; rintro e wz ⟨rfl, hbz⟩))
    go_ret
    exact ⟨ret_bool' HE.out.symm, below_after hbz⟩
  by_cases b : bdB c 4 = true
  case neg =>
    have HE := hid (HN.out fun x => b x.2.2.2.2.1)
    have b' : bdB c 4 = false := by simpa using b
    clear b HA HN HY
    go_enter Try.func56, Try.ntmps56
    go_wp2_with (first | (go_at_call 40; refine (bynumber_yes _ _ a1 a2).mono ?_; rintro e w' ⟨rfl, rfl⟩) | (go_at_call 41; refine (used_any c _).mono ?_; rintro e w' ⟨rfl, rfl⟩) | (go_at_call 65; refine (within_any _ _ _ _).mono ?_; rintro e w' ⟨rfl, rfl⟩) | (go_at_call 66; refine (allzero_4 c _ _).mono ?_; rintro e wz ⟨rfl, hbz⟩) | (go_at_call 67; refine (allbounded_any c 4 _ _ (by omega) ((box_two w c _).later hbz)).mono ?_; rintro e wb ⟨rfl, hbb⟩))
    go_ret
    exact ⟨ret_bool' HE.out.symm, (below_after hbz).trans (hbb.mono (below_after hbz).size)⟩
  have HBD := hid (bdB_all b)
  have HE := hid (show c.okB = ftB c 4 by
    by_cases f : ftB c 4 = true
    · rw [f]; exact HY.out ⟨⟨a1, a2⟩, ⟨b1, b2⟩, by omega, z, b, f⟩
    · rw [HN.out fun x => f x.2.2.2.2.2]; simpa using f)
  clear HA HN HY
  go_enter Try.func56, Try.ntmps56
  go_wp2_with (first | (go_at_call 40; refine (bynumber_yes _ _ a1 a2).mono ?_; rintro e w' ⟨rfl, rfl⟩) | (go_at_call 41; refine (used_any c _).mono ?_; rintro e w' ⟨rfl, rfl⟩) | (go_at_call 65; refine (within_any _ _ _ _).mono ?_; rintro e w' ⟨rfl, rfl⟩) | (go_at_call 66; refine (allzero_4 c _ _).mono ?_; rintro e wz ⟨rfl, hbz⟩) | (go_at_call 67; refine (allbounded_any c 4 _ _ (by omega) ((box_two w c _).later hbz)).mono ?_; rintro e wb ⟨rfl, hbb⟩) | (go_at_call 68; refine (allfit_any c 4 _ _ (by omega) (by omega) (((box_two w c _).later hbz).later hbb) HBD).mono ?_; rintro e wf ⟨rfl, hbf⟩))
  go_ret
  exact ⟨ret_bool' HE.out.symm, ((below_after hbz).trans (hbb.mono (below_after hbz).size)).trans (hbf.mono (Nat.le_trans (below_after hbz).size hbb.size))⟩

theorem good_any (c : Cfg) (w : World) :
    Calls Try.prog 56 #[.agg c.cells] w fun e w' => e = .returned (.bool c.okB) ∧ Below w.heap.size w w' := by
  by_cases h : (1 ≤ c.m ∧ c.m ≤ 6) ∧ (0 ≤ c.f ∧ c.f ≤ 100) ∧ 1 ≤ c.many
  · obtain ⟨⟨a1, a2⟩, ⟨b1, b2⟩, h1⟩ := h
    have h4 := c.many_le
    have h5 : c.many = 1 ∨ c.many = 2 ∨ c.many = 3 ∨ c.many = 4 := by omega
    rcases h5 with e | e | e | e
    · exact good_1 c w a1 a2 b1 b2 e
    · exact good_2 c w a1 a2 b1 b2 e
    · exact good_3 c w a1 a2 b1 b2 e
    · exact good_4 c w a1 a2 b1 b2 e
  · exact good_short c w h

set_option maxHeartbeats 1000000 in
theorem pcheck_any (c : Cfg) (w : World) :
    Calls Try.prog 39 #[.agg c.cells] w fun e w' => e = .returned (i64 c.err) ∧ Below w.heap.size w w' := by
  show Calls Try.prog 39 #[.agg #[i64 c.s0, i64 c.k0, i64 c.s1, i64 c.k1, i64 c.s2, i64 c.k2, i64 c.s3, i64 c.k3, i64 c.m, i64 c.f]] w _
  by_cases h : c.Ok
  · have HE := hid (c.err_ok h)
    have h' : c.okB = true := decide_eq_true h
    clear h
    go_enter Try.func39, Try.ntmps39
    go_wp2_with (go_at_call 56; refine (good_any c _).mono ?_; rintro e w' ⟨rfl, hb⟩)
    go_ret
    exact ⟨ret_int HE.out.symm, below_one hb⟩
  · have HE := hid (c.err_no h)
    have h' : c.okB = false := decide_eq_false h
    clear h
    go_enter Try.func39, Try.ntmps39
    go_wp2_with (go_at_call 56; refine (good_any c _).mono ?_; rintro e w' ⟨rfl, hb⟩)
    go_ret
    exact ⟨ret_int HE.out.symm, below_one hb⟩
end Go.Proofs.Ythbbfjfekchdiaa
