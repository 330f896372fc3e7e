import Derived.Test.YthbbfjfekchdiaaGreatXLeafWalks
import Derived.Deep.QuietTactic
import Derived.BigQuiet
namespace Go.Proofs.YthbbfjfekchdiaaGreat
def distI (x : Int) : Int := max x (-x)
def cutI (x : Int) : Int := max (-1000000000) (min 1000000000 x)
def outStep (m out v : Int) : Int :=
  if m = 3 then v else if m = 4 then max out v else if m = 5 then min out v
  else if m = 6 then (if distI out < distI v ∨ (distI v = distI out ∧ out < v) then v else out) else out
def outTo (m : Int) (l : List Int) (k : Nat) : Int := (l.take k).foldl (outStep m) (l.headD 0)
def sumTo (l : List Int) (k : Nat) : Int := (l.take k).sum
def VIn (v : Int) : Prop := -1000000000 ≤ v ∧ v ≤ 1000000000
def makesI (m : Int) (l : List Int) : Int :=
  if m = 1 then sumTo l l.length / (l.length : Int) else if m = 2 then cutI (sumTo l l.length) else outTo m l l.length
theorem sumTo_zero (l : List Int) : sumTo l 0 = 0 := by simp [sumTo]
theorem outTo_zero (m : Int) (l : List Int) : outTo m l 0 = l.headD 0 := by simp [outTo]
theorem sumTo_succ {l : List Int} {k : Nat} {v : Int} (h : l[k]? = some v) : sumTo l (k + 1) = sumTo l k + v := by
  unfold sumTo
  rw [List.take_add_one, h]
  simp
theorem outTo_succ {m : Int} {l : List Int} {k : Nat} {v : Int} (h : l[k]? = some v) : outTo m l (k + 1) = outStep m (outTo m l k) v := by
  unfold outTo
  rw [List.take_add_one, h]
  simp
theorem outStep_in {m a v : Int} (ha : VIn a) (hv : VIn v) : VIn (outStep m a v) := by
  unfold outStep VIn at *
  repeat' split
  all_goals omega
theorem sumTo_in {l : List Int} (h : ∀ v ∈ l, VIn v) : ∀ k, k ≤ l.length → -(1000000000 * (k : Int)) ≤ sumTo l k ∧ sumTo l k ≤ 1000000000 * (k : Int) := by
  intro k
  induction k with
  | zero => intro _; rw [sumTo_zero]; omega
  | succ k ih =>
    intro hk
    obtain ⟨v, hv⟩ : ∃ v, l[k]? = some v := ⟨_, List.getElem?_eq_getElem (by omega)⟩
    have := ih (by omega)
    have hin := h v (List.mem_iff_getElem?.2 ⟨k, hv⟩)
    unfold VIn at hin
    rw [sumTo_succ hv]
    omega
theorem outTo_in {m : Int} {l : List Int} (h : ∀ v ∈ l, VIn v) (hl : l ≠ []) : ∀ k, k ≤ l.length → VIn (outTo m l k) := by
  intro k
  induction k with
  | zero =>
    intro _
    rw [outTo_zero]
    cases l with
    | nil => exact absurd rfl hl
    | cons a l => exact h a (by simp)
  | succ k ih =>
    intro hk
    obtain ⟨v, hv⟩ : ∃ v, l[k]? = some v := ⟨_, List.getElem?_eq_getElem (by omega)⟩
    rw [outTo_succ hv]
    exact outStep_in (ih (by omega)) (h v (List.mem_iff_getElem?.2 ⟨k, hv⟩))
theorem floor_down {a n : Int} (hn : 0 < n) : (if a.tdiv n * n > a then a.tdiv n - 1 else a.tdiv n) = a / n := by
  by_cases h : 0 ≤ a
  · rw [Int.tdiv_eq_ediv_of_nonneg h]
    have h1 := Int.ediv_mul_le a (show n ≠ 0 by omega)
    rw [if_neg (by omega)]
  · have hb : 0 ≤ -a := by omega
    have e : a.tdiv n = -((-a) / n) := by
      rw [← Int.tdiv_eq_ediv_of_nonneg hb, Int.neg_tdiv, Int.neg_neg]
    obtain ⟨q, hq⟩ : ∃ q, q = (-a) / n := ⟨_, rfl⟩
    have h1 : q * n ≤ -a := by rw [hq]; exact Int.ediv_mul_le _ (by omega)
    have h2 : -a < (q + 1) * n := by rw [hq]; exact Int.lt_ediv_add_one_mul_self _ hn
    rw [e, ← hq]
    have h3 : (q + 1) * n = q * n + n := by rw [Int.add_mul, Int.one_mul]
    have h4 : -q * n = -(q * n) := Int.neg_mul _ _
    by_cases x : -q * n > a
    · rw [if_pos x]
      refine ((Int.ediv_eq_iff_of_pos hn).2 ⟨?_, ?_⟩).symm
      · rw [Int.sub_mul, Int.one_mul, h4]; omega
      · rw [Int.sub_mul, Int.one_mul, h4]; omega
    · rw [if_neg x]
      refine ((Int.ediv_eq_iff_of_pos hn).2 ⟨?_, ?_⟩).symm
      · rw [h4]; omega
      · rw [h4]; omega
theorem tdiv_bd {a n : Int} (hn : 0 < n) (h1 : -1000000000000 ≤ a) (h2 : a ≤ 1000000000000) : (-1000000000000 ≤ a.tdiv n ∧ a.tdiv n ≤ 1000000000000) ∧ (-1000000000000 ≤ a.tdiv n * n ∧ a.tdiv n * n ≤ 1000000000000) := by
  by_cases h : 0 ≤ a
  · rw [Int.tdiv_eq_ediv_of_nonneg h]
    have q0 : 0 ≤ a / n := Int.ediv_nonneg h (by omega)
    have q1 := Int.ediv_mul_le a (show n ≠ 0 by omega)
    have q2 : a / n ≤ a / n * n := by
      have := Int.mul_le_mul_of_nonneg_left (show (1 : Int) ≤ n by omega) q0
      omega
    omega
  · have hb : 0 ≤ -a := by omega
    have e : a.tdiv n = -((-a) / n) := by
      rw [← Int.tdiv_eq_ediv_of_nonneg hb, Int.neg_tdiv, Int.neg_neg]
    have q0 : 0 ≤ (-a) / n := Int.ediv_nonneg hb (by omega)
    have q1 := Int.ediv_mul_le (-a) (show n ≠ 0 by omega)
    have q2 : (-a) / n ≤ (-a) / n * n := by
      have := Int.mul_le_mul_of_nonneg_left (show (1 : Int) ≤ n by omega) q0
      omega
    rw [e, Int.neg_mul]
    omega
end Go.Proofs.YthbbfjfekchdiaaGreat
namespace Go.Proofs.YthbbfjfekchdiaaGreat
open Go.RowKit
set_option linter.unusedSimpArgs false
set_option maxHeartbeats 400000 in
theorem dist_any (x : Int) (w : World) (h : VIn x) : Calls Tryz.prog 118 #[i64 x] w fun e w' => e = .returned (i64 (distI x)) ∧ w' = w := by
  unfold VIn at h
  obtain ⟨h1, h2⟩ := h
  go_enter Tryz.func118, Tryz.ntmps118
  go_wp2
  all_goals go_ret
  all_goals exact ⟨ret_int (by unfold distI; omega), rfl⟩
set_option maxHeartbeats 400000 in
theorem cut_any (x : Int) (w : World) : Calls Tryz.prog 119 #[i64 x] w fun e w' => e = .returned (i64 (cutI x)) ∧ w' = w := by
  by_cases h1 : x < 1000000000
  · by_cases h2 : -1000000000 < x
    · go_enter Tryz.func119, Tryz.ntmps119
      go_wp2
      all_goals go_ret
      all_goals exact ⟨ret_int (by unfold cutI; omega), rfl⟩
    · go_enter Tryz.func119, Tryz.ntmps119
      go_wp2
      all_goals go_ret
      all_goals exact ⟨ret_int (by unfold cutI; omega), rfl⟩
  · go_enter Tryz.func119, Tryz.ntmps119
    go_wp2
    all_goals go_ret
    all_goals exact ⟨ret_int (by unfold cutI; omega), rfl⟩
set_option maxHeartbeats 1000000 in
theorem makes_1 (b n cap : Nat) (l : List Int) (w : World) (hn : l.length = n) (h1 : 1 ≤ n) (h60 : n ≤ 1000) (hv : ∀ v ∈ l, VIn v) (hc : ∀ (j : Nat) (v : Int), l[j]? = some v → w.cell? ⟨b, j, none⟩ = some (i64 v)) :
    Calls Tryz.prog 106 #[i64 1, .slice (some ⟨b, 0, none⟩) n cap] w fun e w' => e = .returned (i64 (makesI 1 l)) ∧ w' = w := by
  have HV := hid hv
  have HC := hid hc
  have HL := hid hn
  obtain ⟨v0, hv0⟩ : ∃ v0, l[0]? = some v0 := ⟨_, List.getElem?_eq_getElem (by omega)⟩
  have c0 : w.cell? ⟨b, 0, none⟩ = some (i64 v0) := hc 0 v0 hv0
  have HH := hid (show outTo 1 l 0 = v0 by rw [outTo_zero]; cases l with | nil => simp at hv0 | cons a l => simpa using hv0)
  have HNE := hid (show l ≠ [] from fun e => by subst e; simp at hv0)
  have hN : (0 : Int) < (n : Int) := by omega
  have hN' : 0 < n := by omega
  clear hv hc hn hv0
  go_enter Tryz.func106, Tryz.ntmps106
  go_wp2
  go_loop [5, 6, 7] (fun s o i => ∃ (k : Nat) (sv ov : Int), k ≤ n ∧ i = i64 k ∧ s = i64 sv ∧ o = i64 ov ∧ Hid (sv = sumTo l k) ∧ Hid (ov = outTo 1 l k)) (fun _ _ i => n - (intOf i).toNat)
  case atStart => exact ⟨0, 0, v0, by omega, rfl, rfl, rfl, (sumTo_zero l).symm, HH.out.symm⟩
  case round =>
    obtain ⟨k, sv, ov, hk, rfl, rfl, rfl, HS, HO⟩ := hrel
    have hs0 := sumTo_in HV.out k (by rw [HL.out]; omega)
    rw [← HS.out] at hs0
    obtain ⟨s1, s2⟩ := hs0
    have ho0 : VIn ov := by rw [HO.out]; exact outTo_in HV.out HNE.out k (by rw [HL.out]; omega)
    by_cases hlt : k < n
    case neg =>
      have e : k = l.length := by rw [HL.out]; omega
      have HF := hid (floor_down (a := sv) (n := (n : Int)) hN)
      have HM := hid (show makesI 1 l = sv / (n : Int) by unfold makesI; rw [if_pos rfl, ← e, ← HS.out, e, HL.out])
      have HB := hid (tdiv_bd (a := sv) hN (by omega) (by omega))
      clear e
      go_wp2
      · go_ret
        refine ⟨ret_int ?_, rfl⟩
        have hb := HB.out
        have ha : sv < wrap64 (sv.tdiv (n : Int) * (n : Int)) := by assumption
        rw [IntWalk.wrap64_in _ (by omega)] at ha
        rw [HM.out, ← HF.out, if_pos (by omega)]
        exact IntWalk.wrap64_in _ (by omega)
      · go_ret
        refine ⟨ret_int ?_, rfl⟩
        have hb := HB.out
        have ha : wrap64 (sv.tdiv (n : Int) * (n : Int)) ≤ sv := by assumption
        rw [IntWalk.wrap64_in _ (by omega)] at ha
        rw [HM.out, ← HF.out, if_neg (by omega)]
    obtain ⟨v, hv⟩ : ∃ v, l[k]? = some v := ⟨_, List.getElem?_eq_getElem (by rw [HL.out]; omega)⟩
    have ck : w.cell? ⟨b, k, none⟩ = some (i64 v) := HC.out k v hv
    have hvin : VIn v := HV.out v (List.mem_iff_getElem?.2 ⟨k, hv⟩)
    have HS1 := hid (show sv + v = sumTo l (k + 1) by rw [sumTo_succ hv, HS.out])
    have HO1 := hid (show outStep 1 ov v = outTo 1 l (k + 1) by rw [outTo_succ hv, HO.out])
    obtain ⟨v1, v2⟩ : -1000000000 ≤ v ∧ v ≤ 1000000000 := hvin
    have k0 : (0 : Int) ≤ (k : Int) := by omega
    have k1 : (k : Int) < (n : Int) := by omega
    clear hv HS HO
    go_wp2
    go_round
    case rel => exact ⟨k + 1, sv + v, ov, by omega, by go_num, rfl, rfl, HS1.out, by show ov = outTo 1 l (k + 1); rw [← HO1.out]; rfl⟩
    case measure => simp [intOf]; omega
set_option maxHeartbeats 1000000 in
theorem makes_2 (b n cap : Nat) (l : List Int) (w : World) (hn : l.length = n) (h1 : 1 ≤ n) (h60 : n ≤ 1000) (hv : ∀ v ∈ l, VIn v) (hc : ∀ (j : Nat) (v : Int), l[j]? = some v → w.cell? ⟨b, j, none⟩ = some (i64 v)) :
    Calls Tryz.prog 106 #[i64 2, .slice (some ⟨b, 0, none⟩) n cap] w fun e w' => e = .returned (i64 (makesI 2 l)) ∧ w' = w := by
  have HV := hid hv
  have HC := hid hc
  have HL := hid hn
  obtain ⟨v0, hv0⟩ : ∃ v0, l[0]? = some v0 := ⟨_, List.getElem?_eq_getElem (by omega)⟩
  have c0 : w.cell? ⟨b, 0, none⟩ = some (i64 v0) := hc 0 v0 hv0
  have HH := hid (show outTo 2 l 0 = v0 by rw [outTo_zero]; cases l with | nil => simp at hv0 | cons a l => simpa using hv0)
  have HNE := hid (show l ≠ [] from fun e => by subst e; simp at hv0)
  have hN : (0 : Int) < (n : Int) := by omega
  have hN' : 0 < n := by omega
  clear hv hc hn hv0
  go_enter Tryz.func106, Tryz.ntmps106
  go_wp2
  go_loop [5, 6, 7] (fun s o i => ∃ (k : Nat) (sv ov : Int), k ≤ n ∧ i = i64 k ∧ s = i64 sv ∧ o = i64 ov ∧ Hid (sv = sumTo l k) ∧ Hid (ov = outTo 2 l k)) (fun _ _ i => n - (intOf i).toNat)
  case atStart => exact ⟨0, 0, v0, by omega, rfl, rfl, rfl, (sumTo_zero l).symm, HH.out.symm⟩
  case round =>
    obtain ⟨k, sv, ov, hk, rfl, rfl, rfl, HS, HO⟩ := hrel
    have hs0 := sumTo_in HV.out k (by rw [HL.out]; omega)
    rw [← HS.out] at hs0
    obtain ⟨s1, s2⟩ := hs0
    have ho0 : VIn ov := by rw [HO.out]; exact outTo_in HV.out HNE.out k (by rw [HL.out]; omega)
    by_cases hlt : k < n
    case neg =>
      have e : k = l.length := by rw [HL.out]; omega
      have HM := hid (show makesI 2 l = cutI sv by unfold makesI; rw [if_neg (by decide), if_pos rfl, ← e, ← HS.out])
      clear e
      go_wp2_with (go_at_call 119; refine (cut_any _ _).mono ?_; rintro e w' ⟨rfl, rfl⟩)
      go_ret
      exact ⟨ret_int HM.out.symm, rfl⟩
    obtain ⟨v, hv⟩ : ∃ v, l[k]? = some v := ⟨_, List.getElem?_eq_getElem (by rw [HL.out]; omega)⟩
    have ck : w.cell? ⟨b, k, none⟩ = some (i64 v) := HC.out k v hv
    have hvin : VIn v := HV.out v (List.mem_iff_getElem?.2 ⟨k, hv⟩)
    have HS1 := hid (show sv + v = sumTo l (k + 1) by rw [sumTo_succ hv, HS.out])
    have HO1 := hid (show outStep 2 ov v = outTo 2 l (k + 1) by rw [outTo_succ hv, HO.out])
    obtain ⟨v1, v2⟩ : -1000000000 ≤ v ∧ v ≤ 1000000000 := hvin
    have k0 : (0 : Int) ≤ (k : Int) := by omega
    have k1 : (k : Int) < (n : Int) := by omega
    clear hv HS HO
    go_wp2
    go_round
    case rel => exact ⟨k + 1, sv + v, ov, by omega, by go_num, rfl, rfl, HS1.out, by show ov = outTo 2 l (k + 1); rw [← HO1.out]; rfl⟩
    case measure => simp [intOf]; omega
set_option maxHeartbeats 1000000 in
theorem makes_3 (b n cap : Nat) (l : List Int) (w : World) (hn : l.length = n) (h1 : 1 ≤ n) (h60 : n ≤ 1000) (hv : ∀ v ∈ l, VIn v) (hc : ∀ (j : Nat) (v : Int), l[j]? = some v → w.cell? ⟨b, j, none⟩ = some (i64 v)) :
    Calls Tryz.prog 106 #[i64 3, .slice (some ⟨b, 0, none⟩) n cap] w fun e w' => e = .returned (i64 (makesI 3 l)) ∧ w' = w := by
  have HV := hid hv
  have HC := hid hc
  have HL := hid hn
  obtain ⟨v0, hv0⟩ : ∃ v0, l[0]? = some v0 := ⟨_, List.getElem?_eq_getElem (by omega)⟩
  have c0 : w.cell? ⟨b, 0, none⟩ = some (i64 v0) := hc 0 v0 hv0
  have HH := hid (show outTo 3 l 0 = v0 by rw [outTo_zero]; cases l with | nil => simp at hv0 | cons a l => simpa using hv0)
  have HNE := hid (show l ≠ [] from fun e => by subst e; simp at hv0)
  have hN : (0 : Int) < (n : Int) := by omega
  have hN' : 0 < n := by omega
  clear hv hc hn hv0
  go_enter Tryz.func106, Tryz.ntmps106
  go_wp2
  go_loop [5, 6, 7] (fun s o i => ∃ (k : Nat) (sv ov : Int), k ≤ n ∧ i = i64 k ∧ s = i64 sv ∧ o = i64 ov ∧ Hid (sv = sumTo l k) ∧ Hid (ov = outTo 3 l k)) (fun _ _ i => n - (intOf i).toNat)
  case atStart => exact ⟨0, 0, v0, by omega, rfl, rfl, rfl, (sumTo_zero l).symm, HH.out.symm⟩
  case round =>
    obtain ⟨k, sv, ov, hk, rfl, rfl, rfl, HS, HO⟩ := hrel
    have hs0 := sumTo_in HV.out k (by rw [HL.out]; omega)
    rw [← HS.out] at hs0
    obtain ⟨s1, s2⟩ := hs0
    have ho0 : VIn ov := by rw [HO.out]; exact outTo_in HV.out HNE.out k (by rw [HL.out]; omega)
    by_cases hlt : k < n
    case neg =>
      have e : k = l.length := by rw [HL.out]; omega
      have HM := hid (show makesI 3 l = ov by unfold makesI; rw [if_neg (by decide), if_neg (by decide), ← e, ← HO.out])
      clear e
      go_wp2
      go_ret
      exact ⟨ret_int HM.out.symm, rfl⟩
    obtain ⟨v, hv⟩ : ∃ v, l[k]? = some v := ⟨_, List.getElem?_eq_getElem (by rw [HL.out]; omega)⟩
    have ck : w.cell? ⟨b, k, none⟩ = some (i64 v) := HC.out k v hv
    have hvin : VIn v := HV.out v (List.mem_iff_getElem?.2 ⟨k, hv⟩)
    have HS1 := hid (show sv + v = sumTo l (k + 1) by rw [sumTo_succ hv, HS.out])
    have HO1 := hid (show outStep 3 ov v = outTo 3 l (k + 1) by rw [outTo_succ hv, HO.out])
    obtain ⟨v1, v2⟩ : -1000000000 ≤ v ∧ v ≤ 1000000000 := hvin
    have k0 : (0 : Int) ≤ (k : Int) := by omega
    have k1 : (k : Int) < (n : Int) := by omega
    clear hv HS HO
    go_wp2
    go_round
    case rel => exact ⟨k + 1, sv + v, v, by omega, by go_num, rfl, rfl, HS1.out, by show v = outTo 3 l (k + 1); rw [← HO1.out]; rfl⟩
    case measure => simp [intOf]; omega
set_option maxHeartbeats 1000000 in
theorem makes_4 (b n cap : Nat) (l : List Int) (w : World) (hn : l.length = n) (h1 : 1 ≤ n) (h60 : n ≤ 1000) (hv : ∀ v ∈ l, VIn v) (hc : ∀ (j : Nat) (v : Int), l[j]? = some v → w.cell? ⟨b, j, none⟩ = some (i64 v)) :
    Calls Tryz.prog 106 #[i64 4, .slice (some ⟨b, 0, none⟩) n cap] w fun e w' => e = .returned (i64 (makesI 4 l)) ∧ w' = w := by
  have HV := hid hv
  have HC := hid hc
  have HL := hid hn
  obtain ⟨v0, hv0⟩ : ∃ v0, l[0]? = some v0 := ⟨_, List.getElem?_eq_getElem (by omega)⟩
  have c0 : w.cell? ⟨b, 0, none⟩ = some (i64 v0) := hc 0 v0 hv0
  have HH := hid (show outTo 4 l 0 = v0 by rw [outTo_zero]; cases l with | nil => simp at hv0 | cons a l => simpa using hv0)
  have HNE := hid (show l ≠ [] from fun e => by subst e; simp at hv0)
  have hN : (0 : Int) < (n : Int) := by omega
  have hN' : 0 < n := by omega
  clear hv hc hn hv0
  go_enter Tryz.func106, Tryz.ntmps106
  go_wp2
  go_loop [5, 6, 7] (fun s o i => ∃ (k : Nat) (sv ov : Int), k ≤ n ∧ i = i64 k ∧ s = i64 sv ∧ o = i64 ov ∧ Hid (sv = sumTo l k) ∧ Hid (ov = outTo 4 l k)) (fun _ _ i => n - (intOf i).toNat)
  case atStart => exact ⟨0, 0, v0, by omega, rfl, rfl, rfl, (sumTo_zero l).symm, HH.out.symm⟩
  case round =>
    obtain ⟨k, sv, ov, hk, rfl, rfl, rfl, HS, HO⟩ := hrel
    have hs0 := sumTo_in HV.out k (by rw [HL.out]; omega)
    rw [← HS.out] at hs0
    obtain ⟨s1, s2⟩ := hs0
    have ho0 : VIn ov := by rw [HO.out]; exact outTo_in HV.out HNE.out k (by rw [HL.out]; omega)
    by_cases hlt : k < n
    case neg =>
      have e : k = l.length := by rw [HL.out]; omega
      have HM := hid (show makesI 4 l = ov by unfold makesI; rw [if_neg (by decide), if_neg (by decide), ← e, ← HO.out])
      clear e
      go_wp2
      go_ret
      exact ⟨ret_int HM.out.symm, rfl⟩
    obtain ⟨v, hv⟩ : ∃ v, l[k]? = some v := ⟨_, List.getElem?_eq_getElem (by rw [HL.out]; omega)⟩
    have ck : w.cell? ⟨b, k, none⟩ = some (i64 v) := HC.out k v hv
    have hvin : VIn v := HV.out v (List.mem_iff_getElem?.2 ⟨k, hv⟩)
    have HS1 := hid (show sv + v = sumTo l (k + 1) by rw [sumTo_succ hv, HS.out])
    have HO1 := hid (show outStep 4 ov v = outTo 4 l (k + 1) by rw [outTo_succ hv, HO.out])
    obtain ⟨v1, v2⟩ : -1000000000 ≤ v ∧ v ≤ 1000000000 := hvin
    have k0 : (0 : Int) ≤ (k : Int) := by omega
    have k1 : (k : Int) < (n : Int) := by omega
    clear hv HS HO
    have HP := hid (show outStep 4 ov v = max ov v from rfl)
    go_wp2
    all_goals
      go_round
      case rel => exact ⟨k + 1, sv + v, _, by omega, by go_num, rfl, rfl, HS1.out, by show _ = outTo 4 l (k + 1); rw [← HO1.out, HP.out]; omega⟩
      case measure => simp [intOf]; omega
set_option maxHeartbeats 1000000 in
theorem makes_5 (b n cap : Nat) (l : List Int) (w : World) (hn : l.length = n) (h1 : 1 ≤ n) (h60 : n ≤ 1000) (hv : ∀ v ∈ l, VIn v) (hc : ∀ (j : Nat) (v : Int), l[j]? = some v → w.cell? ⟨b, j, none⟩ = some (i64 v)) :
    Calls Tryz.prog 106 #[i64 5, .slice (some ⟨b, 0, none⟩) n cap] w fun e w' => e = .returned (i64 (makesI 5 l)) ∧ w' = w := by
  have HV := hid hv
  have HC := hid hc
  have HL := hid hn
  obtain ⟨v0, hv0⟩ : ∃ v0, l[0]? = some v0 := ⟨_, List.getElem?_eq_getElem (by omega)⟩
  have c0 : w.cell? ⟨b, 0, none⟩ = some (i64 v0) := hc 0 v0 hv0
  have HH := hid (show outTo 5 l 0 = v0 by rw [outTo_zero]; cases l with | nil => simp at hv0 | cons a l => simpa using hv0)
  have HNE := hid (show l ≠ [] from fun e => by subst e; simp at hv0)
  have hN : (0 : Int) < (n : Int) := by omega
  have hN' : 0 < n := by omega
  clear hv hc hn hv0
  go_enter Tryz.func106, Tryz.ntmps106
  go_wp2
  go_loop [5, 6, 7] (fun s o i => ∃ (k : Nat) (sv ov : Int), k ≤ n ∧ i = i64 k ∧ s = i64 sv ∧ o = i64 ov ∧ Hid (sv = sumTo l k) ∧ Hid (ov = outTo 5 l k)) (fun _ _ i => n - (intOf i).toNat)
  case atStart => exact ⟨0, 0, v0, by omega, rfl, rfl, rfl, (sumTo_zero l).symm, HH.out.symm⟩
  case round =>
    obtain ⟨k, sv, ov, hk, rfl, rfl, rfl, HS, HO⟩ := hrel
    have hs0 := sumTo_in HV.out k (by rw [HL.out]; omega)
    rw [← HS.out] at hs0
    obtain ⟨s1, s2⟩ := hs0
    have ho0 : VIn ov := by rw [HO.out]; exact outTo_in HV.out HNE.out k (by rw [HL.out]; omega)
    by_cases hlt : k < n
    case neg =>
      have e : k = l.length := by rw [HL.out]; omega
      have HM := hid (show makesI 5 l = ov by unfold makesI; rw [if_neg (by decide), if_neg (by decide), ← e, ← HO.out])
      clear e
      go_wp2
      go_ret
      exact ⟨ret_int HM.out.symm, rfl⟩
    obtain ⟨v, hv⟩ : ∃ v, l[k]? = some v := ⟨_, List.getElem?_eq_getElem (by rw [HL.out]; omega)⟩
    have ck : w.cell? ⟨b, k, none⟩ = some (i64 v) := HC.out k v hv
    have hvin : VIn v := HV.out v (List.mem_iff_getElem?.2 ⟨k, hv⟩)
    have HS1 := hid (show sv + v = sumTo l (k + 1) by rw [sumTo_succ hv, HS.out])
    have HO1 := hid (show outStep 5 ov v = outTo 5 l (k + 1) by rw [outTo_succ hv, HO.out])
    obtain ⟨v1, v2⟩ : -1000000000 ≤ v ∧ v ≤ 1000000000 := hvin
    have k0 : (0 : Int) ≤ (k : Int) := by omega
    have k1 : (k : Int) < (n : Int) := by omega
    clear hv HS HO
    have HP := hid (show outStep 5 ov v = min ov v from rfl)
    go_wp2
    all_goals
      go_round
      case rel => exact ⟨k + 1, sv + v, _, by omega, by go_num, rfl, rfl, HS1.out, by show _ = outTo 5 l (k + 1); rw [← HO1.out, HP.out]; omega⟩
      case measure => simp [intOf]; omega
end Go.Proofs.YthbbfjfekchdiaaGreat
