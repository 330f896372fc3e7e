import Derived.Test.YthbbfjfekchdiaaGreatXRMakes
import Derived.Deep.RegionWith
namespace Go.Proofs.YthbbfjfekchdiaaGreat
open Go.RowKit
set_option linter.unusedSimpArgs false
set_option maxHeartbeats 1000000 in
theorem makes_6 (b n cap : Nat) (l : List Int) (w : World) (hn : l.length = n) (h1 : 1 ≤ n) (h60 : n ≤ 1000) (hv : ∀ v ∈ l, VIn v) (hc : ∀ (j : Nat) (v : Int), l[j]? = some v → w.cell? ⟨b, j, none⟩ = some (i64 v)) :
    Calls Tryz.prog 106 #[i64 6, .slice (some ⟨b, 0, none⟩) n cap] w fun e w' => e = .returned (i64 (makesI 6 l)) ∧ w' = w := by
  have HV := hid hv
  have HC := hid hc
  have HL := hid hn
  obtain ⟨v0, hv0⟩ : ∃ v0, l[0]? = some v0 := ⟨_, List.getElem?_eq_getElem (by omega)⟩
  have c0 : w.cell? ⟨b, 0, none⟩ = some (i64 v0) := hc 0 v0 hv0
  have HH := hid (show outTo 6 l 0 = v0 by rw [outTo_zero]; cases l with | nil => simp at hv0 | cons a l => simpa using hv0)
  have HNE := hid (show l ≠ [] from fun e => by subst e; simp at hv0)
  have hN : (0 : Int) < (n : Int) := by omega
  have hN' : 0 < n := by omega
  clear hv hc hn hv0
  go_enter Tryz.func106, Tryz.ntmps106
  go_wp2
  go_loop [5, 6, 7] (fun s o i => ∃ (k : Nat) (sv ov : Int), k ≤ n ∧ i = i64 k ∧ s = i64 sv ∧ o = i64 ov ∧ Hid (sv = sumTo l k) ∧ Hid (ov = outTo 6 l k)) (fun _ _ i => n - (intOf i).toNat)
  case atStart => exact ⟨0, 0, v0, by omega, rfl, rfl, rfl, (sumTo_zero l).symm, HH.out.symm⟩
  case round =>
    obtain ⟨k, sv, ov, hk, rfl, rfl, rfl, HS, HO⟩ := hrel
    have hs0 := sumTo_in HV.out k (by rw [HL.out]; omega)
    rw [← HS.out] at hs0
    obtain ⟨s1, s2⟩ := hs0
    have ho0 : VIn ov := by rw [HO.out]; exact outTo_in HV.out HNE.out k (by rw [HL.out]; omega)
    by_cases hlt : k < n
    case neg =>
      have e : k = l.length := by rw [HL.out]; omega
      have HM := hid (show makesI 6 l = ov by unfold makesI; rw [if_neg (by decide), if_neg (by decide), ← e, ← HO.out])
      clear e
      go_wp2
      go_ret
      exact ⟨ret_int HM.out.symm, rfl⟩
    obtain ⟨v, hv⟩ : ∃ v, l[k]? = some v := ⟨_, List.getElem?_eq_getElem (by rw [HL.out]; omega)⟩
    have ck : w.cell? ⟨b, k, none⟩ = some (i64 v) := HC.out k v hv
    have hvin : VIn v := HV.out v (List.mem_iff_getElem?.2 ⟨k, hv⟩)
    have HS1 := hid (show sv + v = sumTo l (k + 1) by rw [sumTo_succ hv, HS.out])
    have HO1 := hid (show outStep 6 ov v = outTo 6 l (k + 1) by rw [outTo_succ hv, HO.out])
    obtain ⟨v1, v2⟩ : -1000000000 ≤ v ∧ v ≤ 1000000000 := hvin
    have k0 : (0 : Int) ≤ (k : Int) := by omega
    have k1 : (k : Int) < (n : Int) := by omega
    clear hv HS HO
    have HP := hid (show outStep 6 ov v = if distI ov < distI v ∨ (distI v = distI ov ∧ ov < v) then v else ov from rfl)
    have hvin : VIn v := ⟨v1, v2⟩
    go_wp2_with fail
    refine (dist_any v _ hvin).mono ?_
    rintro e w' ⟨rfl, hw⟩
    subst hw
    go_wp2_with fail
    refine (dist_any ov _ ho0).mono ?_
    rintro e w' ⟨rfl, hw⟩
    subst hw
    obtain ⟨dv, hdv⟩ : ∃ d, d = distI v := ⟨_, rfl⟩
    obtain ⟨dO, hdo⟩ : ∃ d, d = distI ov := ⟨_, rfl⟩
    rw [← hdv, ← hdo] at HP
    rw [← hdv, ← hdo]
    have b1 : 0 ≤ dv ∧ dv ≤ 1000000000 := by rw [hdv]; unfold distI; omega
    have b2 : 0 ≤ dO ∧ dO ≤ 1000000000 := by rw [hdo]; unfold distI; unfold VIn at ho0; omega
    clear hdv hdo
    by_cases g1 : dO < dv
    · have HQ := hid (show outStep 6 ov v = v by rw [HP.out, if_pos (.inl g1)])
      go_wp2
      go_round
      case rel => exact ⟨k + 1, sv + v, v, by omega, by go_num, rfl, rfl, HS1.out, by show v = outTo 6 l (k + 1); rw [← HO1.out, HQ.out]⟩
      case measure => simp [intOf]; omega
    by_cases g2 : dv = dO
    · subst g2
      by_cases g3 : ov < v
      · have HQ := hid (show outStep 6 ov v = v by rw [HP.out, if_pos (.inr ⟨rfl, g3⟩)])
        go_wp2
        go_round
        case rel => exact ⟨k + 1, sv + v, v, by omega, by go_num, rfl, rfl, HS1.out, by show v = outTo 6 l (k + 1); rw [← HO1.out, HQ.out]⟩
        case measure => simp [intOf]; omega
      · have HQ := hid (show outStep 6 ov v = ov by rw [HP.out, if_neg (by omega)])
        go_wp2
        go_round
        case rel => exact ⟨k + 1, sv + v, ov, by omega, by go_num, rfl, rfl, HS1.out, by show ov = outTo 6 l (k + 1); rw [← HO1.out, HQ.out]⟩
        case measure => simp [intOf]; omega
    · have HQ := hid (show outStep 6 ov v = ov by rw [HP.out, if_neg (by omega)])
      have g2' : (dv == dO) = false := beq_eq_false_iff_ne.2 g2
      go_wp2
      go_round
      case rel => exact ⟨k + 1, sv + v, ov, by omega, by go_num, rfl, rfl, HS1.out, by show ov = outTo 6 l (k + 1); rw [← HO1.out, HQ.out]⟩
      case measure => simp [intOf]; omega
theorem makes_ref (m : Int) (b n cap : Nat) (l : List Int) (w : World) (hm1 : 1 ≤ m) (hm6 : m ≤ 6) (hn : l.length = n) (h1 : 1 ≤ n) (h60 : n ≤ 1000) (hv : ∀ v ∈ l, VIn v) (hc : ∀ (j : Nat) (v : Int), l[j]? = some v → w.cell? ⟨b, j, none⟩ = some (i64 v)) :
    Calls Tryz.prog 106 #[i64 m, .slice (some ⟨b, 0, none⟩) n cap] w fun e w' => e = .returned (i64 (makesI m l)) ∧ w' = w := by
  have h : m = 1 ∨ m = 2 ∨ m = 3 ∨ m = 4 ∨ m = 5 ∨ m = 6 := by omega
  rcases h with rfl | rfl | rfl | rfl | rfl | rfl
  · exact makes_1 b n cap l w hn h1 h60 hv hc
  · exact makes_2 b n cap l w hn h1 h60 hv hc
  · exact makes_3 b n cap l w hn h1 h60 hv hc
  · exact makes_4 b n cap l w hn h1 h60 hv hc
  · exact makes_5 b n cap l w hn h1 h60 hv hc
  · exact makes_6 b n cap l w hn h1 h60 hv hc
end Go.Proofs.YthbbfjfekchdiaaGreat
