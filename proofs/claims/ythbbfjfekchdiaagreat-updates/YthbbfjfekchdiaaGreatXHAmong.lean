import Derived.Test.YthbbfjfekchdiaaGreatXHKeepsP
namespace Go.Proofs.YthbbfjfekchdiaaGreat
open Go.RowKit
set_option linter.unusedSimpArgs false

set_option maxHeartbeats 1000000 in
theorem among2_any (p : Nat) (pl : List Int) (k : Int) (w : World) (hc : ∀ (i : Nat) (x : Int), pl[i]? = some x → w.cell? ⟨p, i, none⟩ = some (i64 x)) (hl : pl.length ≤ 100) :
    Calls Tryz.prog 10 #[.slice (some ⟨p, 0, none⟩) pl.length pl.length, i64 k] w fun e w' => e = .returned (.bool (decide (k ∈ pl))) ∧ w' = w := by
  have HC := hid hc
  clear hc
  go_enter Tryz.func10, Tryz.ntmps10
  go_wp2
  go_loop [5] (fun i' => ∃ i : Nat, i ≤ pl.length ∧ i' = i64 i ∧ ∀ (j : Nat) (x : Int), j < i → pl[j]? = some x → x ≠ k) (fun i' => pl.length - (intOf i').toNat)
  case atStart => exact ⟨0, by omega, rfl, fun j x hj => absurd hj (by omega)⟩
  case round =>
    obtain ⟨i, hi, rfl, hz⟩ := hrel
    have HZ := hid hz
    clear hz
    by_cases hlt : i < pl.length
    · obtain ⟨x, hx⟩ : ∃ x, pl[i]? = some x := ⟨_, List.getElem?_eq_getElem hlt⟩
      have hcell := HC.out i x hx
      have hpz : p < w.heap.size := World.block_lt_of_cell? _ _ hcell
      have i0 : (0 : Int) ≤ (i : Int) := by omega
      have i1 : (i : Int) < (pl.length : Int) := by omega
      have HX := hid hx
      clear hx
      by_cases e : x = k
      · subst e
        have HM := hid (show decide (x ∈ pl) = true from decide_eq_true (List.mem_iff_getElem?.2 ⟨i, HX.out⟩))
        go_wp2
        go_ret
        exact ⟨by rw [HM.out]; rfl, rfl⟩
      · have eb : (x == k) = false := beq_eq_false_iff_ne.2 e
        have HZ1 := hid (show ∀ (j : Nat) (y : Int), j < i + 1 → pl[j]? = some y → y ≠ k from fun j y hj hy => by
          by_cases ej : j = i
          · subst ej
            have : y = x := by rw [HX.out] at hy; simpa using hy.symm
            rw [this]; exact e
          · exact HZ.out j y (by omega) hy)
        go_wp2
        go_round
        case rel => exact ⟨i + 1, by omega, by go_num, HZ1.out⟩
        case measure => simp [intOf]; omega
    · have HM := hid (show decide (k ∈ pl) = false from decide_eq_false fun h => by
        obtain ⟨j, hj⟩ := List.mem_iff_getElem?.1 h
        exact HZ.out j k (by obtain ⟨y, _⟩ := List.getElem?_eq_some_iff.1 hj; omega) hj rfl)
      go_wp2
      go_ret
      exact ⟨by rw [HM.out]; rfl, rfl⟩

set_option maxHeartbeats 1000000 in
theorem apart2_none (B : Nat) (a : Option Addr) (c : Nat) (w : World) (h1 : w.cell? ⟨B, 1, none⟩ = some (.slice a 0 c)) :
    Calls Tryz.prog 13 #[.pointer (some ⟨B, 1, none⟩)] w fun e w' => e = .returned (.bool true) ∧ w' = w := by
  go_enter Tryz.func13, Tryz.ntmps13
  go_wp2
  refine wp_loop_rounds 1 ?_
  rw [rounds_succ]
  go_wp2
  go_ret
  exact ⟨rfl, rfl⟩
end Go.Proofs.YthbbfjfekchdiaaGreat
