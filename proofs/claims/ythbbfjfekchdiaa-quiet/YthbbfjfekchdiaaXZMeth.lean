import Derived.Test.YthbbfjfekchdiaaXZValues
import Derived.Test.YthbbfjfekchdiaaXZNum
/-
  The program: what the methods make of values.
-/
namespace Go.Proofs.Ythbbfjfekchdiaa
open Go.RowKit
set_option linter.unusedSimpArgs false

/-- numbers at the head of a block -/
def RowJ (w : World) (b : Nat) (l : List Int) : Prop := b < w.heap.size ∧ ∀ (j : Nat) (x : Int), l[j]? = some x → w.cell? ⟨b, j, none⟩ = some (i64 x)
theorem RowJ.below {w w' : World} {b : Nat} {l : List Int} (h : RowJ w b l) (hb : Below w.heap.size w w') : RowJ w' b l :=
  ⟨Nat.lt_of_lt_of_le h.1 hb.size, fun j x hj => cell_later hb (h.2 j x hj)⟩

set_option maxHeartbeats 2000000 in
theorem ztotal_any (b cap : Nat) (l : List Int) (w : World) (hr : RowJ w b l) (hl : l.length ≤ 1000) (hv : ∀ v ∈ l, VIn v) :
    Calls Try.prog 104 #[.slice (some ⟨b, 0, none⟩) l.length cap] w fun e w' => e = .returned (i64 (sumTo l l.length)) ∧ w' = w := by
  have HR := hid hr
  have HV := hid hv
  have hbz := hr.1
  clear hr hv
  go_enter Try.func104, Try.ntmps104
  go_wp2
  go_loopw [3, 8] (fun t i wr => ∃ m : Nat, m ≤ l.length ∧ i = i64 m ∧ t = i64 (sumTo l m) ∧ wr = w) (fun _ i _ => l.length - (intOf i).toNat)
  case atStart => exact ⟨0, by omega, rfl, by rw [sumTo_zero], rfl⟩
  case round =>
    obtain ⟨m, hm, rfl, rfl, hw⟩ := hrel
    have hw := hw.symm
    subst hw
    have hs := sumTo_in HV.out m hm
    obtain ⟨T, hT⟩ : ∃ T, T = sumTo l m := ⟨_, rfl⟩
    rw [← hT] at hs ⊢
    have HT := hid hT
    have T0 : -1000000000000 ≤ T := by omega
    have T1 : T ≤ 1000000000000 := by omega
    clear hT hs
    by_cases hlt : m < l.length
    rotate_left
    · have HE := hid (show T = sumTo l l.length by rw [HT.out, show m = l.length by omega])
      go_wp2
      go_ret
      exact ⟨ret_int (by rw [HE.out]), rfl⟩
    obtain ⟨x, hx⟩ : ∃ x, l[m]? = some x := ⟨_, List.getElem?_eq_getElem hlt⟩
    have x0 : w.cell? ⟨b, m, none⟩ = some (i64 x) := HR.out.2 m x hx
    have hin := HV.out x (List.mem_of_getElem? hx)
    unfold VIn at hin
    obtain ⟨v0, v1⟩ := hin
    have HN := hid (show sumTo l (m + 1) = T + x by rw [sumTo_succ hx, HT.out])
    have m0 : (0 : Int) ≤ (m : Int) := by omega
    have m1 : (m : Int) < (l.length : Int) := by omega
    clear hx
    go_wp2
    go_roundw
    case rel => exact ⟨m + 1, by omega, by go_num, congrArg i64 HN.out.symm, trivial⟩
    case measure => simp [intOf]; omega

theorem floor_rem {a n : Int} (hn : 0 < n) : (if a.tmod n < 0 then a.tdiv n - 1 else a.tdiv n) = a / n := by
  rw [← floor_down hn]
  have h := Int.mul_tdiv_add_tmod a n
  have e : n * a.tdiv n = a.tdiv n * n := Int.mul_comm _ _
  by_cases x : a.tmod n < 0
  · rw [if_pos x, if_pos (by omega)]
  · rw [if_neg x, if_neg (by omega)]

set_option maxHeartbeats 1000000 in
theorem zdivide_any (a n : Int) (w : World) (h1 : -1000000000000 ≤ a) (h2 : a ≤ 1000000000000) (n1 : 1 ≤ n) (n2 : n ≤ 1000000) :
    Calls Try.prog 103 #[i64 a, i64 n] w fun e w' => e = .returned (i64 (a / n)) ∧ w' = w := by
  have HF := hid (floor_rem (a := a) (n := n) (by omega))
  obtain ⟨⟨q0, q1⟩, _⟩ := tdiv_bd (n := n) (by omega) h1 h2
  by_cases x : a.tmod n < 0
  · have HQ := hid (show a / n = a.tdiv n - 1 by rw [← HF.out, if_pos x])
    go_enter Try.func103, Try.ntmps103
    go_wp2
    go_ret
    exact ⟨ret_int (by rw [HQ.out]), rfl⟩
  · have HQ := hid (show a / n = a.tdiv n by rw [← HF.out, if_neg x])
    go_enter Try.func103, Try.ntmps103
    go_wp2
    go_ret
    exact ⟨ret_int (by rw [HQ.out]), rfl⟩
end Go.Proofs.Ythbbfjfekchdiaa
