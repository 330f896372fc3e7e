import Derived.Test.YthbbfjfekchdiaaXZMeth
/-
  The program: the best of values.
-/
namespace Go.Proofs.Ythbbfjfekchdiaa
open Go.RowKit
set_option linter.unusedSimpArgs false

/-- does a beat b? -/
def btB (m a b : Int) : Bool := if m = 4 then decide (b < a) else if m = 5 then decide (a < b) else decide (distI b < distI a ∨ (distI a = distI b ∧ b < a))
theorem outStep_bt {m b v : Int} (h : m = 4 ∨ m = 5 ∨ m = 6) : outStep m b v = if btB m v b then v else b := by
  unfold outStep btB
  rcases h with rfl | rfl | rfl
  · simp
    split <;> omega
  · simp
    split <;> omega
  · simp

theorem outTo_one {m : Int} {l : List Int} {x : Int} (h : m = 4 ∨ m = 5 ∨ m = 6) (hx : l[0]? = some x) : outTo m l 1 = x := by
  rw [show (1 : Nat) = 0 + 1 from rfl, outTo_succ hx, outTo_zero]
  cases l with
  | nil => simp at hx
  | cons a l =>
    simp at hx
    subst hx
    rw [List.headD_cons, outStep_bt h]
    split <;> rfl

set_option maxHeartbeats 1000000 in
theorem zdist_any (x : Int) (w : World) (hx : VIn x) : Calls Try.prog 114 #[i64 x] w fun e w' => e = .returned (i64 (distI x)) ∧ w' = w := by
  unfold VIn at hx
  obtain ⟨h1, h2⟩ := hx
  have HD := hid (show distI x = max x (-x) from rfl)
  go_enter Try.func114, Try.ntmps114
  go_wp2
  all_goals go_ret
  all_goals exact ⟨ret_int (by rw [HD.out]; omega), rfl⟩

set_option maxHeartbeats 1000000 in
theorem zgreat_any (a b : Int) (w : World) (_ha : VIn a) (_hb : VIn b) : Calls Try.prog 109 #[i64 a, i64 b] w fun e w' => e = .returned (.bool (btB 4 a b)) ∧ w' = w := by
  have HD := hid (show btB 4 a b = decide (b < a) by unfold btB; simp)
  rw [HD.out]
  go_enter Try.func109, Try.ntmps109
  go_wp2
  go_ret
  exact ⟨rfl, rfl⟩
set_option maxHeartbeats 1000000 in
theorem zleast_any (a b : Int) (w : World) (_ha : VIn a) (_hb : VIn b) : Calls Try.prog 111 #[i64 a, i64 b] w fun e w' => e = .returned (.bool (btB 5 a b)) ∧ w' = w := by
  have HD := hid (show btB 5 a b = decide (a < b) by unfold btB; simp)
  rw [HD.out]
  go_enter Try.func111, Try.ntmps111
  go_wp2
  go_ret
  exact ⟨rfl, rfl⟩
set_option maxHeartbeats 1000000 in
theorem zwider_any (a b : Int) (w : World) (ha : VIn a) (hb : VIn b) : Calls Try.prog 113 #[i64 a, i64 b] w fun e w' => e = .returned (.bool (btB 6 a b)) ∧ w' = w := by
  have HD := hid (show btB 6 a b = decide (distI b < distI a ∨ (distI a = distI b ∧ b < a)) by unfold btB; simp)
  rw [HD.out]
  have HA := hid (fun (w : World) => zdist_any a w ha)
  have HB := hid (fun (w : World) => zdist_any b w hb)
  generalize distI a = A at *
  generalize distI b = B at *
  clear HD ha hb
  by_cases e : A = B
  · subst e
    go_enter Try.func113, Try.ntmps113
    go_wp2_with fail
    refine (HA.out _).mono ?_
    rintro e w' ⟨rfl, rfl⟩
    go_wp2_with fail
    refine (HB.out _).mono ?_
    rintro e w' ⟨rfl, rfl⟩
    go_wp2
    go_ret
    exact ⟨congrArg (fun b => Ending.returned (Value.bool b)) (by rw [Bool.eq_iff_iff]; simp), rfl⟩
  · have e' : (A == B) = false := beq_eq_false_iff_ne.2 e
    have e2 : decide (A = B) = false := decide_eq_false e
    go_enter Try.func113, Try.ntmps113
    go_wp2_with fail
    refine (HA.out _).mono ?_
    rintro e w' ⟨rfl, rfl⟩
    go_wp2_with fail
    refine (HB.out _).mono ?_
    rintro e w' ⟨rfl, rfl⟩
    go_wp2_with fail
    refine (HA.out _).mono ?_
    rintro e w' ⟨rfl, rfl⟩
    go_wp2_with fail
    refine (HB.out _).mono ?_
    rintro e w' ⟨rfl, rfl⟩
    go_wp2
    go_ret
    exact ⟨congrArg (fun b => Ending.returned (Value.bool b)) (by rw [Bool.eq_iff_iff]; simp; omega), rfl⟩

set_option maxHeartbeats 2000000 in
theorem zbest_4 (b cap : Nat) (l : List Int) (w : World) (hr : RowJ w b l) (hl : l.length ≤ 1000) (hv : ∀ v ∈ l, VIn v) (hne : l ≠ []) (hcap : l.length ≤ cap) :
    Calls Try.prog 108 #[.slice (some ⟨b, 0, none⟩) l.length cap, .func (.func 109) #[] #[]] w fun e w' => e = .returned (i64 (outTo 4 l l.length)) ∧ w' = w := by
  have HR := hid hr
  have HV := hid hv
  have hbz := hr.1
  have hl0 : 1 ≤ l.length := by cases l with | nil => exact absurd rfl hne | cons a l => simp
  have HNE := hid hne
  obtain ⟨x0, hx0⟩ : ∃ x, l[0]? = some x := ⟨_, List.getElem?_eq_getElem (by omega)⟩
  have c0 : w.cell? ⟨b, 0, none⟩ = some (i64 x0) := hr.2 0 x0 hx0
  have HO1 := hid (outTo_one (m := 4) (by omega) hx0)
  obtain ⟨n, hn⟩ : ∃ n, l.length = n + 1 := ⟨l.length - 1, by omega⟩
  have HLN := hid hn
  rw [hn] at hl hcap ⊢
  have hd0 : ((n : Int) + 1 == 0) = false := beq_eq_false_iff_ne.2 (by omega)
  have hl1 : (1 : Int) ≤ (n : Int) + 1 := by omega
  clear hr hv hne hx0 hn hl0
  go_enter Try.func108, Try.ntmps108
  by_cases hc1 : 1 < cap
  · go_wp2
    go_loopw [5, 17] (fun o i wr => ∃ k : Nat, k ≤ n ∧ i = i64 k ∧ o = i64 (outTo 4 l (k + 1)) ∧ wr = w) (fun _ i _ => n - (intOf i).toNat)
    case atStart => exact ⟨0, by omega, rfl, by rw [HO1.out], rfl⟩
    case round =>
      obtain ⟨k, hk, rfl, rfl, hw⟩ := hrel
      have hw := hw.symm
      subst hw
      have HOI := hid (outTo_in (m := 4) HV.out HNE.out (k + 1) (by have := HLN.out; omega))
      obtain ⟨o, ho⟩ : ∃ o, o = outTo 4 l (k + 1) := ⟨_, rfl⟩
      rw [← ho] at HOI ⊢
      have HO := hid ho
      clear ho
      by_cases hlt : k < n
      rotate_left
      · have HE := hid (show o = outTo 4 l (n + 1) by rw [HO.out, show k = n by omega])
        go_wp2
        go_ret
        exact ⟨ret_int (by rw [HE.out]), rfl⟩
      obtain ⟨x, hx⟩ : ∃ x, l[k + 1]? = some x := ⟨_, List.getElem?_eq_getElem (by have := HLN.out; omega)⟩
      have y0 : w.cell? ⟨b, 1 + k, none⟩ = some (i64 x) := by rw [Nat.add_comm]; exact HR.out.2 (k + 1) x hx
      have HXI := hid (HV.out x (List.mem_of_getElem? hx))
      have HN := hid (show outTo 4 l (k + 1 + 1) = if btB 4 x o then x else o by rw [outTo_succ hx, ← HO.out, outStep_bt (by omega)])
      have k0 : (0 : Int) ≤ (k : Int) := by omega
      have k1 : (k : Int) < (n : Int) := by omega
      clear hx
      go_wp2_with fail
      refine (zgreat_any x o _ HXI.out HOI.out).mono ?_
      rintro e w' ⟨rfl, rfl⟩
      by_cases hbt : btB 4 x o = true
      · have HN2 := hid (show outTo 4 l (k + 1 + 1) = x by rw [HN.out, if_pos hbt])
        rw [hbt]
        clear hbt
        go_wp2
        go_roundw
        case rel => exact ⟨k + 1, by omega, by go_num, congrArg i64 HN2.out.symm, trivial⟩
        case measure => simp [intOf]; omega
      · have HN2 := hid (show outTo 4 l (k + 1 + 1) = o by rw [HN.out, if_neg hbt])
        have hbf : btB 4 x o = false := by simpa using hbt
        rw [hbf]
        clear hbt hbf
        go_wp2
        go_roundw
        case rel => exact ⟨k + 1, by omega, by go_num, congrArg i64 HN2.out.symm, trivial⟩
        case measure => simp [intOf]; omega
  · have hn0 : n = 0 := by omega
    subst hn0
    go_wp2
    go_loopw [5, 17] (fun o i wr => i = i64 0 ∧ o = i64 x0 ∧ wr = w) (fun _ _ _ => 0)
    case atStart => exact ⟨rfl, rfl, rfl⟩
    case round =>
      obtain ⟨rfl, rfl, hw⟩ := hrel
      have hw := hw.symm
      subst hw
      go_wp2
      go_ret
      exact ⟨ret_int (by rw [HO1.out]), rfl⟩
set_option maxHeartbeats 2000000 in
theorem zbest_5 (b cap : Nat) (l : List Int) (w : World) (hr : RowJ w b l) (hl : l.length ≤ 1000) (hv : ∀ v ∈ l, VIn v) (hne : l ≠ []) (hcap : l.length ≤ cap) :
    Calls Try.prog 108 #[.slice (some ⟨b, 0, none⟩) l.length cap, .func (.func 111) #[] #[]] w fun e w' => e = .returned (i64 (outTo 5 l l.length)) ∧ w' = w := by
  have HR := hid hr
  have HV := hid hv
  have hbz := hr.1
  have hl0 : 1 ≤ l.length := by cases l with | nil => exact absurd rfl hne | cons a l => simp
  have HNE := hid hne
  obtain ⟨x0, hx0⟩ : ∃ x, l[0]? = some x := ⟨_, List.getElem?_eq_getElem (by omega)⟩
  have c0 : w.cell? ⟨b, 0, none⟩ = some (i64 x0) := hr.2 0 x0 hx0
  have HO1 := hid (outTo_one (m := 5) (by omega) hx0)
  obtain ⟨n, hn⟩ : ∃ n, l.length = n + 1 := ⟨l.length - 1, by omega⟩
  have HLN := hid hn
  rw [hn] at hl hcap ⊢
  have hd0 : ((n : Int) + 1 == 0) = false := beq_eq_false_iff_ne.2 (by omega)
  have hl1 : (1 : Int) ≤ (n : Int) + 1 := by omega
  clear hr hv hne hx0 hn hl0
  go_enter Try.func108, Try.ntmps108
  by_cases hc1 : 1 < cap
  · go_wp2
    go_loopw [5, 17] (fun o i wr => ∃ k : Nat, k ≤ n ∧ i = i64 k ∧ o = i64 (outTo 5 l (k + 1)) ∧ wr = w) (fun _ i _ => n - (intOf i).toNat)
    case atStart => exact ⟨0, by omega, rfl, by rw [HO1.out], rfl⟩
    case round =>
      obtain ⟨k, hk, rfl, rfl, hw⟩ := hrel
      have hw := hw.symm
      subst hw
      have HOI := hid (outTo_in (m := 5) HV.out HNE.out (k + 1) (by have := HLN.out; omega))
      obtain ⟨o, ho⟩ : ∃ o, o = outTo 5 l (k + 1) := ⟨_, rfl⟩
      rw [← ho] at HOI ⊢
      have HO := hid ho
      clear ho
      by_cases hlt : k < n
      rotate_left
      · have HE := hid (show o = outTo 5 l (n + 1) by rw [HO.out, show k = n by omega])
        go_wp2
        go_ret
        exact ⟨ret_int (by rw [HE.out]), rfl⟩
      obtain ⟨x, hx⟩ : ∃ x, l[k + 1]? = some x := ⟨_, List.getElem?_eq_getElem (by have := HLN.out; omega)⟩
      have y0 : w.cell? ⟨b, 1 + k, none⟩ = some (i64 x) := by rw [Nat.add_comm]; exact HR.out.2 (k + 1) x hx
      have HXI := hid (HV.out x (List.mem_of_getElem? hx))
      have HN := hid (show outTo 5 l (k + 1 + 1) = if btB 5 x o then x else o by rw [outTo_succ hx, ← HO.out, outStep_bt (by omega)])
      have k0 : (0 : Int) ≤ (k : Int) := by omega
      have k1 : (k : Int) < (n : Int) := by omega
      clear hx
      go_wp2_with fail
      refine (zleast_any x o _ HXI.out HOI.out).mono ?_
      rintro e w' ⟨rfl, rfl⟩
      by_cases hbt : btB 5 x o = true
      · have HN2 := hid (show outTo 5 l (k + 1 + 1) = x by rw [HN.out, if_pos hbt])
        rw [hbt]
        clear hbt
        go_wp2
        go_roundw
        case rel => exact ⟨k + 1, by omega, by go_num, congrArg i64 HN2.out.symm, trivial⟩
        case measure => simp [intOf]; omega
      · have HN2 := hid (show outTo 5 l (k + 1 + 1) = o by rw [HN.out, if_neg hbt])
        have hbf : btB 5 x o = false := by simpa using hbt
        rw [hbf]
        clear hbt hbf
        go_wp2
        go_roundw
        case rel => exact ⟨k + 1, by omega, by go_num, congrArg i64 HN2.out.symm, trivial⟩
        case measure => simp [intOf]; omega
  · have hn0 : n = 0 := by omega
    subst hn0
    go_wp2
    go_loopw [5, 17] (fun o i wr => i = i64 0 ∧ o = i64 x0 ∧ wr = w) (fun _ _ _ => 0)
    case atStart => exact ⟨rfl, rfl, rfl⟩
    case round =>
      obtain ⟨rfl, rfl, hw⟩ := hrel
      have hw := hw.symm
      subst hw
      go_wp2
      go_ret
      exact ⟨ret_int (by rw [HO1.out]), rfl⟩
set_option maxHeartbeats 2000000 in
theorem zbest_6 (b cap : Nat) (l : List Int) (w : World) (hr : RowJ w b l) (hl : l.length ≤ 1000) (hv : ∀ v ∈ l, VIn v) (hne : l ≠ []) (hcap : l.length ≤ cap) :
    Calls Try.prog 108 #[.slice (some ⟨b, 0, none⟩) l.length cap, .func (.func 113) #[] #[]] w fun e w' => e = .returned (i64 (outTo 6 l l.length)) ∧ w' = w := by
  have HR := hid hr
  have HV := hid hv
  have hbz := hr.1
  have hl0 : 1 ≤ l.length := by cases l with | nil => exact absurd rfl hne | cons a l => simp
  have HNE := hid hne
  obtain ⟨x0, hx0⟩ : ∃ x, l[0]? = some x := ⟨_, List.getElem?_eq_getElem (by omega)⟩
  have c0 : w.cell? ⟨b, 0, none⟩ = some (i64 x0) := hr.2 0 x0 hx0
  have HO1 := hid (outTo_one (m := 6) (by omega) hx0)
  obtain ⟨n, hn⟩ : ∃ n, l.length = n + 1 := ⟨l.length - 1, by omega⟩
  have HLN := hid hn
  rw [hn] at hl hcap ⊢
  have hd0 : ((n : Int) + 1 == 0) = false := beq_eq_false_iff_ne.2 (by omega)
  have hl1 : (1 : Int) ≤ (n : Int) + 1 := by omega
  clear hr hv hne hx0 hn hl0
  go_enter Try.func108, Try.ntmps108
  by_cases hc1 : 1 < cap
  · go_wp2
    go_loopw [5, 17] (fun o i wr => ∃ k : Nat, k ≤ n ∧ i = i64 k ∧ o = i64 (outTo 6 l (k + 1)) ∧ wr = w) (fun _ i _ => n - (intOf i).toNat)
    case atStart => exact ⟨0, by omega, rfl, by rw [HO1.out], rfl⟩
    case round =>
      obtain ⟨k, hk, rfl, rfl, hw⟩ := hrel
      have hw := hw.symm
      subst hw
      have HOI := hid (outTo_in (m := 6) HV.out HNE.out (k + 1) (by have := HLN.out; omega))
      obtain ⟨o, ho⟩ : ∃ o, o = outTo 6 l (k + 1) := ⟨_, rfl⟩
      rw [← ho] at HOI ⊢
      have HO := hid ho
      clear ho
      by_cases hlt : k < n
      rotate_left
      · have HE := hid (show o = outTo 6 l (n + 1) by rw [HO.out, show k = n by omega])
        go_wp2
        go_ret
        exact ⟨ret_int (by rw [HE.out]), rfl⟩
      obtain ⟨x, hx⟩ : ∃ x, l[k + 1]? = some x := ⟨_, List.getElem?_eq_getElem (by have := HLN.out; omega)⟩
      have y0 : w.cell? ⟨b, 1 + k, none⟩ = some (i64 x) := by rw [Nat.add_comm]; exact HR.out.2 (k + 1) x hx
      have HXI := hid (HV.out x (List.mem_of_getElem? hx))
      have HN := hid (show outTo 6 l (k + 1 + 1) = if btB 6 x o then x else o by rw [outTo_succ hx, ← HO.out, outStep_bt (by omega)])
      have k0 : (0 : Int) ≤ (k : Int) := by omega
      have k1 : (k : Int) < (n : Int) := by omega
      clear hx
      go_wp2_with fail
      refine (zwider_any x o _ HXI.out HOI.out).mono ?_
      rintro e w' ⟨rfl, rfl⟩
      by_cases hbt : btB 6 x o = true
      · have HN2 := hid (show outTo 6 l (k + 1 + 1) = x by rw [HN.out, if_pos hbt])
        rw [hbt]
        clear hbt
        go_wp2
        go_roundw
        case rel => exact ⟨k + 1, by omega, by go_num, congrArg i64 HN2.out.symm, trivial⟩
        case measure => simp [intOf]; omega
      · have HN2 := hid (show outTo 6 l (k + 1 + 1) = o by rw [HN.out, if_neg hbt])
        have hbf : btB 6 x o = false := by simpa using hbt
        rw [hbf]
        clear hbt hbf
        go_wp2
        go_roundw
        case rel => exact ⟨k + 1, by omega, by go_num, congrArg i64 HN2.out.symm, trivial⟩
        case measure => simp [intOf]; omega
  · have hn0 : n = 0 := by omega
    subst hn0
    go_wp2
    go_loopw [5, 17] (fun o i wr => i = i64 0 ∧ o = i64 x0 ∧ wr = w) (fun _ _ _ => 0)
    case atStart => exact ⟨rfl, rfl, rfl⟩
    case round =>
      obtain ⟨rfl, rfl, hw⟩ := hrel
      have hw := hw.symm
      subst hw
      go_wp2
      go_ret
      exact ⟨ret_int (by rw [HO1.out]), rfl⟩
end Go.Proofs.Ythbbfjfekchdiaa
