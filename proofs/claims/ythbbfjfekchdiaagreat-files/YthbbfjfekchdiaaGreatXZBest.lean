import Derived.Test.YthbbfjfekchdiaaGreatXZFirst
import Derived.Test.YthbbfjfekchdiaaGreatXZValues
import Derived.Test.YthbbfjfekchdiaaGreatXRMakes
import Derived.RangeFuncNested
import Derived.RangeFuncBound
import Derived.RangeFuncCalls
import Derived.RangeFuncLeaves
import Derived.Shelf.Abstract
import Derived.Shelf.RegionOpen
import Derived.WalkKit
import Derived.OwnWalkIn
import Derived.TacticsInMore
import Derived.LoopNIn
import Derived.LoopIn
namespace Go.Proofs.YthbbfjfekchdiaaGreat
open Go.RowKit Go.Shelf
set_option linter.unusedSimpArgs false
attribute [local go_sem] Oper.semAt_some
def noDefer (o : Oper) : Bool := match o.op with | .defer _ => false | _ => true
theorem noDefer_spec {ops : Array Oper} (h : ops.all noDefer = true) {i : Nat} {o : Oper} (ho : ops[i]? = some o) (c : Call) : o.op ≠ .defer c := by
  intro e
  obtain ⟨hi, rfl⟩ := Array.getElem?_eq_some_iff.1 ho
  have h2 := (Array.all_eq_true.1 h) i hi
  unfold noDefer at h2
  rw [e] at h2
  cases h2
theorem wpOpIn_round {P : Program} {ops : Array Oper} {Q : Exit → Act → World → Prop} {i : Nat} {K : Act → World → Prop} {a : Act} {w : World} {l n : Nat}
    (hd : ops.all noDefer = true) (hQ : ¬ LetsOut Q) (h : wpOp P ops Q i K a w) : wpOpIn (Fence.wide.inRound l) n P ops Q i K a w := by
  unfold wpOp at h
  unfold wpOpIn
  cases ho : ops[i]? with
  | none => rw [ho] at h; exact h
  | some o =>
    simp only [ho] at h ⊢
    split
    · rename_i hw
      simp only [hw, if_true] at h
      rcases h with h | ⟨_, h⟩
      · refine ⟨fun _ _ => trivial, ?_⟩
        rw [show (Fence.wide.inRound l).round = some l from rfl, Oper.semAt_some l _ o (noDefer_spec hd ho)]
        unfold Oper.wp at h
        generalize (execOp a.eval o).run P w = r at h ⊢
        cases r with
        | ok x w' =>
          cases x <;> simp only [Oper.upon, Oper.uponIn] at h ⊢
          case value => exact h
          case skip => exact h
          case defer => exact h
          case enter f args =>
            refine ⟨fun x => ?_, CallsIn.inRound l (callsIn_wide.2 h)⟩
            cases x
          case row row args =>
            refine ⟨fun x => ?_, fun c cs _ => ?_⟩
            · cases x
            · obtain ⟨v, w2, r, s⟩ := h c cs
              exact ⟨v, w2, r, stepsIn_wide.2 s⟩
        | halt x w' => cases x <;> simp only [Oper.upon, Oper.uponIn] at h ⊢ <;> exact h
      · exact absurd h hQ
    · rename_i hw
      simp only [hw] at h
      exact ⟨fun _ _ => trivial, h⟩
theorem wpAnyIn_round {P : Program} {ops : Array Oper} {Q : Exit → Act → World → Prop} {md : Region.Mode} {l n : Nat} (hd : ops.all noDefer = true) (hQ : ¬ LetsOut Q) :
    ∀ (fuel : Nat) (listed : Array Bool) (a : Act) (w : World), wpAny P md ops Q fuel listed a w → wpAnyIn (Fence.wide.inRound l) n P md ops Q fuel listed a w
  | 0, _, _, _, h => h
  | fuel + 1, _, _, _, h => ⟨h.1, fun i hi => wpOpIn_round hd hQ (wpOp_mono (fun a w => wpAnyIn_round hd hQ fuel _ a w) (h.2 i hi))⟩
theorem region_round {P : Program} {ops : Array Oper} {Q : Exit → Act → World → Prop} {S : World → Prop} {l n id : Nat} {a : Act} {w : World} (hm : P.follows .mixedOrders = true) (hd : ops.all noDefer = true) (hQ : ¬ LetsOut Q) (hS : S w.drew)
    (h : S w.drew → wpAnyH P .any ops Q S ops.size (Array.replicate ops.size false) a w.drew) : (Code.region id ops true).wpIn (Fence.wide.inRound l) n P Q a w :=
  wpIn_region_any hm (wpAnyIn_round hd hQ _ _ _ _ (wpAny_of_held _ _ _ _ (h hS)))
set_option maxHeartbeats 1000000 in
theorem zback_any (a : Option Addr) (len cap : Nat) (w : World) :
    Calls Tryz.prog 63 #[.slice a len cap] w fun e w' => e = .returned (.func (.func 85) #[] #[.pointer (some ⟨w.heap.size, 0, none⟩)]) ∧ w' = w.alloc (.cells #[.slice a len cap] 87) := by
  go_enter Tryz.func63, Tryz.ntmps63
  go_wp2
  go_ret
  exact ⟨rfl, rfl⟩
def downs (n k : Nat) : List Nat := ((List.range n).drop k).reverse
theorem downs_self (n : Nat) : downs n n = [] := by unfold downs; simp
theorem downs_zero (n : Nat) : downs n 0 = (List.range n).reverse := by unfold downs; simp
theorem downs_pred {n k : Nat} (h : k < n) : downs n k = downs n (k + 1) ++ [k] := by
  unfold downs
  rw [List.drop_eq_getElem_cons (by simpa using h), List.reverse_cons]
  simp
theorem downs_len (n k : Nat) : (downs n k).length = n - k := by unfold downs; simp
set_option maxRecDepth 100000 in
set_option maxHeartbeats 2000000 in
theorem zback1_in (n l Bs gl N cap : Nat) (sv : Nat → Int) (gv kv : Nat → Nat) (av : Nat → Value) (Kp : World → World → Prop) (hKt : ∀ {A B C : World}, Kp A B → Kp B C → Kp A C) (J Jx : List Nat → World → Prop)
    (hav : ∀ i, i < N → av i = .agg #[i64 (sv i), .slice (some ⟨gv i, 0, none⟩) (kv i) (kv i)])
    (hY : ∀ (pre : List Nat) (x : Nat) (W : World), J pre W → pre.length < N → YieldAt Fence.wide (n - 1) Tryz.prog l #[i64 (x : Int), av x] W fun e W' =>
      (e = .returned (.bool true) ∧ J (pre ++ [x]) W' ∧ Kp W W') ∨ (e = .returned (.bool false) ∧ Jx (pre ++ [x]) W'))
    (W : World) (hrd : ∀ wr, wr = W ∨ Kp W wr → wr.cell? ⟨Bs, 0, none⟩ = some (.slice (some ⟨gl, 0, none⟩) N cap) ∧ ∀ i, i < N → wr.cell? ⟨gl, i * 2, none⟩ = some (i64 (sv i)) ∧ wr.cell? ⟨gl, i * 2 + 1, none⟩ = some (.slice (some ⟨gv i, 0, none⟩) (kv i) (kv i)))
    (hN : N ≤ 4) (h0 : J [] W) :
    CallsIn Fence.wide n Tryz.prog 85 #[.func (.yield l) #[] #[], .pointer (some ⟨Bs, 0, none⟩)] W fun e W' => (∃ v, e = .returned v) ∧
      ((∃ ys, ys = (List.range N).reverse ∧ J ys W') ∨ (∃ pre : List Nat, True ∧ Jx pre W')) := by
  have HRD := hid hrd
  have x0 := (hrd W (.inl rfl)).1
  refine callsIn_of_wp Tryz.func85 rfl trivial ?_ rfl
  simp only [Tryz.ntmps85, List.size_toArray, List.length_cons, List.length_nil, Nat.reduceAdd, Nat.reduceSub, Array.replicate_succ, Array.replicate_zero, List.push_toArray, List.append_toArray, List.nil_append, List.cons_append]
  clear hrd
  gi_wp2
  clear x0
  gi_loopw [3] (fun i wr => ∃ k : Nat, k ≤ N ∧ i = i64 ((k : Int) - 1) ∧ J (downs N k) wr ∧ (wr = W ∨ Kp W wr)) (fun i _ => ((intOf i) + 1).toNat)
  case atStart => exact ⟨N, Nat.le_refl _, rfl, by rw [downs_self]; exact h0, .inl rfl⟩
  case round =>
    obtain ⟨k, hk, rfl, hJ, hK⟩ := hrel
    cases k with
    | zero =>
      rw [downs_zero] at hJ
      have HJ := hid hJ
      clear hK hJ
      gi_wp2
      go_end0
      exact ⟨⟨_, rfl⟩, .inl ⟨_, rfl, HJ.out⟩⟩
    | succ j =>
      obtain ⟨x0, xr⟩ := HRD.out wr hK
      obtain ⟨x1, x2⟩ := xr j (by omega)
      have hgz : gl < wr.heap.size := World.block_lt_of_cell? _ _ x1
      have ej : ((j + 1 : Nat) : Int) - 1 = (j : Int) := by omega
      rw [ej]
      have j0 : (0 : Int) ≤ (j : Int) := by omega
      have j1 : (j : Int) < (N : Int) := by omega
      obtain ⟨fn, tmps, assign, body, hy, hR⟩ := hY _ j wr hJ (by rw [downs_len]; omega)
      rw [hav j (by omega)] at hy
      have HK := hid hK
      clear xr ej hJ hK
      gi_wp2
      refine ⟨fun (x : (none : Option Nat).isSome = true) => absurd x (by decide), hR.mono ?_⟩
      rintro e W3 (⟨rfl, hJ3, hk3⟩ | ⟨rfl, hJx3⟩)
      · have HN := hid (show J (downs N j) W3 by rw [downs_pred (by omega)]; exact hJ3)
        have HK3 := hid (show W3 = W ∨ Kp W W3 from .inr (by
          rcases HK.out with h | h
          · rw [← h]; exact hk3
          · exact hKt h hk3))
        clear hJ3 hk3 x0 x1 x2
        gi_wp2
        go_roundw
        case rel => exact ⟨j, by omega, by go_num, HN.out, HK3.out⟩
        case measure => simp [intOf]
      · have HJX := hid hJx3
        clear hJx3 x0 x1 x2
        gi_wp2
        refine bodyPost_ret (results_none rfl _ _ _) rfl ?_
        exact ⟨⟨_, rfl⟩, .inr ⟨_, trivial, HJX.out⟩⟩
end Go.Proofs.YthbbfjfekchdiaaGreat
namespace Go.Proofs.YthbbfjfekchdiaaGreat
open Go.RowKit
set_option linter.unusedSimpArgs false
def RowJ (w : World) (b : Nat) (l : List Int) : Prop := b < w.heap.size ∧ ∀ (j : Nat) (x : Int), l[j]? = some x → w.cell? ⟨b, j, none⟩ = some (i64 x)
theorem RowJ.below {w w' : World} {b : Nat} {l : List Int} (h : RowJ w b l) (hb : Below w.heap.size w w') : RowJ w' b l :=
  ⟨Nat.lt_of_lt_of_le h.1 hb.size, fun j x hj => cell_later hb (h.2 j x hj)⟩
set_option maxHeartbeats 2000000 in
theorem ztotal_any (b cap : Nat) (l : List Int) (w : World) (hr : RowJ w b l) (hl : l.length ≤ 1000) (hv : ∀ v ∈ l, VIn v) :
    Calls Tryz.prog 143 #[.slice (some ⟨b, 0, none⟩) l.length cap] w fun e w' => e = .returned (i64 (sumTo l l.length)) ∧ w' = w := by
  have HR := hid hr
  have HV := hid hv
  have hbz := hr.1
  clear hr hv
  go_enter Tryz.func143, Tryz.ntmps143
  go_wp2
  go_loopw [3, 8] (fun t i wr => ∃ m : Nat, m ≤ l.length ∧ i = i64 m ∧ t = i64 (sumTo l m) ∧ wr = w) (fun _ i _ => l.length - (intOf i).toNat)
  case atStart => exact ⟨0, by omega, rfl, by rw [sumTo_zero], rfl⟩
  case round =>
    obtain ⟨m, hm, rfl, rfl, hw⟩ := hrel
    have hw := hw.symm
    subst hw
    have hs := sumTo_in HV.out m hm
    obtain ⟨T, hT⟩ : ∃ T, T = sumTo l m := ⟨_, rfl⟩
    rw [← hT] at hs ⊢
    have HT := hid hT
    have T0 : -1000000000000 ≤ T := by omega
    have T1 : T ≤ 1000000000000 := by omega
    clear hT hs
    by_cases hlt : m < l.length
    rotate_left
    · have HE := hid (show T = sumTo l l.length by rw [HT.out, show m = l.length by omega])
      go_wp2
      go_ret
      exact ⟨ret_int (by rw [HE.out]), rfl⟩
    obtain ⟨x, hx⟩ : ∃ x, l[m]? = some x := ⟨_, List.getElem?_eq_getElem hlt⟩
    have x0 : w.cell? ⟨b, m, none⟩ = some (i64 x) := HR.out.2 m x hx
    have hin := HV.out x (List.mem_of_getElem? hx)
    unfold VIn at hin
    obtain ⟨v0, v1⟩ := hin
    have HN := hid (show sumTo l (m + 1) = T + x by rw [sumTo_succ hx, HT.out])
    have m0 : (0 : Int) ≤ (m : Int) := by omega
    have m1 : (m : Int) < (l.length : Int) := by omega
    clear hx
    go_wp2
    go_roundw
    case rel => exact ⟨m + 1, by omega, by go_num, congrArg i64 HN.out.symm, trivial⟩
    case measure => simp [intOf]; omega
theorem floor_rem {a n : Int} (hn : 0 < n) : (if a.tmod n < 0 then a.tdiv n - 1 else a.tdiv n) = a / n := by
  rw [← floor_down hn]
  have h := Int.mul_tdiv_add_tmod a n
  have e : n * a.tdiv n = a.tdiv n * n := Int.mul_comm _ _
  by_cases x : a.tmod n < 0
  · rw [if_pos x, if_pos (by omega)]
  · rw [if_neg x, if_neg (by omega)]
set_option maxHeartbeats 1000000 in
theorem zdivide_any (a n : Int) (w : World) (h1 : -1000000000000 ≤ a) (h2 : a ≤ 1000000000000) (n1 : 1 ≤ n) (n2 : n ≤ 1000000) :
    Calls Tryz.prog 142 #[i64 a, i64 n] w fun e w' => e = .returned (i64 (a / n)) ∧ w' = w := by
  have HF := hid (floor_rem (a := a) (n := n) (by omega))
  obtain ⟨⟨q0, q1⟩, _⟩ := tdiv_bd (n := n) (by omega) h1 h2
  by_cases x : a.tmod n < 0
  · have HQ := hid (show a / n = a.tdiv n - 1 by rw [← HF.out, if_pos x])
    go_enter Tryz.func142, Tryz.ntmps142
    go_wp2
    go_ret
    exact ⟨ret_int (by rw [HQ.out]), rfl⟩
  · have HQ := hid (show a / n = a.tdiv n by rw [← HF.out, if_neg x])
    go_enter Tryz.func142, Tryz.ntmps142
    go_wp2
    go_ret
    exact ⟨ret_int (by rw [HQ.out]), rfl⟩
end Go.Proofs.YthbbfjfekchdiaaGreat
namespace Go.Proofs.YthbbfjfekchdiaaGreat
open Go.RowKit
set_option linter.unusedSimpArgs false
def btB (m a b : Int) : Bool := if m = 4 then decide (b < a) else if m = 5 then decide (a < b) else decide (distI b < distI a ∨ (distI a = distI b ∧ b < a))
theorem outStep_bt {m b v : Int} (h : m = 4 ∨ m = 5 ∨ m = 6) : outStep m b v = if btB m v b then v else b := by
  unfold outStep btB
  rcases h with rfl | rfl | rfl
  · simp
    split <;> omega
  · simp
    split <;> omega
  · simp
theorem outTo_one {m : Int} {l : List Int} {x : Int} (h : m = 4 ∨ m = 5 ∨ m = 6) (hx : l[0]? = some x) : outTo m l 1 = x := by
  rw [show (1 : Nat) = 0 + 1 from rfl, outTo_succ hx, outTo_zero]
  cases l with
  | nil => simp at hx
  | cons a l =>
    simp at hx
    subst hx
    rw [List.headD_cons, outStep_bt h]
    split <;> rfl
set_option maxHeartbeats 1000000 in
theorem zdist_any (x : Int) (w : World) (hx : VIn x) : Calls Tryz.prog 153 #[i64 x] w fun e w' => e = .returned (i64 (distI x)) ∧ w' = w := by
  unfold VIn at hx
  obtain ⟨h1, h2⟩ := hx
  have HD := hid (show distI x = max x (-x) from rfl)
  go_enter Tryz.func153, Tryz.ntmps153
  go_wp2
  all_goals go_ret
  all_goals exact ⟨ret_int (by rw [HD.out]; omega), rfl⟩
set_option maxHeartbeats 1000000 in
theorem zgreat_any (a b : Int) (w : World) (_ha : VIn a) (_hb : VIn b) : Calls Tryz.prog 148 #[i64 a, i64 b] w fun e w' => e = .returned (.bool (btB 4 a b)) ∧ w' = w := by
  have HD := hid (show btB 4 a b = decide (b < a) by unfold btB; simp)
  rw [HD.out]
  go_enter Tryz.func148, Tryz.ntmps148
  go_wp2
  go_ret
  exact ⟨rfl, rfl⟩
set_option maxHeartbeats 1000000 in
theorem zleast_any (a b : Int) (w : World) (_ha : VIn a) (_hb : VIn b) : Calls Tryz.prog 150 #[i64 a, i64 b] w fun e w' => e = .returned (.bool (btB 5 a b)) ∧ w' = w := by
  have HD := hid (show btB 5 a b = decide (a < b) by unfold btB; simp)
  rw [HD.out]
  go_enter Tryz.func150, Tryz.ntmps150
  go_wp2
  go_ret
  exact ⟨rfl, rfl⟩
set_option maxHeartbeats 1000000 in
theorem zwider_any (a b : Int) (w : World) (ha : VIn a) (hb : VIn b) : Calls Tryz.prog 152 #[i64 a, i64 b] w fun e w' => e = .returned (.bool (btB 6 a b)) ∧ w' = w := by
  have HD := hid (show btB 6 a b = decide (distI b < distI a ∨ (distI a = distI b ∧ b < a)) by unfold btB; simp)
  rw [HD.out]
  have HA := hid (fun (w : World) => zdist_any a w ha)
  have HB := hid (fun (w : World) => zdist_any b w hb)
  generalize distI a = A at *
  generalize distI b = B at *
  clear HD ha hb
  by_cases e : A = B
  · subst e
    go_enter Tryz.func152, Tryz.ntmps152
    go_wp2_with fail
    refine (HA.out _).mono ?_
    rintro e w' ⟨rfl, rfl⟩
    go_wp2_with fail
    refine (HB.out _).mono ?_
    rintro e w' ⟨rfl, rfl⟩
    go_wp2
    go_ret
    exact ⟨congrArg (fun b => Ending.returned (Value.bool b)) (by rw [Bool.eq_iff_iff]; simp), rfl⟩
  · have e' : (A == B) = false := beq_eq_false_iff_ne.2 e
    have e2 : decide (A = B) = false := decide_eq_false e
    go_enter Tryz.func152, Tryz.ntmps152
    go_wp2_with fail
    refine (HA.out _).mono ?_
    rintro e w' ⟨rfl, rfl⟩
    go_wp2_with fail
    refine (HB.out _).mono ?_
    rintro e w' ⟨rfl, rfl⟩
    go_wp2_with fail
    refine (HA.out _).mono ?_
    rintro e w' ⟨rfl, rfl⟩
    go_wp2_with fail
    refine (HB.out _).mono ?_
    rintro e w' ⟨rfl, rfl⟩
    go_wp2
    go_ret
    exact ⟨congrArg (fun b => Ending.returned (Value.bool b)) (by rw [Bool.eq_iff_iff]; simp; omega), rfl⟩
set_option maxHeartbeats 2000000 in
theorem zbest_4 (b cap : Nat) (l : List Int) (w : World) (hr : RowJ w b l) (hl : l.length ≤ 1000) (hv : ∀ v ∈ l, VIn v) (hne : l ≠ []) (hcap : l.length ≤ cap) :
    Calls Tryz.prog 147 #[.slice (some ⟨b, 0, none⟩) l.length cap, .func (.func 148) #[] #[]] w fun e w' => e = .returned (i64 (outTo 4 l l.length)) ∧ w' = w := by
  have HR := hid hr
  have HV := hid hv
  have hbz := hr.1
  have hl0 : 1 ≤ l.length := by cases l with | nil => exact absurd rfl hne | cons a l => simp
  have HNE := hid hne
  obtain ⟨x0, hx0⟩ : ∃ x, l[0]? = some x := ⟨_, List.getElem?_eq_getElem (by omega)⟩
  have c0 : w.cell? ⟨b, 0, none⟩ = some (i64 x0) := hr.2 0 x0 hx0
  have HO1 := hid (outTo_one (m := 4) (by omega) hx0)
  obtain ⟨n, hn⟩ : ∃ n, l.length = n + 1 := ⟨l.length - 1, by omega⟩
  have HLN := hid hn
  rw [hn] at hl hcap ⊢
  have hd0 : ((n : Int) + 1 == 0) = false := beq_eq_false_iff_ne.2 (by omega)
  have hl1 : (1 : Int) ≤ (n : Int) + 1 := by omega
  clear hr hv hne hx0 hn hl0
  go_enter Tryz.func147, Tryz.ntmps147
  by_cases hc1 : 1 < cap
  · go_wp2
    go_loopw [5, 17] (fun o i wr => ∃ k : Nat, k ≤ n ∧ i = i64 k ∧ o = i64 (outTo 4 l (k + 1)) ∧ wr = w) (fun _ i _ => n - (intOf i).toNat)
    case atStart => exact ⟨0, by omega, rfl, by rw [HO1.out], rfl⟩
    case round =>
      obtain ⟨k, hk, rfl, rfl, hw⟩ := hrel
      have hw := hw.symm
      subst hw
      have HOI := hid (outTo_in (m := 4) HV.out HNE.out (k + 1) (by have := HLN.out; omega))
      obtain ⟨o, ho⟩ : ∃ o, o = outTo 4 l (k + 1) := ⟨_, rfl⟩
      rw [← ho] at HOI ⊢
      have HO := hid ho
      clear ho
      by_cases hlt : k < n
      rotate_left
      · have HE := hid (show o = outTo 4 l (n + 1) by rw [HO.out, show k = n by omega])
        go_wp2
        go_ret
        exact ⟨ret_int (by rw [HE.out]), rfl⟩
      obtain ⟨x, hx⟩ : ∃ x, l[k + 1]? = some x := ⟨_, List.getElem?_eq_getElem (by have := HLN.out; omega)⟩
      have y0 : w.cell? ⟨b, 1 + k, none⟩ = some (i64 x) := by rw [Nat.add_comm]; exact HR.out.2 (k + 1) x hx
      have HXI := hid (HV.out x (List.mem_of_getElem? hx))
      have HN := hid (show outTo 4 l (k + 1 + 1) = if btB 4 x o then x else o by rw [outTo_succ hx, ← HO.out, outStep_bt (by omega)])
      have k0 : (0 : Int) ≤ (k : Int) := by omega
      have k1 : (k : Int) < (n : Int) := by omega
      clear hx
      go_wp2_with fail
      refine (zgreat_any x o _ HXI.out HOI.out).mono ?_
      rintro e w' ⟨rfl, rfl⟩
      by_cases hbt : btB 4 x o = true
      · have HN2 := hid (show outTo 4 l (k + 1 + 1) = x by rw [HN.out, if_pos hbt])
        rw [hbt]
        clear hbt
        go_wp2
        go_roundw
        case rel => exact ⟨k + 1, by omega, by go_num, congrArg i64 HN2.out.symm, trivial⟩
        case measure => simp [intOf]; omega
      · have HN2 := hid (show outTo 4 l (k + 1 + 1) = o by rw [HN.out, if_neg hbt])
        have hbf : btB 4 x o = false := by simpa using hbt
        rw [hbf]
        clear hbt hbf
        go_wp2
        go_roundw
        case rel => exact ⟨k + 1, by omega, by go_num, congrArg i64 HN2.out.symm, trivial⟩
        case measure => simp [intOf]; omega
  · have hn0 : n = 0 := by omega
    subst hn0
    go_wp2
    go_loopw [5, 17] (fun o i wr => i = i64 0 ∧ o = i64 x0 ∧ wr = w) (fun _ _ _ => 0)
    case atStart => exact ⟨rfl, rfl, rfl⟩
    case round =>
      obtain ⟨rfl, rfl, hw⟩ := hrel
      have hw := hw.symm
      subst hw
      go_wp2
      go_ret
      exact ⟨ret_int (by rw [HO1.out]), rfl⟩
set_option maxHeartbeats 2000000 in
theorem zbest_5 (b cap : Nat) (l : List Int) (w : World) (hr : RowJ w b l) (hl : l.length ≤ 1000) (hv : ∀ v ∈ l, VIn v) (hne : l ≠ []) (hcap : l.length ≤ cap) :
    Calls Tryz.prog 147 #[.slice (some ⟨b, 0, none⟩) l.length cap, .func (.func 150) #[] #[]] w fun e w' => e = .returned (i64 (outTo 5 l l.length)) ∧ w' = w := by
  have HR := hid hr
  have HV := hid hv
  have hbz := hr.1
  have hl0 : 1 ≤ l.length := by cases l with | nil => exact absurd rfl hne | cons a l => simp
  have HNE := hid hne
  obtain ⟨x0, hx0⟩ : ∃ x, l[0]? = some x := ⟨_, List.getElem?_eq_getElem (by omega)⟩
  have c0 : w.cell? ⟨b, 0, none⟩ = some (i64 x0) := hr.2 0 x0 hx0
  have HO1 := hid (outTo_one (m := 5) (by omega) hx0)
  obtain ⟨n, hn⟩ : ∃ n, l.length = n + 1 := ⟨l.length - 1, by omega⟩
  have HLN := hid hn
  rw [hn] at hl hcap ⊢
  have hd0 : ((n : Int) + 1 == 0) = false := beq_eq_false_iff_ne.2 (by omega)
  have hl1 : (1 : Int) ≤ (n : Int) + 1 := by omega
  clear hr hv hne hx0 hn hl0
  go_enter Tryz.func147, Tryz.ntmps147
  by_cases hc1 : 1 < cap
  · go_wp2
    go_loopw [5, 17] (fun o i wr => ∃ k : Nat, k ≤ n ∧ i = i64 k ∧ o = i64 (outTo 5 l (k + 1)) ∧ wr = w) (fun _ i _ => n - (intOf i).toNat)
    case atStart => exact ⟨0, by omega, rfl, by rw [HO1.out], rfl⟩
    case round =>
      obtain ⟨k, hk, rfl, rfl, hw⟩ := hrel
      have hw := hw.symm
      subst hw
      have HOI := hid (outTo_in (m := 5) HV.out HNE.out (k + 1) (by have := HLN.out; omega))
      obtain ⟨o, ho⟩ : ∃ o, o = outTo 5 l (k + 1) := ⟨_, rfl⟩
      rw [← ho] at HOI ⊢
      have HO := hid ho
      clear ho
      by_cases hlt : k < n
      rotate_left
      · have HE := hid (show o = outTo 5 l (n + 1) by rw [HO.out, show k = n by omega])
        go_wp2
        go_ret
        exact ⟨ret_int (by rw [HE.out]), rfl⟩
      obtain ⟨x, hx⟩ : ∃ x, l[k + 1]? = some x := ⟨_, List.getElem?_eq_getElem (by have := HLN.out; omega)⟩
      have y0 : w.cell? ⟨b, 1 + k, none⟩ = some (i64 x) := by rw [Nat.add_comm]; exact HR.out.2 (k + 1) x hx
      have HXI := hid (HV.out x (List.mem_of_getElem? hx))
      have HN := hid (show outTo 5 l (k + 1 + 1) = if btB 5 x o then x else o by rw [outTo_succ hx, ← HO.out, outStep_bt (by omega)])
      have k0 : (0 : Int) ≤ (k : Int) := by omega
      have k1 : (k : Int) < (n : Int) := by omega
      clear hx
      go_wp2_with fail
      refine (zleast_any x o _ HXI.out HOI.out).mono ?_
      rintro e w' ⟨rfl, rfl⟩
      by_cases hbt : btB 5 x o = true
      · have HN2 := hid (show outTo 5 l (k + 1 + 1) = x by rw [HN.out, if_pos hbt])
        rw [hbt]
        clear hbt
        go_wp2
        go_roundw
        case rel => exact ⟨k + 1, by omega, by go_num, congrArg i64 HN2.out.symm, trivial⟩
        case measure => simp [intOf]; omega
      · have HN2 := hid (show outTo 5 l (k + 1 + 1) = o by rw [HN.out, if_neg hbt])
        have hbf : btB 5 x o = false := by simpa using hbt
        rw [hbf]
        clear hbt hbf
        go_wp2
        go_roundw
        case rel => exact ⟨k + 1, by omega, by go_num, congrArg i64 HN2.out.symm, trivial⟩
        case measure => simp [intOf]; omega
  · have hn0 : n = 0 := by omega
    subst hn0
    go_wp2
    go_loopw [5, 17] (fun o i wr => i = i64 0 ∧ o = i64 x0 ∧ wr = w) (fun _ _ _ => 0)
    case atStart => exact ⟨rfl, rfl, rfl⟩
    case round =>
      obtain ⟨rfl, rfl, hw⟩ := hrel
      have hw := hw.symm
      subst hw
      go_wp2
      go_ret
      exact ⟨ret_int (by rw [HO1.out]), rfl⟩
set_option maxHeartbeats 2000000 in
theorem zbest_6 (b cap : Nat) (l : List Int) (w : World) (hr : RowJ w b l) (hl : l.length ≤ 1000) (hv : ∀ v ∈ l, VIn v) (hne : l ≠ []) (hcap : l.length ≤ cap) :
    Calls Tryz.prog 147 #[.slice (some ⟨b, 0, none⟩) l.length cap, .func (.func 152) #[] #[]] w fun e w' => e = .returned (i64 (outTo 6 l l.length)) ∧ w' = w := by
  have HR := hid hr
  have HV := hid hv
  have hbz := hr.1
  have hl0 : 1 ≤ l.length := by cases l with | nil => exact absurd rfl hne | cons a l => simp
  have HNE := hid hne
  obtain ⟨x0, hx0⟩ : ∃ x, l[0]? = some x := ⟨_, List.getElem?_eq_getElem (by omega)⟩
  have c0 : w.cell? ⟨b, 0, none⟩ = some (i64 x0) := hr.2 0 x0 hx0
  have HO1 := hid (outTo_one (m := 6) (by omega) hx0)
  obtain ⟨n, hn⟩ : ∃ n, l.length = n + 1 := ⟨l.length - 1, by omega⟩
  have HLN := hid hn
  rw [hn] at hl hcap ⊢
  have hd0 : ((n : Int) + 1 == 0) = false := beq_eq_false_iff_ne.2 (by omega)
  have hl1 : (1 : Int) ≤ (n : Int) + 1 := by omega
  clear hr hv hne hx0 hn hl0
  go_enter Tryz.func147, Tryz.ntmps147
  by_cases hc1 : 1 < cap
  · go_wp2
    go_loopw [5, 17] (fun o i wr => ∃ k : Nat, k ≤ n ∧ i = i64 k ∧ o = i64 (outTo 6 l (k + 1)) ∧ wr = w) (fun _ i _ => n - (intOf i).toNat)
    case atStart => exact ⟨0, by omega, rfl, by rw [HO1.out], rfl⟩
    case round =>
      obtain ⟨k, hk, rfl, rfl, hw⟩ := hrel
      have hw := hw.symm
      subst hw
      have HOI := hid (outTo_in (m := 6) HV.out HNE.out (k + 1) (by have := HLN.out; omega))
      obtain ⟨o, ho⟩ : ∃ o, o = outTo 6 l (k + 1) := ⟨_, rfl⟩
      rw [← ho] at HOI ⊢
      have HO := hid ho
      clear ho
      by_cases hlt : k < n
      rotate_left
      · have HE := hid (show o = outTo 6 l (n + 1) by rw [HO.out, show k = n by omega])
        go_wp2
        go_ret
        exact ⟨ret_int (by rw [HE.out]), rfl⟩
      obtain ⟨x, hx⟩ : ∃ x, l[k + 1]? = some x := ⟨_, List.getElem?_eq_getElem (by have := HLN.out; omega)⟩
      have y0 : w.cell? ⟨b, 1 + k, none⟩ = some (i64 x) := by rw [Nat.add_comm]; exact HR.out.2 (k + 1) x hx
      have HXI := hid (HV.out x (List.mem_of_getElem? hx))
      have HN := hid (show outTo 6 l (k + 1 + 1) = if btB 6 x o then x else o by rw [outTo_succ hx, ← HO.out, outStep_bt (by omega)])
      have k0 : (0 : Int) ≤ (k : Int) := by omega
      have k1 : (k : Int) < (n : Int) := by omega
      clear hx
      go_wp2_with fail
      refine (zwider_any x o _ HXI.out HOI.out).mono ?_
      rintro e w' ⟨rfl, rfl⟩
      by_cases hbt : btB 6 x o = true
      · have HN2 := hid (show outTo 6 l (k + 1 + 1) = x by rw [HN.out, if_pos hbt])
        rw [hbt]
        clear hbt
        go_wp2
        go_roundw
        case rel => exact ⟨k + 1, by omega, by go_num, congrArg i64 HN2.out.symm, trivial⟩
        case measure => simp [intOf]; omega
      · have HN2 := hid (show outTo 6 l (k + 1 + 1) = o by rw [HN.out, if_neg hbt])
        have hbf : btB 6 x o = false := by simpa using hbt
        rw [hbf]
        clear hbt hbf
        go_wp2
        go_roundw
        case rel => exact ⟨k + 1, by omega, by go_num, congrArg i64 HN2.out.symm, trivial⟩
        case measure => simp [intOf]; omega
  · have hn0 : n = 0 := by omega
    subst hn0
    go_wp2
    go_loopw [5, 17] (fun o i wr => i = i64 0 ∧ o = i64 x0 ∧ wr = w) (fun _ _ _ => 0)
    case atStart => exact ⟨rfl, rfl, rfl⟩
    case round =>
      obtain ⟨rfl, rfl, hw⟩ := hrel
      have hw := hw.symm
      subst hw
      go_wp2
      go_ret
      exact ⟨ret_int (by rw [HO1.out]), rfl⟩
end Go.Proofs.YthbbfjfekchdiaaGreat
