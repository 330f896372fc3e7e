import Derived.Test.YthbbfjfekchdiaaXZFirst
import Derived.RangeFuncNested
import Derived.RangeFuncBound
import Derived.RangeFuncCalls
import Derived.RangeFuncLeaves
import Derived.Shelf.Abstract
import Derived.Shelf.RegionOpen
import Derived.WalkKit
import Derived.OwnWalkIn
import Derived.TacticsInMore
import Derived.LoopNIn
import Derived.LoopIn
/-
  A region that draws its order, in a round of a range over a function; slices.Backward.
-/
namespace Go.Proofs.Ythbbfjfekchdiaa
open Go.RowKit Go.Shelf
set_option linter.unusedSimpArgs false
attribute [local go_sem] Oper.semAt_some

def noDefer (o : Oper) : Bool := match o.op with | .defer _ => false | _ => true
theorem noDefer_spec {ops : Array Oper} (h : ops.all noDefer = true) {i : Nat} {o : Oper} (ho : ops[i]? = some o) (c : Call) : o.op ≠ .defer c := by
  intro e
  obtain ⟨hi, rfl⟩ := Array.getElem?_eq_some_iff.1 ho
  have h2 := (Array.all_eq_true.1 h) i hi
  unfold noDefer at h2
  rw [e] at h2
  cases h2
theorem wpOpIn_round {P : Program} {ops : Array Oper} {Q : Exit → Act → World → Prop} {i : Nat} {K : Act → World → Prop} {a : Act} {w : World} {l n : Nat}
    (hd : ops.all noDefer = true) (hQ : ¬ LetsOut Q) (h : wpOp P ops Q i K a w) : wpOpIn (Fence.wide.inRound l) n P ops Q i K a w := by
  unfold wpOp at h
  unfold wpOpIn
  cases ho : ops[i]? with
  | none => rw [ho] at h; exact h
  | some o =>
    simp only [ho] at h ⊢
    split
    · rename_i hw
      simp only [hw, if_true] at h
      rcases h with h | ⟨_, h⟩
      · refine ⟨fun _ _ => trivial, ?_⟩
        rw [show (Fence.wide.inRound l).round = some l from rfl, Oper.semAt_some l _ o (noDefer_spec hd ho)]
        unfold Oper.wp at h
        generalize (execOp a.eval o).run P w = r at h ⊢
        cases r with
        | ok x w' =>
          cases x <;> simp only [Oper.upon, Oper.uponIn] at h ⊢
          case value => exact h
          case skip => exact h
          case defer => exact h
          case enter f args =>
            refine ⟨fun x => ?_, CallsIn.inRound l (callsIn_wide.2 h)⟩
            cases x
          case row row args =>
            refine ⟨fun x => ?_, fun c cs _ => ?_⟩
            · cases x
            · obtain ⟨v, w2, r, s⟩ := h c cs
              exact ⟨v, w2, r, stepsIn_wide.2 s⟩
        | halt x w' => cases x <;> simp only [Oper.upon, Oper.uponIn] at h ⊢ <;> exact h
      · exact absurd h hQ
    · rename_i hw
      simp only [hw] at h
      exact ⟨fun _ _ => trivial, h⟩
theorem wpAnyIn_round {P : Program} {ops : Array Oper} {Q : Exit → Act → World → Prop} {md : Region.Mode} {l n : Nat} (hd : ops.all noDefer = true) (hQ : ¬ LetsOut Q) :
    ∀ (fuel : Nat) (listed : Array Bool) (a : Act) (w : World), wpAny P md ops Q fuel listed a w → wpAnyIn (Fence.wide.inRound l) n P md ops Q fuel listed a w
  | 0, _, _, _, h => h
  | fuel + 1, _, _, _, h => ⟨h.1, fun i hi => wpOpIn_round hd hQ (wpOp_mono (fun a w => wpAnyIn_round hd hQ fuel _ a w) (h.2 i hi))⟩
/-- a region that draws its order, in a round: as everywhere -/
theorem region_round {P : Program} {ops : Array Oper} {Q : Exit → Act → World → Prop} {S : World → Prop} {l n id : Nat} {a : Act} {w : World} (hm : P.follows .mixedOrders = true) (hd : ops.all noDefer = true) (hQ : ¬ LetsOut Q) (hS : S w.drew)
    (h : S w.drew → wpAnyH P .any ops Q S ops.size (Array.replicate ops.size false) a w.drew) : (Code.region id ops true).wpIn (Fence.wide.inRound l) n P Q a w :=
  wpIn_region_any hm (wpAnyIn_round hd hQ _ _ _ _ (wpAny_of_held _ _ _ _ (h hS)))

set_option maxHeartbeats 1000000 in
/-- slices.Backward(s): the slice is boxed; the function value captures the box -/
theorem zback_any (a : Option Addr) (len cap : Nat) (w : World) :
    Calls Try.prog 38 #[.slice a len cap] w fun e w' => e = .returned (.func (.func 55) #[] #[.pointer (some ⟨w.heap.size, 0, none⟩)]) ∧ w' = w.alloc (.cells #[.slice a len cap] 74) := by
  go_enter Try.func38, Try.ntmps38
  go_wp2
  go_ret
  exact ⟨rfl, rfl⟩

/-- the numbers from n - 1 down to k -/
def downs (n k : Nat) : List Nat := ((List.range n).drop k).reverse
theorem downs_self (n : Nat) : downs n n = [] := by unfold downs; simp
theorem downs_zero (n : Nat) : downs n 0 = (List.range n).reverse := by unfold downs; simp
theorem downs_pred {n k : Nat} (h : k < n) : downs n k = downs n (k + 1) ++ [k] := by
  unfold downs
  rw [List.drop_eq_getElem_cons (by simpa using h), List.reverse_cons]
  simp
theorem downs_len (n k : Nat) : (downs n k).length = n - k := by unfold downs; simp

set_option maxRecDepth 100000 in
set_option maxHeartbeats 2000000 in
/-- its closure: for every loop body that keeps the slice and the box -/
theorem zback1_in (n l Bs gl N cap : Nat) (sv : Nat → Int) (gv kv : Nat → Nat) (av : Nat → Value) (Kp : World → World → Prop) (hKt : ∀ {A B C : World}, Kp A B → Kp B C → Kp A C) (J Jx : List Nat → World → Prop)
    (hav : ∀ i, i < N → av i = .agg #[i64 (sv i), .slice (some ⟨gv i, 0, none⟩) (kv i) (kv i)])
    (hY : ∀ (pre : List Nat) (x : Nat) (W : World), J pre W → pre.length < N → YieldAt Fence.wide (n - 1) Try.prog l #[i64 (x : Int), av x] W fun e W' =>
      (e = .returned (.bool true) ∧ J (pre ++ [x]) W' ∧ Kp W W') ∨ (e = .returned (.bool false) ∧ Jx (pre ++ [x]) W'))
    (W : World) (hrd : ∀ wr, wr = W ∨ Kp W wr → wr.cell? ⟨Bs, 0, none⟩ = some (.slice (some ⟨gl, 0, none⟩) N cap) ∧ ∀ i, i < N → wr.cell? ⟨gl, i * 2, none⟩ = some (i64 (sv i)) ∧ wr.cell? ⟨gl, i * 2 + 1, none⟩ = some (.slice (some ⟨gv i, 0, none⟩) (kv i) (kv i)))
    (hN : N ≤ 4) (h0 : J [] W) :
    CallsIn Fence.wide n Try.prog 55 #[.func (.yield l) #[] #[], .pointer (some ⟨Bs, 0, none⟩)] W fun e W' => (∃ v, e = .returned v) ∧
      ((∃ ys, ys = (List.range N).reverse ∧ J ys W') ∨ (∃ pre : List Nat, True ∧ Jx pre W')) := by
  have HRD := hid hrd
  have x0 := (hrd W (.inl rfl)).1
  refine callsIn_of_wp Try.func55 rfl trivial ?_ rfl
  simp only [Try.ntmps55, List.size_toArray, List.length_cons, List.length_nil, Nat.reduceAdd, Nat.reduceSub, Array.replicate_succ, Array.replicate_zero, List.push_toArray, List.append_toArray, List.nil_append, List.cons_append]
  clear hrd
  gi_wp2
  clear x0
  gi_loopw [3] (fun i wr => ∃ k : Nat, k ≤ N ∧ i = i64 ((k : Int) - 1) ∧ J (downs N k) wr ∧ (wr = W ∨ Kp W wr)) (fun i _ => ((intOf i) + 1).toNat)
  case atStart => exact ⟨N, Nat.le_refl _, rfl, by rw [downs_self]; exact h0, .inl rfl⟩
  case round =>
    obtain ⟨k, hk, rfl, hJ, hK⟩ := hrel
    cases k with
    | zero =>
      rw [downs_zero] at hJ
      have HJ := hid hJ
      clear hK hJ
      gi_wp2
      go_end0
      exact ⟨⟨_, rfl⟩, .inl ⟨_, rfl, HJ.out⟩⟩
    | succ j =>
      obtain ⟨x0, xr⟩ := HRD.out wr hK
      obtain ⟨x1, x2⟩ := xr j (by omega)
      have hgz : gl < wr.heap.size := World.block_lt_of_cell? _ _ x1
      have ej : ((j + 1 : Nat) : Int) - 1 = (j : Int) := by omega
      rw [ej]
      have j0 : (0 : Int) ≤ (j : Int) := by omega
      have j1 : (j : Int) < (N : Int) := by omega
      obtain ⟨fn, tmps, assign, body, hy, hR⟩ := hY _ j wr hJ (by rw [downs_len]; omega)
      rw [hav j (by omega)] at hy
      have HK := hid hK
      clear xr ej hJ hK
      gi_wp2
      refine ⟨fun (x : (none : Option Nat).isSome = true) => absurd x (by decide), hR.mono ?_⟩
      rintro e W3 (⟨rfl, hJ3, hk3⟩ | ⟨rfl, hJx3⟩)
      · have HN := hid (show J (downs N j) W3 by rw [downs_pred (by omega)]; exact hJ3)
        have HK3 := hid (show W3 = W ∨ Kp W W3 from .inr (by
          rcases HK.out with h | h
          · rw [← h]; exact hk3
          · exact hKt h hk3))
        clear hJ3 hk3 x0 x1 x2
        gi_wp2
        go_roundw
        case rel => exact ⟨j, by omega, by go_num, HN.out, HK3.out⟩
        case measure => simp [intOf]
      · have HJX := hid hJx3
        clear hJx3 x0 x1 x2
        gi_wp2
        refine bodyPost_ret (results_none rfl _ _ _) rfl ?_
        exact ⟨⟨_, rfl⟩, .inr ⟨_, trivial, HJX.out⟩⟩
end Go.Proofs.Ythbbfjfekchdiaa
