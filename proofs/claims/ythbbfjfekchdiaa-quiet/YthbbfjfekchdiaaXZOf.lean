import Derived.Test.YthbbfjfekchdiaaXZBest
/-
  The program: the six methods.
-/
namespace Go.Proofs.Ythbbfjfekchdiaa
open Go.RowKit
set_option linter.unusedSimpArgs false

theorem makes_last {l : List Int} {n : Nat} {x : Int} (hn : l.length = n + 1) (hx : l[n]? = some x) : makesI 3 l = x := by
  unfold makesI
  rw [if_neg (by decide), if_neg (by decide), hn, outTo_succ hx]
  rfl

set_option maxHeartbeats 2000000 in
theorem zof_1 (b cap : Nat) (l : List Int) (w : World) (hr : RowJ w b l) (hl : l.length ≤ 1000) (hv : ∀ v ∈ l, VIn v) (hne : l ≠ []) :
    Calls Try.prog 102 #[.agg #[], .slice (some ⟨b, 0, none⟩) l.length cap] w fun e w' => e = .returned (i64 (makesI 1 l)) ∧ Below w.heap.size w w' := by
  have HM := hid (show makesI 1 l = sumTo l l.length / (l.length : Int) by unfold makesI; rw [if_pos rfl])
  have hal := fun (o : Obj) => (Below.refl w.heap.size w).alloc (Nat.le_refl _) o
  have HT := hid (fun (o : Obj) => ztotal_any b cap l (w.alloc o) (hr.below (hal o)) hl hv)
  have hs := sumTo_in hv l.length (Nat.le_refl _)
  have HAL := hid hal
  have hl0 : 1 ≤ l.length := by cases l with | nil => exact absurd rfl hne | cons a l => simp
  obtain ⟨T, hT⟩ : ∃ T, T = sumTo l l.length := ⟨_, rfl⟩
  rw [← hT] at HT HM hs
  have T0 : -1000000000000 ≤ T := by omega
  have T1 : T ≤ 1000000000000 := by omega
  have HD := hid (fun (w : World) => zdivide_any T (l.length : Int) w T0 T1 (by omega) (by omega))
  have hd0 : ((l.length : Int) == 0) = false := beq_eq_false_iff_ne.2 (by omega)
  clear hT hs hr hv hne hal
  go_enter Try.func102, Try.ntmps102
  go_wp2_with fail
  refine (HT.out _).mono ?_
  rintro e w1 ⟨rfl, rfl⟩
  go_wp2_with fail
  refine (HD.out _).mono ?_
  rintro e w2 ⟨rfl, rfl⟩
  go_wp2
  go_ret
  exact ⟨ret_int (by rw [HM.out]), HAL.out _⟩

set_option maxHeartbeats 2000000 in
theorem zof_2 (b cap : Nat) (l : List Int) (w : World) (hr : RowJ w b l) (hl : l.length ≤ 1000) (hv : ∀ v ∈ l, VIn v) :
    Calls Try.prog 105 #[.agg #[], .slice (some ⟨b, 0, none⟩) l.length cap] w fun e w' => e = .returned (i64 (makesI 2 l)) ∧ Below w.heap.size w w' := by
  have HM := hid (show makesI 2 l = cutI (sumTo l l.length) by unfold makesI; rw [if_neg (by decide), if_pos rfl])
  have hal := fun (o : Obj) => (Below.refl w.heap.size w).alloc (Nat.le_refl _) o
  have HT := hid (fun (o : Obj) => ztotal_any b cap l (w.alloc o) (hr.below (hal o)) hl hv)
  have HAL := hid hal
  obtain ⟨T, hT⟩ : ∃ T, T = sumTo l l.length := ⟨_, rfl⟩
  rw [← hT] at HT HM
  have HC := hid (show cutI T = max (-1000000000) (min 1000000000 T) from rfl)
  clear hT hr hv hal
  go_enter Try.func105, Try.ntmps105
  go_wp2_with fail
  refine (HT.out _).mono ?_
  rintro e w1 ⟨rfl, rfl⟩
  go_wp2
  all_goals go_ret
  all_goals exact ⟨ret_int (by rw [HM.out, HC.out]; omega), HAL.out _⟩

set_option maxHeartbeats 2000000 in
theorem zof_3 (b cap : Nat) (l : List Int) (w : World) (hr : RowJ w b l) (hl : l.length ≤ 1000) (hne : l ≠ []) :
    Calls Try.prog 106 #[.agg #[], .slice (some ⟨b, 0, none⟩) l.length cap] w fun e w' => e = .returned (i64 (makesI 3 l)) ∧ Below w.heap.size w w' := by
  have hl0 : 1 ≤ l.length := by cases l with | nil => exact absurd rfl hne | cons a l => simp
  obtain ⟨n, hn⟩ : ∃ n, l.length = n + 1 := ⟨l.length - 1, by omega⟩
  obtain ⟨x, hx⟩ : ∃ x, l[n]? = some x := ⟨_, List.getElem?_eq_getElem (by omega)⟩
  have HM := hid (makes_last hn hx)
  have x0 : w.cell? ⟨b, n, none⟩ = some (i64 x) := hr.2 n x hx
  have hbz := hr.1
  rw [hn] at hl ⊢
  have hd0 : ((n : Int) + 1 == 0) = false := beq_eq_false_iff_ne.2 (by omega)
  have n0 : (0 : Int) ≤ (n : Int) := by omega
  have n1 : (n : Int) < (n : Int) + 1 := by omega
  clear hr hne hn hl0 hx
  go_enter Try.func106, Try.ntmps106
  go_wp2
  go_ret
  exact ⟨ret_int (by rw [HM.out]), (Below.refl _ _).alloc (Nat.le_refl _) _⟩

set_option maxHeartbeats 2000000 in
theorem zof_4 (b cap : Nat) (l : List Int) (w : World) (hr : RowJ w b l) (hl : l.length ≤ 1000) (hv : ∀ v ∈ l, VIn v) (hne : l ≠ []) (hcap : l.length ≤ cap) :
    Calls Try.prog 107 #[.agg #[], .slice (some ⟨b, 0, none⟩) l.length cap] w fun e w' => e = .returned (i64 (makesI 4 l)) ∧ Below w.heap.size w w' := by
  have HM := hid (show makesI 4 l = outTo 4 l l.length by unfold makesI; rw [if_neg (by decide), if_neg (by decide)])
  have hal := fun (o : Obj) => (Below.refl w.heap.size w).alloc (Nat.le_refl _) o
  have HT := hid (fun (o : Obj) => zbest_4 b cap l (w.alloc o) (hr.below (hal o)) hl hv hne hcap)
  have HAL := hid hal
  clear hr hv hne hal
  go_enter Try.func107, Try.ntmps107
  go_wp2_with fail
  refine (HT.out _).mono ?_
  rintro e w1 ⟨rfl, rfl⟩
  go_wp2
  go_ret
  exact ⟨ret_int (by rw [HM.out]), HAL.out _⟩
set_option maxHeartbeats 2000000 in
theorem zof_5 (b cap : Nat) (l : List Int) (w : World) (hr : RowJ w b l) (hl : l.length ≤ 1000) (hv : ∀ v ∈ l, VIn v) (hne : l ≠ []) (hcap : l.length ≤ cap) :
    Calls Try.prog 110 #[.agg #[], .slice (some ⟨b, 0, none⟩) l.length cap] w fun e w' => e = .returned (i64 (makesI 5 l)) ∧ Below w.heap.size w w' := by
  have HM := hid (show makesI 5 l = outTo 5 l l.length by unfold makesI; rw [if_neg (by decide), if_neg (by decide)])
  have hal := fun (o : Obj) => (Below.refl w.heap.size w).alloc (Nat.le_refl _) o
  have HT := hid (fun (o : Obj) => zbest_5 b cap l (w.alloc o) (hr.below (hal o)) hl hv hne hcap)
  have HAL := hid hal
  clear hr hv hne hal
  go_enter Try.func110, Try.ntmps110
  go_wp2_with fail
  refine (HT.out _).mono ?_
  rintro e w1 ⟨rfl, rfl⟩
  go_wp2
  go_ret
  exact ⟨ret_int (by rw [HM.out]), HAL.out _⟩
set_option maxHeartbeats 2000000 in
theorem zof_6 (b cap : Nat) (l : List Int) (w : World) (hr : RowJ w b l) (hl : l.length ≤ 1000) (hv : ∀ v ∈ l, VIn v) (hne : l ≠ []) (hcap : l.length ≤ cap) :
    Calls Try.prog 112 #[.agg #[], .slice (some ⟨b, 0, none⟩) l.length cap] w fun e w' => e = .returned (i64 (makesI 6 l)) ∧ Below w.heap.size w w' := by
  have HM := hid (show makesI 6 l = outTo 6 l l.length by unfold makesI; rw [if_neg (by decide), if_neg (by decide)])
  have hal := fun (o : Obj) => (Below.refl w.heap.size w).alloc (Nat.le_refl _) o
  have HT := hid (fun (o : Obj) => zbest_6 b cap l (w.alloc o) (hr.below (hal o)) hl hv hne hcap)
  have HAL := hid hal
  clear hr hv hne hal
  go_enter Try.func112, Try.ntmps112
  go_wp2_with fail
  refine (HT.out _).mono ?_
  rintro e w1 ⟨rfl, rfl⟩
  go_wp2
  go_ret
  exact ⟨ret_int (by rw [HM.out]), HAL.out _⟩

theorem zmeth_1 (n : Nat) (w : World) : (method (n + 1) 112 (.agg #[]) "Of").run Try.prog w = .ok (102, .agg #[]) w := by kernel_rfl
theorem zmeth_2 (n : Nat) (w : World) : (method (n + 1) 113 (.agg #[]) "Of").run Try.prog w = .ok (105, .agg #[]) w := by kernel_rfl
theorem zmeth_3 (n : Nat) (w : World) : (method (n + 1) 114 (.agg #[]) "Of").run Try.prog w = .ok (106, .agg #[]) w := by kernel_rfl
theorem zmeth_4 (n : Nat) (w : World) : (method (n + 1) 115 (.agg #[]) "Of").run Try.prog w = .ok (107, .agg #[]) w := by kernel_rfl
theorem zmeth_5 (n : Nat) (w : World) : (method (n + 1) 116 (.agg #[]) "Of").run Try.prog w = .ok (110, .agg #[]) w := by kernel_rfl
theorem zmeth_6 (n : Nat) (w : World) : (method (n + 1) 117 (.agg #[]) "Of").run Try.prog w = .ok (112, .agg #[]) w := by kernel_rfl
end Go.Proofs.Ythbbfjfekchdiaa
