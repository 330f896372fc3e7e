import Derived.Test.YthbbfjfekchdiaaGreatXLeafWalks
import Derived.WalkSpells
namespace Go.Proofs.YthbbfjfekchdiaaGreat
open Go.RowKit
set_option linter.unusedSimpArgs false

/-- which of n things a raw number speaks of -/
def pickM (x : Int) (n : Nat) : Nat := ((if x < 0 then -(x + 1) else x) % (n : Int)).toNat
theorem pickM_lt (x : Int) {n : Nat} (h : 1 ≤ n) : pickM x n < n := by
  unfold pickM
  have := Int.emod_lt_of_pos (if x < 0 then -(x + 1) else x) (show (0 : Int) < n by omega)
  have := Int.emod_nonneg (if x < 0 then -(x + 1) else x) (show (n : Int) ≠ 0 by omega)
  omega
theorem pickM_neg {x : Int} {n : Nat} (h : 1 ≤ n) (hx : x < 0) : ((pickM x n : Nat) : Int) = (-(x + 1)) % (n : Int) := by
  unfold pickM
  rw [if_pos hx]
  exact Int.toNat_of_nonneg (Int.emod_nonneg _ (by omega))
theorem pickM_pos {x : Int} {n : Nat} (h : 1 ≤ n) (hx : ¬ x < 0) : ((pickM x n : Nat) : Int) = x % (n : Int) := by
  unfold pickM
  rw [if_neg hx]
  exact Int.toNat_of_nonneg (Int.emod_nonneg _ (by omega))
theorem ret_int2 {a b : Int} (h : a = b) : Ending.returned (Value.int .i64 a) = .returned (i64 b) := by rw [h]

set_option maxHeartbeats 1000000 in
theorem pick2_any (x : Int) (n : Nat) (w : World) (h : 1 ≤ n) (hn : n ≤ 9223372036854775807) (h1 : -9223372036854775808 ≤ x) (h2 : x ≤ 9223372036854775807) :
    Calls Tryz.prog 17 #[i64 x, i64 n] w fun e w' => e = .returned (i64 (pickM x n)) ∧ w' = w := by
  by_cases hx : x < 0
  · have HP := hid (pickM_neg h hx)
    go_enter Tryz.func17, Tryz.ntmps17
    go_wp2
    go_ret
    exact ⟨ret_int2 (by rw [HP.out, ← Int.tmod_eq_emod_of_nonneg (by omega), Int.neg_tmod]), rfl⟩
  · have HP := hid (pickM_pos h hx)
    go_enter Tryz.func17, Tryz.ntmps17
    go_wp2
    go_ret
    exact ⟨ret_int2 (by rw [HP.out]), rfl⟩
end Go.Proofs.YthbbfjfekchdiaaGreat
