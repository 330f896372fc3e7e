import Derived.Test.YthbbfjfekchdiaaGreatXWCreated
import Derived.Deep.QuietTactic
import Derived.BigQuiet
namespace Go.Proofs.YthbbfjfekchdiaaGreat
open Go.RowKit
set_option linter.unusedSimpArgs false
attribute [local go_sem] Go.wp_at_zero Go.wp_at_succ

/-- which of n things a raw number speaks of -/
def pickN (x : Int) (n : Nat) : Nat := ((if x < 0 then -(x + 1) else x) % (n : Int)).toNat
theorem pickN_lt (x : Int) {n : Nat} (h : 1 ≤ n) : pickN x n < n := by
  unfold pickN
  have := Int.emod_lt_of_pos (if x < 0 then -(x + 1) else x) (show (0 : Int) < n by omega)
  have := Int.emod_nonneg (if x < 0 then -(x + 1) else x) (show (n : Int) ≠ 0 by omega)
  omega
theorem pickN_neg {x : Int} {n : Nat} (h : 1 ≤ n) (hx : x < 0) : ((pickN x n : Nat) : Int) = (-(x + 1)) % (n : Int) := by
  unfold pickN
  rw [if_pos hx]
  exact Int.toNat_of_nonneg (Int.emod_nonneg _ (by omega))
theorem pickN_pos {x : Int} {n : Nat} (h : 1 ≤ n) (hx : ¬ x < 0) : ((pickN x n : Nat) : Int) = x % (n : Int) := by
  unfold pickN
  rw [if_neg hx]
  exact Int.toNat_of_nonneg (Int.emod_nonneg _ (by omega))

set_option maxHeartbeats 1000000 in
theorem pick_any (x : Int) (n : Nat) (w : World) (h : 1 ≤ n) (hn : n ≤ 9223372036854775807) (h1 : -9223372036854775808 ≤ x) (h2 : x ≤ 9223372036854775807) :
    Calls Tryz.prog 17 #[i64 x, i64 n] w fun e w' => e = .returned (i64 (pickN x n)) ∧ w' = w := by
  by_cases hx : x < 0
  · have HP := hid (pickN_neg h hx)
    go_enter Tryz.func17, Tryz.ntmps17
    go_wp2
    go_ret
    exact ⟨ret_int (by rw [HP.out, ← Int.tmod_eq_emod_of_nonneg (by omega), Int.neg_tmod]), rfl⟩
  · have HP := hid (pickN_pos h hx)
    go_enter Tryz.func17, Tryz.ntmps17
    go_wp2
    go_ret
    exact ⟨ret_int (by rw [HP.out]), rfl⟩

theorem eq_arr (c : Cfg) (w : World) : (Op.equalIn 9999 38 (.agg #[i64 c.s0, i64 c.k0, i64 c.s1, i64 c.k1, i64 c.s2, i64 c.k2, i64 c.s3, i64 c.k3]) (.agg #[i64 c.s0, i64 c.k0, i64 c.s1, i64 c.k1, i64 c.s2, i64 c.k2, i64 c.s3, i64 c.k3])).run Tryz.prog w = .ok true w := by
  rw [show (9999 : Nat) = 9998 + 1 from rfl, Op.equalIn]
  simp only [Sem.run_bind, run_underlying Tryz.underlying38, Result.andThen_ok]
  simp only [Std.Legacy.Range.forIn_eq_forIn_range', Std.Legacy.Range.size, Nat.sub_zero, Nat.add_sub_cancel, Nat.div_one, List.range'_succ, List.range'_zero, List.forIn_cons, List.forIn_nil]
  go_simp

set_option maxHeartbeats 2000000 in
theorem asked_config (kd oa ob od oe : Int) (c : Cfg) (la : Option Addr) (ln lc : Nat) (ss : ByteArray) (B d r : Nat) (c' : Cfg) (w : World) (hk : kd = 3) (hok : c'.Ok) (hd : RepD w d c') (hr : RepR w r c') :
    Calls Tryz.prog 16 #[.pointer (some ⟨B, 0, none⟩), .agg #[.pointer (some ⟨d, 0, none⟩), .pointer (some ⟨r, 0, none⟩)], (.agg #[i64 kd, i64 oa, i64 ob, i64 od, i64 oe, i64 c.s0, i64 c.k0, i64 c.s1, i64 c.k1, i64 c.s2, i64 c.k2, i64 c.s3, i64 c.k3, i64 c.m, i64 c.f, .slice la ln lc, .string ss])] w fun e w' => e = .returned (.bool true) ∧ Below w.heap.size w w' := by
  subst hk
  have HD := hid hd
  have HR := hid hr
  have HK := hid hok
  clear hd hr hok
  go_enter Tryz.func16, Tryz.ntmps16
  go_wp2_with fail
  have kb := fun (o1 o2 : Obj) => ((Below.refl w.heap.size w).alloc (Nat.le_refl _) o1).alloc (by simp) o2
  refine (config_any c' d _ HK.out (HD.out.keep (Keep.below (kb _ _)))).mono ?_
  rintro e w1 ⟨rfl, hb1⟩
  obtain ⟨u, hru⟩ := (HR.out.keep (Keep.below (kb _ _))).keep (Keep.below hb1)
  have q1 : w1.cell? ⟨w.heap.size, 1, none⟩ = some (.pointer (some ⟨r, 0, none⟩)) := cell_later hb1 (by simp)
  have r0 : w1.cell? ⟨r, 0, none⟩ = some (i64 c'.s0) := cell_of_blk hru 0
  have r1 : w1.cell? ⟨r, 1, none⟩ = some (i64 c'.k0) := cell_of_blk hru 1
  have r2 : w1.cell? ⟨r, 2, none⟩ = some (i64 c'.s1) := cell_of_blk hru 2
  have r3 : w1.cell? ⟨r, 3, none⟩ = some (i64 c'.k1) := cell_of_blk hru 3
  have r4 : w1.cell? ⟨r, 4, none⟩ = some (i64 c'.s2) := cell_of_blk hru 4
  have r5 : w1.cell? ⟨r, 5, none⟩ = some (i64 c'.k2) := cell_of_blk hru 5
  have r6 : w1.cell? ⟨r, 6, none⟩ = some (i64 c'.s3) := cell_of_blk hru 6
  have r7 : w1.cell? ⟨r, 7, none⟩ = some (i64 c'.k3) := cell_of_blk hru 7
  have r8 : w1.cell? ⟨r, 8, none⟩ = some (i64 c'.m) := cell_of_blk hru 8
  have r9 : w1.cell? ⟨r, 9, none⟩ = some (i64 c'.f) := cell_of_blk hru 9
  have hz1 : w.heap.size + 1 < w1.heap.size := by have := hb1.size; simp at this; omega
  have hz0 : r < w1.heap.size := blk_lt hru
  have hz2 : w.heap.size < w1.heap.size := by omega
  have HB := hid (show Below w.heap.size w w1 from (kb _ _).trans (hb1.mono (by simp; omega)))
  clear hb1 kb hru
  go_wp2_with fail
  have ea := eq_arr c'
  go_quiet (fail)
  go_wp2
  go_ret
  exact ⟨by simp, below_drewN (HB.out.alloc (by omega) _) _⟩
end Go.Proofs.YthbbfjfekchdiaaGreat
