import Derived.Test.YthbbfjfekchdiaaXLeafWalks
import Derived.RegionTactic
import Derived.Laws.MakeOwn
namespace Go.Proofs.Ythbbfjfekchdiaa
open Go.RowKit

theorem Try.infoSlot : (Try.prog.info? 90).map (fun i => (i.zero, i.size, i.bytes)) = some (some (.agg #[.bool false, .int .i64 0, .int .i64 0]), 3, 24) := by kernel_rfl

set_option maxHeartbeats 1000000 in
theorem new_any (s k : Int) (w : World) (h0 : 1 ≤ k) (h1 : k ≤ 60) :
    Calls Try.prog 42 #[.agg #[i64 s, i64 k]] w fun e w' => ∃ ad, e = .returned (.agg #[i64 s, .slice ad k.toNat k.toNat]) ∧ Below w.heap.size w w' := by
  obtain ⟨i0, hi, hz0, hz1, hz2⟩ := info_parts Try.infoSlot
  have hmk := fun (w : World) => run_makeSlice (P := Try.prog) w 79 90 i0 _ Try.underlying79 hi hz0 .i64 .i64 k k (by omega) (by omega) (by rw [hz1]; omega) (by rw [hz2]; omega) (by omega)
  go_enter Try.func42, Try.ntmps42
  go_wp2
  go_region
  all_goals go_wp2
  all_goals
    refine bodyPost_ret (v := .agg #[i64 s, .slice (some ⟨w.heap.size + 1 + 1, 0, none⟩) k.toNat k.toNat]) (by simp [results, Try.results42, go_sem]) rfl ⟨_, rfl, ?_⟩
    exact ((((Below.refl _ _).alloc (Nat.le_refl _) _).alloc (by simp) _).alloc (by simp; omega) _).drew
end Go.Proofs.Ythbbfjfekchdiaa
