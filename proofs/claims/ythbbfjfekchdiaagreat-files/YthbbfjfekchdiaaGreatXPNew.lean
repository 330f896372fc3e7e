import Derived.Test.YthbbfjfekchdiaaGreatXLeafWalks
import Derived.RegionTactic
import Derived.Laws.MakeOwn
namespace Go.Proofs.YthbbfjfekchdiaaGreat
open Go.RowKit

theorem Tryz.infoSlot : (Tryz.prog.info? 116).map (fun i => (i.zero, i.size, i.bytes)) = some (some (.agg #[.bool false, .int .i64 0, .int .i64 0]), 3, 24) := by kernel_rfl

set_option maxHeartbeats 1000000 in
theorem new_any (s k : Int) (w : World) (h0 : 1 ≤ k) (h1 : k ≤ 60) :
    Calls Tryz.prog 44 #[.agg #[i64 s, i64 k]] w fun e w' => ∃ ad, e = .returned (.agg #[i64 s, .slice ad k.toNat k.toNat]) ∧ Below w.heap.size w w' := by
  obtain ⟨i0, hi, hz0, hz1, hz2⟩ := info_parts Tryz.infoSlot
  have hmk := fun (w : World) => run_makeSlice (P := Tryz.prog) w 92 116 i0 _ Tryz.underlying92 hi hz0 .i64 .i64 k k (by omega) (by omega) (by rw [hz1]; omega) (by rw [hz2]; omega) (by omega)
  go_enter Tryz.func44, Tryz.ntmps44
  go_wp2
  go_region
  all_goals go_wp2
  all_goals
    refine bodyPost_ret (v := .agg #[i64 s, .slice (some ⟨w.heap.size + 1 + 1, 0, none⟩) k.toNat k.toNat]) (by simp [results, Tryz.results44, go_sem]) rfl ⟨_, rfl, ?_⟩
    exact ((((Below.refl _ _).alloc (Nat.le_refl _) _).alloc (by simp) _).alloc (by simp; omega) _).drew
end Go.Proofs.YthbbfjfekchdiaaGreat
