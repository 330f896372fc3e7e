import Derived.Test.YthbbfjfekchdiaaGreatXRCheck
import Derived.Test.YthbbfjfekchdiaaGreatXRFetch
import Derived.Test.YthbbfjfekchdiaaGreatXCGood0
import Derived.Test.YthbbfjfekchdiaaGreatXRHas
import Derived.Laws.MakeOwn
namespace Go.Proofs.YthbbfjfekchdiaaGreat
open Go.RowKit
set_option linter.unusedSimpArgs false
attribute [local go_sem] Go.wp_at_zero Go.wp_at_succ
theorem rcheck_any (c : Cfg) (w : World) :
    Calls Tryz.prog 19 #[.agg c.cells] w fun e w' => e = .returned (i64 c.err) ∧ Below w.heap.size w w' := by
  by_cases h : c.Mf
  · exact rcheck_yes c w h
  · exact rcheck_no c w h
theorem Tryz.infoPoints : (Tryz.prog.info? 41).map (fun i => (i.zero, i.size, i.bytes)) = some (some (.slice none 0 0), 1, 24) := by kernel_rfl
set_option maxHeartbeats 1000000 in
theorem rcreate_no (c : Cfg) (w : World) (h : ¬ c.Ok) :
    Calls Tryz.prog 23 #[.agg c.cells] w fun e w' => e = .returned (.pointer none) ∧ Below w.heap.size w w' := by
  show Calls Tryz.prog 23 #[.agg #[i64 c.s0, i64 c.k0, i64 c.s1, i64 c.k1, i64 c.s2, i64 c.k2, i64 c.s3, i64 c.k3, i64 c.m, i64 c.f]] w _
  have he := c.err_no h
  clear h
  go_enter Tryz.func23, Tryz.ntmps23
  go_wp2_with (go_at_call 19; refine (rcheck_any c _).mono ?_; rintro e w' ⟨rfl, hb⟩)
  go_ret
  exact ⟨rfl, below_one hb⟩
end Go.Proofs.YthbbfjfekchdiaaGreat
