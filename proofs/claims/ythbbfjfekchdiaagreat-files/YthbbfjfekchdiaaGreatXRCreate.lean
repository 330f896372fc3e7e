import Derived.Test.YthbbfjfekchdiaaGreatXRCheck
import Derived.Test.YthbbfjfekchdiaaGreatXRFetch
import Derived.Test.YthbbfjfekchdiaaGreatXCGood0
import Derived.Test.YthbbfjfekchdiaaGreatXRHas
import Derived.Laws.MakeOwn
namespace Go.Proofs.YthbbfjfekchdiaaGreat
open Go.RowKit
set_option linter.unusedSimpArgs false
attribute [local go_sem] Go.wp_at_zero Go.wp_at_succ

theorem rcheck_any (c : Cfg) (w : World) :
    Calls Tryz.prog 19 #[.agg c.cells] w fun e w' => e = .returned (i64 c.err) ∧ Below w.heap.size w w' := by
  by_cases h : c.Mf
  · exact rcheck_yes c w h
  · exact rcheck_no c w h

/-- a database of the document's: made with this configuration -/
def RepR (w : World) (p : Nat) (c : Cfg) : Prop :=
  ∃ u, w.heap[p]? = some (.cells #[i64 c.s0, i64 c.k0, i64 c.s1, i64 c.k1, i64 c.s2, i64 c.k2, i64 c.s3, i64 c.k3, i64 c.m, i64 c.f, u] 70)

theorem Tryz.infoPoints : (Tryz.prog.info? 41).map (fun i => (i.zero, i.size, i.bytes)) = some (some (.slice none 0 0), 1, 24) := by kernel_rfl

set_option maxHeartbeats 1000000 in
theorem rcreate_no (c : Cfg) (w : World) (h : ¬ c.Ok) :
    Calls Tryz.prog 23 #[.agg c.cells] w fun e w' => e = .returned (.pointer none) ∧ Below w.heap.size w w' := by
  show Calls Tryz.prog 23 #[.agg #[i64 c.s0, i64 c.k0, i64 c.s1, i64 c.k1, i64 c.s2, i64 c.k2, i64 c.s3, i64 c.k3, i64 c.m, i64 c.f]] w _
  have he := c.err_no h
  clear h
  go_enter Tryz.func23, Tryz.ntmps23
  go_wp2_with (go_at_call 19; refine (rcheck_any c _).mono ?_; rintro e w' ⟨rfl, hb⟩)
  go_ret
  exact ⟨rfl, below_one hb⟩

set_option maxHeartbeats 1000000 in
theorem rcreate_yes (c : Cfg) (w : World) (h : c.Ok) :
    Calls Tryz.prog 23 #[.agg c.cells] w fun e w' => ∃ p, e = .returned (.pointer (some ⟨p, 0, none⟩)) ∧ Below w.heap.size w w' ∧ RepR w' p c := by
  show Calls Tryz.prog 23 #[.agg #[i64 c.s0, i64 c.k0, i64 c.s1, i64 c.k1, i64 c.s2, i64 c.k2, i64 c.s3, i64 c.k3, i64 c.m, i64 c.f]] w _
  have he := c.err_ok h
  have h4 := c.many_le
  obtain ⟨i0, hi, hz0, hz1, hz2⟩ := info_parts Tryz.infoPoints
  have hmk : ∀ w : World, (Instr.makeSlice 31 (.int .i64 (c.many : Int)) (.int .i64 (c.many : Int))).run Tryz.prog w = .ok (.slice (some ⟨w.heap.size, 0, none⟩) c.many c.many) (w.alloc (.cells (madeCells #[.slice none 0 0] (c.many * i0.size)) 41)) := by
    intro w
    have := run_makeSlice (P := Tryz.prog) w 31 41 i0 _ Tryz.underlying31 hi hz0 .i64 .i64 c.many c.many (by omega) (by omega) (by rw [hz1]; simp; omega) (by rw [hz2]; omega) (by omega)
    simp only [Int.toNat_natCast] at this
    exact this
  clear h hi hz0 hz1 hz2
  go_enter Tryz.func23, Tryz.ntmps23
  go_wp2_with (go_at_call 19; refine (rcheck_any c _).mono ?_; rintro e w1 ⟨rfl, hb⟩; have HB := hid (below_one hb); obtain ⟨c0, c1, c2, c3, c4, c5, c6, c7, c8, c9⟩ := (box_new w c).later hb; have hz : w.heap.size < w1.heap.size := (by have := hb.size; simp at this; omega); clear hb)
  go_region_held3 (fun w' => w'.cell? ⟨w.heap.size, 0, none⟩ = some (i64 c.s0) ∧ w'.cell? ⟨w.heap.size, 1, none⟩ = some (i64 c.k0) ∧ w'.cell? ⟨w.heap.size, 2, none⟩ = some (i64 c.s1) ∧ w'.cell? ⟨w.heap.size, 3, none⟩ = some (i64 c.k1) ∧ w'.cell? ⟨w.heap.size, 4, none⟩ = some (i64 c.s2) ∧ w'.cell? ⟨w.heap.size, 5, none⟩ = some (i64 c.k2) ∧ w'.cell? ⟨w.heap.size, 6, none⟩ = some (i64 c.s3) ∧ w'.cell? ⟨w.heap.size, 7, none⟩ = some (i64 c.k3) ∧ w'.cell? ⟨w.heap.size, 8, none⟩ = some (i64 c.m) ∧ w'.cell? ⟨w.heap.size, 9, none⟩ = some (i64 c.f)) (first | go_keep | (refine ⟨?_, ?_, ?_, ?_, ?_, ?_, ?_, ?_, ?_, ?_⟩ <;> exact cell_later hb2 (by simp [*]))) ((go_at_call 39; refine (many_any c _).mono ?_; rintro e w2 ⟨rfl, hb2⟩))
  go_wp2
  go_ret
  have hb3 : Below w1.heap.size w1 w2 := (Below.refl w1.heap.size w1).drew.trans hb2
  have hz3 := hb3.size
  have hB : Below w.heap.size w w2 := HB.out.trans (hb3.mono (by omega))
  refine ⟨w2.heap.size + 1, rfl, ?_, .slice (some ⟨w2.heap.size, 0, none⟩) c.many c.many, ?_⟩
  · exact (hB.alloc (by omega) _).alloc (by simp; omega) _
  have e : (w2.alloc (.cells (madeCells #[.slice none 0 0] (c.many * i0.size)) 41)).heap.size = w2.heap.size + 1 := by simp
  have r := blk_new (w2.alloc (.cells (madeCells #[.slice none 0 0] (c.many * i0.size)) 41)) (.cells #[i64 c.s0, i64 c.k0, i64 c.s1, i64 c.k1, i64 c.s2, i64 c.k2, i64 c.s3, i64 c.k3, i64 c.m, i64 c.f, .slice (some ⟨w2.heap.size, 0, none⟩) c.many c.many] 70)
  rw [e] at r
  exact r
end Go.Proofs.YthbbfjfekchdiaaGreat
