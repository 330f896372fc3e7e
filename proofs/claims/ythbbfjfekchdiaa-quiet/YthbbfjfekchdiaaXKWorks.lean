import Derived.Test.YthbbfjfekchdiaaXZLeaf
import Derived.Deep.DeepCutAuto
/-
  sundialkeep's 'works': what must be in any case, out of the program's contracts.
-/
namespace Go.Proofs.Ythbbfjfekchdiaa
open Go.RowKit
set_option linter.unusedSimpArgs false

def wC : Cfg := ⟨1, 2, 2, 5, 0, 0, 0, 0, 2, 0⟩
def wL : List Pt := [(6, 3), (7, 4)]
theorem wC_ok : wC.Ok := by decide
theorem w_err : updErr wC 7 wL = (0, 0) := by decide
theorem w_e1 : fetchErr wC 7 6 7 = 0 := by decide
theorem w_e2 : fetchErr wC 7 0 7 = 0 := by decide
theorem w_p1 : serP (updR (RDb.new wC) 7 wL) 7 6 7 = [(6, 3), (7, 4)] := by decide
theorem w_p2 : serP (updR (RDb.new wC) 7 wL) 7 0 7 = [(6, 7)] := by decide
theorem w_a2 : serA (updR (RDb.new wC) 7 wL) 7 0 7 = 1 := by decide
theorem new_okW : (RDb.new wC).Ok := by
  refine ⟨wC_ok, by decide, fun i l hl => ?_, fun i l hl => ?_⟩
  · have : l = [] := (List.mem_replicate.1 (List.mem_iff_getElem?.2 ⟨i, hl⟩)).2
    subst this
    exact ⟨fun q hq => by simp at hq, by simp⟩
  · have : l = [] := (List.mem_replicate.1 (List.mem_iff_getElem?.2 ⟨i, hl⟩)).2
    subst this
    simp
/-- a row of points that is not empty: its cells -/
theorem row_cells {w : World} {base : Nat} {v : Value} {q : Pt} {l : List Pt} (h : w.ownsRow base 39 2 v (q :: l).length (ptCells (q :: l))) : ∃ g cap, v = .slice (some ⟨g, 0, none⟩) (q :: l).length cap ∧ g < w.heap.size ∧ w.cell? ⟨g, 0, none⟩ = some (i64 q.1) ∧ w.cell? ⟨g, 1, none⟩ = some (i64 q.2) := by
  obtain ⟨g, cap, cur, hv, _, hg, ht, hs⟩ := owns_block h (by simp)
  refine ⟨g, cap, hv, blk_lt hg, ?_, ?_⟩
  · have := src_cells hg ht 0 (i64 q.1) rfl
    exact this
  · have := src_cells hg ht 1 (i64 q.2) rfl
    exact this

set_option maxRecDepth 4000 in
set_option maxHeartbeats 4000000 in
theorem works_any {R : Rep} (H : ProgOk R) (w : World) : Calls Try.prog 24 #[] w fun e w' => e = .returned (.bool true) ∧ Below w.heap.size w w' := by
  go_enter Try.func24, Try.ntmps24
  go_wp2_with fail
  refine (H.create wC _ wC_ok).mono ?_
  rintro e w1 ⟨pd, rfl, hb1, hR1⟩
  have HB1 := hid (below_one hb1)
  have HR1 := hid (H.lim hR1)
  have hz1 : w.heap.size < w1.heap.size := by have := hb1.size; simp at this; omega
  clear hb1 hR1
  go_wp2_with fail
  have hal := (Below.refl w1.heap.size w1).alloc (Nat.le_refl _) (.cells #[i64 6, i64 3, i64 7, i64 4] 39)
  refine (H.update pd 7 (.slice (some ⟨w1.heap.size, 0, none⟩) 2 2) wL (RDb.new wC) _ _ (H.fr HR1.out (Fr.below (In := fun _ => False) hal) (fun _ _ x => x)) new_okW ?_ ?_ (by decide)).mono ?_
  · refine ⟨some ⟨w1.heap.size, 0, none⟩, 2, rfl, fun j q hj => ⟨w1.heap.size, 0, rfl, ?_⟩⟩
    have hj2 : j < 2 := by obtain ⟨x, _⟩ := List.getElem?_eq_some_iff.1 hj; simpa [wL] using x
    have hc : ∀ o, (w1.alloc (.cells #[i64 6, i64 3, i64 7, i64 4] 39)).cell? ⟨w1.heap.size, o, none⟩ = #[i64 6, i64 3, i64 7, i64 4][o]? := fun o => cell_of_blk (blk_new w1 _) o
    have h2 : j = 0 ∨ j = 1 := by omega
    rcases h2 with rfl | rfl <;> (simp [wL] at hj; subst hj; exact ⟨by rw [hc]; rfl, by rw [hc]; rfl⟩)
  · intro a n c e hn hx
    cases e
    exact absurd hx.2 (by simp)
  rintro e w2 ⟨rfl, hR2, hf2⟩
  have HR2 := hid hR2
  have HOK2 := hid (updR_kept (now := 7) (l := wL) new_okW)
  have HB2 := hid (show Below w.heap.size w w2 from HB1.out.trans (((hal.mono (by omega)).trans ⟨hf2.os, hf2.tape, hf2.output, hf2.size, fun k hk => hf2.block k (by simp; omega) (by rintro ⟨x, _⟩; simp at x; omega)⟩)))
  have hz2 : w1.heap.size < w2.heap.size := by have := hf2.size; simp at this; omega
  clear hR2 hf2 hal
  rw [show updErr (RDb.new wC).c 7 wL = (0, 0) from w_err]
  go_wp2_with fail
  refine (H.fetch pd 7 6 7 _ _ w2 HR2.out HOK2.out.1).mono ?_
  rintro e w3 ⟨v3, rfl, hb3, ho3, _⟩
  rw [w_p1] at ho3
  have e3 : fetchErr (updR (RDb.new wC) 7 wL).c 7 6 7 = 0 := by rw [HOK2.out.2.1]; exact w_e1
  rw [e3]
  obtain ⟨g3, c3, rfl, hg3, x0, x1⟩ := row_cells ho3
  have HB3 := hid (HB2.out.trans (hb3.mono (by omega)))
  have HR3 := hid (H.fr HR2.out (Fr.below (In := fun _ => False) hb3) (fun _ _ x => x))
  have hz3 := hb3.size
  obtain ⟨sa, hsa⟩ : ∃ s, s = serA (updR (RDb.new wC) 7 wL) 7 6 7 := ⟨_, rfl⟩
  obtain ⟨st, hst⟩ : ∃ s, s = serS (updR (RDb.new wC) 7 wL) 7 6 7 := ⟨_, rfl⟩
  rw [← hsa, ← hst]
  have X0 := hid x0
  have X1 := hid x1
  clear hb3 ho3 e3 hsa hst x0 x1
  go_wp2_with fail
  have hal3 := (Below.refl w3.heap.size w3).alloc (Nat.le_refl _) (.cells #[i64 sa, i64 st, .slice (some ⟨g3, 0, none⟩) 2 c3] 51)
  refine (H.fetch pd 7 0 7 _ _ _ (H.fr HR3.out (Fr.below (In := fun _ => False) hal3) (fun _ _ x => x)) HOK2.out.1).mono ?_
  rintro e w4 ⟨v4, rfl, hb4, ho4, _⟩
  rw [w_p2] at ho4
  have e4 : fetchErr (updR (RDb.new wC) 7 wL).c 7 0 7 = 0 := by rw [HOK2.out.2.1]; exact w_e2
  rw [e4, w_a2]
  obtain ⟨g4, c4, rfl, hg4, y0, y1⟩ := row_cells ho4
  have hb34 : Below w3.heap.size w3 w4 := hal3.trans (hb4.mono (by simp))
  have x0 : w4.cell? ⟨g3, 0, none⟩ = some (i64 6) := cell_later hb34 X0.out
  have x1 : w4.cell? ⟨g3, 1, none⟩ = some (i64 3) := cell_later hb34 X1.out
  have s2 : w4.cell? ⟨w3.heap.size, 2, none⟩ = some (.slice (some ⟨g3, 0, none⟩) 2 c3) := cell_later hb4 (by simp)
  have hz4 : w3.heap.size < w4.heap.size := World.block_lt_of_cell? _ _ s2
  have hg34 : g3 < w4.heap.size := by omega
  obtain ⟨st4, hst4⟩ : ∃ s, s = serS (updR (RDb.new wC) 7 wL) 7 0 7 := ⟨_, rfl⟩
  rw [← hst4]
  have HB4 := hid (HB3.out.trans (hb34.mono (by omega)))
  clear hb4 ho4 e4 hst4 hal3 hb34
  go_wp2
  go_ret
  exact ⟨rfl, HB4.out.alloc (by omega) _⟩
end Go.Proofs.Ythbbfjfekchdiaa
