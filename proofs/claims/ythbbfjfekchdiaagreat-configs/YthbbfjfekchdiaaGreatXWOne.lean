import Derived.Test.YthbbfjfekchdiaaGreatXPConf
import Derived.Test.YthbbfjfekchdiaaGreatXRCreate
/-
  The walk's own world: the pairs of databases, and what a step keeps.
-/
namespace Go.Proofs.YthbbfjfekchdiaaGreat
open Go.RowKit

/-- every block of cells, but for the walk's own world and its pairs, is as it was -/
structure Keep (w w' : World) : Prop where
  size : w.heap.size ≤ w'.heap.size
  blk : ∀ (k : Nat) (cs : Array Value) (t : TypeId) (fr : Nat × Nat), w.heap[k]? = some (.cells cs t fr) → t ≠ 35 → t ≠ 53 → w'.heap[k]? = some (.cells cs t fr)

theorem Keep.refl (w : World) : Keep w w := ⟨Nat.le_refl _, fun _ _ _ _ h _ _ => h⟩
theorem Keep.trans {a b c : World} (h : Keep a b) (k : Keep b c) : Keep a c :=
  ⟨Nat.le_trans h.size k.size, fun j cs t fr x y z => k.blk j cs t fr (h.blk j cs t fr x y z) y z⟩
theorem Keep.below {w w' : World} (h : Below w.heap.size w w') : Keep w w' := ⟨h.size, fun _ _ _ _ x _ _ => (h.block _ (blk_lt x)).trans x⟩
theorem Keep.setCell {w w' : World} (h : Keep w w') {B : Nat} {cs : Array Value} (hB : w'.heap[B]? = some (.cells cs 35)) (o : Nat) (u : Value) : Keep w (w'.setCell ⟨B, o, none⟩ u) := by
  refine ⟨by rw [size_setCell]; exact h.size, fun k cs' t fr x y z => ?_⟩
  have x' := h.blk k cs' t fr x y z
  by_cases e : k = B
  · subst e
    rw [hB] at x'
    simp only [Option.some.injEq, Obj.cells.injEq] at x'
    exact absurd x'.2.1.symm y
  · rw [blk_setCell_far e]; exact x'
theorem Keep.grown {w w1 w2 : World} {base n : Nat} {v : Value} {xs : List Value} (h : Keep w w1) (ho : w1.ownsRow base 53 2 v n xs) (hg : w1.grownBy w2 v.ownBlock) : Keep w w2 := by
  refine ⟨Nat.le_trans h.size hg.size, fun k cs t fr x y z => ?_⟩
  have x' := h.blk k cs t fr x y z
  rw [hg.block k (blk_lt x') ?_]
  · exact x'
  · intro e
    obtain ⟨_, ⟨hv, _⟩ | ⟨g, cap, cur, hv, _, hblk, _⟩⟩ := ho
    · rw [hv] at e; exact absurd e (by simp [Value.ownBlock])
    · rw [hv] at e
      simp only [Value.ownBlock, Option.some.injEq] at e
      subst e
      rw [hblk] at x'
      simp only [Option.some.injEq, Obj.cells.injEq] at x'
      exact absurd x'.2.1.symm z

theorem RepD.keep {w w' : World} {p : Nat} {c : Cfg} (h : RepD w p c) (k : Keep w w') : RepD w' p c := by
  obtain ⟨v, xs, hp, ⟨hl, ho⟩, ha⟩ := h
  refine ⟨v, xs, k.blk _ _ _ _ hp (by decide) (by decide), ⟨hl, ?_⟩, ha⟩
  rcases ho with ho | ⟨g, cap, cur, hv, hg, hblk, r⟩
  · exact .inl ho
  · exact .inr ⟨g, cap, cur, hv, hg, k.blk _ _ _ _ hblk (by decide) (by decide), r⟩
theorem RepR.keep {w w' : World} {p : Nat} {c : Cfg} (h : RepR w p c) (k : Keep w w') : RepR w' p c := by
  obtain ⟨u, hp⟩ := h
  exact ⟨u, k.blk _ _ _ _ hp (by decide) (by decide)⟩

/-- the cells of the pairs: a database of the program and one of the document's, of one configuration -/
def PairRow (w : World) (cs : List Cfg) (ps : List Value) : Prop :=
  ps.length = 2 * cs.length ∧ ∀ j, j < cs.length → ∃ d r c, ps[2 * j]? = some (.pointer (some ⟨d, 0, none⟩)) ∧ ps[2 * j + 1]? = some (.pointer (some ⟨r, 0, none⟩)) ∧ c.Ok ∧ RepD w d c ∧ RepR w r c
theorem PairRow.nil {w : World} : PairRow w [] [] := ⟨rfl, fun j hj => absurd hj (by simp)⟩
theorem PairRow.snoc {w : World} {cs : List Cfg} {ps : List Value} (h : PairRow w cs ps) {d r : Nat} {c : Cfg} (hok : c.Ok) (hd : RepD w d c) (hr : RepR w r c) :
    PairRow w (cs ++ [c]) (ps ++ [.pointer (some ⟨d, 0, none⟩), .pointer (some ⟨r, 0, none⟩)]) := by
  obtain ⟨hl, hp⟩ := h
  refine ⟨by simp [hl]; omega, fun j hj => ?_⟩
  by_cases e : j = cs.length
  · subst e
    refine ⟨d, r, c, ?_, ?_, hok, hd, hr⟩
    · rw [List.getElem?_append_right (by omega), hl]; simp
    · rw [List.getElem?_append_right (by omega), hl]; simp
  · simp at hj
    obtain ⟨d', r', c', a, b, x⟩ := hp j (by omega)
    refine ⟨d', r', c', ?_, ?_, x⟩
    · rw [List.getElem?_append_left (by omega)]; exact a
    · rw [List.getElem?_append_left (by omega)]; exact b
theorem PairRow.keep {w w' : World} {cs : List Cfg} {ps : List Value} (h : PairRow w cs ps) (k : Keep w w') : PairRow w' cs ps :=
  ⟨h.1, fun j hj => by obtain ⟨d, r, c, a, b, e, f, g⟩ := h.2 j hj; exact ⟨d, r, c, a, b, e, f.keep k, g.keep k⟩⟩
theorem PairRow.length {w : World} {cs : List Cfg} {ps : List Value} (h : PairRow w cs ps) : ps.length = 2 * cs.length := h.1
theorem PairRow.at {w : World} {cs : List Cfg} {ps : List Value} (h : PairRow w cs ps) : ∀ j, j < cs.length → ∃ d r c, ps[2 * j]? = some (.pointer (some ⟨d, 0, none⟩)) ∧ ps[2 * j + 1]? = some (.pointer (some ⟨r, 0, none⟩)) ∧ c.Ok ∧ RepD w d c ∧ RepR w r c := h.2

/-- the walk's own world, at block B: these pairs; no list has come out -/
def Inv (w : World) (B : Nat) (cs : List Cfg) : Prop :=
  ∃ v ps, w.heap[B]? = some (.cells #[v, .slice none 0 0, .slice none 0 0, .slice none 0 0] 35) ∧ w.ownsRow (B + 1) 53 2 v cs.length ps ∧ PairRow w cs ps

theorem Inv.below {w w' : World} {B : Nat} {cs : List Cfg} (h : Inv w B cs) (hb : Below w.heap.size w w') : Inv w' B cs := by
  obtain ⟨v, ps, hB, ho, hr⟩ := h
  exact ⟨v, ps, blk_later hb (blk_lt hB) hB, owns_below ho hb, hr.keep (Keep.below hb)⟩

theorem inv_one {w w1 w3 : World} {B : Nat} {cs : List Cfg} {v : Value} {ps : List Value} {d r g cap : Nat} {c : Cfg} {O : Obj}
    (hB : w.heap[B]? = some (.cells #[v, .slice none 0 0, .slice none 0 0, .slice none 0 0] 35)) (ho : w.ownsRow (B + 1) 53 2 v cs.length ps) (hr : PairRow w cs ps)
    (hok : c.Ok) (hd : RepD w d c) (hR : RepR w r c) (he : w1 = w.alloc O)
    (hown : w3.ownsRow (B + 1) 53 2 (.slice (some ⟨g, 0, none⟩) (cs.length + 1) cap) (cs.length + 1) (ps ++ [.pointer (some ⟨d, 0, none⟩), .pointer (some ⟨r, 0, none⟩)]))
    (hgrow : w1.grownBy w3 v.ownBlock) :
    Inv (w3.setCell ⟨B, 0, none⟩ (.slice (some ⟨g, 0, none⟩) (cs.length + 1) cap)) B (cs ++ [c]) ∧ Keep w (w3.setCell ⟨B, 0, none⟩ (.slice (some ⟨g, 0, none⟩) (cs.length + 1) cap)) ∧ Below B w (w3.setCell ⟨B, 0, none⟩ (.slice (some ⟨g, 0, none⟩) (cs.length + 1) cap)) := by
  subst he
  have hz := blk_lt hB
  have ha : Keep w (w.alloc O) := Keep.below ((Below.refl _ _).alloc (Nat.le_refl _) _)
  have k3 : Keep w w3 := ha.grown (ho.alloc O) hgrow
  have hB3 : w3.heap[B]? = some (.cells #[v, .slice none 0 0, .slice none 0 0, .slice none 0 0] 35) :=
    (hgrow.block B (by simp; omega) (owns_not ho (by omega))).trans (blk_alloc hB)
  have kk := k3.setCell hB3 0 (.slice (some ⟨g, 0, none⟩) (cs.length + 1) cap)
  refine ⟨⟨_, _, blk_setCell hB3 0 _, ?_, .snoc (hr.keep kk) hok (hd.keep kk) (hR.keep kk)⟩, kk, ?_⟩
  · rw [List.length_append]
    exact ownsRow_setCell_below hown (by simp) _
  · refine Below.setCell (p := ⟨B, 0, none⟩) ?_ (Nat.le_refl B) _
    refine Below.grown (((Below.refl B w)).alloc (by omega) O) hgrow (by simp; omega) ?_
    intro j hj
    have := (ho.lt j hj).1
    omega
end Go.Proofs.YthbbfjfekchdiaaGreat
namespace Go.Proofs.YthbbfjfekchdiaaGreat
open Go.RowKit
set_option linter.unusedSimpArgs false

theorem Tryz.infoPair : (Tryz.prog.info? 53).map (fun i => (i.zero, i.size, i.bytes)) = some (some (.agg #[.pointer none, .pointer none]), 2, 16) := by kernel_rfl

set_option maxHeartbeats 1000000 in
theorem one_no (B : Nat) (w : World) :
    Calls Tryz.prog 22 #[.pointer (some ⟨B, 0, none⟩), .pointer none, .pointer none] w fun e w' => e = .returned (.bool true) ∧ w' = w := by
  go_enter Tryz.func22, Tryz.ntmps22
  go_wp2
  go_ret
  exact ⟨rfl, rfl⟩

set_option maxHeartbeats 2000000 in
theorem one_yes (B d r : Nat) (c : Cfg) (cs : List Cfg) (w : World) (hI : Inv w B cs) (hok : c.Ok) (hd : RepD w d c) (hr : RepR w r c) (hn : cs.length ≤ 1000000000000) :
    Calls Tryz.prog 22 #[.pointer (some ⟨B, 0, none⟩), .pointer (some ⟨d, 0, none⟩), .pointer (some ⟨r, 0, none⟩)] w fun e w' => e = .returned (.bool true) ∧ Inv w' B (cs ++ [c]) ∧ Keep w w' ∧ Below B w w' := by
  obtain ⟨v, ps, hB, ho, hp⟩ := hI
  obtain ⟨i0, hi, hz0, hz1, hz2⟩ := info_parts Tryz.infoPair
  have HI0 := hid (And.intro hi (And.intro hz0 (And.intro hz1 hz2)))
  have d0 : w.cell? ⟨B, 0, none⟩ = some v := cell_of_blk hB 0
  have f0 : w.frozen? ⟨B, 0, none⟩ = false := frozen_of_blk hB 0
  have hz := blk_lt hB
  have HS := hid (fun (w3 : World) (g cap : Nat) (O : Obj) h1 h2 => inv_one (w3 := w3) (g := g) (cap := cap) (O := O) hB ho hp hok hd hr rfl h1 h2)
  have HD := hid (show some B ≠ v.ownBlock from owns_not ho (by omega))
  have HO := hid ho
  have HB := hid hB
  clear hi hz0 hz1 hz2 hok hd hr hp ho hB
  go_enter Tryz.func22, Tryz.ntmps22
  go_wp2_with (at_builtin; refine wpList_append_lies _ rfl (.tmp 18) (.tmp 22) 28 rfl (B + 1) 53 i0 _ 2 16 Tryz.underlying28 HI0.out.1 HI0.out.2.1 HI0.out.2.2.1 HI0.out.2.2.2 rfl (by decide) v cs.length ps rfl (HO.out.alloc _) ⟨w.heap.size, 0, none⟩ 1 1 [.pointer (some ⟨d, 0, none⟩), .pointer (some ⟨r, 0, none⟩)] rfl rfl (World.news_of_block (heap_alloc_new w _)) (by simp [Value.oneCell']) (by decide) ?_ ?_ ?_ (w.heap.size + 1) (by simp) ?_)
  · unfold maxLen; omega
  · omega
  · simp; omega
  intro g cap w3 hown3 hgrow hat hlt3
  have blk3 := (hgrow.block B (by simp; omega) HD.out).trans (blk_alloc HB.out)
  have d3 : w3.cell? ⟨B, 0, none⟩ = some v := cell_of_blk blk3 0
  have f3 : w3.frozen? ⟨B, 0, none⟩ = false := frozen_of_blk blk3 0
  have hz3 : B < w3.heap.size := blk_lt blk3
  have HR := hid (HS.out w3 g cap _ hown3 hgrow)
  clear hown3 hgrow hat hlt3 blk3
  go_wp2
  go_ret
  exact ⟨rfl, HR.out⟩
end Go.Proofs.YthbbfjfekchdiaaGreat
