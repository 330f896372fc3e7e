import Derived.Test.YthbbfjfekchdiaaGreatXRSorted
import Derived.Test.YthbbfjfekchdiaaGreatXRUpdate2
namespace Go.Proofs.YthbbfjfekchdiaaGreat
open Go.RowKit
set_option linter.unusedSimpArgs false

theorem Fr.alloc {In : Nat → Prop} {w w' : World} (h : Fr In w w') (O : Obj) : Fr In w (w'.alloc O) :=
  h.trans (Fr.below (In := In) ((Below.refl w'.heap.size w').alloc (Nat.le_refl _) O)) fun _ hx => .inl hx
theorem Fr.drewN {In : Nat → Prop} {w w' : World} (h : Fr In w w') (n : Nat) : Fr In w (w'.drewN n) :=
  h.trans (Fr.below (In := In) (below_drewN (Below.refl w'.heap.size w') n)) fun _ hx => .inl hx
theorem Fr.grown {In : Nat → Prop} {w w1 w2 : World} {row : Option Nat} (h : Fr In w w1) (hg : w1.grownBy w2 row) (hr : ∀ k, row = some k → w.heap.size ≤ k) : Fr In w w2 := by
  refine ⟨hg.os.trans h.os, hg.tape.trans h.tape, hg.output.trans h.output, Nat.le_trans h.size hg.size, fun k hk hn => ?_⟩
  rw [hg.block k (Nat.lt_of_lt_of_le hk h.size) fun e => by have := hr k e.symm; omega]
  exact h.block k hk hn

/-- Fetch's loop: what stands at a round's head; B is the series' own block -/
structure FI (w wS wr : World) (B : Nat) (i s : Int) (v : Value) (o : List Pt) : Prop where
  old : Below w.heap.size w wS
  hB : w.heap.size < B ∧ B < wS.heap.size
  fr : Fr (fun k => k = B) wS wr
  res : wS.heap[w.heap.size]? = some (.cells #[i64 0, i64 0, .slice none 0 0] 108)
  blk : wr.heap[B]? = some (.cells #[i64 i, i64 s, v] 108)
  own : wr.ownsRow wS.heap.size 48 2 v o.length (ptCells o)

theorem FI.drewN {w wS wr : World} {B : Nat} {i s : Int} {v : Value} {o : List Pt} (h : FI w wS wr B i s v o) (n : Nat) : FI w wS (wr.drewN n) B i s v o :=
  ⟨h.old, h.hB, h.fr.drewN n, h.res, blk_drewN h.blk n, owns_far h.own fun b _ hb => by simp⟩
theorem FI.later {w wS wr wx : World} {B : Nat} {i s : Int} {v : Value} {o : List Pt} (h : FI w wS wr B i s v o) (hb : Below wr.heap.size wr wx) : FI w wS wx B i s v o :=
  ⟨h.old, h.hB, h.fr.trans (Fr.below (In := fun k => k = B) hb) fun _ hx => .inl hx, h.res, blk_later hb (blk_lt h.blk) h.blk, owns_below h.own hb⟩
theorem FI.app {w wS wr w3 : World} {B : Nat} {i s : Int} {v : Value} {o : List Pt} {q : Pt} {O : Obj} {g cap : Nat} (h : FI w wS wr B i s v o)
    (hown : w3.ownsRow wS.heap.size 48 2 (.slice (some ⟨g, 0, none⟩) (o.length + 1) cap) (o.length + 1) (ptCells o ++ [i64 q.1, i64 q.2])) (hg : (wr.alloc O).grownBy w3 v.ownBlock) :
    FI w wS (w3.setCell ⟨B, 2, none⟩ (.slice (some ⟨g, 0, none⟩) (o.length + 1) cap)) B i s (.slice (some ⟨g, 0, none⟩) (o.length + 1) cap) (o ++ [q]) := by
  have hz := h.hB
  have hzz := h.fr.size
  have f1 : Fr (fun k => k = B) wS w3 := (h.fr.alloc O).grown hg fun k hk => (h.own.lt k hk).1
  have hb3 : w3.heap[B]? = some (.cells #[i64 i, i64 s, v] 108) := (hg.block B (by have := blk_lt h.blk; simp; omega) (owns_not h.own (by omega))).trans (blk_alloc h.blk)
  refine ⟨h.old, h.hB, f1.setCell (b := B) rfl 2 _, h.res, blk_setCell hb3 2 _, ?_⟩
  rw [ptCells_snoc, List.length_append]
  exact ownsRow_setCell_below hown hz.2 _
theorem FI.below {w wS wr : World} {B : Nat} {i s : Int} {v : Value} {o : List Pt} (h : FI w wS wr B i s v o) : Below w.heap.size w wr := by
  have hz := h.hB
  have := h.old.size
  have := h.fr.size
  refine ⟨h.fr.os.trans h.old.os, h.fr.tape.trans h.old.tape, h.fr.output.trans h.old.output, by omega, fun k hk => ?_⟩
  rw [h.fr.block k (by omega) (by show ¬ k = B; omega)]
  exact h.old.block k hk

theorem fetch_arg_err {c : Cfg} {now fr un : Int} (h : ¬ (StampIn now ∧ StampIn fr ∧ StampIn un ∧ fr ≤ un)) : fetchErr c now fr un = 1 := by unfold fetchErr; rw [if_pos h]
theorem fetch_none {d : RDb} {now fr un e : Int} (h : fetchErr d.c now fr un = e) (he : e ≠ 0) : serA d now fr un = 0 ∧ serS d now fr un = 0 ∧ serP d now fr un = [] := by
  subst h
  unfold serA serS serP
  rw [if_neg he, if_neg he, if_neg he]
  exact ⟨rfl, rfl, rfl⟩
/-- what an error leaves -/
theorem fetch_err {d : RDb} {now fr un e : Int} {w w' : World} (h : fetchErr d.c now fr un = e) (he : e ≠ 0) (hb : Below w.heap.size w w') :
    ∃ v, Ending.returned (.tuple #[.agg #[i64 0, i64 0, .slice none 0 0], i64 e]) = .returned (.tuple #[.agg #[i64 (serA d now fr un), i64 (serS d now fr un), v], i64 (fetchErr d.c now fr un)]) ∧ Below w.heap.size w w' ∧ w'.ownsRow w.heap.size 48 2 v (serP d now fr un).length (ptCells (serP d now fr un)) := by
  obtain ⟨a, b, c⟩ := fetch_none h he
  refine ⟨.slice none 0 0, by rw [a, b, h], hb, ?_⟩
  rw [c]
  exact World.ownsRow_nil _ _ _ _

set_option maxHeartbeats 4000000 in
theorem fetch_arg (p : Nat) (now fr un : Int) (d : RDb) (w : World) (h : ¬ (StampIn now ∧ StampIn fr ∧ StampIn un ∧ fr ≤ un)) :
    Calls Tryz.prog 55 #[.pointer (some ⟨p, 0, none⟩), i64 now, i64 fr, i64 un] w fun e w' => ∃ v, e = .returned (.tuple #[.agg #[i64 (serA d now fr un), i64 (serS d now fr un), v], i64 (fetchErr d.c now fr un)]) ∧ Below w.heap.size w w' ∧ w'.ownsRow w.heap.size 48 2 v (serP d now fr un).length (ptCells (serP d now fr un)) := by
  have HE := hid (fetch_arg_err (c := d.c) h)
  by_cases a : 0 ≤ now ∧ now ≤ 2147483647
  · by_cases b : 0 ≤ fr ∧ fr ≤ 2147483647
    · by_cases c : 0 ≤ un ∧ un ≤ 2147483647
      · have e : un < fr := Int.not_le.1 fun x => h ⟨a, b, c, x⟩
        obtain ⟨a0, a1⟩ := a
        obtain ⟨b0, b1⟩ := b
        obtain ⟨c0, c1⟩ := c
        clear h
        go_enter Tryz.func55, Tryz.ntmps55
        go_wp2_with (go_at_call 38; refine (in_keep _ _ _ _).mono ?_; rintro e w' ⟨rfl, rfl⟩)
        refine bodyPost_ret (v := .tuple #[.agg #[i64 0, i64 0, .slice none 0 0], i64 1]) (by simp [results, Tryz.results55, go_sem]) rfl ?_
        exact fetch_err HE.out (by decide) ((Below.refl _ _).alloc (Nat.le_refl _) _)
      · have c' : (decide (0 ≤ un) && decide (un ≤ 2147483647)) = false := and_false' c
        obtain ⟨a0, a1⟩ := a
        obtain ⟨b0, b1⟩ := b
        clear h c
        go_enter Tryz.func55, Tryz.ntmps55
        go_wp2_with (go_at_call 38; refine (in_keep _ _ _ _).mono ?_; rintro e w' ⟨rfl, rfl⟩)
        refine bodyPost_ret (v := .tuple #[.agg #[i64 0, i64 0, .slice none 0 0], i64 1]) (by simp [results, Tryz.results55, go_sem]) rfl ?_
        exact fetch_err HE.out (by decide) ((Below.refl _ _).alloc (Nat.le_refl _) _)
    · have b' : (decide (0 ≤ fr) && decide (fr ≤ 2147483647)) = false := and_false' b
      obtain ⟨a0, a1⟩ := a
      clear h b
      go_enter Tryz.func55, Tryz.ntmps55
      go_wp2_with (go_at_call 38; refine (in_keep _ _ _ _).mono ?_; rintro e w' ⟨rfl, rfl⟩)
      refine bodyPost_ret (v := .tuple #[.agg #[i64 0, i64 0, .slice none 0 0], i64 1]) (by simp [results, Tryz.results55, go_sem]) rfl ?_
      exact fetch_err HE.out (by decide) ((Below.refl _ _).alloc (Nat.le_refl _) _)
  · have a' : (decide (0 ≤ now) && decide (now ≤ 2147483647)) = false := and_false' a
    clear h a
    go_enter Tryz.func55, Tryz.ntmps55
    go_wp2_with (go_at_call 38; refine (in_keep _ _ _ _).mono ?_; rintro e w' ⟨rfl, rfl⟩)
    refine bodyPost_ret (v := .tuple #[.agg #[i64 0, i64 0, .slice none 0 0], i64 1]) (by simp [results, Tryz.results55, go_sem]) rfl ?_
    exact fetch_err HE.out (by decide) ((Below.refl _ _).alloc (Nat.le_refl _) _)
end Go.Proofs.YthbbfjfekchdiaaGreat
