import Derived.Test.YthbbfjfekchdiaaGreatXPCreate
import Derived.Test.YthbbfjfekchdiaaGreatXLeafWalks
/-
  Rows of steps: the cells of a list of steps, as they are read.
-/
namespace Go.Proofs.YthbbfjfekchdiaaGreat
open Go.RowKit

/-- seventeen cells that are a step -/
def OpCells (l : List Value) : Prop :=
  ∃ (kd oa ob od oe : Int) (c : Cfg) (la : Option Addr) (ln lc : Nat) (ss : ByteArray), (-9223372036854775808 ≤ oa ∧ oa ≤ 9223372036854775807) ∧ l = [i64 kd, i64 oa, i64 ob, i64 od, i64 oe, i64 c.s0, i64 c.k0, i64 c.s1, i64 c.k1, i64 c.s2, i64 c.k2, i64 c.s3, i64 c.k3, i64 c.m, i64 c.f, .slice la ln lc, .string ss]

/-- the cells of n steps -/
def OpRow (n : Nat) (xs : List Value) : Prop :=
  xs.length = n * 17 ∧ ∀ j, j < n → ∃ l, OpCells l ∧ ∀ i, i < 17 → xs[j * 17 + i]? = l[i]?

theorem OpCells.length {l : List Value} (h : OpCells l) : l.length = 17 := by
  obtain ⟨kd, oa, ob, od, oe, c, la, ln, lc, ss, _, rfl⟩ := h; rfl
theorem OpCells.one {l : List Value} (h : OpCells l) : ∀ u ∈ l, u.oneCell' = true := by
  obtain ⟨kd, oa, ob, od, oe, c, la, ln, lc, ss, _, rfl⟩ := h
  simp [Value.oneCell']
theorem OpRow.nil : OpRow 0 [] := ⟨rfl, fun j hj => absurd hj (by omega)⟩
theorem OpRow.snoc {n : Nat} {xs l : List Value} (h : OpRow n xs) (hl : OpCells l) : OpRow (n + 1) (xs ++ l) := by
  obtain ⟨hlen, hr⟩ := h
  refine ⟨by rw [List.length_append, hlen, hl.length]; omega, fun j hj => ?_⟩
  by_cases e : j = n
  · subst e
    refine ⟨l, hl, fun i hi => ?_⟩
    rw [List.getElem?_append_right (by omega), hlen]
    congr 1; omega
  · obtain ⟨l', hl', r⟩ := hr j (by omega)
    refine ⟨l', hl', fun i hi => ?_⟩
    rw [List.getElem?_append_left (by omega)]
    exact r i hi
theorem OpRow.length {n : Nat} {xs : List Value} (h : OpRow n xs) : xs.length = n * 17 := h.1
theorem OpRow.at {n : Nat} {xs : List Value} (h : OpRow n xs) : ∀ j, j < n → ∃ l, OpCells l ∧ ∀ i, i < 17 → xs[j * 17 + i]? = l[i]? := h.2
theorem OpRow.one {n : Nat} {xs : List Value} (h : OpRow n xs) : ∀ u ∈ xs, u.oneCell' = true := by
  intro u hu
  obtain ⟨k, hk⟩ := List.mem_iff_getElem?.1 hu
  have hlt : k < n * 17 := by
    obtain ⟨x, _⟩ := List.getElem?_eq_some_iff.1 hk
    rw [h.1] at x; exact x
  obtain ⟨l, hl, r⟩ := h.2 (k / 17) (by omega)
  have e := r (k % 17) (by omega)
  rw [show k / 17 * 17 + k % 17 = k by omega, hk] at e
  exact hl.one u (List.mem_iff_getElem?.2 ⟨_, e.symm⟩)
theorem OpRow.append {n m : Nat} {xs ys : List Value} (h : OpRow n xs) (k : OpRow m ys) : OpRow (n + m) (xs ++ ys) := by
  refine ⟨by rw [List.length_append, h.1, k.1]; omega, fun j hj => ?_⟩
  have hl := h.1
  by_cases e : j < n
  · obtain ⟨l, hc, r⟩ := h.2 j e
    refine ⟨l, hc, fun i hi => ?_⟩
    rw [List.getElem?_append_left (by omega)]
    exact r i hi
  · obtain ⟨l, hc, r⟩ := k.2 (j - n) (by omega)
    refine ⟨l, hc, fun i hi => ?_⟩
    rw [List.getElem?_append_right (by omega), hl, ← r i hi]
    congr 1; omega

/-- a step's cells -/
def opL (kd oa ob od oe : Int) (c : Cfg) (la : Option Addr) (ln lc : Nat) (ss : ByteArray) : List Value := [i64 kd, i64 oa, i64 ob, i64 od, i64 oe, i64 c.s0, i64 c.k0, i64 c.s1, i64 c.k1, i64 c.s2, i64 c.k2, i64 c.s3, i64 c.k3, i64 c.m, i64 c.f, .slice la ln lc, .string ss]
theorem opL_cells (kd oa ob od oe : Int) (c : Cfg) (la : Option Addr) (ln lc : Nat) (ss : ByteArray) (h1 : -9223372036854775808 ≤ oa) (h2 : oa ≤ 9223372036854775807) : OpCells (opL kd oa ob od oe c la ln lc ss) :=
  ⟨kd, oa, ob, od, oe, c, la, ln, lc, ss, ⟨h1, h2⟩, rfl⟩

theorem owns_three (w : World) (a b : Obj) (cur : Array Value) (xs : List Value) (h1 : cur.size = 8 * 17) (h2 : cur.toList.take (8 * 17) = xs) :
    (((w.alloc a).alloc b).alloc (.cells cur 43)).ownsRow w.heap.size 43 17 (.slice (some ⟨w.heap.size + 1 + 1, 0, none⟩) 8 8) 8 xs := by
  have h := blk_new ((w.alloc a).alloc b) (.cells cur 43)
  have e : ((w.alloc a).alloc b).heap.size = w.heap.size + 1 + 1 := by simp
  rw [e] at h
  exact ⟨by rw [← h2, List.length_take, Array.length_toList]; omega, .inr ⟨w.heap.size + 1 + 1, 8, cur, rfl, by omega, h, by omega, by decide, h1, h2⟩⟩

set_option maxRecDepth 100000 in
set_option maxHeartbeats 2000000 in
theorem first_any (w : World) :
    Calls Tryz.prog 9 #[] w fun e w' => ∃ xs, e = .returned (.slice (some ⟨w.heap.size + 1 + 1, 0, none⟩) 8 8) ∧ Below w.heap.size w w' ∧ w'.ownsRow w.heap.size 43 17 (.slice (some ⟨w.heap.size + 1 + 1, 0, none⟩) 8 8) 8 xs ∧ OpRow 8 xs := by
  go_enter Tryz.func9, Tryz.ntmps9
  go_wp2
  go_ret
  refine ⟨(((((((([] ++ (opL 2 0 0 0 0 ⟨10, 6, 60, 5, 0, 0, 0, 0, 1, 50⟩ none 0 0 ⟨#[]⟩)) ++ (opL 3 0 0 0 0 ⟨0, 0, 0, 0, 0, 0, 0, 0, 0, 0⟩ none 0 0 ⟨#[]⟩)) ++ (opL 4 0 100 0 0 ⟨0, 0, 0, 0, 0, 0, 0, 0, 0, 0⟩ (some ⟨w.heap.size + 1, 0, none⟩) 3 3 ⟨#[]⟩)) ++ (opL 5 0 100 0 100 ⟨0, 0, 0, 0, 0, 0, 0, 0, 0, 0⟩ none 0 0 ⟨#[]⟩)) ++ (opL 6 0 0 0 0 ⟨0, 0, 0, 0, 0, 0, 0, 0, 0, 0⟩ none 0 0 ⟨#[]⟩)) ++ (opL 8 0 0 0 0 ⟨0, 0, 0, 0, 0, 0, 0, 0, 0, 0⟩ none 0 0 ⟨#[]⟩)) ++ (opL 9 0 100 0 0 ⟨10, 6, 60, 5, 0, 0, 0, 0, 1, 50⟩ none 0 0 ⟨#[]⟩)) ++ (opL 10 0 1 0 0 ⟨0, 0, 0, 0, 0, 0, 0, 0, 0, 0⟩ none 0 0 ⟨#[]⟩)), rfl, ?_, ?_, (.snoc (.snoc (.snoc (.snoc (.snoc (.snoc (.snoc (.snoc .nil (opL_cells _ _ _ _ _ _ _ _ _ _ (by decide) (by decide))) (opL_cells _ _ _ _ _ _ _ _ _ _ (by decide) (by decide))) (opL_cells _ _ _ _ _ _ _ _ _ _ (by decide) (by decide))) (opL_cells _ _ _ _ _ _ _ _ _ _ (by decide) (by decide))) (opL_cells _ _ _ _ _ _ _ _ _ _ (by decide) (by decide))) (opL_cells _ _ _ _ _ _ _ _ _ _ (by decide) (by decide))) (opL_cells _ _ _ _ _ _ _ _ _ _ (by decide) (by decide))) (opL_cells _ _ _ _ _ _ _ _ _ _ (by decide) (by decide)))⟩
  · exact (((Below.refl _ _).alloc (Nat.le_refl _) _).alloc (by simp) _).alloc (by simp; omega) _
  · exact owns_three w _ _ _ _ rfl rfl
end Go.Proofs.YthbbfjfekchdiaaGreat
