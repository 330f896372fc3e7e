import Derived.Test.YthbbfjfekchdiaaGreatXHAmong
import Derived.Test.YthbbfjfekchdiaaGreatXJStep
namespace Go.Proofs.YthbbfjfekchdiaaGreat
open Go.RowKit
set_option linter.unusedSimpArgs false
theorem SOk.mono {w : World} {B B' : Nat} {oa ob : Int} {la : Option Addr} {ln lc : Nat} {ss : ByteArray} (h : SOk w B oa ob la ln lc ss) (hB : B ≤ B') : SOk w B' oa ob la ln lc ss := ⟨h.list.mono hB, h.a1, h.b1, h.str⟩
def OpIn3 (w : World) (N : Nat) (l : List Value) : Prop :=
  ∃ (kd oa ob od oe : Int) (c : Cfg) (la : Option Addr) (ln lc : Nat) (ss : ByteArray), SOk w N oa ob la ln lc ss ∧ l = [i64 kd, i64 oa, i64 ob, i64 od, i64 oe, i64 c.s0, i64 c.k0, i64 c.s1, i64 c.k1, i64 c.s2, i64 c.k2, i64 c.s3, i64 c.k3, i64 c.m, i64 c.f, .slice la ln lc, .string ss]
def OpRow3 (w : World) (N n : Nat) (xs : List Value) : Prop :=
  xs.length = n * 17 ∧ ∀ j, j < n → ∃ l, OpIn3 w N l ∧ ∀ i, i < 17 → xs[j * 17 + i]? = l[i]?
theorem OpIn3.length {w : World} {N : Nat} {l : List Value} (h : OpIn3 w N l) : l.length = 17 := by
  obtain ⟨kd, oa, ob, od, oe, c, la, ln, lc, ss, _, rfl⟩ := h; rfl
theorem OpIn3.one {w : World} {N : Nat} {l : List Value} (h : OpIn3 w N l) : ∀ u ∈ l, u.oneCell' = true := by
  obtain ⟨kd, oa, ob, od, oe, c, la, ln, lc, ss, _, rfl⟩ := h
  simp [Value.oneCell']
theorem OpIn3.below {w w' : World} {N : Nat} {l : List Value} (h : OpIn3 w N l) (hb : Below N w w') : OpIn3 w' N l := by
  obtain ⟨kd, oa, ob, od, oe, c, la, ln, lc, ss, b, e⟩ := h
  exact ⟨kd, oa, ob, od, oe, c, la, ln, lc, ss, b.below hb, e⟩
theorem OpIn3.mono {w : World} {N N' : Nat} {l : List Value} (h : OpIn3 w N l) (hN : N ≤ N') : OpIn3 w N' l := by
  obtain ⟨kd, oa, ob, od, oe, c, la, ln, lc, ss, b, e⟩ := h
  exact ⟨kd, oa, ob, od, oe, c, la, ln, lc, ss, b.mono hN, e⟩
theorem OpRow3.below {w w' : World} {N n : Nat} {xs : List Value} (h : OpRow3 w N n xs) (hb : Below N w w') : OpRow3 w' N n xs :=
  ⟨h.1, fun j hj => by obtain ⟨l, a, b⟩ := h.2 j hj; exact ⟨l, a.below hb, b⟩⟩
theorem OpRow3.mono {w : World} {N N' n : Nat} {xs : List Value} (h : OpRow3 w N n xs) (hN : N ≤ N') : OpRow3 w N' n xs :=
  ⟨h.1, fun j hj => by obtain ⟨l, a, b⟩ := h.2 j hj; exact ⟨l, a.mono hN, b⟩⟩
theorem OpRow3.nil {w : World} {N : Nat} : OpRow3 w N 0 [] := ⟨rfl, fun j hj => absurd hj (by omega)⟩
theorem OpRow3.snoc {w : World} {N n : Nat} {xs l : List Value} (h : OpRow3 w N n xs) (hl : OpIn3 w N l) : OpRow3 w N (n + 1) (xs ++ l) := by
  obtain ⟨hlen, hr⟩ := h
  refine ⟨by rw [List.length_append, hlen, hl.length]; omega, fun j hj => ?_⟩
  by_cases e : j = n
  · subst e
    refine ⟨l, hl, fun i hi => ?_⟩
    rw [List.getElem?_append_right (by omega), hlen]
    congr 1; omega
  · obtain ⟨l', hl', r⟩ := hr j (by omega)
    refine ⟨l', hl', fun i hi => ?_⟩
    rw [List.getElem?_append_left (by omega)]
    exact r i hi
theorem OpRow3.one {w : World} {N n : Nat} {xs : List Value} (h : OpRow3 w N n xs) : ∀ u ∈ xs, u.oneCell' = true := by
  intro u hu
  obtain ⟨k, hk⟩ := List.mem_iff_getElem?.1 hu
  have hlt : k < n * 17 := by
    obtain ⟨x, _⟩ := List.getElem?_eq_some_iff.1 hk
    rw [h.1] at x; exact x
  obtain ⟨l, hl, r⟩ := h.2 (k / 17) (by omega)
  have e := r (k % 17) (by omega)
  rw [show k / 17 * 17 + k % 17 = k by omega, hk] at e
  exact hl.one u (List.mem_iff_getElem?.2 ⟨_, e.symm⟩)
theorem OpRow3.append {w : World} {N n m : Nat} {xs ys : List Value} (h : OpRow3 w N n xs) (k : OpRow3 w N m ys) : OpRow3 w N (n + m) (xs ++ ys) := by
  refine ⟨by rw [List.length_append, h.1, k.1]; omega, fun j hj => ?_⟩
  have hl := h.1
  by_cases e : j < n
  · obtain ⟨l, hc, r⟩ := h.2 j e
    refine ⟨l, hc, fun i hi => ?_⟩
    rw [List.getElem?_append_left (by omega)]
    exact r i hi
  · obtain ⟨l, hc, r⟩ := k.2 (j - n) (by omega)
    refine ⟨l, hc, fun i hi => ?_⟩
    rw [List.getElem?_append_right (by omega), hl, ← r i hi]
    congr 1; omega
theorem opL3_nil (kd oa ob od oe : Int) (c : Cfg) (ss : ByteArray) (w : World) (N : Nat) (h1 : -9223372036854775808 ≤ oa) (h2 : oa ≤ 9223372036854775807) (h3 : -9223372036854775808 ≤ ob) (h4 : ob ≤ 9223372036854775807) (h5 : ss.size ≤ 140737488355328) : OpIn3 w N (opL2 kd oa ob od oe c none 0 0 ss) :=
  ⟨kd, oa, ob, od, oe, c, none, 0, 0, ss, ⟨⟨⟨[], none, 0, rfl, fun j q hj => by simp at hj⟩, fun _ => ⟨rfl, rfl⟩, fun a n c e hn => (by cases e), by omega⟩, ⟨h1, h2⟩, ⟨h3, h4⟩, h5⟩, rfl⟩
theorem opL3_three (kd oa ob od oe : Int) (c : Cfg) (ss : ByteArray) (w : World) (N g : Nat) (h1 : -9223372036854775808 ≤ oa) (h2 : oa ≤ 9223372036854775807) (h3 : -9223372036854775808 ≤ ob) (h4 : ob ≤ 9223372036854775807) (h5 : ss.size ≤ 140737488355328) (hg : g < N) (hb : w.heap[g]? = some (.cells #[i64 95, i64 7, i64 75, i64 9, i64 60, i64 2] 48)) : OpIn3 w N (opL2 kd oa ob od oe c (some ⟨g, 0, none⟩) 3 3 ss) := by
  refine ⟨kd, oa, ob, od, oe, c, some ⟨g, 0, none⟩, 3, 3, ss, ⟨⟨⟨[(95, 7), (75, 9), (60, 2)], some ⟨g, 0, none⟩, 3, rfl, ?_⟩, fun x => (by cases x), fun a n c e hn hx => (by cases e; exact absurd hx (by simp; omega)), by omega⟩, ⟨h1, h2⟩, ⟨h3, h4⟩, h5⟩, rfl⟩
  intro j q hj
  refine ⟨g, 0, rfl, ?_⟩
  have hj3 : j < 3 := by obtain ⟨x, _⟩ := List.getElem?_eq_some_iff.1 hj; simpa using x
  have h3 : j = 0 ∨ j = 1 ∨ j = 2 := by omega
  rcases h3 with rfl | rfl | rfl <;> (simp at hj; subst hj; exact ⟨by rw [cell_of_blk hb]; rfl, by rw [cell_of_blk hb]; rfl⟩)
set_option maxRecDepth 100000 in
set_option maxHeartbeats 2000000 in
theorem first3_any (w : World) :
    Calls Tryz.prog 9 #[] w fun e w' => ∃ g xs, e = .returned (.slice (some ⟨g, 0, none⟩) 8 8) ∧ Below w.heap.size w w' ∧ w'.ownsRow w.heap.size 43 17 (.slice (some ⟨g, 0, none⟩) 8 8) 8 xs ∧ OpRow3 w' g 8 xs := by
  go_enter Tryz.func9, Tryz.ntmps9
  go_wp2
  go_ret
  refine ⟨w.heap.size + 1 + 1, (((((((([] ++ (opL2 2 0 0 0 0 ⟨10, 6, 60, 5, 0, 0, 0, 0, 1, 50⟩ none 0 0 ⟨#[]⟩)) ++ (opL2 3 0 0 0 0 ⟨0, 0, 0, 0, 0, 0, 0, 0, 0, 0⟩ none 0 0 ⟨#[]⟩)) ++ (opL2 4 0 100 0 0 ⟨0, 0, 0, 0, 0, 0, 0, 0, 0, 0⟩ (some ⟨w.heap.size + 1, 0, none⟩) 3 3 ⟨#[]⟩)) ++ (opL2 5 0 100 0 100 ⟨0, 0, 0, 0, 0, 0, 0, 0, 0, 0⟩ none 0 0 ⟨#[]⟩)) ++ (opL2 6 0 0 0 0 ⟨0, 0, 0, 0, 0, 0, 0, 0, 0, 0⟩ none 0 0 ⟨#[]⟩)) ++ (opL2 8 0 0 0 0 ⟨0, 0, 0, 0, 0, 0, 0, 0, 0, 0⟩ none 0 0 ⟨#[]⟩)) ++ (opL2 9 0 100 0 0 ⟨10, 6, 60, 5, 0, 0, 0, 0, 1, 50⟩ none 0 0 ⟨#[]⟩)) ++ (opL2 10 0 1 0 0 ⟨0, 0, 0, 0, 0, 0, 0, 0, 0, 0⟩ none 0 0 ⟨#[]⟩)), rfl, ?_, ?_, ?_⟩
  · exact (((Below.refl _ _).alloc (Nat.le_refl _) _).alloc (by simp) _).alloc (by simp; omega) _
  · exact owns_three2 w _ _ _ _ rfl rfl
  · refine .snoc (.snoc (.snoc (.snoc (.snoc (.snoc (.snoc (.snoc .nil (opL3_nil _ _ _ _ _ _ _ _ _ (by decide) (by decide) (by decide) (by decide) (by decide))) (opL3_nil _ _ _ _ _ _ _ _ _ (by decide) (by decide) (by decide) (by decide) (by decide))) (opL3_three _ _ _ _ _ _ _ _ _ _ (by decide) (by decide) (by decide) (by decide) (by decide) ?_ ?_)) (opL3_nil _ _ _ _ _ _ _ _ _ (by decide) (by decide) (by decide) (by decide) (by decide))) (opL3_nil _ _ _ _ _ _ _ _ _ (by decide) (by decide) (by decide) (by decide) (by decide))) (opL3_nil _ _ _ _ _ _ _ _ _ (by decide) (by decide) (by decide) (by decide) (by decide))) (opL3_nil _ _ _ _ _ _ _ _ _ (by decide) (by decide) (by decide) (by decide) (by decide))) (opL3_nil _ _ _ _ _ _ _ _ _ (by decide) (by decide) (by decide) (by decide) (by decide))
    · omega
    · refine blk_alloc ?_
      have h := blk_new (w.alloc (.cells #[i64 10, i64 6, i64 60, i64 5, i64 0, i64 0, i64 0, i64 0, i64 1, i64 50] 40)) (.cells #[i64 95, i64 7, i64 75, i64 9, i64 60, i64 2] 48)
      have e : (w.alloc (.cells #[i64 10, i64 6, i64 60, i64 5, i64 0, i64 0, i64 0, i64 0, i64 1, i64 50] 40)).heap.size = w.heap.size + 1 := by simp
      rw [e] at h
      exact h
end Go.Proofs.YthbbfjfekchdiaaGreat
