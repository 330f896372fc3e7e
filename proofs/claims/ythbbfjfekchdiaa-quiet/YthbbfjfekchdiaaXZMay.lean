import Derived.Test.YthbbfjfekchdiaaXZSlot
/-
  Which slots may be, in the program; the same of the plain account.
-/
namespace Go.Proofs.Ythbbfjfekchdiaa
open Go.RowKit
set_option linter.unusedSimpArgs false
attribute [local go_sem] Go.wp_at_zero Go.wp_at_succ

def okB (s : Int) (k n : Nat) : Option Pt → Bool
  | none => true
  | some q => ((decide (0 ≤ q.1) && decide (q.1 ≤ 2147483647)) && (decide (-1000000000 ≤ q.2) && decide (q.2 ≤ 1000000000))) && belB s k q.1 n

set_option maxHeartbeats 1000000 in
theorem mayBe_none (s a b : Int) (g k cap n : Nat) (w : World) :
    Calls Try.prog 54 #[arcV s g k cap, i64 n, .agg #[.bool false, i64 a, i64 b]] w fun e w' => e = .returned (.bool true) ∧ Below w.heap.size w w' := by
  go_enter Try.func54, Try.ntmps54
  go_wp2
  go_ret
  exact ⟨rfl, ((Below.refl _ w).alloc (Nat.le_refl _) _).alloc (by simp) _⟩

set_option maxHeartbeats 2000000 in
theorem mayBe_some (s a b : Int) (g k cap n : Nat) (w : World) (s1 : 1 ≤ s) (s2 : s ≤ 1000000) (k1 : 1 ≤ k) (k2 : k ≤ 1000) :
    Calls Try.prog 54 #[arcV s g k cap, i64 n, .agg #[.bool true, i64 a, i64 b]] w fun e w' => e = .returned (.bool (okB s k n (some (a, b)))) ∧ Below w.heap.size w w' := by
  have HB0 := hid (fun (o1 o2 : Obj) => ((Below.refl w.heap.size w).alloc (Nat.le_refl _) o1).alloc (by simp) o2)
  go_enter Try.func54, Try.ntmps54
  go_wp2_with fail
  refine (zstamp_any a _).mono ?_
  rintro e w1 ⟨rfl, rfl⟩
  by_cases ha : 0 ≤ a ∧ a ≤ 2147483647
  · obtain ⟨a0, a1⟩ := ha
    have e1 : (decide (0 ≤ a) && decide (a ≤ 2147483647)) = true := by simp [a0, a1]
    have HE1 := hid e1
    rw [e1]
    clear e1
    go_wp2_with fail
    refine (zvalue_any b _).mono ?_
    rintro e w1 ⟨rfl, rfl⟩
    by_cases hb : -1000000000 ≤ b ∧ b ≤ 1000000000
    · obtain ⟨b0, b1⟩ := hb
      have e2 : (decide (-1000000000 ≤ b) && decide (b ≤ 1000000000)) = true := by simp [b0, b1]
      have HE2 := hid e2
      rw [e2]
      clear e2
      go_wp2_with fail
      refine (belongs_any s a g k cap n _ s1 s2 a0 (by omega) k1 k2).mono ?_
      rintro e w2 ⟨rfl, hb2⟩
      have HB2 := hid ((HB0.out _ _).trans (hb2.mono (HB0.out _ _).size))
      clear hb2
      go_wp2
      go_ret
      refine ⟨?_, HB2.out⟩
      unfold okB
      simp [HE1.out, HE2.out]
    · have e2 : (decide (-1000000000 ≤ b) && decide (b ≤ 1000000000)) = false := by
        rw [Bool.and_eq_false_iff, decide_eq_false_iff_not, decide_eq_false_iff_not]; omega
      have HE2 := hid e2
      rw [e2]
      clear e2
      go_wp2
      go_ret
      refine ⟨?_, HB0.out _ _⟩
      unfold okB
      simp [HE1.out, HE2.out]
  · have e1 : (decide (0 ≤ a) && decide (a ≤ 2147483647)) = false := by
      rw [Bool.and_eq_false_iff, decide_eq_false_iff_not, decide_eq_false_iff_not]; omega
    have HE1 := hid e1
    rw [e1]
    clear e1
    go_wp2
    go_ret
    refine ⟨?_, HB0.out _ _⟩
    unfold okB
    simp [HE1.out]
theorem mayBe_any (o : Option Pt) (s : Int) (g k cap n : Nat) (w : World) (s1 : 1 ≤ s) (s2 : s ≤ 1000000) (k1 : 1 ≤ k) (k2 : k ≤ 1000) :
    Calls Try.prog 54 #[arcV s g k cap, i64 n, .agg (slotCells o).toArray] w fun e w' => e = .returned (.bool (okB s k n o)) ∧ Below w.heap.size w w' := by
  cases o with
  | none => exact mayBe_none s 0 0 g k cap n w
  | some q => exact mayBe_some s q.1 q.2 g k cap n w s1 s2 k1 k2

/-- the bytes of a free slot -/
theorem free_iff {l : List Int} (hl : l.length = 12) (hb : ByteL l) : l = slotBytes none ↔ readU (l.take 4) = 4294967295 ∧ readN (l.drop 4) = 0 := by
  obtain ⟨l1, l2⟩ := split_at (n := 4) (m := 8) hl
  constructor
  · rintro rfl
    exact ⟨by decide, by decide⟩
  · rintro ⟨h1, h2⟩
    have n1 := num_readU (l := l.take 4) fun x hx => hb x (List.mem_of_mem_take hx)
    have n2 := num_readN (l := l.drop 4) (fun x hx => hb x (List.mem_of_mem_drop hx)) l2
    rw [l1, h1] at n1
    rw [h2] at n2
    rw [← List.take_append_drop 4 l, ← n1, ← n2]
    rfl
theorem slotRead_from {c : Cfg} {i n : Nat} {l : List Int} (hl : l.length = 12) (hb : ByteL l) {k : Nat} (hk : c.k i = (k : Int)) : slotRead c i n (readU (l.take 4)) (readN ((l.drop 4).take 8)) = if okB (c.s i) k n (slotFrom l) = true then some (slotFrom l) else none := by
  obtain ⟨l1, l2⟩ := split_at (n := 4) (m := 8) hl
  have e8 : (l.drop 4).take 8 = l.drop 4 := List.take_of_length_le (by omega)
  have hf := free_iff hl hb
  have hu := readU_bd (l := l.take 4) fun x hx => hb x (List.mem_of_mem_take hx)
  rw [e8]
  unfold slotRead slotFrom
  by_cases h : l = slotBytes none
  · rw [if_pos (hf.1 h), if_pos h]
    rfl
  · rw [if_neg fun x => h (hf.2 x), if_neg h]
    unfold okB belB slotOf
    rw [hk]
    by_cases h2 : readU (l.take 4) ≤ 2147483647 ∧ readU (l.take 4) % c.s i = 0 ∧ readU (l.take 4) / c.s i % (k : Int) = (n : Int) ∧ -1000000000 ≤ readN (l.drop 4) ∧ readN (l.drop 4) ≤ 1000000000
    · rw [if_pos h2]
      obtain ⟨a, b, d, e, f⟩ := h2
      simp [a, b, d, e, f, hu.1]
    · rw [if_neg h2, if_neg]
      simp only [Bool.and_eq_true, decide_eq_true_iff]
      rintro ⟨⟨⟨_, a⟩, e, f⟩, b, d⟩
      exact h2 ⟨a, b, d, e, f⟩
end Go.Proofs.Ythbbfjfekchdiaa
