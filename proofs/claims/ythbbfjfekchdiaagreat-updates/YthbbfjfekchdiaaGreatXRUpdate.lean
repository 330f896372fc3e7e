import Derived.Test.YthbbfjfekchdiaaGreatXLeafWalks
import Derived.Test.YthbbfjfekchdiaaGreatXRSorted
namespace Go.Proofs.YthbbfjfekchdiaaGreat
open Go.RowKit

theorem below_one {w w' : World} {O : Obj} (h : Below (w.alloc O).heap.size (w.alloc O) w') : Below w.heap.size w w' := by
  have e : (w.alloc O).heap.size = w.heap.size + 1 := by simp
  rw [e] at h
  exact ((Below.refl _ _).alloc (Nat.le_refl _) _).trans (h.mono (by omega))

theorem and_false' {a b : Prop} [Decidable a] [Decidable b] (h : ¬ (a ∧ b)) : (decide a && decide b) = false := by
  by_cases x : a <;> by_cases y : b <;> simp_all

set_option maxHeartbeats 1000000 in
theorem rcheck_no (c : Cfg) (w : World) (hMf : ¬ c.Mf) :
    Calls Tryz.prog 19 #[.agg c.cells] w fun e w' => e = .returned (i64 c.err) ∧ Below w.heap.size w w' := by
  show Calls Tryz.prog 19 #[.agg #[i64 c.s0, i64 c.k0, i64 c.s1, i64 c.k1, i64 c.s2, i64 c.k2, i64 c.s3, i64 c.k3, i64 c.m, i64 c.f]] w _
  have HE := hid (c.not_ok_mf hMf)
  have HM := hid hMf
  clear hMf
  have h6 := c.many_le
  by_cases a : 1 ≤ c.m ∧ c.m ≤ 6
  · obtain ⟨a1, a2⟩ := a
    by_cases b : 0 ≤ c.f ∧ c.f ≤ 100
    · obtain ⟨b1, b2⟩ := b
      have h7 : ((c.many : Int) == 0) = true := by
        rw [beq_iff_eq]; have : ¬ 1 ≤ c.many := fun h => HM.out ⟨a1, a2, b1, b2, h⟩
        omega
      go_enter Tryz.func19, Tryz.ntmps19
      go_wp2_with (first | (go_at_call 38; refine (in_any _ _ _ _).mono ?_; rintro e w' ⟨rfl, rfl⟩) | (go_at_call 39; refine (many_any c _).mono ?_; rintro e w' ⟨rfl, hb'⟩; have HB := hid (below_one hb'); clear hb'))
      go_ret
      exact ⟨ret_int HE.out.symm, HB.out⟩
    · have b' := and_false' b
      clear b
      go_enter Tryz.func19, Tryz.ntmps19
      go_wp2_with (first | (go_at_call 38; refine (in_any _ _ _ _).mono ?_; rintro e w' ⟨rfl, rfl⟩) | (go_at_call 39; refine (many_any c _).mono ?_; rintro e w' ⟨rfl, hb'⟩; have HB := hid (below_one hb'); clear hb'))
      all_goals first | (go_ret; exact ⟨ret_int HE.out.symm, HB.out⟩) | (exfalso; simp_all)
  · have a' := and_false' a
    clear a
    go_enter Tryz.func19, Tryz.ntmps19
    go_wp2_with (first | (go_at_call 38; refine (in_any _ _ _ _).mono ?_; rintro e w' ⟨rfl, rfl⟩) | (go_at_call 39; refine (many_any c _).mono ?_; rintro e w' ⟨rfl, hb'⟩; have HB := hid (below_one hb'); clear hb'))
    all_goals first | (go_ret; exact ⟨ret_int HE.out.symm, HB.out⟩) | (exfalso; simp_all)
end Go.Proofs.YthbbfjfekchdiaaGreat
namespace Go.Proofs.YthbbfjfekchdiaaGreat
open Go.RowKit
set_option linter.unusedSimpArgs false

/-- a list of points of whoever's -/
def RowG (w : World) (v : Value) (l : List Pt) : Prop :=
  ∃ a cap, v = .slice a l.length cap ∧ ∀ (j : Nat) (q : Pt), l[j]? = some q → ∃ b off, a = some ⟨b, off, none⟩ ∧ w.cell? ⟨b, off + j * 2, none⟩ = some (i64 q.1) ∧ w.cell? ⟨b, off + j * 2 + 1, none⟩ = some (i64 q.2)
/-- its block lies outside a set -/
def OutOf (In : Nat → Prop) (v : Value) : Prop := ∀ a n c, v = .slice (some a) n c → 0 < n → ¬ In a.block

theorem RowG.fr {w w' : World} {In : Nat → Prop} {v : Value} {l : List Pt} (h : RowG w v l) (ho : OutOf In v) (hf : Fr In w w') : RowG w' v l := by
  obtain ⟨a, cap, rfl, r⟩ := h
  refine ⟨a, cap, rfl, fun j q hj => ?_⟩
  obtain ⟨b, off, rfl, c0, c1⟩ := r j q hj
  have hb : ¬ In b := ho ⟨b, off, none⟩ l.length cap rfl (by obtain ⟨x, _⟩ := List.getElem?_eq_some_iff.1 hj; omega)
  have hz : b < w.heap.size := World.block_lt_of_cell? _ _ c0
  have e := hf.block b hz hb
  exact ⟨b, off, rfl, (World.cell?_of_block (a := ⟨b, off + j * 2, none⟩) e).trans c0, (World.cell?_of_block (a := ⟨b, off + j * 2 + 1, none⟩) e).trans c1⟩

theorem upd_no {c : Cfg} {now : Int} {l : List Pt} {k : Nat} {q : Pt} (n : 0 ≤ now ∧ now ≤ 2147483647) (h100 : l.length ≤ 100) (hq : l[k]? = some q) (hz : ∀ (j : Nat) (x : Pt), j < k → l[j]? = some x → ptErr c now x = 0) (he : ptErr c now q ≠ 0) : updErr c now l = (ptErr c now q, k) := by
  unfold updErr
  rw [if_neg (by omega), errFrom_at l 0 k q hq hz he]
  simp
theorem upd_yes {c : Cfg} {now : Int} {l : List Pt} (n : 0 ≤ now ∧ now ≤ 2147483647) (h100 : l.length ≤ 100) (hz : ∀ (j : Nat) (x : Pt), l[j]? = some x → ptErr c now x = 0) : updErr c now l = (0, 0) := by
  unfold updErr
  rw [if_neg (by omega), errFrom_none l 0 fun q hq => by obtain ⟨j, hj⟩ := List.mem_iff_getElem?.1 hq; exact hz j q hj]
  rfl

set_option maxHeartbeats 1000000 in
theorem update_arg (p : Nat) (now : Int) (v : Value) (l : List Pt) (d : RDb) (In : Nat → Prop) (w : World) (hrep : RRep w In p d) (hd : d.Ok) (hl : RowG w v l) (hlen : l.length ≤ 140737488351232) (he : ¬ (0 ≤ now ∧ now ≤ 2147483647) ∨ 100 < l.length) :
    Calls Tryz.prog 52 #[.pointer (some ⟨p, 0, none⟩), i64 now, v] w fun e w' => e = .returned (.tuple #[i64 (updErr d.c now l).1, i64 (updErr d.c now l).2]) ∧ RRep w' (Up In w.heap.size) p (updR d now l) ∧ (updR d now l).Ok ∧ (updR d now l).c = d.c ∧ Fr In w w' := by
  have e0 : updErr d.c now l = (1, 0) := by unfold updErr; rw [if_pos he]
  have HF := hid (show RRep w (Up In w.heap.size) p (updR d now l) ∧ (updR d now l).Ok ∧ (updR d now l).c = d.c ∧ Fr In w w by
    unfold updR; rw [e0]; exact ⟨hrep.weak fun k hk => .inl hk, hd, rfl, Fr.refl _ _⟩)
  have HE := hid e0
  obtain ⟨a, cap, rfl, _⟩ := hl
  clear hrep hd e0
  by_cases hn : 0 ≤ now ∧ now ≤ 2147483647
  · have h100 : 100 < l.length := he.resolve_left fun h => h hn
    obtain ⟨n0, n1⟩ := hn
    clear he
    go_enter Tryz.func52, Tryz.ntmps52
    go_wp2_with (go_at_call 38; refine (in_any _ _ _ _).mono ?_; rintro e w' ⟨rfl, rfl⟩)
    go_ret2
    exact ⟨by rw [HE.out]; rfl, HF.out⟩
  · have hb : (decide (0 ≤ now) && decide (now ≤ 2147483647)) = false := and_false' hn
    clear he hn
    go_enter Tryz.func52, Tryz.ntmps52
    go_wp2_with (go_at_call 38; refine (in_any _ _ _ _).mono ?_; rintro e w' ⟨rfl, rfl⟩)
    all_goals first | (go_ret2; exact ⟨by rw [HE.out]; rfl, HF.out⟩) | (exfalso; simp_all; done)
end Go.Proofs.YthbbfjfekchdiaaGreat
