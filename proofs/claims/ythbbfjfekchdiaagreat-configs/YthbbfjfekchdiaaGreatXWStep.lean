import Derived.Test.YthbbfjfekchdiaaGreatXWAsked
import Derived.Deep.RegionHeld3
namespace Go.Proofs.YthbbfjfekchdiaaGreat
open Go.RowKit
set_option linter.unusedSimpArgs false
attribute [local go_sem] Go.wp_at_zero Go.wp_at_succ

theorem Inv.lt {w : World} {B : Nat} {cs : List Cfg} (h : Inv w B cs) : B < w.heap.size := by obtain ⟨_, _, hB, _⟩ := h; exact blk_lt hB
theorem Inv.new {w : World} {B : Nat} {cs : List Cfg} (h : Inv w B cs) (o : Obj) : Inv (w.alloc o) B cs := h.below ((Below.refl _ _).alloc (Nat.le_refl _) _)

/-- what a step leaves -/
def Left (w w' : World) (B : Nat) (cs : List Cfg) : Prop := (∃ cs', Inv w' B cs' ∧ cs'.length ≤ cs.length + 1) ∧ Keep w w' ∧ Below B w w'
theorem left_same {w w' : World} {B : Nat} {cs : List Cfg} (hI : Inv w B cs) (hb : Below w.heap.size w w') : Left w w' B cs :=
  ⟨⟨cs, hI.below hb, by omega⟩, Keep.below hb, hb.mono (by have := hI.lt; omega)⟩

set_option maxHeartbeats 1000000 in
theorem step_12 (kd oa ob od oe : Int) (c : Cfg) (la : Option Addr) (ln lc : Nat) (ss : ByteArray) (B : Nat) (cs : List Cfg) (w : World) (hk : kd = 1 ∨ kd = 2) (hI : Inv w B cs) (hn : cs.length ≤ 1000000000000) :
    Calls Tryz.prog 11 #[.pointer (some ⟨B, 0, none⟩), (.agg #[i64 kd, i64 oa, i64 ob, i64 od, i64 oe, i64 c.s0, i64 c.k0, i64 c.s1, i64 c.k1, i64 c.s2, i64 c.k2, i64 c.s3, i64 c.k3, i64 c.m, i64 c.f, .slice la ln lc, .string ss])] w fun e w' => e = .returned (.bool true) ∧ Left w w' B cs := by
  have HI := hid hI
  have hz := hI.lt
  have HA := hid (fun (o : Obj) => (Below.refl w.heap.size w).alloc (Nat.le_refl _) o)
  clear hI
  rcases hk with rfl | rfl
  · go_enter Tryz.func11, Tryz.ntmps11
    go_wp2_with fail
    refine (created_check 1 oa ob od oe c la ln lc ss B _ rfl).mono ?_
    rintro e w1 ⟨rfl, hb⟩
    have HF := hid (left_same HI.out (below_one hb))
    clear hb
    go_wp2
    go_ret
    exact ⟨rfl, HF.out⟩
  · by_cases h : c.Ok
    · have HK := hid h
      clear h
      go_enter Tryz.func11, Tryz.ntmps11
      go_wp2_with fail
      refine (created_yes 2 oa ob od oe c la ln lc ss B cs _ rfl HK.out (HI.out.new _) hn).mono ?_
      rintro e w1 ⟨rfl, hI1, hK1, hB1⟩
      have HF := hid (show Left w w1 B cs from ⟨⟨_, hI1, by simp⟩, (Keep.below (HA.out _)).trans hK1, ((HA.out _).mono (by omega)).trans hB1⟩)
      clear hI1 hK1 hB1
      go_wp2
      go_ret
      exact ⟨rfl, HF.out⟩
    · have HK := hid h
      clear h
      go_enter Tryz.func11, Tryz.ntmps11
      go_wp2_with fail
      refine (created_no 2 oa ob od oe c la ln lc ss B _ rfl HK.out).mono ?_
      rintro e w1 ⟨rfl, hb⟩
      have HF := hid (left_same HI.out (below_one hb))
      clear hb
      go_wp2
      go_ret
      exact ⟨rfl, HF.out⟩

set_option maxHeartbeats 1000000 in
theorem step_3none (kd oa ob od oe : Int) (c : Cfg) (la : Option Addr) (ln lc : Nat) (ss : ByteArray) (B : Nat) (w : World) (hk : kd = 3) (hI : Inv w B []) :
    Calls Tryz.prog 11 #[.pointer (some ⟨B, 0, none⟩), (.agg #[i64 kd, i64 oa, i64 ob, i64 od, i64 oe, i64 c.s0, i64 c.k0, i64 c.s1, i64 c.k1, i64 c.s2, i64 c.k2, i64 c.s3, i64 c.k3, i64 c.m, i64 c.f, .slice la ln lc, .string ss])] w fun e w' => e = .returned (.bool true) ∧ Left w w' B [] := by
  subst hk
  have HF := hid (fun (o : Obj) => left_same hI ((Below.refl w.heap.size w).alloc (Nat.le_refl _) o))
  have hz := hI.lt
  obtain ⟨v, ps, hB, ho, hp⟩ := hI
  have hl : ∃ a cap, v = .slice a 0 cap := by
    obtain ⟨_, ⟨h, _⟩ | ⟨g, cap, cur, h, _⟩⟩ := ho
    · exact ⟨_, _, h⟩
    · exact ⟨_, _, h⟩
  obtain ⟨a, cap, rfl⟩ := hl
  have d0 : w.cell? ⟨B, 0, none⟩ = some (.slice a 0 cap) := cell_of_blk hB 0
  clear hB ho hp
  go_enter Tryz.func11, Tryz.ntmps11
  go_wp2
  go_ret
  exact ⟨rfl, HF.out _⟩

end Go.Proofs.YthbbfjfekchdiaaGreat
