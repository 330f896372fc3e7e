import Derived.Test.YthbbfjfekchdiaaGreatXWOne
namespace Go.Proofs.YthbbfjfekchdiaaGreat
open Go.RowKit
set_option linter.unusedSimpArgs false

/-- a block whose cells are a step: its kind, its configuration -/
structure OBox (w : World) (b : Nat) (kd : Int) (c : Cfg) : Prop where
  o0 : w.cell? ⟨b, 0, none⟩ = some (i64 kd)
  p0 : w.cell? ⟨b, 5, none⟩ = some (i64 c.s0)
  p1 : w.cell? ⟨b, 6, none⟩ = some (i64 c.k0)
  p2 : w.cell? ⟨b, 7, none⟩ = some (i64 c.s1)
  p3 : w.cell? ⟨b, 8, none⟩ = some (i64 c.k1)
  p4 : w.cell? ⟨b, 9, none⟩ = some (i64 c.s2)
  p5 : w.cell? ⟨b, 10, none⟩ = some (i64 c.k2)
  p6 : w.cell? ⟨b, 11, none⟩ = some (i64 c.s3)
  p7 : w.cell? ⟨b, 12, none⟩ = some (i64 c.k3)
  p8 : w.cell? ⟨b, 13, none⟩ = some (i64 c.m)
  p9 : w.cell? ⟨b, 14, none⟩ = some (i64 c.f)

theorem OBox.later {w w' : World} {b : Nat} {kd : Int} {c : Cfg} (h : OBox w b kd c) (hb : Below w.heap.size w w') : OBox w' b kd c :=
  ⟨cell_later hb h.o0, cell_later hb h.p0, cell_later hb h.p1, cell_later hb h.p2, cell_later hb h.p3, cell_later hb h.p4, cell_later hb h.p5, cell_later hb h.p6, cell_later hb h.p7, cell_later hb h.p8, cell_later hb h.p9⟩
theorem obox_new (w : World) (kd oa ob od oe : Int) (c : Cfg) (la : Option Addr) (ln lc : Nat) (ss : ByteArray) : OBox (w.alloc (.cells #[i64 kd, i64 oa, i64 ob, i64 od, i64 oe, i64 c.s0, i64 c.k0, i64 c.s1, i64 c.k1, i64 c.s2, i64 c.k2, i64 c.s3, i64 c.k3, i64 c.m, i64 c.f, .slice la ln lc, .string ss] 43)) w.heap.size kd c := by
  constructor <;> simp
theorem below_chain {w w1 w2 : World} {O : Obj} (h1 : Below (w.alloc O).heap.size (w.alloc O) w1) (h2 : Below w1.heap.size w1 w2) : Below w.heap.size w w2 :=
  (below_one h1).trans (h2.mono (below_one h1).size)

set_option maxHeartbeats 1000000 in
theorem created_check (kd oa ob od oe : Int) (c : Cfg) (la : Option Addr) (ln lc : Nat) (ss : ByteArray) (B : Nat) (w : World) (hk : kd = 1) :
    Calls Tryz.prog 14 #[.pointer (some ⟨B, 0, none⟩), (.agg #[i64 kd, i64 oa, i64 ob, i64 od, i64 oe, i64 c.s0, i64 c.k0, i64 c.s1, i64 c.k1, i64 c.s2, i64 c.k2, i64 c.s3, i64 c.k3, i64 c.m, i64 c.f, .slice la ln lc, .string ss])] w fun e w' => e = .returned (.bool true) ∧ Below w.heap.size w w' := by
  subst hk
  have HN := hid (obox_new w 1 oa ob od oe c la ln lc ss)
  go_enter Tryz.func14, Tryz.ntmps14
  go_wp2_with fail
  refine (rcheck_any c _).mono ?_
  rintro e w1 ⟨rfl, hb1⟩
  obtain ⟨o0, p0, p1, p2, p3, p4, p5, p6, p7, p8, p9⟩ := HN.out.later hb1
  have hz : w.heap.size < w1.heap.size := by have := hb1.size; simp at this; omega
  have H1 := hid hb1
  clear hb1
  go_wp2_with fail
  refine (pcheck_any c _).mono ?_
  rintro e w2 ⟨rfl, hb2⟩
  have H2 := hid (below_chain H1.out hb2)
  clear hb2
  go_wp2
  go_ret
  exact ⟨by simp, H2.out⟩

set_option maxHeartbeats 1000000 in
theorem created_no (kd oa ob od oe : Int) (c : Cfg) (la : Option Addr) (ln lc : Nat) (ss : ByteArray) (B : Nat) (w : World) (hk : kd = 2) (h : ¬ c.Ok) :
    Calls Tryz.prog 14 #[.pointer (some ⟨B, 0, none⟩), (.agg #[i64 kd, i64 oa, i64 ob, i64 od, i64 oe, i64 c.s0, i64 c.k0, i64 c.s1, i64 c.k1, i64 c.s2, i64 c.k2, i64 c.s3, i64 c.k3, i64 c.m, i64 c.f, .slice la ln lc, .string ss])] w fun e w' => e = .returned (.bool true) ∧ Below w.heap.size w w' := by
  subst hk
  have he := c.err_no h
  have HN := hid (obox_new w 2 oa ob od oe c la ln lc ss)
  have HK := hid h
  clear h
  go_enter Tryz.func14, Tryz.ntmps14
  go_wp2_with fail
  refine (rcheck_any c _).mono ?_
  rintro e w1 ⟨rfl, hb1⟩
  obtain ⟨o0, p0, p1, p2, p3, p4, p5, p6, p7, p8, p9⟩ := HN.out.later hb1
  have hz : w.heap.size < w1.heap.size := by have := hb1.size; simp at this; omega
  have H1 := hid hb1
  clear hb1
  go_wp2_with fail
  refine (pcreate_no c _ HK.out).mono ?_
  rintro e w2 ⟨rfl, hb2⟩
  have H2 := hid (below_chain H1.out hb2)
  clear o0 p0 p1 p2 p3 p4 p5 p6 p7 p8 p9
  obtain ⟨o0, p0, p1, p2, p3, p4, p5, p6, p7, p8, p9⟩ := (HN.out.later H1.out).later hb2
  have hz2 : w.heap.size < w2.heap.size := by have := hb2.size; omega
  clear hb2
  go_wp2_with fail
  refine (rcreate_no c _ HK.out).mono ?_
  rintro e w3 ⟨rfl, hb3⟩
  have H3 := hid (H2.out.trans (hb3.mono H2.out.size))
  clear hb3
  go_wp2_with (go_at_call 22; refine (one_no _ _).mono ?_; rintro e w4 ⟨rfl, rfl⟩)
  go_ret
  exact ⟨by simp, H3.out⟩

set_option maxHeartbeats 1000000 in
theorem created_yes (kd oa ob od oe : Int) (c : Cfg) (la : Option Addr) (ln lc : Nat) (ss : ByteArray) (B : Nat) (cs : List Cfg) (w : World) (hk : kd = 2) (h : c.Ok) (hI : Inv w B cs) (hn : cs.length ≤ 1000000000000) :
    Calls Tryz.prog 14 #[.pointer (some ⟨B, 0, none⟩), (.agg #[i64 kd, i64 oa, i64 ob, i64 od, i64 oe, i64 c.s0, i64 c.k0, i64 c.s1, i64 c.k1, i64 c.s2, i64 c.k2, i64 c.s3, i64 c.k3, i64 c.m, i64 c.f, .slice la ln lc, .string ss])] w fun e w' => e = .returned (.bool true) ∧ Inv w' B (cs ++ [c]) ∧ Keep w w' ∧ Below B w w' := by
  subst hk
  have he := c.err_ok h
  have HN := hid (obox_new w 2 oa ob od oe c la ln lc ss)
  have HK := hid h
  have HI := hid hI
  have hBz : B < w.heap.size := by obtain ⟨_, _, hB, _⟩ := hI; exact blk_lt hB
  clear h hI
  go_enter Tryz.func14, Tryz.ntmps14
  go_wp2_with fail
  refine (rcheck_any c _).mono ?_
  rintro e w1 ⟨rfl, hb1⟩
  obtain ⟨o0, p0, p1, p2, p3, p4, p5, p6, p7, p8, p9⟩ := HN.out.later hb1
  have hz : w.heap.size < w1.heap.size := by have := hb1.size; simp at this; omega
  have H1 := hid hb1
  clear hb1
  go_wp2_with fail
  refine (pcreate_yes c _ HK.out).mono ?_
  rintro e w2 ⟨pd, rfl, hb2, hrd⟩
  have H2 := hid (below_chain H1.out hb2)
  have HD := hid hrd
  clear o0 p0 p1 p2 p3 p4 p5 p6 p7 p8 p9 hrd
  obtain ⟨o0, p0, p1, p2, p3, p4, p5, p6, p7, p8, p9⟩ := (HN.out.later H1.out).later hb2
  have hz2 : w.heap.size < w2.heap.size := by have := hb2.size; omega
  clear hb2
  go_wp2_with fail
  refine (rcreate_yes c _ HK.out).mono ?_
  rintro e w3 ⟨pr, rfl, hb3, hrr⟩
  have H3 := hid (H2.out.trans (hb3.mono H2.out.size))
  have HD3 := hid (HD.out.keep (Keep.below hb3))
  have HR := hid hrr
  clear hb3 hrr
  go_wp2_with fail
  refine (one_yes B pd pr c cs _ (HI.out.below H3.out) HK.out HD3.out HR.out hn).mono ?_
  rintro e w4 ⟨rfl, hI4, hK4, hB4⟩
  have HF := hid (show Inv w4 B (cs ++ [c]) ∧ Keep w w4 ∧ Below B w w4 from ⟨hI4, (Keep.below H3.out).trans hK4, (H3.out.mono (by omega)).trans hB4⟩)
  clear hI4 hK4 hB4
  go_wp2
  go_ret
  exact ⟨by simp, HF.out⟩
end Go.Proofs.YthbbfjfekchdiaaGreat
