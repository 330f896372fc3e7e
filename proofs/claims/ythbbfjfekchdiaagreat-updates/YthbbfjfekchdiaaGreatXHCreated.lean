import Derived.Test.YthbbfjfekchdiaaGreatXRCreate
import Derived.Test.YthbbfjfekchdiaaGreatXHKeepsP
import Derived.Test.YthbbfjfekchdiaaGreatXHOne
import Derived.Deep.RegionHeld3
import Derived.Laws.OwnMore
/-
  The document's Create: a database without points.
-/
namespace Go.Proofs.YthbbfjfekchdiaaGreat
open Go.RowKit
set_option linter.unusedSimpArgs false

theorem RDb.new_ok {c : Cfg} (h : c.Ok) : (RDb.new c).Ok := by
  refine ⟨h, by simp [RDb.new], fun i l hl => ?_, fun i l hl => ?_⟩
  · have : l = [] := by
      have := List.mem_iff_getElem?.2 ⟨i, hl⟩
      exact (List.mem_replicate.1 this).2
    subst this
    exact ⟨fun q hq => by simp at hq, by simp⟩
  · have : l = [] := by
      have := List.mem_iff_getElem?.2 ⟨i, hl⟩
      exact (List.mem_replicate.1 this).2
    subst this
    simp
theorem rrep_new {w : World} {c : Cfg} {p gl n : Nat} {vs : Array Value} (hp : w.heap[p]? = some (.cells #[i64 c.s0, i64 c.k0, i64 c.s1, i64 c.k1, i64 c.s2, i64 c.k2, i64 c.s3, i64 c.k3, i64 c.m, i64 c.f, .slice (some ⟨gl, 0, none⟩) c.many c.many] 70))
    (hg : w.heap[gl]? = some (.cells vs 41)) (hv : vs.toList = List.replicate c.many (.slice none 0 0)) (h1 : n ≤ p) (h2 : n ≤ gl) : RRep w (fun k => n ≤ k) p (RDb.new c) := by
  refine ⟨h1, gl, vs, hp, hg, ?_, h2, fun i l hl => ?_⟩
  · have := congrArg List.length hv
    rw [List.length_replicate, Array.length_toList] at this
    exact this
  · have hi : i < c.many := by
      obtain ⟨x, _⟩ := List.getElem?_eq_some_iff.1 hl
      simpa [RDb.new] using x
    have : l = [] := by
      have := List.mem_iff_getElem?.2 ⟨i, hl⟩
      exact (List.mem_replicate.1 this).2
    subst this
    refine ⟨.slice none 0 0, ?_, World.ownsRow_nil _ _ _ _, fun b hb => by simp [Value.ownBlock] at hb⟩
    rw [← Array.getElem?_toList, hv, List.getElem?_replicate_of_lt hi]

set_option maxHeartbeats 1000000 in
theorem rcreate_full (c : Cfg) (w : World) (h : c.Ok) :
    Calls Tryz.prog 23 #[.agg c.cells] w fun e w' => ∃ p gl vs, e = .returned (.pointer (some ⟨p, 0, none⟩)) ∧ Below w.heap.size w w' ∧ w'.heap[p]? = some (.cells #[i64 c.s0, i64 c.k0, i64 c.s1, i64 c.k1, i64 c.s2, i64 c.k2, i64 c.s3, i64 c.k3, i64 c.m, i64 c.f, .slice (some ⟨gl, 0, none⟩) c.many c.many] 70) ∧ w'.heap[gl]? = some (.cells vs 41) ∧ vs.toList = List.replicate c.many (.slice none 0 0) ∧ w.heap.size ≤ p ∧ w.heap.size ≤ gl := by
  show Calls Tryz.prog 23 #[.agg #[i64 c.s0, i64 c.k0, i64 c.s1, i64 c.k1, i64 c.s2, i64 c.k2, i64 c.s3, i64 c.k3, i64 c.m, i64 c.f]] w _
  have he := c.err_ok h
  have h4 := c.many_le
  obtain ⟨i0, hi, hz0, hz1, hz2⟩ := info_parts Tryz.infoPoints
  have hmk : ∀ w : World, (Instr.makeSlice 31 (.int .i64 (c.many : Int)) (.int .i64 (c.many : Int))).run Tryz.prog w = .ok (.slice (some ⟨w.heap.size, 0, none⟩) c.many c.many) (w.alloc (.cells (madeCells #[.slice none 0 0] (c.many * i0.size)) 41)) := by
    intro w
    have := run_makeSlice (P := Tryz.prog) w 31 41 i0 _ Tryz.underlying31 hi hz0 .i64 .i64 c.many c.many (by omega) (by omega) (by rw [hz1]; simp; omega) (by rw [hz2]; omega) (by omega)
    simp only [Int.toNat_natCast] at this
    exact this
  have HZ1 := hid hz1
  clear h hi hz0 hz1 hz2
  go_enter Tryz.func23, Tryz.ntmps23
  go_wp2_with (go_at_call 19; refine (rcheck_any c _).mono ?_; rintro e w1 ⟨rfl, hb⟩; have HB := hid (below_one hb); obtain ⟨c0, c1, c2, c3, c4, c5, c6, c7, c8, c9⟩ := (box_new w c).later hb; have hz : w.heap.size < w1.heap.size := (by have := hb.size; simp at this; omega); clear hb)
  go_region_held3 (fun w' => w'.cell? ⟨w.heap.size, 0, none⟩ = some (i64 c.s0) ∧ w'.cell? ⟨w.heap.size, 1, none⟩ = some (i64 c.k0) ∧ w'.cell? ⟨w.heap.size, 2, none⟩ = some (i64 c.s1) ∧ w'.cell? ⟨w.heap.size, 3, none⟩ = some (i64 c.k1) ∧ w'.cell? ⟨w.heap.size, 4, none⟩ = some (i64 c.s2) ∧ w'.cell? ⟨w.heap.size, 5, none⟩ = some (i64 c.k2) ∧ w'.cell? ⟨w.heap.size, 6, none⟩ = some (i64 c.s3) ∧ w'.cell? ⟨w.heap.size, 7, none⟩ = some (i64 c.k3) ∧ w'.cell? ⟨w.heap.size, 8, none⟩ = some (i64 c.m) ∧ w'.cell? ⟨w.heap.size, 9, none⟩ = some (i64 c.f)) (first | go_keep | (refine ⟨?_, ?_, ?_, ?_, ?_, ?_, ?_, ?_, ?_, ?_⟩ <;> exact cell_later hb2 (by simp [*]))) ((go_at_call 39; refine (many_any c _).mono ?_; rintro e w2 ⟨rfl, hb2⟩))
  go_wp2
  go_ret
  have hb3 : Below w1.heap.size w1 w2 := (Below.refl w1.heap.size w1).drew.trans hb2
  have hz3 := hb3.size
  have hB : Below w.heap.size w w2 := HB.out.trans (hb3.mono (by omega))
  have e : (w2.alloc (.cells (madeCells #[.slice none 0 0] (c.many * i0.size)) 41)).heap.size = w2.heap.size + 1 := by simp
  have r := blk_new (w2.alloc (.cells (madeCells #[.slice none 0 0] (c.many * i0.size)) 41)) (.cells #[i64 c.s0, i64 c.k0, i64 c.s1, i64 c.k1, i64 c.s2, i64 c.k2, i64 c.s3, i64 c.k3, i64 c.m, i64 c.f, .slice (some ⟨w2.heap.size, 0, none⟩) c.many c.many] 70)
  rw [e] at r
  refine ⟨w2.heap.size + 1, w2.heap.size, _, rfl, (hB.alloc (by omega) _).alloc (by simp; omega) _, r, blk_alloc (blk_new w2 _), ?_, by omega, by omega⟩
  rw [toList_madeCells_one, HZ1.out, Nat.mul_one]
theorem rcreate_rrep (c : Cfg) (w : World) (h : c.Ok) :
    Calls Tryz.prog 23 #[.agg c.cells] w fun e w' => ∃ p, e = .returned (.pointer (some ⟨p, 0, none⟩)) ∧ Below w.heap.size w w' ∧ RRep w' (fun k => w.heap.size ≤ k) p (RDb.new c) := by
  refine (rcreate_full c w h).mono ?_
  rintro e w' ⟨p, gl, vs, he, hb, h1, h2, h3, h4, h5⟩
  exact ⟨p, he, hb, rrep_new h1 h2 h3 h4 h5⟩
end Go.Proofs.YthbbfjfekchdiaaGreat
namespace Go.Proofs.YthbbfjfekchdiaaGreat
open Go.RowKit
set_option linter.unusedSimpArgs false

/-- a block whose cells are a step: its kind, its configuration -/
structure OBox2 (w : World) (b : Nat) (kd : Int) (c : Cfg) : Prop where
  o0 : w.cell? ⟨b, 0, none⟩ = some (i64 kd)
  p0 : w.cell? ⟨b, 5, none⟩ = some (i64 c.s0)
  p1 : w.cell? ⟨b, 6, none⟩ = some (i64 c.k0)
  p2 : w.cell? ⟨b, 7, none⟩ = some (i64 c.s1)
  p3 : w.cell? ⟨b, 8, none⟩ = some (i64 c.k1)
  p4 : w.cell? ⟨b, 9, none⟩ = some (i64 c.s2)
  p5 : w.cell? ⟨b, 10, none⟩ = some (i64 c.k2)
  p6 : w.cell? ⟨b, 11, none⟩ = some (i64 c.s3)
  p7 : w.cell? ⟨b, 12, none⟩ = some (i64 c.k3)
  p8 : w.cell? ⟨b, 13, none⟩ = some (i64 c.m)
  p9 : w.cell? ⟨b, 14, none⟩ = some (i64 c.f)

theorem OBox2.later {w w' : World} {b : Nat} {kd : Int} {c : Cfg} (h : OBox2 w b kd c) (hb : Below w.heap.size w w') : OBox2 w' b kd c :=
  ⟨cell_later hb h.o0, cell_later hb h.p0, cell_later hb h.p1, cell_later hb h.p2, cell_later hb h.p3, cell_later hb h.p4, cell_later hb h.p5, cell_later hb h.p6, cell_later hb h.p7, cell_later hb h.p8, cell_later hb h.p9⟩
theorem obox2_new (w : World) (kd oa ob od oe : Int) (c : Cfg) (la : Option Addr) (ln lc : Nat) (ss : ByteArray) : OBox2 (w.alloc (.cells #[i64 kd, i64 oa, i64 ob, i64 od, i64 oe, i64 c.s0, i64 c.k0, i64 c.s1, i64 c.k1, i64 c.s2, i64 c.k2, i64 c.s3, i64 c.k3, i64 c.m, i64 c.f, .slice la ln lc, .string ss] 43)) w.heap.size kd c := by
  constructor <;> simp
theorem below_chain2 {w w1 w2 : World} {O : Obj} (h1 : Below (w.alloc O).heap.size (w.alloc O) w1) (h2 : Below w1.heap.size w1 w2) : Below w.heap.size w w2 :=
  (below_one h1).trans (h2.mono (below_one h1).size)


set_option maxHeartbeats 1000000 in
theorem created2_check {R : Rep} (H : ProgOk R) (kd oa ob od oe : Int) (c : Cfg) (la : Option Addr) (ln lc : Nat) (ss : ByteArray) (B : Nat) (w : World) (hk : kd = 1) :
    Calls Tryz.prog 14 #[.pointer (some ⟨B, 0, none⟩), opV kd oa ob od oe c la ln lc ss] w fun e w' => e = .returned (.bool true) ∧ Below w.heap.size w w' := by
  subst hk
  have HN := hid (obox2_new w 1 oa ob od oe c la ln lc ss)
  go_enter Tryz.func14, Tryz.ntmps14
  go_wp2_with fail
  refine (rcheck_any c _).mono ?_
  rintro e w1 ⟨rfl, hb1⟩
  obtain ⟨o0, p0, p1, p2, p3, p4, p5, p6, p7, p8, p9⟩ := HN.out.later hb1
  have hz : w.heap.size < w1.heap.size := by have := hb1.size; simp at this; omega
  have H1 := hid hb1
  clear hb1
  go_wp2_with fail
  refine (H.check c _).mono ?_
  rintro e w2 ⟨rfl, hb2⟩
  have H2 := hid (below_chain2 H1.out hb2)
  clear hb2
  go_wp2
  go_ret
  exact ⟨by simp, H2.out⟩

set_option maxHeartbeats 1000000 in
theorem created2_no {R : Rep} (H : ProgOk R) (kd oa ob od oe : Int) (c : Cfg) (la : Option Addr) (ln lc : Nat) (ss : ByteArray) (B : Nat) (w : World) (hk : kd = 2) (h : ¬ c.Ok) :
    Calls Tryz.prog 14 #[.pointer (some ⟨B, 0, none⟩), opV kd oa ob od oe c la ln lc ss] w fun e w' => e = .returned (.bool true) ∧ Below w.heap.size w w' := by
  subst hk
  have he := c.err_no h
  have HN := hid (obox2_new w 2 oa ob od oe c la ln lc ss)
  have HK := hid h
  clear h
  go_enter Tryz.func14, Tryz.ntmps14
  go_wp2_with fail
  refine (rcheck_any c _).mono ?_
  rintro e w1 ⟨rfl, hb1⟩
  obtain ⟨o0, p0, p1, p2, p3, p4, p5, p6, p7, p8, p9⟩ := HN.out.later hb1
  have hz : w.heap.size < w1.heap.size := by have := hb1.size; simp at this; omega
  have H1 := hid hb1
  clear hb1
  go_wp2_with fail
  refine (H.createNo c _ HK.out).mono ?_
  rintro e w2 ⟨rfl, hb2⟩
  have H2 := hid (below_chain2 H1.out hb2)
  clear o0 p0 p1 p2 p3 p4 p5 p6 p7 p8 p9
  obtain ⟨o0, p0, p1, p2, p3, p4, p5, p6, p7, p8, p9⟩ := (HN.out.later H1.out).later hb2
  have hz2 : w.heap.size < w2.heap.size := by have := hb2.size; omega
  clear hb2
  go_wp2_with fail
  refine (rcreate_no c _ HK.out).mono ?_
  rintro e w3 ⟨rfl, hb3⟩
  have H3 := hid (H2.out.trans (hb3.mono H2.out.size))
  clear hb3
  go_wp2_with fail
  refine (one2_no _ _).mono ?_
  rintro e w4 ⟨rfl, hb4⟩
  have H4 := hid (H3.out.trans (hb4.mono H3.out.size))
  clear hb4
  go_wp2
  go_ret
  exact ⟨by simp, H4.out⟩

set_option maxHeartbeats 1000000 in
theorem created2_yes {R : Rep} (H : ProgOk R) (kd oa ob od oe : Int) (c : Cfg) (la : Option Addr) (ln lc : Nat) (ss : ByteArray) (B : Nat) (w : World) (tag : Nat → Tag) (ds : List RDb) (bs is ps : List Value) (hk : kd = 2) (h : c.Ok) (hI : HInv R w B tag ds bs is ps) (hn : ds.length ≤ 1000000000000) :
    Calls Tryz.prog 14 #[.pointer (some ⟨B, 0, none⟩), opV kd oa ob od oe c la ln lc ss] w fun e w' => e = .returned (.bool true) ∧ Left2 R w w' B ds bs is ps := by
  subst hk
  have he := c.err_ok h
  have HN := hid (obox2_new w 2 oa ob od oe c la ln lc ss)
  have HK := hid h
  have HI := hid hI
  have hBz := hI.lt
  clear h hI
  go_enter Tryz.func14, Tryz.ntmps14
  go_wp2_with fail
  refine (rcheck_any c _).mono ?_
  rintro e w1 ⟨rfl, hb1⟩
  obtain ⟨o0, p0, p1, p2, p3, p4, p5, p6, p7, p8, p9⟩ := HN.out.later hb1
  have hz : w.heap.size < w1.heap.size := by have := hb1.size; simp at this; omega
  have H1 := hid hb1
  clear hb1
  go_wp2_with fail
  refine (H.create c _ HK.out).mono ?_
  rintro e w2 ⟨pd, rfl, hb2, hrd⟩
  have H2 := hid (below_chain2 H1.out hb2)
  have HD := hid hrd
  have hz12 := hb2.size
  clear o0 p0 p1 p2 p3 p4 p5 p6 p7 p8 p9 hrd
  obtain ⟨o0, p0, p1, p2, p3, p4, p5, p6, p7, p8, p9⟩ := (HN.out.later H1.out).later hb2
  have hz2 : w.heap.size < w2.heap.size := by have := hb2.size; omega
  clear hb2
  go_wp2_with fail
  refine (rcreate_rrep c _ HK.out).mono ?_
  rintro e w3 ⟨pr, rfl, hb3, hrr⟩
  have H3 := hid (H2.out.trans (hb3.mono H2.out.size))
  have HBO := hid (Both.mk' H hz12 HD.out hb3 hrr (RDb.new_ok HK.out))
  clear hb3 hrr
  go_wp2_with fail
  refine (one2_yes H B pd pr w1.heap.size (RDb.new c) _ (tagUp tag w.heap.size fun _ => .db ds.length) ds bs is ps (HI.out.retag H H3.out _) (fun k hk _ => tagUp_ge (by omega)) HBO.out hn).mono ?_
  rintro e w4 ⟨rfl, ⟨tag4, hI4⟩, hB4⟩
  have HF := hid (show Left2 R w w4 B ds bs is ps from ⟨⟨tag4, _, ps, hI4, by simp, by omega⟩, (H3.out.mono (by omega)).trans hB4⟩)
  clear hI4 hB4
  go_wp2
  go_ret
  exact ⟨by simp, HF.out⟩
end Go.Proofs.YthbbfjfekchdiaaGreat
