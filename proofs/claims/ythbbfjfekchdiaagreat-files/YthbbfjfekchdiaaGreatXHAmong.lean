import Derived.Test.YthbbfjfekchdiaaGreatXRCreate
import Derived.Test.YthbbfjfekchdiaaGreatXHKeepsP
import Derived.Test.YthbbfjfekchdiaaGreatXHOne
import Derived.Test.YthbbfjfekchdiaaGreatXRCheck
import Derived.Deep.RegionHeld3
import Derived.Laws.OwnMore
import Derived.Deep.AppendSrc
namespace Go.Proofs.YthbbfjfekchdiaaGreat
open Go.RowKit
set_option linter.unusedSimpArgs false
theorem RDb.new_ok {c : Cfg} (h : c.Ok) : (RDb.new c).Ok := by
  refine ⟨h, by simp [RDb.new], fun i l hl => ?_, fun i l hl => ?_⟩
  · have : l = [] := by
      have := List.mem_iff_getElem?.2 ⟨i, hl⟩
      exact (List.mem_replicate.1 this).2
    subst this
    exact ⟨fun q hq => by simp at hq, by simp⟩
  · have : l = [] := by
      have := List.mem_iff_getElem?.2 ⟨i, hl⟩
      exact (List.mem_replicate.1 this).2
    subst this
    simp
theorem rrep_new {w : World} {c : Cfg} {p gl n : Nat} {vs : Array Value} (hp : w.heap[p]? = some (.cells #[i64 c.s0, i64 c.k0, i64 c.s1, i64 c.k1, i64 c.s2, i64 c.k2, i64 c.s3, i64 c.k3, i64 c.m, i64 c.f, .slice (some ⟨gl, 0, none⟩) c.many c.many] 70))
    (hg : w.heap[gl]? = some (.cells vs 41)) (hv : vs.toList = List.replicate c.many (.slice none 0 0)) (h1 : n ≤ p) (h2 : n ≤ gl) : RRep w (fun k => n ≤ k) p (RDb.new c) := by
  refine ⟨h1, gl, vs, hp, hg, ?_, h2, fun i l hl => ?_⟩
  · have := congrArg List.length hv
    rw [List.length_replicate, Array.length_toList] at this
    exact this
  · have hi : i < c.many := by
      obtain ⟨x, _⟩ := List.getElem?_eq_some_iff.1 hl
      simpa [RDb.new] using x
    have : l = [] := by
      have := List.mem_iff_getElem?.2 ⟨i, hl⟩
      exact (List.mem_replicate.1 this).2
    subst this
    refine ⟨.slice none 0 0, ?_, World.ownsRow_nil _ _ _ _, fun b hb => by simp [Value.ownBlock] at hb⟩
    rw [← Array.getElem?_toList, hv, List.getElem?_replicate_of_lt hi]
set_option maxHeartbeats 1000000 in
theorem rcreate_full (c : Cfg) (w : World) (h : c.Ok) :
    Calls Tryz.prog 23 #[.agg c.cells] w fun e w' => ∃ p gl vs, e = .returned (.pointer (some ⟨p, 0, none⟩)) ∧ Below w.heap.size w w' ∧ w'.heap[p]? = some (.cells #[i64 c.s0, i64 c.k0, i64 c.s1, i64 c.k1, i64 c.s2, i64 c.k2, i64 c.s3, i64 c.k3, i64 c.m, i64 c.f, .slice (some ⟨gl, 0, none⟩) c.many c.many] 70) ∧ w'.heap[gl]? = some (.cells vs 41) ∧ vs.toList = List.replicate c.many (.slice none 0 0) ∧ w.heap.size ≤ p ∧ w.heap.size ≤ gl := by
  show Calls Tryz.prog 23 #[.agg #[i64 c.s0, i64 c.k0, i64 c.s1, i64 c.k1, i64 c.s2, i64 c.k2, i64 c.s3, i64 c.k3, i64 c.m, i64 c.f]] w _
  have he := c.err_ok h
  have h4 := c.many_le
  obtain ⟨i0, hi, hz0, hz1, hz2⟩ := info_parts Tryz.infoPoints
  have hmk : ∀ w : World, (Instr.makeSlice 31 (.int .i64 (c.many : Int)) (.int .i64 (c.many : Int))).run Tryz.prog w = .ok (.slice (some ⟨w.heap.size, 0, none⟩) c.many c.many) (w.alloc (.cells (madeCells #[.slice none 0 0] (c.many * i0.size)) 41)) := by
    intro w
    have := run_makeSlice (P := Tryz.prog) w 31 41 i0 _ Tryz.underlying31 hi hz0 .i64 .i64 c.many c.many (by omega) (by omega) (by rw [hz1]; simp; omega) (by rw [hz2]; omega) (by omega)
    simp only [Int.toNat_natCast] at this
    exact this
  have HZ1 := hid hz1
  clear h hi hz0 hz1 hz2
  go_enter Tryz.func23, Tryz.ntmps23
  go_wp2_with (go_at_call 19; refine (rcheck_any c _).mono ?_; rintro e w1 ⟨rfl, hb⟩; have HB := hid (below_one hb); obtain ⟨c0, c1, c2, c3, c4, c5, c6, c7, c8, c9⟩ := (box_new w c).later hb; have hz : w.heap.size < w1.heap.size := (by have := hb.size; simp at this; omega); clear hb)
  go_region_held3 (fun w' => w'.cell? ⟨w.heap.size, 0, none⟩ = some (i64 c.s0) ∧ w'.cell? ⟨w.heap.size, 1, none⟩ = some (i64 c.k0) ∧ w'.cell? ⟨w.heap.size, 2, none⟩ = some (i64 c.s1) ∧ w'.cell? ⟨w.heap.size, 3, none⟩ = some (i64 c.k1) ∧ w'.cell? ⟨w.heap.size, 4, none⟩ = some (i64 c.s2) ∧ w'.cell? ⟨w.heap.size, 5, none⟩ = some (i64 c.k2) ∧ w'.cell? ⟨w.heap.size, 6, none⟩ = some (i64 c.s3) ∧ w'.cell? ⟨w.heap.size, 7, none⟩ = some (i64 c.k3) ∧ w'.cell? ⟨w.heap.size, 8, none⟩ = some (i64 c.m) ∧ w'.cell? ⟨w.heap.size, 9, none⟩ = some (i64 c.f)) (first | go_keep | (refine ⟨?_, ?_, ?_, ?_, ?_, ?_, ?_, ?_, ?_, ?_⟩ <;> exact cell_later hb2 (by simp [*]))) ((go_at_call 39; refine (many_any c _).mono ?_; rintro e w2 ⟨rfl, hb2⟩))
  go_wp2
  go_ret
  have hb3 : Below w1.heap.size w1 w2 := (Below.refl w1.heap.size w1).drew.trans hb2
  have hz3 := hb3.size
  have hB : Below w.heap.size w w2 := HB.out.trans (hb3.mono (by omega))
  have e : (w2.alloc (.cells (madeCells #[.slice none 0 0] (c.many * i0.size)) 41)).heap.size = w2.heap.size + 1 := by simp
  have r := blk_new (w2.alloc (.cells (madeCells #[.slice none 0 0] (c.many * i0.size)) 41)) (.cells #[i64 c.s0, i64 c.k0, i64 c.s1, i64 c.k1, i64 c.s2, i64 c.k2, i64 c.s3, i64 c.k3, i64 c.m, i64 c.f, .slice (some ⟨w2.heap.size, 0, none⟩) c.many c.many] 70)
  rw [e] at r
  refine ⟨w2.heap.size + 1, w2.heap.size, _, rfl, (hB.alloc (by omega) _).alloc (by simp; omega) _, r, blk_alloc (blk_new w2 _), ?_, by omega, by omega⟩
  rw [toList_madeCells_one, HZ1.out, Nat.mul_one]
theorem rcreate_rrep (c : Cfg) (w : World) (h : c.Ok) :
    Calls Tryz.prog 23 #[.agg c.cells] w fun e w' => ∃ p, e = .returned (.pointer (some ⟨p, 0, none⟩)) ∧ Below w.heap.size w w' ∧ RRep w' (fun k => w.heap.size ≤ k) p (RDb.new c) := by
  refine (rcreate_full c w h).mono ?_
  rintro e w' ⟨p, gl, vs, he, hb, h1, h2, h3, h4, h5⟩
  exact ⟨p, he, hb, rrep_new h1 h2 h3 h4 h5⟩
end Go.Proofs.YthbbfjfekchdiaaGreat
namespace Go.Proofs.YthbbfjfekchdiaaGreat
open Go.RowKit
set_option linter.unusedSimpArgs false
structure OBox2 (w : World) (b : Nat) (kd : Int) (c : Cfg) : Prop where
  o0 : w.cell? ⟨b, 0, none⟩ = some (i64 kd)
  p0 : w.cell? ⟨b, 5, none⟩ = some (i64 c.s0)
  p1 : w.cell? ⟨b, 6, none⟩ = some (i64 c.k0)
  p2 : w.cell? ⟨b, 7, none⟩ = some (i64 c.s1)
  p3 : w.cell? ⟨b, 8, none⟩ = some (i64 c.k1)
  p4 : w.cell? ⟨b, 9, none⟩ = some (i64 c.s2)
  p5 : w.cell? ⟨b, 10, none⟩ = some (i64 c.k2)
  p6 : w.cell? ⟨b, 11, none⟩ = some (i64 c.s3)
  p7 : w.cell? ⟨b, 12, none⟩ = some (i64 c.k3)
  p8 : w.cell? ⟨b, 13, none⟩ = some (i64 c.m)
  p9 : w.cell? ⟨b, 14, none⟩ = some (i64 c.f)
theorem OBox2.later {w w' : World} {b : Nat} {kd : Int} {c : Cfg} (h : OBox2 w b kd c) (hb : Below w.heap.size w w') : OBox2 w' b kd c :=
  ⟨cell_later hb h.o0, cell_later hb h.p0, cell_later hb h.p1, cell_later hb h.p2, cell_later hb h.p3, cell_later hb h.p4, cell_later hb h.p5, cell_later hb h.p6, cell_later hb h.p7, cell_later hb h.p8, cell_later hb h.p9⟩
theorem obox2_new (w : World) (kd oa ob od oe : Int) (c : Cfg) (la : Option Addr) (ln lc : Nat) (ss : ByteArray) : OBox2 (w.alloc (.cells #[i64 kd, i64 oa, i64 ob, i64 od, i64 oe, i64 c.s0, i64 c.k0, i64 c.s1, i64 c.k1, i64 c.s2, i64 c.k2, i64 c.s3, i64 c.k3, i64 c.m, i64 c.f, .slice la ln lc, .string ss] 43)) w.heap.size kd c := by
  constructor <;> simp
theorem below_chain2 {w w1 w2 : World} {O : Obj} (h1 : Below (w.alloc O).heap.size (w.alloc O) w1) (h2 : Below w1.heap.size w1 w2) : Below w.heap.size w w2 :=
  (below_one h1).trans (h2.mono (below_one h1).size)
set_option maxHeartbeats 1000000 in
theorem created2_check {R : Rep} (H : ProgOk R) (kd oa ob od oe : Int) (c : Cfg) (la : Option Addr) (ln lc : Nat) (ss : ByteArray) (B : Nat) (w : World) (hk : kd = 1) :
    Calls Tryz.prog 14 #[.pointer (some ⟨B, 0, none⟩), opV kd oa ob od oe c la ln lc ss] w fun e w' => e = .returned (.bool true) ∧ Below w.heap.size w w' := by
  subst hk
  have HN := hid (obox2_new w 1 oa ob od oe c la ln lc ss)
  go_enter Tryz.func14, Tryz.ntmps14
  go_wp2_with fail
  refine (rcheck_any c _).mono ?_
  rintro e w1 ⟨rfl, hb1⟩
  obtain ⟨o0, p0, p1, p2, p3, p4, p5, p6, p7, p8, p9⟩ := HN.out.later hb1
  have hz : w.heap.size < w1.heap.size := by have := hb1.size; simp at this; omega
  have H1 := hid hb1
  clear hb1
  go_wp2_with fail
  refine (H.check c _).mono ?_
  rintro e w2 ⟨rfl, hb2⟩
  have H2 := hid (below_chain2 H1.out hb2)
  clear hb2
  go_wp2
  go_ret
  exact ⟨by simp, H2.out⟩
set_option maxHeartbeats 1000000 in
theorem created2_no {R : Rep} (H : ProgOk R) (kd oa ob od oe : Int) (c : Cfg) (la : Option Addr) (ln lc : Nat) (ss : ByteArray) (B : Nat) (w : World) (hk : kd = 2) (h : ¬ c.Ok) :
    Calls Tryz.prog 14 #[.pointer (some ⟨B, 0, none⟩), opV kd oa ob od oe c la ln lc ss] w fun e w' => e = .returned (.bool true) ∧ Below w.heap.size w w' := by
  subst hk
  have he := c.err_no h
  have HN := hid (obox2_new w 2 oa ob od oe c la ln lc ss)
  have HK := hid h
  clear h
  go_enter Tryz.func14, Tryz.ntmps14
  go_wp2_with fail
  refine (rcheck_any c _).mono ?_
  rintro e w1 ⟨rfl, hb1⟩
  obtain ⟨o0, p0, p1, p2, p3, p4, p5, p6, p7, p8, p9⟩ := HN.out.later hb1
  have hz : w.heap.size < w1.heap.size := by have := hb1.size; simp at this; omega
  have H1 := hid hb1
  clear hb1
  go_wp2_with fail
  refine (H.createNo c _ HK.out).mono ?_
  rintro e w2 ⟨rfl, hb2⟩
  have H2 := hid (below_chain2 H1.out hb2)
  clear o0 p0 p1 p2 p3 p4 p5 p6 p7 p8 p9
  obtain ⟨o0, p0, p1, p2, p3, p4, p5, p6, p7, p8, p9⟩ := (HN.out.later H1.out).later hb2
  have hz2 : w.heap.size < w2.heap.size := by have := hb2.size; omega
  clear hb2
  go_wp2_with fail
  refine (rcreate_no c _ HK.out).mono ?_
  rintro e w3 ⟨rfl, hb3⟩
  have H3 := hid (H2.out.trans (hb3.mono H2.out.size))
  clear hb3
  go_wp2_with fail
  refine (one2_no _ _).mono ?_
  rintro e w4 ⟨rfl, hb4⟩
  have H4 := hid (H3.out.trans (hb4.mono H3.out.size))
  clear hb4
  go_wp2
  go_ret
  exact ⟨by simp, H4.out⟩
set_option maxHeartbeats 1000000 in
theorem created2_yes {R : Rep} (H : ProgOk R) (kd oa ob od oe : Int) (c : Cfg) (la : Option Addr) (ln lc : Nat) (ss : ByteArray) (B : Nat) (w : World) (tag : Nat → Tag) (ds : List RDb) (bs is ps : List Value) (hk : kd = 2) (h : c.Ok) (hI : HInv R w B tag ds bs is ps) (hn : ds.length ≤ 1000000000000) :
    Calls Tryz.prog 14 #[.pointer (some ⟨B, 0, none⟩), opV kd oa ob od oe c la ln lc ss] w fun e w' => e = .returned (.bool true) ∧ Left2 R w w' B ds bs is ps := by
  subst hk
  have he := c.err_ok h
  have HN := hid (obox2_new w 2 oa ob od oe c la ln lc ss)
  have HK := hid h
  have HI := hid hI
  have hBz := hI.lt
  clear h hI
  go_enter Tryz.func14, Tryz.ntmps14
  go_wp2_with fail
  refine (rcheck_any c _).mono ?_
  rintro e w1 ⟨rfl, hb1⟩
  obtain ⟨o0, p0, p1, p2, p3, p4, p5, p6, p7, p8, p9⟩ := HN.out.later hb1
  have hz : w.heap.size < w1.heap.size := by have := hb1.size; simp at this; omega
  have H1 := hid hb1
  clear hb1
  go_wp2_with fail
  refine (H.create c _ HK.out).mono ?_
  rintro e w2 ⟨pd, rfl, hb2, hrd⟩
  have H2 := hid (below_chain2 H1.out hb2)
  have HD := hid hrd
  have hz12 := hb2.size
  clear o0 p0 p1 p2 p3 p4 p5 p6 p7 p8 p9 hrd
  obtain ⟨o0, p0, p1, p2, p3, p4, p5, p6, p7, p8, p9⟩ := (HN.out.later H1.out).later hb2
  have hz2 : w.heap.size < w2.heap.size := by have := hb2.size; omega
  clear hb2
  go_wp2_with fail
  refine (rcreate_rrep c _ HK.out).mono ?_
  rintro e w3 ⟨pr, rfl, hb3, hrr⟩
  have H3 := hid (H2.out.trans (hb3.mono H2.out.size))
  have HBO := hid (Both.mk' H hz12 HD.out hb3 hrr (RDb.new_ok HK.out))
  clear hb3 hrr
  go_wp2_with fail
  refine (one2_yes H B pd pr w1.heap.size (RDb.new c) _ (tagUp tag w.heap.size fun _ => .db ds.length) ds bs is ps (HI.out.retag H H3.out _) (fun k hk _ => tagUp_ge (by omega)) HBO.out hn).mono ?_
  rintro e w4 ⟨rfl, ⟨tag4, hI4⟩, hB4⟩
  have HF := hid (show Left2 R w w4 B ds bs is ps from ⟨⟨tag4, _, ps, hI4, by simp, by omega⟩, (H3.out.mono (by omega)).trans hB4⟩)
  clear hI4 hB4
  go_wp2
  go_ret
  exact ⟨by simp, HF.out⟩
end Go.Proofs.YthbbfjfekchdiaaGreat
namespace Go.Proofs.YthbbfjfekchdiaaGreat
open Go.RowKit
set_option linter.unusedSimpArgs false
attribute [local go_sem] Go.wp_at_zero Go.wp_at_succ
set_option maxHeartbeats 1000000 in
theorem step2_12 {R : Rep} (H : ProgOk R) (kd oa ob od oe : Int) (c : Cfg) (la : Option Addr) (ln lc : Nat) (ss : ByteArray) (B : Nat) (w : World) (tag : Nat → Tag) (ds : List RDb) (bs is ps : List Value) (hk : kd = 1 ∨ kd = 2) (hI : HInv R w B tag ds bs is ps) (hn : ds.length ≤ 1000000000000) :
    Calls Tryz.prog 11 #[.pointer (some ⟨B, 0, none⟩), opV kd oa ob od oe c la ln lc ss] w fun e w' => e = .returned (.bool true) ∧ Left2 R w w' B ds bs is ps := by
  have HI := hid hI
  have hz := hI.lt
  have HA := hid (fun (o : Obj) => (Below.refl w.heap.size w).alloc (Nat.le_refl _) o)
  clear hI
  rcases hk with rfl | rfl
  · go_enter Tryz.func11, Tryz.ntmps11
    go_wp2_with fail
    refine (created2_check H 1 oa ob od oe c la ln lc ss B _ rfl).mono ?_
    rintro e w1 ⟨rfl, hb⟩
    have HF := hid (left2_same H HI.out (below_one hb))
    clear hb
    go_wp2
    go_ret
    exact ⟨rfl, HF.out⟩
  · by_cases h : c.Ok
    · have HK := hid h
      clear h
      go_enter Tryz.func11, Tryz.ntmps11
      go_wp2_with fail
      refine (created2_yes H 2 oa ob od oe c la ln lc ss B _ tag ds bs is ps rfl HK.out (HI.out.below H (HA.out _)) hn).mono ?_
      rintro e w1 ⟨rfl, hl1⟩
      have HF := hid (show Left2 R w w1 B ds bs is ps from ⟨hl1.1, ((HA.out _).mono (by omega)).trans hl1.2⟩)
      clear hl1
      go_wp2
      go_ret
      exact ⟨rfl, HF.out⟩
    · have HK := hid h
      clear h
      go_enter Tryz.func11, Tryz.ntmps11
      go_wp2_with fail
      refine (created2_no H 2 oa ob od oe c la ln lc ss B _ rfl HK.out).mono ?_
      rintro e w1 ⟨rfl, hb⟩
      have HF := hid (left2_same H HI.out (below_one hb))
      clear hb
      go_wp2
      go_ret
      exact ⟨rfl, HF.out⟩
set_option maxHeartbeats 1000000 in
theorem step2_none {R : Rep} (H : ProgOk R) (kd oa ob od oe : Int) (c : Cfg) (la : Option Addr) (ln lc : Nat) (ss : ByteArray) (B : Nat) (w : World) (tag : Nat → Tag) (bs is ps : List Value) (hk3 : 3 ≤ kd) (hk10 : kd ≤ 10) (hk7 : kd ≠ 7) (hI : HInv R w B tag [] bs is ps) :
    Calls Tryz.prog 11 #[.pointer (some ⟨B, 0, none⟩), opV kd oa ob od oe c la ln lc ss] w fun e w' => e = .returned (.bool true) ∧ Left2 R w w' B [] bs is ps := by
  have HF := hid (fun (o : Obj) => left2_same H hI ((Below.refl w.heap.size w).alloc (Nat.le_refl _) o))
  have hz := hI.lt
  obtain ⟨v, prs, bv, iv, pv, hB, hv, _⟩ := hI.mem
  obtain ⟨a, cap, rfl⟩ := slice_form hv
  have d0 : w.cell? ⟨B, 0, none⟩ = some (.slice a 0 cap) := cell_of_blk hB 0
  have q1 : (kd == 1) = false := beq_eq_false_iff_ne.2 (by omega)
  have q2 : (kd == 2) = false := beq_eq_false_iff_ne.2 (by omega)
  have q7 : (kd == 7) = false := beq_eq_false_iff_ne.2 hk7
  have q3 : decide (kd < 3) = false := decide_eq_false (by omega)
  have q10 : decide (10 < kd) = false := decide_eq_false (by omega)
  clear hB hv hI
  go_enter Tryz.func11, Tryz.ntmps11
  go_wp2
  go_ret
  exact ⟨rfl, HF.out _⟩
structure LOk (w : World) (B : Nat) (la : Option Addr) (ln lc : Nat) : Prop where
  row : ∃ l, RowG w (.slice la ln lc) l
  nil : la = none → ln = 0 ∧ lc = 0
  low : OutOf (fun k => B ≤ k) (.slice la ln lc)
  len : ln ≤ 8796093022208
theorem LOk.below {w w' : World} {B : Nat} {la : Option Addr} {ln lc : Nat} (h : LOk w B la ln lc) (hb : Below B w w') : LOk w' B la ln lc := by
  obtain ⟨l, hl⟩ := h.row
  exact ⟨⟨l, hl.fr h.low ⟨hb.os, hb.tape, hb.output, hb.size, fun k _ hk => hb.block k (by show k < B; omega)⟩⟩, h.nil, h.low, h.len⟩
end Go.Proofs.YthbbfjfekchdiaaGreat
namespace Go.Proofs.YthbbfjfekchdiaaGreat
open Go.RowKit
set_option linter.unusedSimpArgs false
def OpIn (w : World) (N : Nat) (l : List Value) : Prop :=
  ∃ (kd oa ob od oe : Int) (c : Cfg) (la : Option Addr) (ln lc : Nat) (ss : ByteArray), (-9223372036854775808 ≤ oa ∧ oa ≤ 9223372036854775807) ∧ LOk w N la ln lc ∧ l = [i64 kd, i64 oa, i64 ob, i64 od, i64 oe, i64 c.s0, i64 c.k0, i64 c.s1, i64 c.k1, i64 c.s2, i64 c.k2, i64 c.s3, i64 c.k3, i64 c.m, i64 c.f, .slice la ln lc, .string ss]
def OpRow2 (w : World) (N n : Nat) (xs : List Value) : Prop :=
  xs.length = n * 17 ∧ ∀ j, j < n → ∃ l, OpIn w N l ∧ ∀ i, i < 17 → xs[j * 17 + i]? = l[i]?
theorem LOk.mono {w : World} {B B' : Nat} {la : Option Addr} {ln lc : Nat} (h : LOk w B la ln lc) (hB : B ≤ B') : LOk w B' la ln lc := ⟨h.row, h.nil, fun a n c e hn hx => h.low a n c e hn (Nat.le_trans hB hx), h.len⟩
theorem OpIn.length {w : World} {N : Nat} {l : List Value} (h : OpIn w N l) : l.length = 17 := by
  obtain ⟨kd, oa, ob, od, oe, c, la, ln, lc, ss, _, _, rfl⟩ := h; rfl
theorem OpIn.one {w : World} {N : Nat} {l : List Value} (h : OpIn w N l) : ∀ u ∈ l, u.oneCell' = true := by
  obtain ⟨kd, oa, ob, od, oe, c, la, ln, lc, ss, _, _, rfl⟩ := h
  simp [Value.oneCell']
theorem OpIn.below {w w' : World} {N : Nat} {l : List Value} (h : OpIn w N l) (hb : Below N w w') : OpIn w' N l := by
  obtain ⟨kd, oa, ob, od, oe, c, la, ln, lc, ss, a, b, e⟩ := h
  exact ⟨kd, oa, ob, od, oe, c, la, ln, lc, ss, a, b.below hb, e⟩
theorem OpIn.mono {w : World} {N N' : Nat} {l : List Value} (h : OpIn w N l) (hN : N ≤ N') : OpIn w N' l := by
  obtain ⟨kd, oa, ob, od, oe, c, la, ln, lc, ss, a, b, e⟩ := h
  exact ⟨kd, oa, ob, od, oe, c, la, ln, lc, ss, a, b.mono hN, e⟩
theorem OpRow2.below {w w' : World} {N n : Nat} {xs : List Value} (h : OpRow2 w N n xs) (hb : Below N w w') : OpRow2 w' N n xs :=
  ⟨h.1, fun j hj => by obtain ⟨l, a, b⟩ := h.2 j hj; exact ⟨l, a.below hb, b⟩⟩
theorem OpRow2.mono {w : World} {N N' n : Nat} {xs : List Value} (h : OpRow2 w N n xs) (hN : N ≤ N') : OpRow2 w N' n xs :=
  ⟨h.1, fun j hj => by obtain ⟨l, a, b⟩ := h.2 j hj; exact ⟨l, a.mono hN, b⟩⟩
theorem OpRow2.nil {w : World} {N : Nat} : OpRow2 w N 0 [] := ⟨rfl, fun j hj => absurd hj (by omega)⟩
theorem OpRow2.snoc {w : World} {N n : Nat} {xs l : List Value} (h : OpRow2 w N n xs) (hl : OpIn w N l) : OpRow2 w N (n + 1) (xs ++ l) := by
  obtain ⟨hlen, hr⟩ := h
  refine ⟨by rw [List.length_append, hlen, hl.length]; omega, fun j hj => ?_⟩
  by_cases e : j = n
  · subst e
    refine ⟨l, hl, fun i hi => ?_⟩
    rw [List.getElem?_append_right (by omega), hlen]
    congr 1; omega
  · obtain ⟨l', hl', r⟩ := hr j (by omega)
    refine ⟨l', hl', fun i hi => ?_⟩
    rw [List.getElem?_append_left (by omega)]
    exact r i hi
theorem OpRow2.one {w : World} {N n : Nat} {xs : List Value} (h : OpRow2 w N n xs) : ∀ u ∈ xs, u.oneCell' = true := by
  intro u hu
  obtain ⟨k, hk⟩ := List.mem_iff_getElem?.1 hu
  have hlt : k < n * 17 := by
    obtain ⟨x, _⟩ := List.getElem?_eq_some_iff.1 hk
    rw [h.1] at x; exact x
  obtain ⟨l, hl, r⟩ := h.2 (k / 17) (by omega)
  have e := r (k % 17) (by omega)
  rw [show k / 17 * 17 + k % 17 = k by omega, hk] at e
  exact hl.one u (List.mem_iff_getElem?.2 ⟨_, e.symm⟩)
theorem OpRow2.append {w : World} {N n m : Nat} {xs ys : List Value} (h : OpRow2 w N n xs) (k : OpRow2 w N m ys) : OpRow2 w N (n + m) (xs ++ ys) := by
  refine ⟨by rw [List.length_append, h.1, k.1]; omega, fun j hj => ?_⟩
  have hl := h.1
  by_cases e : j < n
  · obtain ⟨l, hc, r⟩ := h.2 j e
    refine ⟨l, hc, fun i hi => ?_⟩
    rw [List.getElem?_append_left (by omega)]
    exact r i hi
  · obtain ⟨l, hc, r⟩ := k.2 (j - n) (by omega)
    refine ⟨l, hc, fun i hi => ?_⟩
    rw [List.getElem?_append_right (by omega), hl, ← r i hi]
    congr 1; omega
theorem wpList_append_nil2 {P : Program} (w : World) {ops : Array Oper} {rest : List Oper} {o : Oper} {a : Act} {Q : Exit → Act → World → Prop} (hgd : o.guard = none) (s x : Operand) (t : TypeId)
    (ho : o.op = .call { callee := .builtin .append, args := #[s, x], argTypes := #[t, t] }) (e : TypeId) (i : TypeInfo) (ht : P.underlying t = some (.slice e)) (hi : P.info? e = some i)
    (b n cap : Nat) (hs : a.eval s = .slice (some ⟨b, 0, none⟩) n cap) (hx : a.eval x = .slice none 0 0) (hn : n ≤ cap)
    (h : wpList P ops Q rest (a.put o.dst (.slice (some ⟨b, 0, none⟩) n cap)) w) : wpList P ops Q (o :: rest) a w :=
  wpList_plain hgd fun _ hK => by
    have hr := run_append_room_src (P := P) w t t o.type e i ht hi b 0 n cap (.slice none 0 0) 0 [] (Src.ofNil w ht 0) (by omega) (fun j hj => absurd hj (by simp)) (fun j hj => absurd hj (by simp))
    unfold Oper.wp execOp
    simp only [ho, resolve, invoke, builtin, Sem.run_bind, Sem.run_pure, Result.andThen_ok, List.map_toArray, List.map_cons, List.map_nil, hs, hx, hr]
    exact hK _ _ h
theorem Tryz.infoOps : (Tryz.prog.info? 43).map (fun i => (i.zero, i.size, i.bytes)) = some (some (.agg #[.int .i64 0, .int .i64 0, .int .i64 0, .int .i64 0, .int .i64 0, .int .i64 0, .int .i64 0, .int .i64 0, .int .i64 0, .int .i64 0, .int .i64 0, .int .i64 0, .int .i64 0, .int .i64 0, .int .i64 0, .slice none 0 0, .string ⟨#[]⟩]), 17, 160) := by kernel_rfl
def opL2 (kd oa ob od oe : Int) (c : Cfg) (la : Option Addr) (ln lc : Nat) (ss : ByteArray) : List Value := [i64 kd, i64 oa, i64 ob, i64 od, i64 oe, i64 c.s0, i64 c.k0, i64 c.s1, i64 c.k1, i64 c.s2, i64 c.k2, i64 c.s3, i64 c.k3, i64 c.m, i64 c.f, .slice la ln lc, .string ss]
theorem owns_three2 (w : World) (a b : Obj) (cur : Array Value) (xs : List Value) (h1 : cur.size = 8 * 17) (h2 : cur.toList.take (8 * 17) = xs) :
    (((w.alloc a).alloc b).alloc (.cells cur 43)).ownsRow w.heap.size 43 17 (.slice (some ⟨w.heap.size + 1 + 1, 0, none⟩) 8 8) 8 xs := by
  have h := blk_new ((w.alloc a).alloc b) (.cells cur 43)
  have e : ((w.alloc a).alloc b).heap.size = w.heap.size + 1 + 1 := by simp
  rw [e] at h
  exact ⟨by rw [← h2, List.length_take, Array.length_toList]; omega, .inr ⟨w.heap.size + 1 + 1, 8, cur, rfl, by omega, h, by omega, by decide, h1, h2⟩⟩
end Go.Proofs.YthbbfjfekchdiaaGreat
namespace Go.Proofs.YthbbfjfekchdiaaGreat
open Go.RowKit
set_option linter.unusedSimpArgs false
set_option maxHeartbeats 1000000 in
theorem among2_any (p : Nat) (pl : List Int) (k : Int) (w : World) (hc : ∀ (i : Nat) (x : Int), pl[i]? = some x → w.cell? ⟨p, i, none⟩ = some (i64 x)) (hl : pl.length ≤ 100) :
    Calls Tryz.prog 10 #[.slice (some ⟨p, 0, none⟩) pl.length pl.length, i64 k] w fun e w' => e = .returned (.bool (decide (k ∈ pl))) ∧ w' = w := by
  have HC := hid hc
  clear hc
  go_enter Tryz.func10, Tryz.ntmps10
  go_wp2
  go_loop [5] (fun i' => ∃ i : Nat, i ≤ pl.length ∧ i' = i64 i ∧ ∀ (j : Nat) (x : Int), j < i → pl[j]? = some x → x ≠ k) (fun i' => pl.length - (intOf i').toNat)
  case atStart => exact ⟨0, by omega, rfl, fun j x hj => absurd hj (by omega)⟩
  case round =>
    obtain ⟨i, hi, rfl, hz⟩ := hrel
    have HZ := hid hz
    clear hz
    by_cases hlt : i < pl.length
    · obtain ⟨x, hx⟩ : ∃ x, pl[i]? = some x := ⟨_, List.getElem?_eq_getElem hlt⟩
      have hcell := HC.out i x hx
      have hpz : p < w.heap.size := World.block_lt_of_cell? _ _ hcell
      have i0 : (0 : Int) ≤ (i : Int) := by omega
      have i1 : (i : Int) < (pl.length : Int) := by omega
      have HX := hid hx
      clear hx
      by_cases e : x = k
      · subst e
        have HM := hid (show decide (x ∈ pl) = true from decide_eq_true (List.mem_iff_getElem?.2 ⟨i, HX.out⟩))
        go_wp2
        go_ret
        exact ⟨by rw [HM.out]; rfl, rfl⟩
      · have eb : (x == k) = false := beq_eq_false_iff_ne.2 e
        have HZ1 := hid (show ∀ (j : Nat) (y : Int), j < i + 1 → pl[j]? = some y → y ≠ k from fun j y hj hy => by
          by_cases ej : j = i
          · subst ej
            have : y = x := by rw [HX.out] at hy; simpa using hy.symm
            rw [this]; exact e
          · exact HZ.out j y (by omega) hy)
        go_wp2
        go_round
        case rel => exact ⟨i + 1, by omega, by go_num, HZ1.out⟩
        case measure => simp [intOf]; omega
    · have HM := hid (show decide (k ∈ pl) = false from decide_eq_false fun h => by
        obtain ⟨j, hj⟩ := List.mem_iff_getElem?.1 h
        exact HZ.out j k (by obtain ⟨y, _⟩ := List.getElem?_eq_some_iff.1 hj; omega) hj rfl)
      go_wp2
      go_ret
      exact ⟨by rw [HM.out]; rfl, rfl⟩
set_option maxHeartbeats 1000000 in
theorem apart2_none (B : Nat) (a : Option Addr) (c : Nat) (w : World) (h1 : w.cell? ⟨B, 1, none⟩ = some (.slice a 0 c)) :
    Calls Tryz.prog 13 #[.pointer (some ⟨B, 1, none⟩)] w fun e w' => e = .returned (.bool true) ∧ w' = w := by
  go_enter Tryz.func13, Tryz.ntmps13
  go_wp2
  refine wp_loop_rounds 1 ?_
  rw [rounds_succ]
  go_wp2
  go_ret
  exact ⟨rfl, rfl⟩
end Go.Proofs.YthbbfjfekchdiaaGreat
