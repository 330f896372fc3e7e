import Derived.Test.YthbbfjfekchdiaaGreatXTk
import Derived.Test.YthbbfjfekchdiaaGreatXZBest
import Derived.Test.YthbbfjfekchdiaaGreatXZUpdate
import Derived.Test.YthbbfjfekchdiaaGreatXZSave
import Derived.Test.YthbbfjfekchdiaaGreatXZCreate
import Derived.Test.YthbbfjfekchdiaaGreatXZHead
namespace Go.Proofs.YthbbfjfekchdiaaGreat
open Go.RowKit Go.Shelf
set_option linter.unusedSimpArgs false
attribute [local go_sem] Oper.semAt_some
theorem cov_pts {d : RDb} (hd : d.Ok) {i : Nat} {l : List Pt} (hl : d.L[i]? = some l) (hi : i < d.c.many) {now : Int} {pts : List Pt}
    (hp : pts.Perm (ptsK (now - d.c.s i * d.c.k i + 1) now (slotsL d.c i l (d.c.k i).toNat))) (hs : pts.Pairwise fun a b => a.1 ≤ b.1) : pts = covL d now i := by
  obtain ⟨h1, h2⟩ := pts_facts hd hl hi hp hs
  unfold covL
  rw [hl, Option.getD_some]
  refine inc_unique h1 ((sortedL_inc (stamps_nodup (hd.apart i l hl))).sublist List.filter_sublist) fun q => ?_
  rw [h2 q, List.mem_filter, sortedL_mem]
  refine and_congr_right fun _ => ?_
  unfold strB covB
  simp only [Bool.and_eq_true, decide_eq_true_eq]
  omega
def stepZ (d : RDb) (now : Int) (e : RDb) (x : Nat) : RDb := writesAll e now (covL d now (min x (d.c.many - 1)))
def stateZ (d : RDb) (now : Int) (e : RDb) (pre : List Nat) : RDb := pre.foldl (stepZ d now) e
theorem stateZ_snoc (d : RDb) (now : Int) (e : RDb) (pre : List Nat) (x : Nat) : stateZ d now e (pre ++ [x]) = writesAll (stateZ d now e pre) now (covL d now (min x (d.c.many - 1))) := by
  unfold stateZ
  rw [List.foldl_append]
  rfl
theorem stateZ_all (d : RDb) (now : Int) : ∀ (m : Nat) (e : RDb), m ≤ d.c.many → stateZ d now e (List.range m).reverse = resizeTo d now m e
  | 0, e, _ => rfl
  | m + 1, e, h => by
    rw [List.range_succ, List.reverse_append, resizeTo, ← stateZ_all d now m _ (by omega)]
    show stateZ d now (stepZ d now e m) _ = _
    unfold stepZ
    rw [show min m (d.c.many - 1) = m by omega]
    rfl
theorem frGrown {W W' : World} {row : Option Nat} (h : W.grownBy W' row) {Out : Nat → Prop} (hr : ∀ r, row = some r → Out r) : Fr Out W W' :=
  ⟨h.os, h.tape, h.output, h.size, fun k hk hn => h.block k hk fun e => hn (hr k e.symm)⟩
theorem frRound_t {Out : Nat → Prop} {A B C : World} (h : Fr Out A B) (k : Fr Out B C) : Fr Out A C := h.trans k fun _ x => .inl x
def ZsPost (w : World) (d : RDb) (now : Int) (c : Cfg) (e : Ending) (w' : World) : Prop :=
  Below w.heap.size w w' ∧ (resizeErr now c ≠ 0 → e = .returned (.tuple #[.pointer none, i64 (resizeErr now c)])) ∧
    (resizeErr now c = 0 → ∃ q, e = .returned (.tuple #[.pointer (some ⟨q, 0, none⟩), i64 0]) ∧ ZRep w' (fun k => w.heap.size ≤ k) q (resizeR d now c))
theorem ZsPost.no {w w' : World} {d : RDb} {now : Int} {c : Cfg} {x : Int} (h : Below w.heap.size w w') (he : resizeErr now c = x) (hx : x ≠ 0) : ZsPost w d now c (.returned (.tuple #[.pointer none, i64 x])) w' :=
  ⟨h, fun _ => by rw [he], fun h0 => absurd (he ▸ h0) hx⟩
set_option maxRecDepth 100000 in
set_option maxHeartbeats 4000000 in
theorem zresize_any (HSO : Hid SortOk) (p : Nat) (now : Int) (c : Cfg) (d : RDb) (In : Nat → Prop) (w : World) (h : ZRep w In p d) :
    Calls Tryz.prog 35 #[.pointer (some ⟨p, 0, none⟩), i64 now, .agg #[i64 c.s0, i64 c.k0, i64 c.s1, i64 c.k1, i64 c.s2, i64 c.k2, i64 c.s3, i64 c.k3, i64 c.m, i64 c.f]] w fun e w' => ZsPost w d now c e w' := by
  have HZ := hid h
  have HM1 := hid (d.c.ok_iff.1 h.ok.cfg).2.2.1
  obtain ⟨gl, cap, x0w, _, _, harcw⟩ := h.read
  obtain ⟨gv, hgv⟩ : ∃ gv : Nat → Nat, ∀ i, i < d.c.many → w.cell? ⟨gl, i * 2, none⟩ = some (i64 (d.c.s i)) ∧ w.cell? ⟨gl, i * 2 + 1, none⟩ = some (.slice (some ⟨gv i, 0, none⟩) (d.c.k i).toNat (d.c.k i).toNat) ∧ w.heap[gv i]? = some (.cells (slotBlk (slotsL d.c i ((d.L[i]?).getD []) (d.c.k i).toNat)) 116) :=
    ⟨fun i => if hi : i < d.c.many then Classical.choose (harcw i hi) else 0, fun i hi => by
      have := Classical.choose_spec (harcw i hi)
      have e : (if hi : i < d.c.many then Classical.choose (harcw i hi) else 0) = Classical.choose (harcw i hi) := dif_pos hi
      show _ ∧ w.cell? ⟨gl, i * 2 + 1, none⟩ = some (.slice (some ⟨(if hi : i < d.c.many then Classical.choose (harcw i hi) else 0), 0, none⟩) (d.c.k i).toNat (d.c.k i).toNat) ∧ w.heap[(if hi : i < d.c.many then Classical.choose (harcw i hi) else 0)]? = _
      rw [e]
      exact this⟩
  have HGV := hid hgv
  have hglz : gl < w.heap.size := World.block_lt_of_cell? _ _ (hgv 0 (by have := HM1.out; omega)).1
  clear harcw hgv
  have HNO := hid (fun (w' : World) (x : Int) (h : Below w.heap.size w w') (he : resizeErr now c = x) (hx : x ≠ 0) => ZsPost.no (d := d) h he hx)
  generalize hwA : (w.alloc (.cells #[i64 now] 3)).alloc (.cells #[i64 c.s0, i64 c.k0, i64 c.s1, i64 c.k1, i64 c.s2, i64 c.k2, i64 c.s3, i64 c.k3, i64 c.m, i64 c.f] 40) = wA at *
  have HAL := hid (show Below w.heap.size w wA by rw [← hwA]; exact ((Below.refl _ w).alloc (Nat.le_refl _) _).alloc (by simp) _)
  have HNB := hid (show wA.heap[w.heap.size]? = some (.cells #[i64 now] 3) by rw [← hwA]; exact blk_alloc (blk_new w _))
  have HCB := hid (show wA.heap[w.heap.size + 1]? = some (.cells #[i64 c.s0, i64 c.k0, i64 c.s1, i64 c.k1, i64 c.s2, i64 c.k2, i64 c.s3, i64 c.k3, i64 c.m, i64 c.f] 40) by
    rw [← hwA]
    have := blk_new (w.alloc (.cells #[i64 now] 3)) (.cells #[i64 c.s0, i64 c.k0, i64 c.s1, i64 c.k1, i64 c.s2, i64 c.k2, i64 c.s3, i64 c.k3, i64 c.m, i64 c.f] 40)
    rwa [show (w.alloc (.cells #[i64 now] 3)).heap.size = w.heap.size + 1 by simp] at this)
  have h4 := d.c.many_le
  have xn : wA.cell? ⟨w.heap.size, 0, none⟩ = some (i64 now) := cell_of_blk HNB.out 0
  have y0 : wA.cell? ⟨w.heap.size + 1, 0, none⟩ = some (i64 c.s0) := cell_of_blk HCB.out 0
  have y1 : wA.cell? ⟨w.heap.size + 1, 1, none⟩ = some (i64 c.k0) := cell_of_blk HCB.out 1
  have y2 : wA.cell? ⟨w.heap.size + 1, 2, none⟩ = some (i64 c.s1) := cell_of_blk HCB.out 2
  have y3 : wA.cell? ⟨w.heap.size + 1, 3, none⟩ = some (i64 c.k1) := cell_of_blk HCB.out 3
  have y4 : wA.cell? ⟨w.heap.size + 1, 4, none⟩ = some (i64 c.s2) := cell_of_blk HCB.out 4
  have y5 : wA.cell? ⟨w.heap.size + 1, 5, none⟩ = some (i64 c.k2) := cell_of_blk HCB.out 5
  have y6 : wA.cell? ⟨w.heap.size + 1, 6, none⟩ = some (i64 c.s3) := cell_of_blk HCB.out 6
  have y7 : wA.cell? ⟨w.heap.size + 1, 7, none⟩ = some (i64 c.k3) := cell_of_blk HCB.out 7
  have y8 : wA.cell? ⟨w.heap.size + 1, 8, none⟩ = some (i64 c.m) := cell_of_blk HCB.out 8
  have y9 : wA.cell? ⟨w.heap.size + 1, 9, none⟩ = some (i64 c.f) := cell_of_blk HCB.out 9
  have hzA : w.heap.size + 1 < wA.heap.size := blk_lt HCB.out
  have hzA0 : w.heap.size < wA.heap.size := by omega
  refine (callsIn_wide (n := 9)).1 ?_
  refine callsIn_of_wp_marks Tryz.func35 rfl trivial ?_ rfl
  simp only [Tryz.ntmps35, List.size_toArray, List.length_cons, List.length_nil, Nat.reduceAdd, Nat.reduceSub, Array.replicate_succ, Array.replicate_zero, List.push_toArray, List.append_toArray, List.nil_append, List.cons_append]
  refine wpIn_wide.2 ?_
  by_cases hn : 0 ≤ now ∧ now ≤ 2147483647
  case neg =>
    have HE := hid (show resizeErr now c = 1 by unfold resizeErr; rw [if_pos hn])
    have hb : (decide (0 ≤ now) && decide (now ≤ 2147483647)) = false := by
      by_cases x : 0 ≤ now
      · simp [x]; omega
      · simp [x]
    have HI := hid (fun (w : World) => zstamp_any now w)
    rw [hb] at HI
    clear hb hn
    go_wp2_with fail
    refine (HI.out _).mono ?_
    rintro e w1 ⟨rfl, hw1⟩
    subst hw1
    go_wp2
    exact ⟨.tuple #[.pointer none, i64 1], by simp [results, Tryz.results35, go_sem], HNO.out _ 1 HAL.out HE.out (by decide)⟩
  case pos =>
    obtain ⟨n0, n1⟩ := hn
    have HI := hid (fun (w : World) => zstamp_any now w)
    rw [show (decide (0 ≤ now) && decide (now ≤ 2147483647)) = true by simp [n0, n1]] at HI
    have HER := hid (show resizeErr now c = c.err by unfold resizeErr; rw [if_neg (fun x => x ⟨n0, n1⟩)])
    go_wp2_with fail
    refine (HI.out _).mono ?_
    rintro e w1 ⟨rfl, hw1⟩
    have hw1 := hw1.symm
    subst hw1
    go_wp2_with fail
    clear HI
    by_cases hok : c.Ok
    case neg =>
      have HE := hid (show resizeErr now c = 2 by rw [HER.out]; exact Cfg.err_no hok)
      refine (pcreate_no c _ hok).mono ?_
      rintro e w2 ⟨rfl, hb2⟩
      have HB2 := hid (HAL.out.trans (hb2.mono (by omega)))
      have hz2 := hb2.size
      clear hb2 hok y0 y1 y2 y3 y4 y5 y6 y7 y8 y9 xn
      go_wp2
      exact ⟨.tuple #[.pointer none, i64 2], by simp [results, Tryz.results35, go_sem], HNO.out _ 2 (HB2.out.alloc (by omega) _) HE.out (by decide)⟩
    have HE := hid (show resizeErr now c = 0 by rw [HER.out]; exact Cfg.err_ok hok)
    refine (zcreate_yes c _ hok).mono ?_
    rintro e w2 ⟨q, rfl, hb2, hz2⟩
    have HB2 := hid (HAL.out.trans (hb2.mono (by omega)))
    have hs2 := hb2.size
    have HZ2 := hid hz2.lim
    have HN2 := hid (blk_later hb2 (by omega) HNB.out)
    have x0 : w2.cell? ⟨p, 0, none⟩ = some (.slice (some ⟨gl, 0, none⟩) d.c.many cap) := cell_later HB2.out x0w
    have hpz : p < w2.heap.size := World.block_lt_of_cell? _ _ x0
    have HOKC := hid hok
    clear hb2 hz2 hok hwA xn y0 y1 y2 y3 y4 y5 y6 y7 y8 y9 HNB HCB x0w
    go_wp2_with fail
    refine (zback_any _ _ _ _).mono ?_
    rintro e w3 ⟨rfl, hw3⟩
    have HB3 := hid (show Below w2.heap.size w2 w3 by rw [hw3]; exact ((Below.refl _ w2).alloc (Nat.le_refl _) _).alloc (by simp) _)
    have HR3 := hid (show w3.heap[w2.heap.size]? = some (.cells #[.pointer (some ⟨q, 0, none⟩)] 50) by rw [hw3]; exact blk_alloc (blk_new w2 _))
    have HS3 := hid (show w3.heap[w2.heap.size + 1]? = some (.cells #[.slice (some ⟨gl, 0, none⟩) d.c.many cap] 87) by
      rw [hw3]
      have := blk_new (w2.alloc (.cells #[.pointer (some ⟨q, 0, none⟩)] 50)) (.cells #[.slice (some ⟨gl, 0, none⟩) d.c.many cap] 87)
      rwa [show (w2.alloc (.cells #[.pointer (some ⟨q, 0, none⟩)] 50)).heap.size = w2.heap.size + 1 by simp] at this)
    have hs3 : w3.heap.size = w2.heap.size + 2 := by rw [hw3]; simp
    have HBW := hid (HB2.out.trans (HB3.out.mono (by omega)))
    have HZ3 := hid (HZ2.out.fr (Fr.below (In := fun _ => False) HB3.out) (fun _ _ x => x))
    have HN3 := hid (blk_later HB3.out (by omega) HN2.out)
    rw [show (w2.alloc (.cells #[.pointer (some ⟨q, 0, none⟩)] 50)).heap.size = w2.heap.size + 1 by simp]
    clear hw3 x0 hpz HN2 HZ2 HB2 HB3
    obtain ⟨In2, hIn2⟩ : ∃ I : Nat → Prop, I = fun k => wA.heap.size ≤ k ∧ k < w2.heap.size := ⟨_, rfl⟩
    have HIN := hid (show ∀ k, In2 k → wA.heap.size ≤ k ∧ k < w2.heap.size by intro k hk; rw [hIn2] at hk; exact hk)
    rw [← hIn2] at HZ3
    obtain ⟨cl, hcl⟩ : ∃ cl : Nat → Nat, ∀ x, cl x = min x (d.c.many - 1) := ⟨fun x => min x (d.c.many - 1), fun _ => rfl⟩
    have HCL := hid hcl
    clear hIn2 hcl
    go_wp2_with fail
    refine (wpIn_wide (n := 9)).1 ?_
    refine wpIn_rangeFunc_ownH (F := Fence.wide) (n := 9) rfl (by omega) (gf := 85) (lb := #[.pointer (some ⟨w2.heap.size + 1, 0, none⟩)]) rfl trivial (enters_of Tryz.func85 (by kernel_rfl) rfl)
      (encs := fun x : Nat => #[i64 (x : Int), .agg #[i64 (d.c.s (cl x)), .slice (some ⟨gv (cl x), 0, none⟩) (d.c.k (cl x)).toNat (d.c.k (cl x)).toNat]]) (Kp := Fr fun k => In2 k ∨ w3.heap.size ≤ k) (S := fun xs => xs = (List.range d.c.many).reverse) (Sp := fun _ => True) (N := d.c.many) (w0 := w3) ?seq
      frRound_t (fun W l o o' hl _ _ _ => frGrown (grownBy_putObj' W l o') fun r e => by cases e; exact .inr hl) (Below.refl _ _) (fun _ => rfl)
      (fun pre W => ZRep W In2 q (stateZ d now (RDb.new c) pre) ∧ Fr (fun k => In2 k ∨ w3.heap.size ≤ k) w3 W) (fun _ _ _ => False) ?ownI (fun _ _ _ _ _ hs _ _ => hs) ⟨HZ3.out, Fr.refl _ _⟩
      (fun x a' W => ∃ Bx, w3.heap.size ≤ Bx ∧ W.heap[Bx]? = some (.cells #[i64 (d.c.s (cl x)), .slice (some ⟨gv (cl x), 0, none⟩) (d.c.k (cl x)).toNat (d.c.k (cl x)).toNat] 94) ∧ a' = { tmps := #[.pointer (some ⟨p, 0, none⟩), i64 now, .agg #[i64 c.s0, i64 c.k0, i64 c.s1, i64 c.k1, i64 c.s2, i64 c.k2, i64 c.s3, i64 c.k3, i64 c.m, i64 c.f], undef, .pointer (some ⟨w.heap.size, 0, none⟩), .pointer (some ⟨w.heap.size + 1, 0, none⟩), .pointer none, i64 0, .pointer (some ⟨w2.heap.size, 0, none⟩), i64 0, undef, .pointer (some ⟨Bx, 0, none⟩), undef, undef, i64 now, .bool true, .bool false, .tuple #[.pointer (some ⟨q, 0, none⟩), i64 0], .agg #[i64 c.s0, i64 c.k0, i64 c.s1, i64 c.k1, i64 c.s2, i64 c.k2, i64 c.s3, i64 c.k3, i64 c.m, i64 c.f], .tuple #[.pointer (some ⟨q, 0, none⟩), i64 0], .pointer (some ⟨q, 0, none⟩), i64 0, i64 0, .bool false, undef, .pointer (some ⟨p, 0, none⟩), .pointer (some ⟨p, 0, none⟩), .pointer (some ⟨p, 0, none⟩), .slice (some ⟨gl, 0, none⟩) d.c.many cap, .func (.func 85) #[] #[.pointer (some ⟨w2.heap.size + 1, 0, none⟩)], i64 (x : Int), .agg #[i64 (d.c.s (cl x)), .slice (some ⟨gv (cl x), 0, none⟩) (d.c.k (cl x)).toNat (d.c.k (cl x)).toNat], undef, undef, undef, undef, undef, undef, undef, undef, undef, undef, undef, undef, undef, undef, undef, undef, undef], defers := [] }) ?ownA ?assign ?body ?done ?stop
    case seq =>
      intro l J Jx W hW _ _ hY h0
      refine zback1_in 8 l (w2.heap.size + 1) gl d.c.many cap d.c.s gv (fun i => (d.c.k i).toNat) (fun x => .agg #[i64 (d.c.s (cl x)), .slice (some ⟨gv (cl x), 0, none⟩) (d.c.k (cl x)).toNat (d.c.k (cl x)).toNat]) (Fr fun k => In2 k ∨ w3.heap.size ≤ k) frRound_t J Jx (fun i hi => by rw [HCL.out, show min i (d.c.many - 1) = i by omega]) hY W ?_ h4 h0
      intro wr hwr
      have hf : Fr (fun k => In2 k ∨ w3.heap.size ≤ k) w3 wr := by
        rcases hwr with rfl | hwr
        · exact Fr.below hW
        · exact (Fr.below hW).trans hwr fun _ x => .inl x
      have far : ∀ k, k < w.heap.size ∨ k = w2.heap.size + 1 → ¬ (In2 k ∨ w3.heap.size ≤ k) := by
        rintro k hk (h1 | h1)
        · have := HIN.out k h1; omega
        · have := HBW.out.size; omega
      refine ⟨?_, fun i hi => ⟨?_, ?_⟩⟩
      · exact (World.cell?_of_block (a := ⟨w2.heap.size + 1, 0, none⟩) (hf.block _ (by show w2.heap.size + 1 < _; omega) (far _ (.inr rfl)))).trans (cell_of_blk HS3.out 0)
      · exact (World.cell?_of_block (a := ⟨gl, i * 2, none⟩) (hf.block _ (by have := HBW.out.size; show gl < _; omega) (far _ (.inl hglz)))).trans (cell_later HBW.out (HGV.out i hi).1)
      · exact (World.cell?_of_block (a := ⟨gl, i * 2 + 1, none⟩) (hf.block _ (by have := HBW.out.size; show gl < _; omega) (far _ (.inl hglz)))).trans (cell_later HBW.out (HGV.out i hi).2.1)
    case ownI =>
      intro s W W' row hs hg hr
      have hf : Fr (fun k => w3.heap.size ≤ k) W W' := frGrown hg fun r e => (hr r e).1
      exact ⟨hs.1.fr hf fun k hk hx => by have := HIN.out k hk; omega, hs.2.trans hf fun k hk => .inl (.inr hk)⟩
    case ownA =>
      intro x a' _ W W' row hs hg hr
      obtain ⟨Bx, h1, h2, h3⟩ := hs
      refine ⟨Bx, h1, (hg.block Bx (blk_lt h2) fun e => ?_).trans h2, h3⟩
      obtain ⟨_, o, ho, hc⟩ := hr Bx e.symm
      rw [h2] at ho
      cases ho
      cases hc
    case assign =>
      intro l pre x W K hi hK
      have HI := hid hi
      clear hi
      gi_wp2
      refine hK _ _ ((KeepsOthers.alloc _ _).from _) (Fr.below ((Below.refl _ W).alloc (Nat.le_refl _) _)) ⟨HI.out.1.fr (Fr.below (In := fun _ => False) ((Below.refl _ W).alloc (Nat.le_refl _) _)) (fun _ _ x => x), HI.out.2.trans (Fr.below (In := fun _ => False) ((Below.refl _ W).alloc (Nat.le_refl _) _)) fun _ x => x.elim⟩ ⟨W.heap.size, ?_, blk_new W _, rfl⟩
      exact HI.out.2.size
    case stop =>
      rintro D c' pre W _ _ h _
      exact h.elim
    case done =>
      rintro D xs W hD rfl ⟨hz, hf⟩ hK
      have HF := hid (show ZsPost w d now c (.returned (.tuple #[.pointer (some ⟨q, 0, none⟩), i64 0])) (W.putObj D (.deferred none)) from by
        have hfD : Fr (fun k => w3.heap.size ≤ k) W (W.putObj D (.deferred none)) := frGrown (grownBy_putObj' W D _) fun r e => by cases e; exact hD
        have hf2 := hf.trans hfD fun k hk => .inl (.inr hk)
        have hz2 : ZRep (W.putObj D (.deferred none)) In2 q (resizeR d now c) := by
          have := hz.fr hfD fun k hk hx => by have := HIN.out k hk; omega
          rw [stateZ_all d now d.c.many (RDb.new c) (Nat.le_refl _)] at this
          exact this
        refine ⟨HBW.out.trans ⟨hf2.os, hf2.tape, hf2.output, hf2.size, fun k hk => hf2.block k (by have := HBW.out.size; omega) ?_⟩, fun x => absurd HE.out x, fun _ => ⟨q, rfl, hz2.weak fun k hk => by have := HIN.out k hk; omega⟩⟩
        rintro (h1 | h1)
        · have := HIN.out k h1; omega
        · have := HBW.out.size; omega)
      have x8 : W.cell? ⟨w2.heap.size, 0, none⟩ = some (.pointer (some ⟨q, 0, none⟩)) := (World.cell?_of_block (a := ⟨w2.heap.size, 0, none⟩) (hf.block _ (by show w2.heap.size < _; omega) (by
        rintro (h1 | h1)
        · have h2 : wA.heap.size ≤ w2.heap.size ∧ w2.heap.size < w2.heap.size := HIN.out _ h1; omega
        · have h2 : w3.heap.size ≤ w2.heap.size := h1; omega))).trans (cell_of_blk HR3.out 0)
      have hzW : w2.heap.size < W.heap.size := World.block_lt_of_cell? _ _ x8
      have HKK := hid hK
      clear hz hf hK
      go_wp2
      refine ⟨by simp, .inl ⟨_, _, rfl, run_takeDeferred HKK.out, ?_⟩⟩
      exact ⟨.tuple #[.pointer (some ⟨q, 0, none⟩), i64 0], by simp [results, Tryz.results35, go_sem], HF.out⟩
    case body =>
      rintro l pre x a' W hl hrec ⟨hz, hf⟩ ⟨Bx, hBx, hbox, rfl⟩ hlt
      obtain ⟨i, hi⟩ : ∃ i, i = cl x := ⟨_, rfl⟩
      rw [← hi] at hbox ⊢
      have hin : i < d.c.many := by rw [hi, HCL.out]; have := HM1.out; omega
      obtain ⟨li, hli⟩ : ∃ l, d.L[i]? = some l := ⟨_, List.getElem?_eq_getElem (by rw [HZ.out.ok.len]; exact hin)⟩
      have hbd := Cfg.bd HZ.out.ok.cfg hin
      obtain ⟨pb0, pb1⟩ := Cfg.prod_bd hbd
      have hkn : ((d.c.k i).toNat : Int) = d.c.k i := Int.toNat_of_nonneg (by have := hbd.2.2.1; omega)
      have HST := hid (show stateZ d now (RDb.new c) (pre ++ [x]) = writesAll (stateZ d now (RDb.new c) pre) now (covL d now i) by rw [stateZ_snoc, hi, HCL.out])
      have far : ∀ k, k < wA.heap.size ∨ k = w2.heap.size → ¬ (In2 k ∨ w3.heap.size ≤ k) := by
        rintro k hk (h1 | h1)
        · have := HIN.out k h1; omega
        · omega
      have HGB := hid (show W.heap[gv i]? = some (.cells (slotBlk (slotsL d.c i li (d.c.k i).toNat)) 116) by
        have h1 := (HGV.out i hin).2.2
        rw [hli, Option.getD_some] at h1
        exact (hf.block _ (by have := blk_lt h1; have := HBW.out.size; omega) (far _ (.inl (by have := blk_lt h1; omega)))).trans (blk_later HBW.out (blk_lt h1) h1))
      have n4 : W.cell? ⟨w.heap.size, 0, none⟩ = some (i64 now) := (World.cell?_of_block (a := ⟨w.heap.size, 0, none⟩) (hf.block _ (by show w.heap.size < _; omega) (far _ (.inl (by show w.heap.size < _; omega))))).trans (cell_of_blk HN3.out 0)
      have r8 : W.cell? ⟨w2.heap.size, 0, none⟩ = some (.pointer (some ⟨q, 0, none⟩)) := (World.cell?_of_block (a := ⟨w2.heap.size, 0, none⟩) (hf.block _ (by show w2.heap.size < _; omega) (far _ (.inr rfl)))).trans (cell_of_blk HR3.out 0)
      have b0 : W.cell? ⟨Bx, 0, none⟩ = some (i64 (d.c.s i)) := cell_of_blk hbox 0
      have b1 : W.cell? ⟨Bx, 1, none⟩ = some (.slice (some ⟨gv i, 0, none⟩) (d.c.k i).toNat (d.c.k i).toNat) := cell_of_blk hbox 1
      have hz0 : w.heap.size < W.heap.size := World.block_lt_of_cell? _ _ n4
      have hzx : Bx < W.heap.size := blk_lt hbox
      have hz2 : w2.heap.size < W.heap.size := World.block_lt_of_cell? _ _ r8
      have HZW := hid hz
      have HFW := hid hf
      have HCP := hid (fun (pts : List Pt) hp hs => cov_pts (now := now) (pts := pts) HZ.out.ok hli hin hp hs)
      have HPI := hid (show ∀ y ∈ covL d now i, PtIn y from covL_in HZ.out.ok)
      have HOE := hid (hz.ok)
      obtain ⟨st, hst⟩ : ∃ s, s = stateZ d now (RDb.new c) pre := ⟨_, rfl⟩
      rw [← hst] at HZW HST HOE
      obtain ⟨si, hsi⟩ : ∃ s, s = d.c.s i := ⟨_, rfl⟩
      obtain ⟨ki, hki⟩ : ∃ k, k = (d.c.k i).toNat := ⟨_, rfl⟩
      have HPR := hid (show d.c.s i * d.c.k i = si * (ki : Int) by rw [hsi, hki, hkn])
      rw [HPR.out] at pb0 pb1 HCP
      have hk60 : ki ≤ 1000 := by rw [hki]; have := hbd.2.2.2; omega
      rw [← hsi] at b0 ⊢
      rw [← hki] at b1 HGB HCP ⊢
      have HSL := hid (slotsL_len d.c i li ki)
      obtain ⟨Sl, hSl⟩ : ∃ S, S = slotsL d.c i li ki := ⟨_, rfl⟩
      rw [← hSl] at HGB HCP HSL
      obtain ⟨gi, hgi⟩ : ∃ g, g = gv i := ⟨_, rfl⟩
      rw [← hgi] at b1 HGB ⊢
      clear hz hf hbox hi hli hbd hkn hst hsi hki hSl hgi far hrec hlt
      gi_wp2
      refine region_round (S := fun w' => w'.cell? ⟨Bx, 0, none⟩ = some (i64 si) ∧ w'.cell? ⟨Bx, 1, none⟩ = some (.slice (some ⟨gi, 0, none⟩) ki ki) ∧ w'.cell? ⟨w.heap.size, 0, none⟩ = some (i64 now)) (by kernel_rfl) (by kernel_rfl) ?_ ?_ (fun hHeld => ?_)
      · rintro ⟨_, _, h⟩
        exact h
      · go_keep
      refine tkI (i := 0) (oi := ⟨some 32, .load 94 (.tmp 11), 94, _, #[], none⟩) ?_
      try simp only [Act.put, tkA, tkB, tkC]
      refine tkI (i := 1) (oi := ⟨some 33, .load 94 (.tmp 11), 94, _, #[], none⟩) ?_
      try simp only [Act.put, tkA, tkB, tkC]
      refine tkI (i := 2) (oi := ⟨some 34, .load 3 (.tmp 4), 3, _, #[], none⟩) ?_
      try simp only [Act.put, tkA, tkB, tkC]
      refine tkI (i := 4) (oi := ⟨some 36, .load 3 (.tmp 4), 3, _, #[], none⟩) ?_
      try simp only [Act.put, tkA, tkB, tkC]
      refine tkI (i := 7) (oi := ⟨some 39, .move (.const (Value.int .i64 0)), 3, _, #[], none⟩) ?_
      try simp only [Act.put, tkA, tkB, tkC]
      refine wpAnyH_ready (rs := [3]) (by kernel_rfl) (by simp) ?_
      refine AllReadyH.cons rfl (fun K' hK => ?_) AllReadyH.nil
      go_simp
      refine (zoldest_any si now (si * (ki : Int)) gi ki ki _ (hid rfl) pb0 pb1 (by omega) (by omega)).mono ?_
      rintro e wB ⟨rfl, hbB⟩
      go_wp2_with fail
      refine hK.out _ _ ⟨cell_later hbB hHeld.1, cell_later hbB hHeld.2.1, cell_later hbB hHeld.2.2⟩ (fun hHeld => ?_)
      clear hK K'
      have HBB := hid (show Below W.heap.size W wB from (Below.refl _ W).drew.trans hbB)
      clear hbB
      refine wpAnyH_ready (rs := [5]) (by kernel_rfl) (by simp) ?_
      refine AllReadyH.cons rfl (fun K' hK => ?_) AllReadyH.nil
      go_simp
      refine (zpoints_any HSO si (now - si * (ki : Int) + 1) now gi ki ki Sl _ hk60 HSL.out (blk_later HBB.out (blk_lt HGB.out) HGB.out)).mono ?_
      rintro e wC ⟨vp, pts, rfl, hbC, hperm, hsort, hown⟩
      have HPT := hid (HCP.out pts hperm hsort)
      have hlp : pts.length ≤ 1000 := by
        have h1 := hperm.length_eq
        have h2 := ptsK_len (now - si * (ki : Int) + 1) now Sl
        have h3 := HSL.out
        omega
      have HBC := hid (show Below W.heap.size W wC from HBB.out.trans (hbC.mono HBB.out.size))
      have HOW := hid (show wC.ownsRow W.heap.size 48 2 vp pts.length (ptCells pts) from owns_base hown HBB.out.size)
      obtain ⟨ap, cp, rfl, _⟩ := rowAt_of HOW.out
      go_wp2_with fail
      refine hK.out _ _ ⟨cell_later hbC hHeld.1, cell_later hbC hHeld.2.1, cell_later hbC hHeld.2.2⟩ (fun hHeld => ?_)
      clear hK K' hbC hown hperm hsort
      refine tkI (i := 6) (oi := ⟨some 38, .call { callee := .builtin .len, args := #[.tmp 37], argTypes := #[41] }, 3, _, #[⟨5, .data⟩], none⟩) ?_
      try simp only [Act.put, tkA, tkB, tkC]
      refine wpAnyH_done (by kernel_rfl) ?_ _
      have HZC := hid (HZW.out.fr (Fr.below (In := fun _ => False) HBC.out) (fun _ _ x => x))
      have r8C := cell_later HBC.out r8
      have hzC := HBC.out.size
      rw [← HPT.out] at HST HPI
      have HNB := hid (show ∀ k, (Value.slice ap pts.length cp).ownBlock = some k → ¬ In2 k from fun k hk hx => by have h1 := (HOW.out.lt k hk).1; have h2 := HIN.out k hx; omega)
      have HN8 := hid (show ¬ In2 w2.heap.size from fun hx => by have h2 := HIN.out _ hx; omega)
      have HN0 := hid (show ¬ In2 w.heap.size from fun hx => by have h2 := HIN.out _ hx; omega)
      obtain ⟨hd0, hd1, hd2⟩ := hHeld
      clear hd0 hd1 b0 b1 r8 n4 HGB HCP HBB
      gi_wp2
      gi_loopw [39] (fun i' wx => ∃ k : Nat, k ≤ pts.length ∧ i' = i64 k ∧ ZRep wx In2 q (writesAll st now (pts.take k)) ∧ Fr In2 wC wx) (fun i' _ => pts.length - (intOf i').toNat)
      case atStart => exact ⟨0, by omega, rfl, HZC.out, Fr.refl _ _⟩
      case round =>
        obtain ⟨k, hk, rfl, hzr, hfr⟩ := hrel
        have HZR := hid hzr
        have HFR := hid hfr
        clear hzr hfr
        have hzx2 := HFR.out.size
        by_cases hlk : k < pts.length
        case neg =>
          have HFIN := hid (show KeepsFrom w3.heap.size W wr ∧ Fr (fun k => In2 k ∨ w3.heap.size ≤ k) W wr ∧ ZRep wr In2 q (stateZ d now (RDb.new c) (pre ++ [x])) ∧ Fr (fun k => In2 k ∨ w3.heap.size ≤ k) w3 wr from by
            have hF : Fr In2 W wr := (Fr.below HBC.out).trans HFR.out fun k hk => .inl hk
            have hF2 : Fr (fun k => In2 k ∨ w3.heap.size ≤ k) W wr := ⟨hF.os, hF.tape, hF.output, hF.size, fun k hk hn => hF.block k hk fun hx => hn (.inl hx)⟩
            refine ⟨⟨hF.size, fun k o hk ho _ => (hF.block k (Array.getElem?_eq_some_iff.1 ho).1 fun hx => by have := HIN.out k hx; omega).trans ho⟩, hF2, ?_, frRound_t HFW.out hF2⟩
            rw [HST.out]
            have := HZR.out
            rwa [List.take_of_length_le (by omega)] at this)
          gi_wp2
          exact HFIN.out
        obtain ⟨y, hy⟩ : ∃ y, pts[k]? = some y := ⟨_, List.getElem?_eq_getElem hlk⟩
        obtain ⟨ap', cp', hvs, hrs⟩ := rowAt_of (owns_far HOW.out fun b hb hlt' => HFR.out.block b hlt' (HNB.out b hb))
        simp only [Value.slice.injEq, true_and] at hvs
        obtain ⟨rfl, rfl⟩ := hvs
        obtain ⟨b, rfl, hbb, s0, s1⟩ := hrs k y hy
        have k0 : (0 : Int) ≤ (k : Int) := by omega
        have k1 : (k : Int) < (pts.length : Int) := by omega
        have HYI := hid (HPI.out y (List.mem_iff_getElem?.2 ⟨k, hy⟩))
        have HWS := hid (writesAll_ok (d := st) (now := now) hy)
        have r8r : wr.cell? ⟨w2.heap.size, 0, none⟩ = some (.pointer (some ⟨q, 0, none⟩)) := HFR.out.cellZ HN8.out r8C
        have n4r : wr.cell? ⟨w.heap.size, 0, none⟩ = some (i64 now) := HFR.out.cellZ HN0.out hd2
        have hw2r : w2.heap.size < wr.heap.size := World.block_lt_of_cell? _ _ r8r
        have hw0r : w.heap.size < wr.heap.size := World.block_lt_of_cell? _ _ n4r
        clear hy hrs
        gi_wp2
        refine ⟨trivial, ?_⟩
        have hal := (Below.refl wr.heap.size wr).alloc (Nat.le_refl _) (.cells #[i64 y.1, i64 y.2] 48)
        refine (CallsIn.inRound l (callsIn_wide.2 (zwr_any HSO q now y _ In2 _ (HZR.out.fr (Fr.below (In := fun _ => False) hal) (fun _ _ x => x)) HYI.out n0 n1))).mono ?_
        rintro e w5 ⟨rfl, hz5, hf5⟩
        have HZ5 := hid (show ZRep w5 In2 q (writesAll st now (pts.take (k + 1))) by rw [HWS.out]; exact hz5)
        have HF5 := hid (show Fr In2 wC w5 from (HFR.out.trans (Fr.below (In := fun _ => False) hal) fun _ x => x.elim).trans hf5 fun _ x => .inl x)
        clear hz5 hf5 hal s0 s1 r8r n4r
        gi_wp2
        go_roundw
        case rel => first | exact ⟨k + 1, by omega, by go_num, HZ5.out, HF5.out⟩ | ((repeat apply Exists.intro); exact ⟨⟨k + 1, by omega, by go_num, HZ5.out, HF5.out⟩, rfl⟩)
        case measure => simp [intOf]; omega
end Go.Proofs.YthbbfjfekchdiaaGreat
