import Derived.Test.YthbbfjfekchdiaaGreatXHOne
import Derived.Test.YthbbfjfekchdiaaGreatXLeafWalks
import Derived.Deep.QuietTactic
import Derived.BigQuiet
import Derived.WalkSpells
namespace Go.Proofs.YthbbfjfekchdiaaGreat
open Go.RowKit
set_option linter.unusedSimpArgs false
theorem KI.base {B base base' : Nat} {c0 c1 c2 : Value} {w wr : World} {vl pv0 pv : Value} {es : List Value} {rows : List (Value × Nat)} {mc : List Value} {m0 : Value} (h : KI B base c0 c1 c2 w wr vl pv0 pv es rows mc m0) (hb : base' ≤ base) : KI B base' c0 c1 c2 w wr vl pv0 pv es rows mc m0 :=
  ⟨h.blk, h.own, fun r hr => owns_base (h.rows r hr) hb, h.mb, h.fr, h.pvb, h.vlb, h.pvl⟩
structure AskPost (R : Rep) (w w' : World) (B : Nat) (tag : Nat → Tag) (ds : List RDb) (bs is ps : List Value) (g : Nat) : Prop where
  left : Left2 R w w' B ds bs is ps
  arg : ∀ k, k < w.heap.size → tag k = .arg → w'.heap[k]? = w.heap[k]?
  gblk : w'.heap[g]? = w.heap[g]?
  c0 : w'.cell? ⟨B, 0, none⟩ = w.cell? ⟨B, 0, none⟩
structure PairAt (R : Rep) (w : World) (B : Nat) (tag : Nat → Tag) (ds : List RDb) (j g cap pd pr : Nat) (d : RDb) : Prop where
  dj : ds[j]? = some d
  c0 : w.cell? ⟨B, 0, none⟩ = some (.slice (some ⟨g, 0, none⟩) ds.length cap)
  gt : ∃ cur, w.heap[g]? = some (.cells cur 53)
  gw : tag g = .world ∧ g ≠ B
  e0 : w.cell? ⟨g, j * 2, none⟩ = some (.pointer (some ⟨pd, 0, none⟩))
  e1 : w.cell? ⟨g, j * 2 + 1, none⟩ = some (.pointer (some ⟨pr, 0, none⟩))
  both : Both R w (fun k => tag k = .db j) pd pr d
theorem HInv.pair {R : Rep} {w : World} {B : Nat} {tag : Nat → Tag} {ds : List RDb} {bs is ps : List Value} (h : HInv R w B tag ds bs is ps) {j : Nat} (hj : j < ds.length) : ∃ g cap pd pr d, PairAt R w B tag ds j g cap pd pr d := by
  obtain ⟨v, prs, bv, iv, pv, hB, hv, tv, hp, _⟩ := h.mem
  obtain ⟨d, hd⟩ : ∃ d, ds[j]? = some d := ⟨_, List.getElem?_eq_getElem hj⟩
  obtain ⟨pd, pr, a, b, hb⟩ := hp j d hd
  obtain ⟨g, cap, cur, hvv, hBg, hg, ht, hs⟩ := owns_block hv (by omega)
  have hcell : ∀ o, o < ds.length * 2 → w.cell? ⟨g, o, none⟩ = prs[o]? := by
    intro o hlt
    rw [cell_of_blk hg o, ← ht, List.getElem?_take_of_lt hlt]
    simp
  refine ⟨g, cap, pd, pr, d, hd, by rw [← hvv]; exact cell_of_blk hB 0, ⟨cur, hg⟩, ⟨tv g (by rw [hvv]; rfl), by omega⟩, ?_, ?_, hb⟩
  · rw [hcell _ (by omega), Nat.mul_comm]; exact a
  · rw [hcell _ (by omega), Nat.mul_comm]; exact b
theorem PairAt.prs {R : Rep} {w : World} {B : Nat} {tag : Nat → Tag} {ds : List RDb} {j g cap pd pr : Nat} {d : RDb} (h : PairAt R w B tag ds j g cap pd pr d) {v bv iv pv : Value} {prs : List Value} (hB : w.heap[B]? = some (.cells #[v, bv, iv, pv] 35)) (hv : w.ownsRow (B + 1) 53 2 v ds.length prs) :
    prs[2 * j]? = some (.pointer (some ⟨pd, 0, none⟩)) ∧ prs[2 * j + 1]? = some (.pointer (some ⟨pr, 0, none⟩)) := by
  have hj : j < ds.length := by obtain ⟨x, _⟩ := List.getElem?_eq_some_iff.1 h.dj; exact x
  have e := h.c0
  rw [cell_of_blk hB 0] at e
  simp at e
  subst e
  have r := World.ownsRow.cells hv (g := g) rfl
  obtain ⟨x, hx⟩ : ∃ x, prs[2 * j]? = some x := ⟨_, List.getElem?_eq_getElem (by rw [hv.1]; omega)⟩
  obtain ⟨y, hy⟩ : ∃ y, prs[2 * j + 1]? = some y := ⟨_, List.getElem?_eq_getElem (by rw [hv.1]; omega)⟩
  have rx := r _ _ hx
  have ry := r _ _ hy
  rw [addr_add0] at rx ry
  rw [show 2 * j = j * 2 by omega, h.e0] at rx
  rw [show 2 * j + 1 = j * 2 + 1 by omega, h.e1] at ry
  rw [hx, hy]
  exact ⟨rx.symm, ry.symm⟩
theorem PairAt.below {R : Rep} (H : ProgOk R) {w w' : World} {B : Nat} {tag : Nat → Tag} {ds : List RDb} {j g cap pd pr : Nat} {d : RDb} (h : PairAt R w B tag ds j g cap pd pr d) (hb : Below w.heap.size w w') : PairAt R w' B tag ds j g cap pd pr d := by
  obtain ⟨cur, hg⟩ := h.gt
  exact ⟨h.dj, cell_later hb h.c0, ⟨cur, blk_later hb (blk_lt hg) hg⟩, h.gw, cell_later hb h.e0, cell_later hb h.e1, h.both.below H hb⟩
theorem PairAt.retag {R : Rep} (H : ProgOk R) {w w' : World} {B : Nat} {tag : Nat → Tag} {ds : List RDb} {j g cap pd pr : Nat} {d : RDb} (h : PairAt R w B tag ds j g cap pd pr d) (hb : Below w.heap.size w w') (f : Nat → Tag) : PairAt R w' B (tagUp tag w.heap.size f) ds j g cap pd pr d := by
  have h2 := h.below H hb
  obtain ⟨cur, hg⟩ := h.gt
  refine ⟨h2.dj, h2.c0, h2.gt, ⟨(tagUp_lt (blk_lt hg)).trans h.gw.1, h.gw.2⟩, h2.e0, h2.e1, ?_⟩
  have h3 : Both R w (fun k => tagUp tag w.heap.size f k = .db j) pd pr d := h.both.weak fun k hk hk2 => (tagUp_lt hk).trans hk2
  exact h3.below H hb
theorem ask_below {R : Rep} (H : ProgOk R) {w w' : World} {B : Nat} {tag : Nat → Tag} {ds : List RDb} {bs is ps : List Value} (hI : HInv R w B tag ds bs is ps) {j g cap pd pr : Nat} {d : RDb} (hp : PairAt R w B tag ds j g cap pd pr d) (hb : Below w.heap.size w w') : AskPost R w w' B tag ds bs is ps g := by
  obtain ⟨cur, hg⟩ := hp.gt
  exact ⟨left2_same H hI hb, fun k hk _ => hb.block k hk, hb.block g (blk_lt hg), hb.cell (p := ⟨B, 0, none⟩) hI.lt⟩
theorem ask_upd {R : Rep} (H : ProgOk R) {w w0 w' : World} {B : Nat} {tag : Nat → Tag} {ds : List RDb} {bs is ps : List Value} (hI : HInv R w B tag ds bs is ps) {j g cap pd pr : Nat} {d d' : RDb} (hp : PairAt R w B tag ds j g cap pd pr d) (hb0 : Below w.heap.size w w0)
    (hb : Both R w' (Up (fun k => k < w.heap.size ∧ tag k = .db j) w0.heap.size) pd pr d') (hf : Fr (fun k => k < w.heap.size ∧ tag k = .db j) w0 w') : AskPost R w w' B tag ds bs is ps g := by
  obtain ⟨cur, hg⟩ := hp.gt
  have hz := hI.lt
  have hj : j < ds.length := by obtain ⟨x, _⟩ := List.getElem?_eq_some_iff.1 hp.dj; exact x
  have f : Fr (fun k => tag k = .db j) w w' := (Fr.below hb0).trans hf fun k hk => .inl hk.2
  have z0 := hb0.size
  refine ⟨hI.upd H hj (fun v prs bv iv pv hB hv => hp.prs hB hv) (hb.weak fun k _ hk => ?_) f, ?_, ?_, ?_⟩
  · rcases hk with hk | hk
    · exact .inl hk.2
    · exact .inr (by omega)
  · intro k hk ht
    exact f.block k hk (by rw [ht]; intro x; cases x)
  · exact f.block g (blk_lt hg) (by rw [hp.gw.1]; intro x; cases x)
  · exact World.cell?_of_block (a := ⟨B, 0, none⟩) (f.block B hz (by rw [hI.tagB]; intro x; cases x))
theorem ask_fet {R : Rep} (H : ProgOk R) {w w1 w' : World} {B : Nat} {tag : Nat → Tag} {ds : List RDb} {bs is ps : List Value} (hI : HInv R w B tag ds bs is ps) {j g cap pd pr : Nat} {d : RDb} (hp : PairAt R w B tag ds j g cap pd pr d) (hb1 : Below w.heap.size w w1) {v bv iv pv vl pv' v1 v2 v3 m0 : Value} {n : Nat}
    (hB0 : w.heap[B]? = some (.cells #[v, bv, iv, pv] 35)) (hpv : w.ownsRow (B + 1) 41 1 pv ps.length ps) (tpv : At tag pv .world)
    (K : KI B w.heap.size v bv iv w1 w' vl pv pv' ((((ps ++ [vl]) ++ [v1]) ++ [v2]) ++ [v3]) [(vl, n), (v1, n + 1), (v2, n + 2), (v3, n + 3)] (mkP ps.length) m0) : AskPost R w w' B tag ds bs is ps g := by
  obtain ⟨cur, hg⟩ := hp.gt
  have hz := hI.lt
  have hge : ∀ k, vl.ownBlock = some k → w.heap.size ≤ k := fun k hk => ((K.rows (vl, n) (by simp)).lt k hk).1
  have f : ∀ k, k < w.heap.size → k ≠ B → pv.ownBlock ≠ some k → w'.heap[k]? = w.heap[k]? := by
    intro k hk h1 h2
    rw [K.fr.block k (by have := hb1.size; omega) ?_, hb1.block k hk]
    rintro (x | x | x)
    · exact h1 x
    · exact h2 x
    · have := hge k x; omega
  refine ⟨hI.fet H hb1 hB0 K, ?_, ?_, ?_⟩
  · intro k hk ht
    refine f k hk ?_ ?_
    · intro e; subst e; rw [hI.tagB] at ht; cases ht
    · intro e; have := tpv k e; rw [ht] at this; cases this
  · refine f g (blk_lt hg) hp.gw.2 ?_
    exact owns_blk hpv hg (by decide)
  · rw [cell_of_blk K.blk 0, cell_of_blk hB0 0]; rfl
end Go.Proofs.YthbbfjfekchdiaaGreat
namespace Go.Proofs.YthbbfjfekchdiaaGreat
open Go.RowKit
set_option linter.unusedSimpArgs false
attribute [local go_sem] Go.wp_at_zero Go.wp_at_succ
theorem eq_arr2 (c : Cfg) (w : World) : (Op.equalIn 9999 38 (.agg #[i64 c.s0, i64 c.k0, i64 c.s1, i64 c.k1, i64 c.s2, i64 c.k2, i64 c.s3, i64 c.k3]) (.agg #[i64 c.s0, i64 c.k0, i64 c.s1, i64 c.k1, i64 c.s2, i64 c.k2, i64 c.s3, i64 c.k3])).run Tryz.prog w = .ok true w := by
  rw [show (9999 : Nat) = 9998 + 1 from rfl, Op.equalIn]
  simp only [Sem.run_bind, run_underlying Tryz.underlying38, Result.andThen_ok]
  simp only [Std.Legacy.Range.forIn_eq_forIn_range', Std.Legacy.Range.size, Nat.sub_zero, Nat.add_sub_cancel, Nat.div_one, List.range'_succ, List.range'_zero, List.forIn_cons, List.forIn_nil]
  go_simp
set_option maxHeartbeats 2000000 in
theorem asked2_config {R : Rep} (H : ProgOk R) (kd oa ob od oe : Int) (c : Cfg) (la : Option Addr) (ln lc : Nat) (ss : ByteArray) (B : Nat) (w : World) (tag : Nat → Tag) (ds : List RDb) (bs is ps : List Value) (j g cap pd pr : Nat) (d : RDb) (hk : kd = 3) (hI : HInv R w B tag ds bs is ps) (hp : PairAt R w B tag ds j g cap pd pr d) :
    Calls Tryz.prog 16 #[.pointer (some ⟨B, 0, none⟩), .agg #[.pointer (some ⟨pd, 0, none⟩), .pointer (some ⟨pr, 0, none⟩)], opV kd oa ob od oe c la ln lc ss] w fun e w' => e = .returned (.bool true) ∧ AskPost R w w' B tag ds bs is ps g := by
  subst hk
  have HI := hid hI
  have HP := hid hp
  obtain ⟨P, Q, h, _⟩ := hp.both
  have HT := hid h
  clear hI hp h
  go_enter Tryz.func16, Tryz.ntmps16
  go_wp2_with fail
  have kb := fun (o1 o2 : Obj) => ((Below.refl w.heap.size w).alloc (Nat.le_refl _) o1).alloc (by simp) o2
  refine (H.config pd d P _ (H.fr HT.out.p (Fr.below (In := fun _ => False) (kb _ _)) (fun _ _ x => x)) HT.out.ok).mono ?_
  rintro e w1 ⟨rfl, hb1⟩
  have HB := hid (show Below w.heap.size w w1 from (kb _ _).trans (hb1.mono (by simp; omega)))
  obtain ⟨gl, vs, hru, _⟩ := (HT.out.r.later HB.out).mem
  obtain ⟨c', hc'⟩ : ∃ c', c' = d.c := ⟨_, rfl⟩
  rw [← hc'] at hru
  rw [← hc']
  have q1 : w1.cell? ⟨w.heap.size, 1, none⟩ = some (.pointer (some ⟨pr, 0, none⟩)) := cell_later hb1 (by simp)
  have r0 : w1.cell? ⟨pr, 0, none⟩ = some (i64 c'.s0) := cell_of_blk hru 0
  have r1 : w1.cell? ⟨pr, 1, none⟩ = some (i64 c'.k0) := cell_of_blk hru 1
  have r2 : w1.cell? ⟨pr, 2, none⟩ = some (i64 c'.s1) := cell_of_blk hru 2
  have r3 : w1.cell? ⟨pr, 3, none⟩ = some (i64 c'.k1) := cell_of_blk hru 3
  have r4 : w1.cell? ⟨pr, 4, none⟩ = some (i64 c'.s2) := cell_of_blk hru 4
  have r5 : w1.cell? ⟨pr, 5, none⟩ = some (i64 c'.k2) := cell_of_blk hru 5
  have r6 : w1.cell? ⟨pr, 6, none⟩ = some (i64 c'.s3) := cell_of_blk hru 6
  have r7 : w1.cell? ⟨pr, 7, none⟩ = some (i64 c'.k3) := cell_of_blk hru 7
  have r8 : w1.cell? ⟨pr, 8, none⟩ = some (i64 c'.m) := cell_of_blk hru 8
  have r9 : w1.cell? ⟨pr, 9, none⟩ = some (i64 c'.f) := cell_of_blk hru 9
  have hz1 : w.heap.size + 1 < w1.heap.size := by have := hb1.size; simp at this; omega
  have hz0 : pr < w1.heap.size := blk_lt hru
  have hz2 : w.heap.size < w1.heap.size := by omega
  clear hb1 kb hru hc'
  go_wp2_with fail
  have ea := eq_arr2 c'
  go_quiet (fail)
  go_wp2
  go_ret
  exact ⟨by simp, ask_below H HI.out HP.out (below_drewN (HB.out.alloc (by omega) _) _)⟩
set_option maxHeartbeats 2000000 in
theorem asked2_upd {R : Rep} (H : ProgOk R) (kd oa ob od oe : Int) (c : Cfg) (la : Option Addr) (ln lc : Nat) (ss : ByteArray) (l : List Pt) (B : Nat) (w : World) (tag : Nat → Tag) (ds : List RDb) (bs is ps : List Value) (j g cap pd pr : Nat) (d : RDb) (hk : kd = 4) (hI : HInv R w B tag ds bs is ps) (hp : PairAt R w B tag ds j g cap pd pr d)
    (hl : RowG w (.slice la ln lc) l) (hnil : la = none → ln = 0 ∧ lc = 0) (hlt : OutOf (fun k => B ≤ k) (.slice la ln lc)) (hlen : ln ≤ 8796093022208) :
    Calls Tryz.prog 16 #[.pointer (some ⟨B, 0, none⟩), .agg #[.pointer (some ⟨pd, 0, none⟩), .pointer (some ⟨pr, 0, none⟩)], opV kd oa ob od oe c la ln lc ss] w fun e w' => e = .returned (.bool true) ∧ AskPost R w w' B tag ds bs is ps g := by
  subst hk
  have HI := hid hI
  have HP := hid hp
  have HL := hid hl
  have HLT := hid hlt
  have HNIL := hid hnil
  have hz := hI.lt
  clear hI hp hl hlt hnil
  go_enter Tryz.func16, Tryz.ntmps16
  go_wp2_with fail
  have kb := fun (o1 o2 : Obj) => ((Below.refl w.heap.size w).alloc (Nat.le_refl _) o1).alloc (by simp) o2
  refine (updated_any H 4 oa ob od oe c la ln lc ss l pd pr d (fun k => k < w.heap.size ∧ tag k = .db j) _ ((HP.out.both.weak fun k hk h => ⟨hk, h⟩).below H (kb _ _)) (HL.out.fr (In := fun _ => False) (fun _ _ _ _ _ x => x) (Fr.below (kb _ _))) HNIL.out ?_ ?_ hlen).mono ?_
  · intro a n c e hn hx
    have h1 := HLT.out a n c e hn
    have := HI.out.low a.block (by omega)
    rw [hx.2] at this
    cases this
  · intro a n c e hn hx
    have h1 := HLT.out a n c e hn
    simp at hx
    omega
  rintro e w1 ⟨rfl, hb1, hf1⟩
  have HA := hid (ask_upd H HI.out HP.out (kb _ _) hb1 hf1)
  clear hb1 hf1 kb
  go_wp2
  go_ret
  exact ⟨rfl, HA.out⟩
set_option maxHeartbeats 2000000 in
theorem asked2_fet {R : Rep} (H : ProgOk R) (kd oa ob od oe : Int) (c : Cfg) (la : Option Addr) (ln lc : Nat) (ss : ByteArray) (B : Nat) (w : World) (tag : Nat → Tag) (ds : List RDb) (bs is ps : List Value) (j g cap pd pr : Nat) (d : RDb) (hk : kd = 5) (hI : HInv R w B tag ds bs is ps) (hp : PairAt R w B tag ds j g cap pd pr d) (hps : (ps.length + 4) * 24 ≤ 140737488355328) :
    Calls Tryz.prog 16 #[.pointer (some ⟨B, 0, none⟩), .agg #[.pointer (some ⟨pd, 0, none⟩), .pointer (some ⟨pr, 0, none⟩)], opV kd oa ob od oe c la ln lc ss] w fun e w' => e = .returned (.bool true) ∧ AskPost R w w' B tag ds bs is ps g := by
  subst hk
  have HI := hid hI
  have HP := hid hp
  obtain ⟨v, prs, bv, iv, pv, hB, hv, tv, hpp, k1, k2, k3⟩ := hI.mem
  have HB := hid hB
  have HK := hid k3
  have hz := hI.lt
  clear hI hp hB hv tv hpp k1 k2 k3
  go_enter Tryz.func16, Tryz.ntmps16
  go_wp2_with fail
  have kb := fun (o1 o2 : Obj) => ((Below.refl w.heap.size w).alloc (Nat.le_refl _) o1).alloc (by simp) o2
  refine (fetched_any H 5 oa ob od oe c la ln lc ss B v bv iv pv ps pd pr d (fun k => tag k = .db j) _ (HP.out.both.below H (kb _ _)) (blk_later (kb _ _) hz HB.out) (owns_below HK.out.row (kb _ _)) hps).mono ?_
  rintro e w1 ⟨rfl, wm, vl, n, pv', v1, v2, v3, hbm, hK⟩
  have HA := hid (ask_fet H HI.out HP.out ((kb _ _).trans (hbm.mono (by simp; omega))) HB.out HK.out.row HK.out.tagv (hK.base (by simp; omega)))
  clear hbm hK kb
  go_wp2
  go_ret
  exact ⟨rfl, HA.out⟩
end Go.Proofs.YthbbfjfekchdiaaGreat
namespace Go.Proofs.YthbbfjfekchdiaaGreat
open Go.RowKit
set_option linter.unusedSimpArgs false
def pickM (x : Int) (n : Nat) : Nat := ((if x < 0 then -(x + 1) else x) % (n : Int)).toNat
theorem pickM_lt (x : Int) {n : Nat} (h : 1 ≤ n) : pickM x n < n := by
  unfold pickM
  have := Int.emod_lt_of_pos (if x < 0 then -(x + 1) else x) (show (0 : Int) < n by omega)
  have := Int.emod_nonneg (if x < 0 then -(x + 1) else x) (show (n : Int) ≠ 0 by omega)
  omega
theorem pickM_neg {x : Int} {n : Nat} (h : 1 ≤ n) (hx : x < 0) : ((pickM x n : Nat) : Int) = (-(x + 1)) % (n : Int) := by
  unfold pickM
  rw [if_pos hx]
  exact Int.toNat_of_nonneg (Int.emod_nonneg _ (by omega))
theorem pickM_pos {x : Int} {n : Nat} (h : 1 ≤ n) (hx : ¬ x < 0) : ((pickM x n : Nat) : Int) = x % (n : Int) := by
  unfold pickM
  rw [if_neg hx]
  exact Int.toNat_of_nonneg (Int.emod_nonneg _ (by omega))
theorem ret_int2 {a b : Int} (h : a = b) : Ending.returned (Value.int .i64 a) = .returned (i64 b) := by rw [h]
set_option maxHeartbeats 1000000 in
theorem pick2_any (x : Int) (n : Nat) (w : World) (h : 1 ≤ n) (hn : n ≤ 9223372036854775807) (h1 : -9223372036854775808 ≤ x) (h2 : x ≤ 9223372036854775807) :
    Calls Tryz.prog 17 #[i64 x, i64 n] w fun e w' => e = .returned (i64 (pickM x n)) ∧ w' = w := by
  by_cases hx : x < 0
  · have HP := hid (pickM_neg h hx)
    go_enter Tryz.func17, Tryz.ntmps17
    go_wp2
    go_ret
    exact ⟨ret_int2 (by rw [HP.out, ← Int.tmod_eq_emod_of_nonneg (by omega), Int.neg_tmod]), rfl⟩
  · have HP := hid (pickM_pos h hx)
    go_enter Tryz.func17, Tryz.ntmps17
    go_wp2
    go_ret
    exact ⟨ret_int2 (by rw [HP.out]), rfl⟩
end Go.Proofs.YthbbfjfekchdiaaGreat
