import Derived.Test.YthbbfjfekchdiaaGreatXTk
import Derived.Test.YthbbfjfekchdiaaGreatXJDiff
import Derived.Test.YthbbfjfekchdiaaGreatXJAgain
import Derived.Test.YthbbfjfekchdiaaGreatXJLoaded
import Derived.Test.YthbbfjfekchdiaaGreatXHAmong
import Derived.Deep.RegionHeld3
namespace Go.Proofs.YthbbfjfekchdiaaGreat
open Go.RowKit
set_option linter.unusedSimpArgs false
attribute [local go_sem] Go.wp_at_zero Go.wp_at_succ
theorem KJ.base {F : Value → Array Value} {te tr B base base' : Nat} {w wr : World} {vl pv0 pv : Value} {es : List Value} {rows : List (Value × Nat)} {mc : List Value} (h : KJ F te tr B base w wr vl pv0 pv es rows mc) (hb : base' ≤ base) : KJ F te tr B base' w wr vl pv0 pv es rows mc :=
  ⟨h.blk, h.own, fun r hr => owns_base (h.rows r hr) hb, h.fr, h.pvb, h.vlb, h.pvl⟩
theorem ask_fetI {R : Rep} (H : ProgOk R) {w w1 w' : World} {B : Nat} {tag : Nat → Tag} {ds : List RDb} {bs is ps : List Value} (h : HInv R w B tag ds bs is ps) (hb1 : Below w.heap.size w w1) {v bv iv pv vl iv' v1 v2 v3 : Value} {n : Nat}
    (hB0 : w.heap[B]? = some (.cells #[v, bv, iv, pv] 35)) (tb : At tag iv .world)
    (K : KJ (fun x => #[v, bv, x, pv]) 3 24 B w.heap.size w1 w' vl iv iv' ((((is ++ [vl]) ++ [v1]) ++ [v2]) ++ [v3]) [(vl, n), (v1, n + 1), (v2, n + 2), (v3, n + 3)] (mkI is.length)) : AskPost3 R w w' B tag ds bs is ps := by
  obtain ⟨tag', _, _, a, b, f⟩ := h.fetI H hb1 (fun _ => .arg) hB0 K
  refine ⟨⟨⟨tag', ds, bs, _, ps, a, by omega, by omega, by simp, by omega, id⟩, b⟩, fun k hk ht => f.block k hk ?_⟩
  rintro (rfl | hx)
  · rw [h.tagB] at ht; cases ht
  · rw [tb k hx] at ht; cases ht
set_option maxRecDepth 4000 in
set_option maxHeartbeats 4000000 in
theorem asked3_diff {R : Rep} (H2 : ProgOk2 R) (kd oa ob od oe : Int) (c : Cfg) (la : Option Addr) (ln lc : Nat) (ss : ByteArray) (B : Nat) (w : World) (tag : Nat → Tag) (ds : List RDb) (bs is ps : List Value) (j g cap pd pr : Nat) (d : RDb) (hk : kd = 10) (hI : HInv R w B tag ds bs is ps) (hp : PairAt R w B tag ds j g cap pd pr d) (his : (is.length + 4) * 24 ≤ 140737488355328) (h1 : 1 ≤ ds.length) (hn : ds.length ≤ 1000000000000) (ha1 : -9223372036854775808 ≤ ob) (ha2 : ob ≤ 9223372036854775807) :
    Calls Tryz.prog 16 #[.pointer (some ⟨B, 0, none⟩), .agg #[.pointer (some ⟨pd, 0, none⟩), .pointer (some ⟨pr, 0, none⟩)], opV kd oa ob od oe c la ln lc ss] w fun e w' => e = .returned (.bool true) ∧ AskPost3 R w w' B tag ds bs is ps := by
  subst hk
  have H := H2.base
  have HI := hid hI
  have HP := hid hp
  have hz := hI.lt
  have hlt := pickM_lt ob h1
  obtain ⟨g2, cap2, qd, qr, o, hq⟩ := hI.pair hlt
  have HQ := hid hq
  obtain ⟨v, prs, bv, iv, pv, hB, hv, tv, hpp, k1, k2, k3⟩ := hI.mem
  have HB := hid hB
  have HK := hid k2
  obtain ⟨n, hn'⟩ : ∃ n, n = ds.length := ⟨_, rfl⟩
  obtain ⟨jj, hj⟩ : ∃ j, j = pickM ob ds.length := ⟨_, rfl⟩
  have d0 := hq.c0
  have e0 := hq.e0
  have e1 := hq.e1
  rw [← hj] at hlt e0 e1 HQ
  rw [← hn'] at hlt h1 hn d0 hj
  have hgz : g2 < w.heap.size := by obtain ⟨cur, x⟩ := hq.gt; exact blk_lt x
  have HGT := hid hq.gt
  have hgB : g2 ≠ B := hq.gw.2
  have HJ := hid hj
  have hji : (jj : Int) < (n : Int) := by omega
  have hj0 : (0 : Int) ≤ (jj : Int) := by omega
  have HVV := hid (show v = .slice (some ⟨g2, 0, none⟩) n cap2 by
    have := cell_of_blk hB 0
    rw [d0] at this
    exact (Option.some.inj this).symm)
  clear hI hp hq hB hv tv hpp k1 k2 k3 hj hn'
  go_enter Tryz.func16, Tryz.ntmps16
  go_wp2_with fail
  generalize hwX : (w.alloc (.cells #[.pointer (some ⟨pd, 0, none⟩), .pointer (some ⟨pr, 0, none⟩)] 53)).alloc (.cells #[i64 10, i64 oa, i64 ob, i64 od, i64 oe, i64 c.s0, i64 c.k0, i64 c.s1, i64 c.k1, i64 c.s2, i64 c.k2, i64 c.s3, i64 c.k3, i64 c.m, i64 c.f, .slice la ln lc, .string ss] 43) = wX
  have HBX := hid (show Below w.heap.size w wX by rw [← hwX]; exact ((Below.refl w.heap.size w).alloc (Nat.le_refl _) _).alloc (by simp) _)
  have HPX := hid (show wX.heap[w.heap.size]? = some (.cells #[.pointer (some ⟨pd, 0, none⟩), .pointer (some ⟨pr, 0, none⟩)] 53) by rw [← hwX]; exact blk_alloc (blk_new w _))
  have HOX := hid (show wX.heap[w.heap.size + 1]? = some (.cells #[i64 10, i64 oa, i64 ob, i64 od, i64 oe, i64 c.s0, i64 c.k0, i64 c.s1, i64 c.k1, i64 c.s2, i64 c.k2, i64 c.s3, i64 c.k3, i64 c.m, i64 c.f, .slice la ln lc, .string ss] 43) by
    rw [← hwX]
    have := blk_new (w.alloc (.cells #[.pointer (some ⟨pd, 0, none⟩), .pointer (some ⟨pr, 0, none⟩)] 53)) (.cells #[i64 10, i64 oa, i64 ob, i64 od, i64 oe, i64 c.s0, i64 c.k0, i64 c.s1, i64 c.k1, i64 c.s2, i64 c.k2, i64 c.s3, i64 c.k3, i64 c.m, i64 c.f, .slice la ln lc, .string ss] 43)
    rwa [show (w.alloc (.cells #[.pointer (some ⟨pd, 0, none⟩), .pointer (some ⟨pr, 0, none⟩)] 53)).heap.size = w.heap.size + 1 by simp] at this)
  have hzX : w.heap.size + 1 < wX.heap.size := blk_lt HOX.out
  clear hwX
  have p0 : wX.cell? ⟨w.heap.size, 0, none⟩ = some (.pointer (some ⟨pd, 0, none⟩)) := cell_of_blk HPX.out 0
  have p1 : wX.cell? ⟨w.heap.size, 1, none⟩ = some (.pointer (some ⟨pr, 0, none⟩)) := cell_of_blk HPX.out 1
  have o2 : wX.cell? ⟨w.heap.size + 1, 2, none⟩ = some (i64 ob) := cell_of_blk HOX.out 2
  have x0 := cell_later HBX.out d0
  have x1 := cell_later HBX.out e0
  have x2 := cell_later HBX.out e1
  have hBX : B < wX.heap.size := by omega
  have hgX : g2 < wX.heap.size := by omega
  have hpX : w.heap.size < wX.heap.size := by omega
  clear d0 e0 e1
  refine wp_region_held_drew (S := (fun w' => w'.cell? ⟨B, 0, none⟩ = some (.slice (some ⟨g2, 0, none⟩) n cap2) ∧ w'.cell? ⟨w.heap.size, 0, none⟩ = some (.pointer (some ⟨pd, 0, none⟩)) ∧ w'.cell? ⟨w.heap.size, 1, none⟩ = some (.pointer (some ⟨pr, 0, none⟩)) ∧ w'.cell? ⟨w.heap.size + 1, 2, none⟩ = some (i64 ob) ∧ w'.cell? ⟨g2, jj * 2, none⟩ = some (.pointer (some ⟨qd, 0, none⟩)) ∧ w'.cell? ⟨g2, jj * 2 + 1, none⟩ = some (.pointer (some ⟨qr, 0, none⟩)))) (by kernel_rfl) ?_ (fun hHeld => ?_)
  · go_keep
  refine tkI (i := 0) (oi := ⟨some 96, .move (.tmp 0), 27, _, #[], none⟩) ?_
  try simp only [Act.put, tkA, tkB, tkC]
  refine tkI (i := 1) (oi := ⟨some 97, .load 53 (.tmp 4), 53, _, #[], none⟩) ?_
  try simp only [Act.put, tkA, tkB, tkC]
  refine tkI (i := 2) (oi := ⟨some 98, .move (.tmp 0), 27, _, #[], none⟩) ?_
  try simp only [Act.put, tkA, tkB, tkC]
  refine tkI (i := 3) (oi := ⟨some 99, .nilCheck (.tmp 98), 0, _, #[⟨2, .data⟩], none⟩) ?_
  try simp only [Act.put, tkA, tkB, tkC]
  refine tkI (i := 4) (oi := ⟨some 100, .fieldAddr 35 (.tmp 99) 0, 0, _, #[⟨3, .data⟩], none⟩) ?_
  try simp only [Act.put, tkA, tkB, tkC]
  refine tkI (i := 5) (oi := ⟨some 101, .load 28 (.tmp 100), 28, _, #[⟨4, .data⟩], none⟩) ?_
  try simp only [Act.put, tkA, tkB, tkC]
  refine tkI (i := 6) (oi := ⟨some 102, .fieldAddr 43 (.tmp 5) 2, 0, _, #[], none⟩) ?_
  try simp only [Act.put, tkA, tkB, tkC]
  refine tkI (i := 7) (oi := ⟨some 103, .load 3 (.tmp 102), 3, _, #[⟨6, .data⟩], none⟩) ?_
  try simp only [Act.put, tkA, tkB, tkC]
  refine tkI (i := 8) (oi := ⟨some 104, .move (.tmp 0), 27, _, #[], none⟩) ?_
  try simp only [Act.put, tkA, tkB, tkC]
  refine tkI (i := 9) (oi := ⟨some 105, .nilCheck (.tmp 104), 0, _, #[⟨8, .data⟩], none⟩) ?_
  try simp only [Act.put, tkA, tkB, tkC]
  refine tkI (i := 10) (oi := ⟨some 106, .fieldAddr 35 (.tmp 105) 0, 0, _, #[⟨9, .data⟩], none⟩) ?_
  try simp only [Act.put, tkA, tkB, tkC]
  refine tkI (i := 11) (oi := ⟨some 107, .load 28 (.tmp 106), 28, _, #[⟨10, .data⟩], none⟩) ?_
  try simp only [Act.put, tkA, tkB, tkC]
  refine tkI (i := 12) (oi := ⟨some 108, .call { callee := .builtin .len, args := #[.tmp 107], argTypes := #[28] }, 3, _, #[⟨11, .data⟩], none⟩) ?_
  try simp only [Act.put, tkA, tkB, tkC]
  refine wpAnyH_ready (rs := [13]) (by kernel_rfl) (by simp) ?_
  refine AllReadyH.cons rfl (fun K hK => ?_) AllReadyH.nil
  go_simp
  refine (pick2_any _ _ _ h1 (by omega) ha1 ha2).mono ?_
  rintro e w5 ⟨rfl, hw5⟩
  have hw5 := hw5.symm
  subst hw5
  rw [← HJ.out]
  go_wp2_with fail
  refine hK.out _ _ ?_ (fun hHeld => ?_)
  · exact hHeld
  clear hK K
  refine tkI (i := 14) (oi := ⟨some 110, .indexAddr 28 (.tmp 101) (.tmp 109), 0, _, #[⟨5, .data⟩, ⟨13, .data⟩], none⟩) ?_
  try simp only [Act.put, tkA, tkB, tkC]
  refine tkI (i := 15) (oi := ⟨some 111, .load 53 (.tmp 110), 53, _, #[⟨14, .data⟩], none⟩) ?_
  try simp only [Act.put, tkA, tkB, tkC]
  refine wpAnyH_ready (rs := [16]) (by kernel_rfl) (by simp) ?_
  refine AllReadyH.cons rfl (fun K hK => ?_) AllReadyH.nil
  go_simp
  have hbd : Below wX.heap.size wX wX.drew := (Below.refl _ _).drew
  have hbW : Below w.heap.size w wX.drew := HBX.out.trans (hbd.mono (by omega))
  refine (differs_any H2 B v bv pv iv is pd pr qd qr d o _ _ _ (HP.out.both.below H hbW) (HQ.out.both.below H hbW) (blk_later hbW hz HB.out) (owns_below HK.out.row hbW) his).mono ?_
  rintro e w6 ⟨rfl, wm, vl, nl, iv', v1, v2, v3, hbm, hK6⟩
  have hsz : wX.drew.heap.size = wX.heap.size := rfl
  rw [hsz] at hbm hK6
  have hbm' : Below w.heap.size w wm := hbW.trans (hbm.mono (by rw [← hsz]; exact hbW.size))
  have HA := hid (ask_fetI H HI.out hbm' HB.out HK.out.tagv (hK6.base (by omega)))
  have far : ∀ k, k < wX.heap.size → k ≠ B → iv.ownBlock ≠ some k → w6.heap[k]? = wX.heap[k]? := by
    intro k hk hne hiv
    have hx : ¬ (k = B ∨ iv.ownBlock = some k ∨ vl.ownBlock = some k) := by
      rintro (y | y | y)
      · exact hne y
      · exact hiv y
      · have := ((hK6.rows (vl, nl) (by simp)).lt k y).1; omega
    rw [hK6.fr.block k (by have := hbm.size; omega) hx, hbm.block k hk]
    rfl
  have hivX : ∀ k, w.heap.size ≤ k → iv.ownBlock ≠ some k := fun k hk e => by have := (HK.out.row.lt k e).2; omega
  have hivG : iv.ownBlock ≠ some g2 := by
    obtain ⟨cur, hg⟩ := HGT.out
    exact owns_blk HK.out.row hg (by decide)
  refine hK.out _ _ ?_ (fun hHeld => ?_)
  · refine ⟨?_, ?_, ?_, ?_, ?_, ?_⟩
    · rw [cell_of_blk hK6.blk 0, ← HVV.out]; rfl
    · exact (World.cell?_of_block (a := ⟨w.heap.size, 0, none⟩) (far _ hpX (by show w.heap.size ≠ B; omega) (hivX _ (Nat.le_refl _)))).trans p0
    · exact (World.cell?_of_block (a := ⟨w.heap.size, 1, none⟩) (far _ hpX (by show w.heap.size ≠ B; omega) (hivX _ (Nat.le_refl _)))).trans p1
    · exact (World.cell?_of_block (a := ⟨w.heap.size + 1, 2, none⟩) (far _ hzX (by show w.heap.size + 1 ≠ B; omega) (hivX _ (by show w.heap.size ≤ w.heap.size + 1; omega)))).trans o2
    · exact (World.cell?_of_block (a := ⟨g2, jj * 2, none⟩) (far _ hgX hgB hivG)).trans x1
    · exact (World.cell?_of_block (a := ⟨g2, jj * 2 + 1, none⟩) (far _ hgX hgB hivG)).trans x2
  clear hK K hbm hK6 hbm' far hbW hbd hivX hivG
  refine tkI (i := 17) (oi := ⟨some 6, .assign (.tmp 112), 4, _, #[⟨16, .data⟩, ⟨16, .chain⟩, ⟨0, .phase⟩, ⟨1, .phase⟩, ⟨2, .phase⟩, ⟨3, .phase⟩, ⟨4, .phase⟩, ⟨5, .phase⟩, ⟨6, .phase⟩, ⟨7, .phase⟩, ⟨8, .phase⟩, ⟨9, .phase⟩, ⟨10, .phase⟩, ⟨11, .phase⟩, ⟨12, .phase⟩, ⟨13, .phase⟩, ⟨14, .phase⟩, ⟨15, .phase⟩, ⟨16, .phase⟩], none⟩) ?_
  try simp only [Act.put, tkA, tkB, tkC]
  refine wpAnyH_done (by kernel_rfl) ?_ _
  go_wp2
  go_ret
  exact ⟨rfl, HA.out⟩
end Go.Proofs.YthbbfjfekchdiaaGreat
namespace Go.Proofs.YthbbfjfekchdiaaGreat
open Go.RowKit
set_option linter.unusedSimpArgs false
attribute [local go_sem] Go.wp_at_zero Go.wp_at_succ
set_option maxRecDepth 4000 in
set_option maxHeartbeats 2000000 in
theorem step3_ask {R : Rep} (H : ProgOk R) (kd oa ob od oe : Int) (c : Cfg) (la : Option Addr) (ln lc : Nat) (ss : ByteArray) (B : Nat) (w : World) (tag : Nat → Tag) (ds : List RDb) (bs is ps : List Value) (hk3 : 3 ≤ kd) (hk10 : kd ≤ 10) (hk7 : kd ≠ 7) (hI : HInv R w B tag ds bs is ps) (h1 : 1 ≤ ds.length) (hn : ds.length ≤ 1000000000000) (ha1 : -9223372036854775808 ≤ oa) (ha2 : oa ≤ 9223372036854775807)
    (hask : ∀ (w1 : World) (tag1 : Nat → Tag) (j g cap pd pr : Nat) (d : RDb), Below w.heap.size w w1 → HInv R w1 B tag1 ds bs is ps → PairAt R w1 B tag1 ds j g cap pd pr d → Calls Tryz.prog 16 #[.pointer (some ⟨B, 0, none⟩), .agg #[.pointer (some ⟨pd, 0, none⟩), .pointer (some ⟨pr, 0, none⟩)], opV kd oa ob od oe c la ln lc ss] w1 fun e w' => e = .returned (.bool true) ∧ AskPost3 R w1 w' B tag1 ds bs is ps) :
    Calls Tryz.prog 11 #[.pointer (some ⟨B, 0, none⟩), opV kd oa ob od oe c la ln lc ss] w fun e w' => e = .returned (.bool true) ∧ Left3 R w w' B ds bs is ps := by
  have HI := hid hI
  have hz := hI.lt
  have HASK := hid hask
  have hlt := pickM_lt oa h1
  obtain ⟨g, cap, pd, pr, d, hp⟩ := hI.pair hlt
  have HP := hid hp
  obtain ⟨n, hn'⟩ : ∃ n, n = ds.length := ⟨_, rfl⟩
  obtain ⟨j, hj⟩ : ∃ j, j = pickM oa ds.length := ⟨_, rfl⟩
  have d0 := hp.c0
  have e0 := hp.e0
  have e1 := hp.e1
  rw [← hj] at hlt e0 e1 HP
  rw [← hn'] at hlt h1 hn d0 hj
  have hgz : g < w.heap.size := by obtain ⟨cur, x⟩ := hp.gt; exact blk_lt x
  have HJ := hid hj
  have HNN := hid hn'
  have hn0 : ((n : Int) == 0) = false := beq_eq_false_iff_ne.2 (by omega)
  have q1 : (kd == 1) = false := beq_eq_false_iff_ne.2 (by omega)
  have q2 : (kd == 2) = false := beq_eq_false_iff_ne.2 (by omega)
  have q7 : (kd == 7) = false := beq_eq_false_iff_ne.2 hk7
  have q3 : decide (kd < 3) = false := decide_eq_false (by omega)
  have q10 : decide (10 < kd) = false := decide_eq_false (by omega)
  have hji : (j : Int) < (n : Int) := by omega
  have hj0 : (0 : Int) ≤ (j : Int) := by omega
  have HA := hid (fun (o : Obj) => (Below.refl w.heap.size w).alloc (Nat.le_refl _) o)
  clear hI hp hj hn' hask
  go_enter Tryz.func11, Tryz.ntmps11
  go_wp2_with fail
  refine wp_region_held_drew (S := (fun w' => w'.cell? ⟨w.heap.size, 0, none⟩ = some (i64 kd) ∧ w'.cell? ⟨w.heap.size, 1, none⟩ = some (i64 oa) ∧ w'.cell? ⟨w.heap.size, 2, none⟩ = some (i64 ob) ∧ w'.cell? ⟨w.heap.size, 3, none⟩ = some (i64 od) ∧ w'.cell? ⟨w.heap.size, 4, none⟩ = some (i64 oe) ∧ w'.cell? ⟨w.heap.size, 5, none⟩ = some (i64 c.s0) ∧ w'.cell? ⟨w.heap.size, 6, none⟩ = some (i64 c.k0) ∧ w'.cell? ⟨w.heap.size, 7, none⟩ = some (i64 c.s1) ∧ w'.cell? ⟨w.heap.size, 8, none⟩ = some (i64 c.k1) ∧ w'.cell? ⟨w.heap.size, 9, none⟩ = some (i64 c.s2) ∧ w'.cell? ⟨w.heap.size, 10, none⟩ = some (i64 c.k2) ∧ w'.cell? ⟨w.heap.size, 11, none⟩ = some (i64 c.s3) ∧ w'.cell? ⟨w.heap.size, 12, none⟩ = some (i64 c.k3) ∧ w'.cell? ⟨w.heap.size, 13, none⟩ = some (i64 c.m) ∧ w'.cell? ⟨w.heap.size, 14, none⟩ = some (i64 c.f) ∧ w'.cell? ⟨w.heap.size, 15, none⟩ = some (.slice la ln lc) ∧ w'.cell? ⟨w.heap.size, 16, none⟩ = some (.string ss))) (by kernel_rfl) ?_ (fun hHeld => ?_)
  · go_keep
  refine tkI (i := 0) (oi := ⟨some 41, .move (.tmp 0), 27, _, #[], none⟩) ?_
  try simp only [Act.put, tkA, tkB, tkC]
  refine tkI (i := 1) (oi := ⟨some 42, .move (.tmp 0), 27, _, #[], none⟩) ?_
  try simp only [Act.put, tkA, tkB, tkC]
  refine tkI (i := 2) (oi := ⟨some 43, .nilCheck (.tmp 42), 0, _, #[⟨1, .data⟩], none⟩) ?_
  try simp only [Act.put, tkA, tkB, tkC]
  refine tkI (i := 3) (oi := ⟨some 44, .fieldAddr 35 (.tmp 43) 0, 0, _, #[⟨2, .data⟩], none⟩) ?_
  try simp only [Act.put, tkA, tkB, tkC]
  refine tkI (i := 5) (oi := ⟨some 46, .fieldAddr 43 (.tmp 3) 1, 0, _, #[], none⟩) ?_
  try simp only [Act.put, tkA, tkB, tkC]
  refine tkI (i := 6) (oi := ⟨some 47, .load 3 (.tmp 46), 3, _, #[⟨5, .data⟩], none⟩) ?_
  try simp only [Act.put, tkA, tkB, tkC]
  refine tkI (i := 7) (oi := ⟨some 48, .move (.tmp 0), 27, _, #[], none⟩) ?_
  try simp only [Act.put, tkA, tkB, tkC]
  refine tkI (i := 8) (oi := ⟨some 49, .nilCheck (.tmp 48), 0, _, #[⟨7, .data⟩], none⟩) ?_
  try simp only [Act.put, tkA, tkB, tkC]
  refine tkI (i := 9) (oi := ⟨some 50, .fieldAddr 35 (.tmp 49) 0, 0, _, #[⟨8, .data⟩], none⟩) ?_
  try simp only [Act.put, tkA, tkB, tkC]
  refine tkI (i := 15) (oi := ⟨some 56, .load 43 (.tmp 3), 43, _, #[], none⟩) ?_
  try simp only [Act.put, tkA, tkB, tkC]
  refine wpAnyH_ready (rs := [4, 10]) (by kernel_rfl) (by simp) ?_
  refine AllReadyH.cons rfl (fun K hK => ?_) (AllReadyH.cons rfl (fun K hK => ?_) AllReadyH.nil)
  · go_simp
    refine hK.out _ _ ?_ (fun hHeld => ?_)
    · exact hHeld
    clear hK K
    refine wpAnyH_ready (rs := [10]) (by kernel_rfl) (by simp) ?_
    refine AllReadyH.cons rfl (fun K hK => ?_) AllReadyH.nil
    go_simp
    refine hK.out _ _ ?_ (fun hHeld => ?_)
    · exact hHeld
    clear hK K
    refine tkI (i := 11) (oi := ⟨some 52, .call { callee := .builtin .len, args := #[.tmp 51], argTypes := #[28] }, 3, _, #[⟨10, .data⟩], none⟩) ?_
    try simp only [Act.put, tkA, tkB, tkC]
    refine wpAnyH_ready (rs := [12]) (by kernel_rfl) (by simp) ?_
    refine AllReadyH.cons rfl (fun K hK => ?_) AllReadyH.nil
    go_simp
    refine (pick2_any _ _ _ h1 (by omega) ha1 ha2).mono ?_
    rintro e w5 ⟨rfl, hw5⟩
    have hw5 := hw5.symm
    subst hw5
    rw [← HJ.out]
    go_wp2_with fail
    refine hK.out _ _ ?_ (fun hHeld => ?_)
    · exact hHeld
    clear hK K
    refine tkI (i := 13) (oi := ⟨some 54, .indexAddr 28 (.tmp 45) (.tmp 53), 0, _, #[⟨4, .data⟩, ⟨12, .data⟩], none⟩) ?_
    try simp only [Act.put, tkA, tkB, tkC]
    refine wpAnyH_ready (rs := [14]) (by kernel_rfl) (by simp) ?_
    refine AllReadyH.cons rfl (fun K hK => ?_) AllReadyH.nil
    go_simp
    refine hK.out _ _ ?_ (fun hHeld => ?_)
    · exact hHeld
    clear hK K
    refine wpAnyH_ready (rs := [16]) (by kernel_rfl) (by simp) ?_
    refine AllReadyH.cons rfl (fun K hK => ?_) AllReadyH.nil
    go_simp
    have hbx := fun (o : Obj) => (HA.out o).drew
    have hIx := fun (o : Obj) => HI.out.retag H (hbx o) (fun _ => .arg)
    have hPx := fun (o : Obj) => (HP.out.retag H (hbx o) (fun _ => .arg))
    refine (HASK.out _ _ j g cap pd pr d (hbx _) (hIx _) (hPx _)).mono ?_
    rintro e w6 ⟨rfl, hA6⟩
    have HF := hid (show Left3 R w w6 B ds bs is ps from ⟨hA6.left.1, ((hbx _).mono (by omega)).trans hA6.left.2⟩)
    have hbox := hA6.arg w.heap.size (by show w.heap.size < (w.alloc _).heap.size; simp) (tagUp_ge (Nat.le_refl _))
    clear hA6 hbx hIx hPx
    go_wp2_with fail
    refine hK.out _ _ ?_ (fun hHeld => ?_)
    · have cb : ∀ o, w6.cell? ⟨w.heap.size, o, none⟩ = _ := fun o => World.cell?_of_block (a := ⟨w.heap.size, o, none⟩) hbox
      refine ⟨(cb 0).trans ?_, (cb 1).trans ?_, (cb 2).trans ?_, (cb 3).trans ?_, (cb 4).trans ?_, (cb 5).trans ?_, (cb 6).trans ?_, (cb 7).trans ?_, (cb 8).trans ?_, (cb 9).trans ?_, (cb 10).trans ?_, (cb 11).trans ?_, (cb 12).trans ?_, (cb 13).trans ?_, (cb 14).trans ?_, (cb 15).trans ?_, (cb 16).trans ?_⟩ <;> simp [*]
    clear hK K hbox
    refine tkI (i := 17) (oi := ⟨some 4, .assign (.tmp 57), 4, _, #[⟨16, .data⟩, ⟨16, .chain⟩, ⟨0, .phase⟩, ⟨1, .phase⟩, ⟨2, .phase⟩, ⟨3, .phase⟩, ⟨4, .phase⟩, ⟨5, .phase⟩, ⟨6, .phase⟩, ⟨7, .phase⟩, ⟨8, .phase⟩, ⟨9, .phase⟩, ⟨10, .phase⟩, ⟨11, .phase⟩, ⟨12, .phase⟩, ⟨13, .phase⟩, ⟨14, .phase⟩, ⟨15, .phase⟩, ⟨16, .phase⟩], none⟩) ?_
    try simp only [Act.put, tkA, tkB, tkC]
    refine wpAnyH_done (by kernel_rfl) ?_ _
    go_wp2
    go_ret
    exact ⟨rfl, HF.out⟩
  · go_simp
    refine hK.out _ _ ?_ (fun hHeld => ?_)
    · exact hHeld
    clear hK K
    refine tkI (i := 11) (oi := ⟨some 52, .call { callee := .builtin .len, args := #[.tmp 51], argTypes := #[28] }, 3, _, #[⟨10, .data⟩], none⟩) ?_
    try simp only [Act.put, tkA, tkB, tkC]
    refine wpAnyH_ready (rs := [4, 12]) (by kernel_rfl) (by simp) ?_
    refine AllReadyH.cons rfl (fun K hK => ?_) (AllReadyH.cons rfl (fun K hK => ?_) AllReadyH.nil)
    · go_simp
      refine hK.out _ _ ?_ (fun hHeld => ?_)
      · exact hHeld
      clear hK K
      refine wpAnyH_ready (rs := [12]) (by kernel_rfl) (by simp) ?_
      refine AllReadyH.cons rfl (fun K hK => ?_) AllReadyH.nil
      go_simp
      refine (pick2_any _ _ _ h1 (by omega) ha1 ha2).mono ?_
      rintro e w5 ⟨rfl, hw5⟩
      have hw5 := hw5.symm
      subst hw5
      rw [← HJ.out]
      go_wp2_with fail
      refine hK.out _ _ ?_ (fun hHeld => ?_)
      · exact hHeld
      clear hK K
      refine tkI (i := 13) (oi := ⟨some 54, .indexAddr 28 (.tmp 45) (.tmp 53), 0, _, #[⟨4, .data⟩, ⟨12, .data⟩], none⟩) ?_
      try simp only [Act.put, tkA, tkB, tkC]
      refine wpAnyH_ready (rs := [14]) (by kernel_rfl) (by simp) ?_
      refine AllReadyH.cons rfl (fun K hK => ?_) AllReadyH.nil
      go_simp
      refine hK.out _ _ ?_ (fun hHeld => ?_)
      · exact hHeld
      clear hK K
      refine wpAnyH_ready (rs := [16]) (by kernel_rfl) (by simp) ?_
      refine AllReadyH.cons rfl (fun K hK => ?_) AllReadyH.nil
      go_simp
      have hbx := fun (o : Obj) => (HA.out o).drew
      have hIx := fun (o : Obj) => HI.out.retag H (hbx o) (fun _ => .arg)
      have hPx := fun (o : Obj) => (HP.out.retag H (hbx o) (fun _ => .arg))
      refine (HASK.out _ _ j g cap pd pr d (hbx _) (hIx _) (hPx _)).mono ?_
      rintro e w6 ⟨rfl, hA6⟩
      have HF := hid (show Left3 R w w6 B ds bs is ps from ⟨hA6.left.1, ((hbx _).mono (by omega)).trans hA6.left.2⟩)
      have hbox := hA6.arg w.heap.size (by show w.heap.size < (w.alloc _).heap.size; simp) (tagUp_ge (Nat.le_refl _))
      clear hA6 hbx hIx hPx
      go_wp2_with fail
      refine hK.out _ _ ?_ (fun hHeld => ?_)
      · have cb : ∀ o, w6.cell? ⟨w.heap.size, o, none⟩ = _ := fun o => World.cell?_of_block (a := ⟨w.heap.size, o, none⟩) hbox
        refine ⟨(cb 0).trans ?_, (cb 1).trans ?_, (cb 2).trans ?_, (cb 3).trans ?_, (cb 4).trans ?_, (cb 5).trans ?_, (cb 6).trans ?_, (cb 7).trans ?_, (cb 8).trans ?_, (cb 9).trans ?_, (cb 10).trans ?_, (cb 11).trans ?_, (cb 12).trans ?_, (cb 13).trans ?_, (cb 14).trans ?_, (cb 15).trans ?_, (cb 16).trans ?_⟩ <;> simp [*]
      clear hK K hbox
      refine tkI (i := 17) (oi := ⟨some 4, .assign (.tmp 57), 4, _, #[⟨16, .data⟩, ⟨16, .chain⟩, ⟨0, .phase⟩, ⟨1, .phase⟩, ⟨2, .phase⟩, ⟨3, .phase⟩, ⟨4, .phase⟩, ⟨5, .phase⟩, ⟨6, .phase⟩, ⟨7, .phase⟩, ⟨8, .phase⟩, ⟨9, .phase⟩, ⟨10, .phase⟩, ⟨11, .phase⟩, ⟨12, .phase⟩, ⟨13, .phase⟩, ⟨14, .phase⟩, ⟨15, .phase⟩, ⟨16, .phase⟩], none⟩) ?_
      try simp only [Act.put, tkA, tkB, tkC]
      refine wpAnyH_done (by kernel_rfl) ?_ _
      go_wp2
      go_ret
      exact ⟨rfl, HF.out⟩
    · go_simp
      refine (pick2_any _ _ _ h1 (by omega) ha1 ha2).mono ?_
      rintro e w5 ⟨rfl, hw5⟩
      have hw5 := hw5.symm
      subst hw5
      rw [← HJ.out]
      go_wp2_with fail
      refine hK.out _ _ ?_ (fun hHeld => ?_)
      · exact hHeld
      clear hK K
      refine wpAnyH_ready (rs := [4]) (by kernel_rfl) (by simp) ?_
      refine AllReadyH.cons rfl (fun K hK => ?_) AllReadyH.nil
      go_simp
      refine hK.out _ _ ?_ (fun hHeld => ?_)
      · exact hHeld
      clear hK K
      refine tkI (i := 13) (oi := ⟨some 54, .indexAddr 28 (.tmp 45) (.tmp 53), 0, _, #[⟨4, .data⟩, ⟨12, .data⟩], none⟩) ?_
      try simp only [Act.put, tkA, tkB, tkC]
      refine wpAnyH_ready (rs := [14]) (by kernel_rfl) (by simp) ?_
      refine AllReadyH.cons rfl (fun K hK => ?_) AllReadyH.nil
      go_simp
      refine hK.out _ _ ?_ (fun hHeld => ?_)
      · exact hHeld
      clear hK K
      refine wpAnyH_ready (rs := [16]) (by kernel_rfl) (by simp) ?_
      refine AllReadyH.cons rfl (fun K hK => ?_) AllReadyH.nil
      go_simp
      have hbx := fun (o : Obj) => (HA.out o).drew
      have hIx := fun (o : Obj) => HI.out.retag H (hbx o) (fun _ => .arg)
      have hPx := fun (o : Obj) => (HP.out.retag H (hbx o) (fun _ => .arg))
      refine (HASK.out _ _ j g cap pd pr d (hbx _) (hIx _) (hPx _)).mono ?_
      rintro e w6 ⟨rfl, hA6⟩
      have HF := hid (show Left3 R w w6 B ds bs is ps from ⟨hA6.left.1, ((hbx _).mono (by omega)).trans hA6.left.2⟩)
      have hbox := hA6.arg w.heap.size (by show w.heap.size < (w.alloc _).heap.size; simp) (tagUp_ge (Nat.le_refl _))
      clear hA6 hbx hIx hPx
      go_wp2_with fail
      refine hK.out _ _ ?_ (fun hHeld => ?_)
      · have cb : ∀ o, w6.cell? ⟨w.heap.size, o, none⟩ = _ := fun o => World.cell?_of_block (a := ⟨w.heap.size, o, none⟩) hbox
        refine ⟨(cb 0).trans ?_, (cb 1).trans ?_, (cb 2).trans ?_, (cb 3).trans ?_, (cb 4).trans ?_, (cb 5).trans ?_, (cb 6).trans ?_, (cb 7).trans ?_, (cb 8).trans ?_, (cb 9).trans ?_, (cb 10).trans ?_, (cb 11).trans ?_, (cb 12).trans ?_, (cb 13).trans ?_, (cb 14).trans ?_, (cb 15).trans ?_, (cb 16).trans ?_⟩ <;> simp [*]
      clear hK K hbox
      refine tkI (i := 17) (oi := ⟨some 4, .assign (.tmp 57), 4, _, #[⟨16, .data⟩, ⟨16, .chain⟩, ⟨0, .phase⟩, ⟨1, .phase⟩, ⟨2, .phase⟩, ⟨3, .phase⟩, ⟨4, .phase⟩, ⟨5, .phase⟩, ⟨6, .phase⟩, ⟨7, .phase⟩, ⟨8, .phase⟩, ⟨9, .phase⟩, ⟨10, .phase⟩, ⟨11, .phase⟩, ⟨12, .phase⟩, ⟨13, .phase⟩, ⟨14, .phase⟩, ⟨15, .phase⟩, ⟨16, .phase⟩], none⟩) ?_
      try simp only [Act.put, tkA, tkB, tkC]
      refine wpAnyH_done (by kernel_rfl) ?_ _
      go_wp2
      go_ret
      exact ⟨rfl, HF.out⟩
set_option maxRecDepth 4000 in
set_option maxHeartbeats 1000000 in
theorem step3_load {R : Rep} (H2 : ProgOk2 R) (kd oa ob od oe : Int) (c : Cfg) (la : Option Addr) (ln lc : Nat) (ss : ByteArray) (B : Nat) (w : World) (tag : Nat → Tag) (ds : List RDb) (bs is ps : List Value) (hk : kd = 7) (hI : HInv R w B tag ds bs is ps) (hn : ds.length ≤ 1000000000000) (hss : ss.size ≤ 140737488355328) :
    Calls Tryz.prog 11 #[.pointer (some ⟨B, 0, none⟩), opV kd oa ob od oe c la ln lc ss] w fun e w' => e = .returned (.bool true) ∧ Left3 R w w' B ds bs is ps := by
  subst hk
  have H := H2.base
  have HI := hid hI
  have hz := hI.lt
  have HA := hid (fun (o : Obj) => (Below.refl w.heap.size w).alloc (Nat.le_refl _) o)
  clear hI
  go_enter Tryz.func11, Tryz.ntmps11
  go_wp2_with fail
  refine (loaded_any H2 7 oa ob od oe c la ln lc ss B _ tag ds bs is ps (HI.out.below H (HA.out _)) hn hss).mono ?_
  rintro e w1 ⟨rfl, hl1⟩
  have HF := hid (show Left3 R w w1 B ds bs is ps from ⟨hl1.1, ((HA.out _).mono (by omega)).trans hl1.2⟩)
  clear hl1
  go_wp2
  go_ret
  exact ⟨rfl, HF.out⟩
structure SOk (w : World) (B : Nat) (oa ob : Int) (la : Option Addr) (ln lc : Nat) (ss : ByteArray) : Prop where
  list : LOk w B la ln lc
  a1 : -9223372036854775808 ≤ oa ∧ oa ≤ 9223372036854775807
  b1 : -9223372036854775808 ≤ ob ∧ ob ≤ 9223372036854775807
  str : ss.size ≤ 140737488355328
theorem SOk.below {w w' : World} {B : Nat} {oa ob : Int} {la : Option Addr} {ln lc : Nat} {ss : ByteArray} (h : SOk w B oa ob la ln lc ss) (hb : Below B w w') : SOk w' B oa ob la ln lc ss := ⟨h.list.below hb, h.a1, h.b1, h.str⟩
theorem step3_any {R : Rep} (H2 : ProgOk2 R) (HTY : ProgTy R) (kd oa ob od oe : Int) (c : Cfg) (la : Option Addr) (ln lc : Nat) (ss : ByteArray) (B : Nat) (w : World) (tag : Nat → Tag) (ds : List RDb) (bs is ps : List Value) (hk1 : 1 ≤ kd) (hk10 : kd ≤ 10) (hI : HInv R w B tag ds bs is ps) (hn : ds.length ≤ 1000000000000) (hbs : (bs.length + 4) * 24 ≤ 140737488355328) (his : (is.length + 4) * 24 ≤ 140737488355328) (hps : (ps.length + 4) * 24 ≤ 140737488355328) (hS : SOk w B oa ob la ln lc ss) :
    Calls Tryz.prog 11 #[.pointer (some ⟨B, 0, none⟩), opV kd oa ob od oe c la ln lc ss] w fun e w' => e = .returned (.bool true) ∧ Left3 R w w' B ds bs is ps := by
  have H := H2.base
  by_cases h7 : kd = 7
  · exact step3_load H2 kd oa ob od oe c la ln lc ss B w tag ds bs is ps h7 hI hn hS.str
  by_cases h2 : kd ≤ 2
  · exact (step2_12 H kd oa ob od oe c la ln lc ss B w tag ds bs is ps (by omega) hI hn).mono fun e w' ⟨a, b⟩ => ⟨a, b.three⟩
  · cases ds with
    | nil => exact (step2_none H kd oa ob od oe c la ln lc ss B w tag bs is ps (by omega) (by omega) h7 hI).mono fun e w' ⟨a, b⟩ => ⟨a, b.three⟩
    | cons x l =>
      refine step3_ask H kd oa ob od oe c la ln lc ss B w tag (x :: l) bs is ps (by omega) hk10 h7 hI (by simp) hn hS.a1.1 hS.a1.2 ?_
      intro w1 tag1 j g cap pd pr d hb1 hI1 hp1
      have h3 : kd = 3 ∨ kd = 4 ∨ kd = 5 ∨ kd = 6 ∨ kd = 8 ∨ kd = 9 ∨ kd = 10 := by omega
      rcases h3 with h3 | h3 | h3 | h3 | h3 | h3 | h3
      · exact (asked2_config H kd oa ob od oe c la ln lc ss B w1 tag1 _ bs is ps j g cap pd pr d h3 hI1 hp1).mono fun e w' ⟨a, b⟩ => ⟨a, b.three⟩
      · have hz := hI.lt
        have hL1 := hS.list.below (hb1.mono (by omega))
        obtain ⟨pts, hpts⟩ := hL1.row
        exact (asked2_upd H kd oa ob od oe c la ln lc ss pts B w1 tag1 _ bs is ps j g cap pd pr d h3 hI1 hp1 hpts hL1.nil hL1.low hL1.len).mono fun e w' ⟨a, b⟩ => ⟨a, b.three⟩
      · exact (asked2_fet H kd oa ob od oe c la ln lc ss B w1 tag1 _ bs is ps j g cap pd pr d h3 hI1 hp1 hps).mono fun e w' ⟨a, b⟩ => ⟨a, b.three⟩
      · exact asked3_save H2 kd oa ob od oe c la ln lc ss B w1 tag1 _ bs is ps j g cap pd pr d h3 hI1 hp1 hbs
      · exact asked3_again H2 HTY kd oa ob od oe c la ln lc ss B w1 tag1 _ bs is ps j g cap pd pr d h3 hI1 hp1 hbs hn
      · exact asked3_resize H2 kd oa ob od oe c la ln lc ss B w1 tag1 _ bs is ps j g cap pd pr d h3 hI1 hp1 hn
      · exact asked3_diff H2 kd oa ob od oe c la ln lc ss B w1 tag1 _ bs is ps j g cap pd pr d h3 hI1 hp1 his (by simp) hn hS.b1.1 hS.b1.2
end Go.Proofs.YthbbfjfekchdiaaGreat
