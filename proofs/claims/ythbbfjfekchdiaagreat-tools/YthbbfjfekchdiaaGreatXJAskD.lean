import Derived.Test.YthbbfjfekchdiaaGreatXJDiff
import Derived.Deep.RegionHeld3
/-
  Asking for a Diff.
-/
namespace Go.Proofs.YthbbfjfekchdiaaGreat
open Go.RowKit
set_option linter.unusedSimpArgs false
attribute [local go_sem] Go.wp_at_zero Go.wp_at_succ

theorem KJ.base {F : Value → Array Value} {te tr B base base' : Nat} {w wr : World} {vl pv0 pv : Value} {es : List Value} {rows : List (Value × Nat)} {mc : List Value} (h : KJ F te tr B base w wr vl pv0 pv es rows mc) (hb : base' ≤ base) : KJ F te tr B base' w wr vl pv0 pv es rows mc :=
  ⟨h.blk, h.own, fun r hr => owns_base (h.rows r hr) hb, h.fr, h.pvb, h.vlb, h.pvl⟩
/-- a question that hands out numbers -/
theorem ask_fetI {R : Rep} (H : ProgOk R) {w w1 w' : World} {B : Nat} {tag : Nat → Tag} {ds : List RDb} {bs is ps : List Value} (h : HInv R w B tag ds bs is ps) (hb1 : Below w.heap.size w w1) {v bv iv pv vl iv' v1 v2 v3 : Value} {n : Nat}
    (hB0 : w.heap[B]? = some (.cells #[v, bv, iv, pv] 35)) (tb : At tag iv .world)
    (K : KJ (fun x => #[v, bv, x, pv]) 3 24 B w.heap.size w1 w' vl iv iv' ((((is ++ [vl]) ++ [v1]) ++ [v2]) ++ [v3]) [(vl, n), (v1, n + 1), (v2, n + 2), (v3, n + 3)] (mkI is.length)) : AskPost3 R w w' B tag ds bs is ps := by
  obtain ⟨tag', _, _, a, b, f⟩ := h.fetI H hb1 (fun _ => .arg) hB0 K
  refine ⟨⟨⟨tag', ds, bs, _, ps, a, by omega, by omega, by simp, by omega, id⟩, b⟩, fun k hk ht => f.block k hk ?_⟩
  rintro (rfl | hx)
  · rw [h.tagB] at ht; cases ht
  · rw [tb k hx] at ht; cases ht

set_option maxRecDepth 4000 in
set_option maxHeartbeats 4000000 in
theorem asked3_diff {R : Rep} (H2 : ProgOk2 R) (kd oa ob od oe : Int) (c : Cfg) (la : Option Addr) (ln lc : Nat) (ss : ByteArray) (B : Nat) (w : World) (tag : Nat → Tag) (ds : List RDb) (bs is ps : List Value) (j g cap pd pr : Nat) (d : RDb) (hk : kd = 10) (hI : HInv R w B tag ds bs is ps) (hp : PairAt R w B tag ds j g cap pd pr d) (his : (is.length + 4) * 24 ≤ 140737488355328) (h1 : 1 ≤ ds.length) (hn : ds.length ≤ 1000000000000) (ha1 : -9223372036854775808 ≤ ob) (ha2 : ob ≤ 9223372036854775807) :
    Calls Tryz.prog 16 #[.pointer (some ⟨B, 0, none⟩), .agg #[.pointer (some ⟨pd, 0, none⟩), .pointer (some ⟨pr, 0, none⟩)], opV kd oa ob od oe c la ln lc ss] w fun e w' => e = .returned (.bool true) ∧ AskPost3 R w w' B tag ds bs is ps := by
  subst hk
  have H := H2.base
  have HI := hid hI
  have HP := hid hp
  have hz := hI.lt
  have hlt := pickM_lt ob h1
  obtain ⟨g2, cap2, qd, qr, o, hq⟩ := hI.pair hlt
  have HQ := hid hq
  obtain ⟨v, prs, bv, iv, pv, hB, hv, tv, hpp, k1, k2, k3⟩ := hI.mem
  have HB := hid hB
  have HK := hid k2
  obtain ⟨n, hn'⟩ : ∃ n, n = ds.length := ⟨_, rfl⟩
  obtain ⟨jj, hj⟩ : ∃ j, j = pickM ob ds.length := ⟨_, rfl⟩
  have d0 := hq.c0
  have e0 := hq.e0
  have e1 := hq.e1
  rw [← hj] at hlt e0 e1 HQ
  rw [← hn'] at hlt h1 hn d0 hj
  have hgz : g2 < w.heap.size := by obtain ⟨cur, x⟩ := hq.gt; exact blk_lt x
  have HGT := hid hq.gt
  have hgB : g2 ≠ B := hq.gw.2
  have HJ := hid hj
  have hji : (jj : Int) < (n : Int) := by omega
  have hj0 : (0 : Int) ≤ (jj : Int) := by omega
  have HVV := hid (show v = .slice (some ⟨g2, 0, none⟩) n cap2 by
    have := cell_of_blk hB 0
    rw [d0] at this
    exact (Option.some.inj this).symm)
  clear hI hp hq hB hv tv hpp k1 k2 k3 hj hn'
  go_enter Tryz.func16, Tryz.ntmps16
  go_wp2_with fail
  generalize hwX : (w.alloc (.cells #[.pointer (some ⟨pd, 0, none⟩), .pointer (some ⟨pr, 0, none⟩)] 53)).alloc (.cells #[i64 10, i64 oa, i64 ob, i64 od, i64 oe, i64 c.s0, i64 c.k0, i64 c.s1, i64 c.k1, i64 c.s2, i64 c.k2, i64 c.s3, i64 c.k3, i64 c.m, i64 c.f, .slice la ln lc, .string ss] 43) = wX
  have HBX := hid (show Below w.heap.size w wX by rw [← hwX]; exact ((Below.refl w.heap.size w).alloc (Nat.le_refl _) _).alloc (by simp) _)
  have HPX := hid (show wX.heap[w.heap.size]? = some (.cells #[.pointer (some ⟨pd, 0, none⟩), .pointer (some ⟨pr, 0, none⟩)] 53) by rw [← hwX]; exact blk_alloc (blk_new w _))
  have HOX := hid (show wX.heap[w.heap.size + 1]? = some (.cells #[i64 10, i64 oa, i64 ob, i64 od, i64 oe, i64 c.s0, i64 c.k0, i64 c.s1, i64 c.k1, i64 c.s2, i64 c.k2, i64 c.s3, i64 c.k3, i64 c.m, i64 c.f, .slice la ln lc, .string ss] 43) by
    rw [← hwX]
    have := blk_new (w.alloc (.cells #[.pointer (some ⟨pd, 0, none⟩), .pointer (some ⟨pr, 0, none⟩)] 53)) (.cells #[i64 10, i64 oa, i64 ob, i64 od, i64 oe, i64 c.s0, i64 c.k0, i64 c.s1, i64 c.k1, i64 c.s2, i64 c.k2, i64 c.s3, i64 c.k3, i64 c.m, i64 c.f, .slice la ln lc, .string ss] 43)
    rwa [show (w.alloc (.cells #[.pointer (some ⟨pd, 0, none⟩), .pointer (some ⟨pr, 0, none⟩)] 53)).heap.size = w.heap.size + 1 by simp] at this)
  have hzX : w.heap.size + 1 < wX.heap.size := blk_lt HOX.out
  clear hwX
  have p0 : wX.cell? ⟨w.heap.size, 0, none⟩ = some (.pointer (some ⟨pd, 0, none⟩)) := cell_of_blk HPX.out 0
  have p1 : wX.cell? ⟨w.heap.size, 1, none⟩ = some (.pointer (some ⟨pr, 0, none⟩)) := cell_of_blk HPX.out 1
  have o2 : wX.cell? ⟨w.heap.size + 1, 2, none⟩ = some (i64 ob) := cell_of_blk HOX.out 2
  have x0 := cell_later HBX.out d0
  have x1 := cell_later HBX.out e0
  have x2 := cell_later HBX.out e1
  have hBX : B < wX.heap.size := by omega
  have hgX : g2 < wX.heap.size := by omega
  have hpX : w.heap.size < wX.heap.size := by omega
  clear d0 e0 e1
  refine wp_region_held_drew (S := (fun w' => w'.cell? ⟨B, 0, none⟩ = some (.slice (some ⟨g2, 0, none⟩) n cap2) ∧ w'.cell? ⟨w.heap.size, 0, none⟩ = some (.pointer (some ⟨pd, 0, none⟩)) ∧ w'.cell? ⟨w.heap.size, 1, none⟩ = some (.pointer (some ⟨pr, 0, none⟩)) ∧ w'.cell? ⟨w.heap.size + 1, 2, none⟩ = some (i64 ob) ∧ w'.cell? ⟨g2, jj * 2, none⟩ = some (.pointer (some ⟨qd, 0, none⟩)) ∧ w'.cell? ⟨g2, jj * 2 + 1, none⟩ = some (.pointer (some ⟨qr, 0, none⟩)))) (by kernel_rfl) ?_ (fun hHeld => ?_)
  · go_keep
  refine wpAnyH_take (i := 0) (oi := { dst := some 96, op := Op.move (Operand.tmp 0), type := 27, pos := _, after := #[], guard := none }) (v := ?vs0) rfl (by kernel_rfl) (by kernel_rfl) (by kernel_rfl) (fun _ _ _ h => h) (Or.inl ⟨by rfl, ?hs0⟩) (by assumption) ?_
  case hs0 => (intro w hSw; (try dsimp only at hSw); go_simp; try with_reducible rfl)
  try simp only [Act.put, List.setIfInBounds_toArray, List.set_cons_zero, List.set_cons_succ]
  refine wpAnyH_take (i := 1) (oi := { dst := some 97, op := Op.load 53 (Operand.tmp 4), type := 53, pos := _, after := #[], guard := none }) (v := ?vs1) rfl (by kernel_rfl) (by kernel_rfl) (by kernel_rfl) (fun _ _ _ h => h) (Or.inl ⟨by rfl, ?hs1⟩) (by assumption) ?_
  case hs1 => (intro w hSw; (try dsimp only at hSw); go_simp; try with_reducible rfl)
  try simp only [Act.put, List.setIfInBounds_toArray, List.set_cons_zero, List.set_cons_succ]
  refine wpAnyH_take (i := 2) (oi := { dst := some 98, op := Op.move (Operand.tmp 0), type := 27, pos := _, after := #[], guard := none }) (v := ?vs2) rfl (by kernel_rfl) (by kernel_rfl) (by kernel_rfl) (fun _ _ _ h => h) (Or.inl ⟨by rfl, ?hs2⟩) (by assumption) ?_
  case hs2 => (intro w hSw; (try dsimp only at hSw); go_simp; try with_reducible rfl)
  try simp only [Act.put, List.setIfInBounds_toArray, List.set_cons_zero, List.set_cons_succ]
  refine wpAnyH_take (i := 3) (oi := { dst := some 99, op := Op.nilCheck (Operand.tmp 98), type := 0, pos := _, after := #[{ on := 2, ground := Ground.data }], guard := none }) (v := ?vs3) rfl (by kernel_rfl) (by kernel_rfl) (by kernel_rfl) (fun _ _ _ h => h) (Or.inl ⟨by rfl, ?hs3⟩) (by assumption) ?_
  case hs3 => (intro w hSw; (try dsimp only at hSw); go_simp; try with_reducible rfl)
  try simp only [Act.put, List.setIfInBounds_toArray, List.set_cons_zero, List.set_cons_succ]
  refine wpAnyH_take (i := 4) (oi := { dst := some 100, op := Op.fieldAddr 35 (Operand.tmp 99) 0, type := 0, pos := _, after := #[{ on := 3, ground := Ground.data }], guard := none }) (v := ?vs4) rfl (by kernel_rfl) (by kernel_rfl) (by kernel_rfl) (fun _ _ _ h => h) (Or.inl ⟨by rfl, ?hs4⟩) (by assumption) ?_
  case hs4 => (intro w hSw; (try dsimp only at hSw); go_simp; try with_reducible rfl)
  try simp only [Act.put, List.setIfInBounds_toArray, List.set_cons_zero, List.set_cons_succ]
  refine wpAnyH_take (i := 5) (oi := { dst := some 101, op := Op.load 28 (Operand.tmp 100), type := 28, pos := _, after := #[{ on := 4, ground := Ground.data }], guard := none }) (v := ?vs5) rfl (by kernel_rfl) (by kernel_rfl) (by kernel_rfl) (fun _ _ _ h => h) (Or.inl ⟨by rfl, ?hs5⟩) (by assumption) ?_
  case hs5 => (intro w hSw; (try dsimp only at hSw); go_simp; try with_reducible rfl)
  try simp only [Act.put, List.setIfInBounds_toArray, List.set_cons_zero, List.set_cons_succ]
  refine wpAnyH_take (i := 6) (oi := { dst := some 102, op := Op.fieldAddr 43 (Operand.tmp 5) 2, type := 0, pos := _, after := #[], guard := none }) (v := ?vs6) rfl (by kernel_rfl) (by kernel_rfl) (by kernel_rfl) (fun _ _ _ h => h) (Or.inl ⟨by rfl, ?hs6⟩) (by assumption) ?_
  case hs6 => (intro w hSw; (try dsimp only at hSw); go_simp; try with_reducible rfl)
  try simp only [Act.put, List.setIfInBounds_toArray, List.set_cons_zero, List.set_cons_succ]
  refine wpAnyH_take (i := 7) (oi := { dst := some 103, op := Op.load 3 (Operand.tmp 102), type := 3, pos := _, after := #[{ on := 6, ground := Ground.data }], guard := none }) (v := ?vs7) rfl (by kernel_rfl) (by kernel_rfl) (by kernel_rfl) (fun _ _ _ h => h) (Or.inl ⟨by rfl, ?hs7⟩) (by assumption) ?_
  case hs7 => (intro w hSw; (try dsimp only at hSw); go_simp; try with_reducible rfl)
  try simp only [Act.put, List.setIfInBounds_toArray, List.set_cons_zero, List.set_cons_succ]
  refine wpAnyH_take (i := 8) (oi := { dst := some 104, op := Op.move (Operand.tmp 0), type := 27, pos := _, after := #[], guard := none }) (v := ?vs8) rfl (by kernel_rfl) (by kernel_rfl) (by kernel_rfl) (fun _ _ _ h => h) (Or.inl ⟨by rfl, ?hs8⟩) (by assumption) ?_
  case hs8 => (intro w hSw; (try dsimp only at hSw); go_simp; try with_reducible rfl)
  try simp only [Act.put, List.setIfInBounds_toArray, List.set_cons_zero, List.set_cons_succ]
  refine wpAnyH_take (i := 9) (oi := { dst := some 105, op := Op.nilCheck (Operand.tmp 104), type := 0, pos := _, after := #[{ on := 8, ground := Ground.data }], guard := none }) (v := ?vs9) rfl (by kernel_rfl) (by kernel_rfl) (by kernel_rfl) (fun _ _ _ h => h) (Or.inl ⟨by rfl, ?hs9⟩) (by assumption) ?_
  case hs9 => (intro w hSw; (try dsimp only at hSw); go_simp; try with_reducible rfl)
  try simp only [Act.put, List.setIfInBounds_toArray, List.set_cons_zero, List.set_cons_succ]
  refine wpAnyH_take (i := 10) (oi := { dst := some 106, op := Op.fieldAddr 35 (Operand.tmp 105) 0, type := 0, pos := _, after := #[{ on := 9, ground := Ground.data }], guard := none }) (v := ?vs10) rfl (by kernel_rfl) (by kernel_rfl) (by kernel_rfl) (fun _ _ _ h => h) (Or.inl ⟨by rfl, ?hs10⟩) (by assumption) ?_
  case hs10 => (intro w hSw; (try dsimp only at hSw); go_simp; try with_reducible rfl)
  try simp only [Act.put, List.setIfInBounds_toArray, List.set_cons_zero, List.set_cons_succ]
  refine wpAnyH_take (i := 11) (oi := { dst := some 107, op := Op.load 28 (Operand.tmp 106), type := 28, pos := _, after := #[{ on := 10, ground := Ground.data }], guard := none }) (v := ?vs11) rfl (by kernel_rfl) (by kernel_rfl) (by kernel_rfl) (fun _ _ _ h => h) (Or.inl ⟨by rfl, ?hs11⟩) (by assumption) ?_
  case hs11 => (intro w hSw; (try dsimp only at hSw); go_simp; try with_reducible rfl)
  try simp only [Act.put, List.setIfInBounds_toArray, List.set_cons_zero, List.set_cons_succ]
  refine wpAnyH_take (i := 12) (oi := { dst := some 108, op := Op.call { callee := Callee.builtin Builtin.len, args := #[Operand.tmp 107], argTypes := #[28] }, type := 3, pos := _, after := #[{ on := 11, ground := Ground.data }], guard := none }) (v := ?vs12) rfl (by kernel_rfl) (by kernel_rfl) (by kernel_rfl) (fun _ _ _ h => h) (Or.inl ⟨by rfl, ?hs12⟩) (by assumption) ?_
  case hs12 => (intro w hSw; (try dsimp only at hSw); go_simp; try with_reducible rfl)
  try simp only [Act.put, List.setIfInBounds_toArray, List.set_cons_zero, List.set_cons_succ]
  refine wpAnyH_ready (rs := [13]) (by kernel_rfl) (by simp) ?_
  refine AllReadyH.cons rfl (fun K hK => ?_) AllReadyH.nil
  go_simp
  refine (pick2_any _ _ _ h1 (by omega) ha1 ha2).mono ?_
  rintro e w5 ⟨rfl, hw5⟩
  have hw5 := hw5.symm
  subst hw5
  rw [← HJ.out]
  go_wp2_with fail
  refine hK.out _ _ ?_ (fun hHeld => ?_)
  · exact hHeld
  clear hK K
  refine wpAnyH_take (i := 14) (oi := { dst := some 110, op := Op.indexAddr 28 (Operand.tmp 101) (Operand.tmp 109), type := 0, pos := _, after := #[{ on := 5, ground := Ground.data }, { on := 13, ground := Ground.data }], guard := none }) (v := ?vs14) rfl (by kernel_rfl) (by kernel_rfl) (by kernel_rfl) (fun _ _ _ h => h) (Or.inl ⟨by rfl, ?hs14⟩) (by assumption) ?_
  case hs14 => (intro w hSw; (try dsimp only at hSw); go_simp; try with_reducible rfl)
  try simp only [Act.put, List.setIfInBounds_toArray, List.set_cons_zero, List.set_cons_succ]
  refine wpAnyH_take (i := 15) (oi := { dst := some 111, op := Op.load 53 (Operand.tmp 110), type := 53, pos := _, after := #[{ on := 14, ground := Ground.data }], guard := none }) (v := ?vs15) rfl (by kernel_rfl) (by kernel_rfl) (by kernel_rfl) (fun _ _ _ h => h) (Or.inl ⟨by rfl, ?hs15⟩) (by assumption) ?_
  case hs15 => (intro w hSw; (try dsimp only at hSw); go_simp; try with_reducible rfl)
  try simp only [Act.put, List.setIfInBounds_toArray, List.set_cons_zero, List.set_cons_succ]
  refine wpAnyH_ready (rs := [16]) (by kernel_rfl) (by simp) ?_
  refine AllReadyH.cons rfl (fun K hK => ?_) AllReadyH.nil
  go_simp
  have hbd : Below wX.heap.size wX wX.drew := (Below.refl _ _).drew
  have hbW : Below w.heap.size w wX.drew := HBX.out.trans (hbd.mono (by omega))
  refine (differs_any H2 B v bv pv iv is pd pr qd qr d o _ _ _ (HP.out.both.below H hbW) (HQ.out.both.below H hbW) (blk_later hbW hz HB.out) (owns_below HK.out.row hbW) his).mono ?_
  rintro e w6 ⟨rfl, wm, vl, nl, iv', v1, v2, v3, hbm, hK6⟩
  have hsz : wX.drew.heap.size = wX.heap.size := rfl
  rw [hsz] at hbm hK6
  have hbm' : Below w.heap.size w wm := hbW.trans (hbm.mono (by rw [← hsz]; exact hbW.size))
  have HA := hid (ask_fetI H HI.out hbm' HB.out HK.out.tagv (hK6.base (by omega)))
  have far : ∀ k, k < wX.heap.size → k ≠ B → iv.ownBlock ≠ some k → w6.heap[k]? = wX.heap[k]? := by
    intro k hk hne hiv
    have hx : ¬ (k = B ∨ iv.ownBlock = some k ∨ vl.ownBlock = some k) := by
      rintro (y | y | y)
      · exact hne y
      · exact hiv y
      · have := ((hK6.rows (vl, nl) (by simp)).lt k y).1; omega
    rw [hK6.fr.block k (by have := hbm.size; omega) hx, hbm.block k hk]
    rfl
  have hivX : ∀ k, w.heap.size ≤ k → iv.ownBlock ≠ some k := fun k hk e => by have := (HK.out.row.lt k e).2; omega
  have hivG : iv.ownBlock ≠ some g2 := by
    obtain ⟨cur, hg⟩ := HGT.out
    exact owns_blk HK.out.row hg (by decide)
  refine hK.out _ _ ?_ (fun hHeld => ?_)
  · refine ⟨?_, ?_, ?_, ?_, ?_, ?_⟩
    · rw [cell_of_blk hK6.blk 0, ← HVV.out]; rfl
    · exact (World.cell?_of_block (a := ⟨w.heap.size, 0, none⟩) (far _ hpX (by show w.heap.size ≠ B; omega) (hivX _ (Nat.le_refl _)))).trans p0
    · exact (World.cell?_of_block (a := ⟨w.heap.size, 1, none⟩) (far _ hpX (by show w.heap.size ≠ B; omega) (hivX _ (Nat.le_refl _)))).trans p1
    · exact (World.cell?_of_block (a := ⟨w.heap.size + 1, 2, none⟩) (far _ hzX (by show w.heap.size + 1 ≠ B; omega) (hivX _ (by show w.heap.size ≤ w.heap.size + 1; omega)))).trans o2
    · exact (World.cell?_of_block (a := ⟨g2, jj * 2, none⟩) (far _ hgX hgB hivG)).trans x1
    · exact (World.cell?_of_block (a := ⟨g2, jj * 2 + 1, none⟩) (far _ hgX hgB hivG)).trans x2
  clear hK K hbm hK6 hbm' far hbW hbd hivX hivG
  refine wpAnyH_take (i := 17) (oi := { dst := some 6, op := Op.assign (Operand.tmp 112), type := 4, pos := _, after := #[{ on := 16, ground := Ground.data }, { on := 16, ground := Ground.chain }, { on := 0, ground := Ground.phase }, { on := 1, ground := Ground.phase }, { on := 2, ground := Ground.phase }, { on := 3, ground := Ground.phase }, { on := 4, ground := Ground.phase }, { on := 5, ground := Ground.phase }, { on := 6, ground := Ground.phase }, { on := 7, ground := Ground.phase }, { on := 8, ground := Ground.phase }, { on := 9, ground := Ground.phase }, { on := 10, ground := Ground.phase }, { on := 11, ground := Ground.phase }, { on := 12, ground := Ground.phase }, { on := 13, ground := Ground.phase }, { on := 14, ground := Ground.phase }, { on := 15, ground := Ground.phase }, { on := 16, ground := Ground.phase }], guard := none }) (v := ?vs17) rfl (by kernel_rfl) (by kernel_rfl) (by kernel_rfl) (fun _ _ _ h => h) (Or.inl ⟨by rfl, ?hs17⟩) (by assumption) ?_
  case hs17 => (intro w hSw; (try dsimp only at hSw); go_simp; try with_reducible rfl)
  try simp only [Act.put, List.setIfInBounds_toArray, List.set_cons_zero, List.set_cons_succ]
  refine wpAnyH_done (by kernel_rfl) ?_ _
  go_wp2
  go_ret
  exact ⟨rfl, HA.out⟩
end Go.Proofs.YthbbfjfekchdiaaGreat
