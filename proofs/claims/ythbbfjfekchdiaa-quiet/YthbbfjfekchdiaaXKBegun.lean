import Derived.Test.YthbbfjfekchdiaaXKConfig
import Derived.Test.YthbbfjfekchdiaaXKWorks
import Derived.Deep.RegionLaw
import Derived.Deep.RegionHeld3
import Derived.Deep.DrawnRows
namespace Go.Proofs.Ythbbfjfekchdiaa
open Go.RowKit
set_option linter.unusedSimpArgs false

theorem Fr.cellK {In : Nat → Prop} {w w' : World} (h : Fr In w w') {a : Addr} {v : Value} (hn : ¬ In a.block) (hc : w.cell? a = some v) : w'.cell? a = some v :=
  (World.cell?_of_block (h.block a.block (World.block_lt_of_cell? _ _ hc) hn)).trans hc
theorem set10 {w : World} {R : Nat} {t : TypeId} {z0 z1 z2 z3 z4 z5 z6 z7 z8 z9 : Value} (h : w.heap[R]? = some (.cells #[z0, z1, z2, z3, z4, z5, z6, z7, z8, z9] t)) (a0 a1 a2 a3 a4 a5 a6 a7 a8 a9 : Value) :
    ((((((((((w.setCell ⟨R, 0, none⟩ a0).setCell ⟨R, 1, none⟩ a1).setCell ⟨R, 2, none⟩ a2).setCell ⟨R, 3, none⟩ a3).setCell ⟨R, 4, none⟩ a4).setCell ⟨R, 5, none⟩ a5).setCell ⟨R, 6, none⟩ a6).setCell ⟨R, 7, none⟩ a7).setCell ⟨R, 8, none⟩ a8).setCell ⟨R, 9, none⟩ a9).heap[R]? = some (.cells #[a0, a1, a2, a3, a4, a5, a6, a7, a8, a9] t) ∧ Fr (fun k => k = R) w ((((((((((w.setCell ⟨R, 0, none⟩ a0).setCell ⟨R, 1, none⟩ a1).setCell ⟨R, 2, none⟩ a2).setCell ⟨R, 3, none⟩ a3).setCell ⟨R, 4, none⟩ a4).setCell ⟨R, 5, none⟩ a5).setCell ⟨R, 6, none⟩ a6).setCell ⟨R, 7, none⟩ a7).setCell ⟨R, 8, none⟩ a8).setCell ⟨R, 9, none⟩ a9) := by
  have hb := (blk_setCell (blk_setCell (blk_setCell (blk_setCell (blk_setCell (blk_setCell (blk_setCell (blk_setCell (blk_setCell (blk_setCell h 0 a0) 1 a1) 2 a2) 3 a3) 4 a4) 5 a5) 6 a6) 7 a7) 8 a8) 9 a9)
  simp only [List.setIfInBounds_toArray, List.set_cons_zero, List.set_cons_succ] at hb
  exact ⟨hb, (((((((((((Fr.refl (fun k => k = R) w).set (.inl rfl) 0 a0).set (.inl rfl) 1 a1).set (.inl rfl) 2 a2).set (.inl rfl) 3 a3).set (.inl rfl) 4 a4).set (.inl rfl) 5 a5).set (.inl rfl) 6 a6).set (.inl rfl) 7 a7).set (.inl rfl) 8 a8).set (.inl rfl) 9 a9)⟩

/-- a raw number -/
def In64 (x : Int) : Prop := -9223372036854775808 ≤ x ∧ x ≤ 9223372036854775807

set_option maxRecDepth 4000 in
set_option maxHeartbeats 4000000 in
theorem begun_any {R : Rep} (H : ProgOk R) (r0 r1 r2 r3 r4 r5 me fa : Int) (w : World) (h0 : In64 r0) (h1 : In64 r1) (h2 : In64 r2) (h3 : In64 r3) (h4 : In64 r4) (h5 : In64 r5) (hm : In64 me) (hf : In64 fa) :
    Calls Try.prog 8 #[.agg #[i64 r0, i64 r1, i64 r2, i64 r3, i64 r4, i64 r5], i64 me, i64 fa] w fun e w' => ∃ pd, e = .returned (.tuple #[.pointer (some ⟨pd, 0, none⟩), .agg (cfgK r0 r1 r2 r3 r4 r5 me fa).cells]) ∧ Below w.heap.size w w' ∧ R w' (fun k => w.heap.size ≤ k) pd (RDb.new (cfgK r0 r1 r2 r3 r4 r5 me fa)) := by
  have HC := hid (fun (w : World) => config_any0 r0 r1 r2 r3 r4 r5 me fa w h0 h1 h2 h3 h4 h5 hm hf)
  have HOK := hid (cfgK_ok r0 r1 r2 r3 r4 r5 me fa).1
  obtain ⟨c, hc⟩ : ∃ c, c = cfgK r0 r1 r2 r3 r4 r5 me fa := ⟨_, rfl⟩
  rw [← hc] at HC HOK ⊢
  clear hc h0 h1 h2 h3 h4 h5 hm hf
  go_enter Try.func8, Try.ntmps8
  go_wp2_with fail
  refine (HC.out _).mono ?_
  rintro e w1 ⟨rfl, hb1⟩
  have HR1 := hid (show w1.heap[w.heap.size + 1]? = some (.cells #[i64 0, i64 0, i64 0, i64 0, i64 0, i64 0, i64 0, i64 0, i64 0, i64 0] 29) by
    have h := blk_new (w.alloc (.cells #[i64 r0, i64 r1, i64 r2, i64 r3, i64 r4, i64 r5] 22)) (.cells #[i64 0, i64 0, i64 0, i64 0, i64 0, i64 0, i64 0, i64 0, i64 0, i64 0] 29)
    have e : (w.alloc (.cells #[i64 r0, i64 r1, i64 r2, i64 r3, i64 r4, i64 r5] 22)).heap.size = w.heap.size + 1 := by simp
    rw [e] at h
    exact blk_later hb1 (by simp) h)
  have hz1 : w.heap.size + 2 ≤ w1.heap.size := by have := hb1.size; simp at this; omega
  have HB1 := hid (show Below w.heap.size w w1 from (((Below.refl _ w).alloc (Nat.le_refl _) _).alloc (by simp) _).trans (hb1.mono (by simp; omega)))
  clear hb1
  go_wp2_with fail
  refine (works_any H _).mono ?_
  rintro e w2 ⟨rfl, hb2⟩
  have hbc := blk_later hb2 (by simp) (blk_new w1 (.cells #[i64 c.s0, i64 c.k0, i64 c.s1, i64 c.k1, i64 c.s2, i64 c.k2, i64 c.s3, i64 c.k3, i64 c.m, i64 c.f] 29))
  have HR2 := hid (blk_later hb2 (by have := blk_lt HR1.out; simp; omega) (blk_alloc HR1.out))
  have hz2 : w1.heap.size < w2.heap.size := blk_lt hbc
  have HB2 := hid (show Below w.heap.size w w2 from (HB1.out.alloc (by omega) _).trans (hb2.mono (by simp; omega)))
  have c0 : w2.cell? ⟨w1.heap.size, 0, none⟩ = some (i64 c.s0) := cell_of_blk hbc 0
  have c1 : w2.cell? ⟨w1.heap.size, 1, none⟩ = some (i64 c.k0) := cell_of_blk hbc 1
  have c2 : w2.cell? ⟨w1.heap.size, 2, none⟩ = some (i64 c.s1) := cell_of_blk hbc 2
  have c3 : w2.cell? ⟨w1.heap.size, 3, none⟩ = some (i64 c.k1) := cell_of_blk hbc 3
  have c4 : w2.cell? ⟨w1.heap.size, 4, none⟩ = some (i64 c.s2) := cell_of_blk hbc 4
  have c5 : w2.cell? ⟨w1.heap.size, 5, none⟩ = some (i64 c.k2) := cell_of_blk hbc 5
  have c6 : w2.cell? ⟨w1.heap.size, 6, none⟩ = some (i64 c.s3) := cell_of_blk hbc 6
  have c7 : w2.cell? ⟨w1.heap.size, 7, none⟩ = some (i64 c.k3) := cell_of_blk hbc 7
  have c8 : w2.cell? ⟨w1.heap.size, 8, none⟩ = some (i64 c.m) := cell_of_blk hbc 8
  have c9 : w2.cell? ⟨w1.heap.size, 9, none⟩ = some (i64 c.f) := cell_of_blk hbc 9
  have HBC := hid hbc
  clear hb2 hbc
  go_wp2_with fail
  refine (H.create c _ HOK.out).mono ?_
  rintro e w3 ⟨pd, rfl, hb3, hR3⟩
  have hbc3 := blk_later hb3 hz2 HBC.out
  have hbr3 := blk_later hb3 (by have := blk_lt HR2.out; omega) HR2.out
  clear c0 c1 c2 c3 c4 c5 c6 c7 c8 c9
  have d0 : w3.cell? ⟨w1.heap.size, 0, none⟩ = some (i64 c.s0) := cell_of_blk hbc3 0
  have f0 : w3.frozen? ⟨w.heap.size + 1, 0, none⟩ = false := frozen_of_blk hbr3 0
  have z0 : w3.cell? ⟨w.heap.size + 1, 0, none⟩ = some (i64 0) := cell_of_blk hbr3 0
  have d1 : w3.cell? ⟨w1.heap.size, 1, none⟩ = some (i64 c.k0) := cell_of_blk hbc3 1
  have f1 : w3.frozen? ⟨w.heap.size + 1, 1, none⟩ = false := frozen_of_blk hbr3 1
  have z1 : w3.cell? ⟨w.heap.size + 1, 1, none⟩ = some (i64 0) := cell_of_blk hbr3 1
  have d2 : w3.cell? ⟨w1.heap.size, 2, none⟩ = some (i64 c.s1) := cell_of_blk hbc3 2
  have f2 : w3.frozen? ⟨w.heap.size + 1, 2, none⟩ = false := frozen_of_blk hbr3 2
  have z2 : w3.cell? ⟨w.heap.size + 1, 2, none⟩ = some (i64 0) := cell_of_blk hbr3 2
  have d3 : w3.cell? ⟨w1.heap.size, 3, none⟩ = some (i64 c.k1) := cell_of_blk hbc3 3
  have f3 : w3.frozen? ⟨w.heap.size + 1, 3, none⟩ = false := frozen_of_blk hbr3 3
  have z3 : w3.cell? ⟨w.heap.size + 1, 3, none⟩ = some (i64 0) := cell_of_blk hbr3 3
  have d4 : w3.cell? ⟨w1.heap.size, 4, none⟩ = some (i64 c.s2) := cell_of_blk hbc3 4
  have f4 : w3.frozen? ⟨w.heap.size + 1, 4, none⟩ = false := frozen_of_blk hbr3 4
  have z4 : w3.cell? ⟨w.heap.size + 1, 4, none⟩ = some (i64 0) := cell_of_blk hbr3 4
  have d5 : w3.cell? ⟨w1.heap.size, 5, none⟩ = some (i64 c.k2) := cell_of_blk hbc3 5
  have f5 : w3.frozen? ⟨w.heap.size + 1, 5, none⟩ = false := frozen_of_blk hbr3 5
  have z5 : w3.cell? ⟨w.heap.size + 1, 5, none⟩ = some (i64 0) := cell_of_blk hbr3 5
  have d6 : w3.cell? ⟨w1.heap.size, 6, none⟩ = some (i64 c.s3) := cell_of_blk hbc3 6
  have f6 : w3.frozen? ⟨w.heap.size + 1, 6, none⟩ = false := frozen_of_blk hbr3 6
  have z6 : w3.cell? ⟨w.heap.size + 1, 6, none⟩ = some (i64 0) := cell_of_blk hbr3 6
  have d7 : w3.cell? ⟨w1.heap.size, 7, none⟩ = some (i64 c.k3) := cell_of_blk hbc3 7
  have f7 : w3.frozen? ⟨w.heap.size + 1, 7, none⟩ = false := frozen_of_blk hbr3 7
  have z7 : w3.cell? ⟨w.heap.size + 1, 7, none⟩ = some (i64 0) := cell_of_blk hbr3 7
  have d8 : w3.cell? ⟨w1.heap.size, 8, none⟩ = some (i64 c.m) := cell_of_blk hbc3 8
  have f8 : w3.frozen? ⟨w.heap.size + 1, 8, none⟩ = false := frozen_of_blk hbr3 8
  have z8 : w3.cell? ⟨w.heap.size + 1, 8, none⟩ = some (i64 0) := cell_of_blk hbr3 8
  have d9 : w3.cell? ⟨w1.heap.size, 9, none⟩ = some (i64 c.f) := cell_of_blk hbc3 9
  have f9 : w3.frozen? ⟨w.heap.size + 1, 9, none⟩ = false := frozen_of_blk hbr3 9
  have z9 : w3.cell? ⟨w.heap.size + 1, 9, none⟩ = some (i64 0) := cell_of_blk hbr3 9
  have hne : w1.heap.size ≠ w.heap.size + 1 := by omega
  have hz3 : w1.heap.size < w3.heap.size := blk_lt hbc3
  have hz4 : w.heap.size + 1 < w3.heap.size := blk_lt hbr3
  have HS := hid (set10 (w := w3) (R := w.heap.size + 1) hbr3 (i64 c.s0) (i64 c.k0) (i64 c.s1) (i64 c.k1) (i64 c.s2) (i64 c.k2) (i64 c.s3) (i64 c.k3) (i64 c.m) (i64 c.f))
  have HB3 := hid (show Below w.heap.size w w3 from HB2.out.trans (hb3.mono (by omega)))
  have HR3 := hid hR3
  have HZ2 := hid hz2
  clear hb3 hbr3 hR3
  go_wp2_with fail
  refine wp_region_held_drew (S := (fun w' => w'.cell? ⟨w1.heap.size, 0, none⟩ = some (i64 c.s0) ∧ w'.cell? ⟨w1.heap.size, 1, none⟩ = some (i64 c.k0) ∧ w'.cell? ⟨w1.heap.size, 2, none⟩ = some (i64 c.s1) ∧ w'.cell? ⟨w1.heap.size, 3, none⟩ = some (i64 c.k1) ∧ w'.cell? ⟨w1.heap.size, 4, none⟩ = some (i64 c.s2) ∧ w'.cell? ⟨w1.heap.size, 5, none⟩ = some (i64 c.k2) ∧ w'.cell? ⟨w1.heap.size, 6, none⟩ = some (i64 c.s3) ∧ w'.cell? ⟨w1.heap.size, 7, none⟩ = some (i64 c.k3) ∧ w'.cell? ⟨w1.heap.size, 8, none⟩ = some (i64 c.m) ∧ w'.cell? ⟨w1.heap.size, 9, none⟩ = some (i64 c.f))) (by kernel_rfl) ?_ (fun hHeld => ?_)
  · go_keep
  refine wpAnyH_take (i := 0) (oi := { dst := some 29, op := Op.move (Operand.tmp 10), type := 24, pos := _, after := #[], guard := none }) (v := ?vbx0) rfl (by kernel_rfl) (by kernel_rfl) (by kernel_rfl) (fun _ _ _ h => h) (Or.inl ⟨by rfl, ?hbx0⟩) (by assumption) ?_
  case hbx0 => (intro w hSw; (try dsimp only at hSw); go_simp; try with_reducible rfl)
  try simp only [Act.put, List.setIfInBounds_toArray, List.set_cons_zero, List.set_cons_succ]
  refine wpAnyH_take (i := 1) (oi := { dst := some 30, op := Op.load 29 (Operand.tmp 8), type := 29, pos := _, after := #[{ on := 2, ground := Ground.gcOnly Departure.lateStores }], guard := none }) (v := ?vbx1) rfl (by kernel_rfl) (by kernel_rfl) (by kernel_rfl) (fun _ _ _ h => h) (Or.inl ⟨by rfl, ?hbx1⟩) (by assumption) ?_
  case hbx1 => (intro w hSw; (try dsimp only at hSw); go_simp; try with_reducible rfl)
  try simp only [Act.put, List.setIfInBounds_toArray, List.set_cons_zero, List.set_cons_succ]
  refine wpAnyH_take (i := 2) (oi := { dst := some 6, op := Op.assign (Operand.tmp 29), type := 24, pos := _, after := #[{ on := 0, ground := Ground.data }, { on := 0, ground := Ground.phase }, { on := 1, ground := Ground.textOnly Departure.lateStores }], guard := none }) (v := ?vbx2) rfl (by kernel_rfl) (by kernel_rfl) (by kernel_rfl) (fun _ _ _ h => h) (Or.inl ⟨by rfl, ?hbx2⟩) (by assumption) ?_
  case hbx2 => (intro w hSw; (try dsimp only at hSw); go_simp; try with_reducible rfl)
  try simp only [Act.put, List.setIfInBounds_toArray, List.set_cons_zero, List.set_cons_succ]
  refine wpAnyH_ready (rs := [3]) (by kernel_rfl) (by simp) ?_
  refine AllReadyH.cons rfl (fun K hK => ?_) AllReadyH.nil
  go_simp
  generalize hW : ((((((((((w3.setCell ⟨w.heap.size + 1, 0, none⟩ (i64 c.s0)).setCell ⟨w.heap.size + 1, 1, none⟩ (i64 c.k0)).setCell ⟨w.heap.size + 1, 2, none⟩ (i64 c.s1)).setCell ⟨w.heap.size + 1, 3, none⟩ (i64 c.k1)).setCell ⟨w.heap.size + 1, 4, none⟩ (i64 c.s2)).setCell ⟨w.heap.size + 1, 5, none⟩ (i64 c.k2)).setCell ⟨w.heap.size + 1, 6, none⟩ (i64 c.s3)).setCell ⟨w.heap.size + 1, 7, none⟩ (i64 c.k3)).setCell ⟨w.heap.size + 1, 8, none⟩ (i64 c.m)).setCell ⟨w.heap.size + 1, 9, none⟩ (i64 c.f)) = W at HS ⊢
  clear hW
  refine hK.out _ _ ?_ (fun hHeld => ?_)
  · exact ⟨HS.out.2.cellK hne d0, HS.out.2.cellK hne d1, HS.out.2.cellK hne d2, HS.out.2.cellK hne d3, HS.out.2.cellK hne d4, HS.out.2.cellK hne d5, HS.out.2.cellK hne d6, HS.out.2.cellK hne d7, HS.out.2.cellK hne d8, HS.out.2.cellK hne d9⟩
  clear hK K
  have HFIN := hid (show Below w.heap.size w W ∧ R W (fun k => w.heap.size ≤ k) pd (RDb.new c) from ⟨HB3.out.trans ⟨HS.out.2.os, HS.out.2.tape, HS.out.2.output, HS.out.2.size, fun k hk => HS.out.2.block k (by omega) (by show ¬ k = w.heap.size + 1; omega)⟩, H.weak (H.fr HR3.out HS.out.2 (fun k hk e => by have h2 := HZ2.out; have e' : k = w.heap.size + 1 := e; have hk' : w2.heap.size ≤ k := hk; omega)) (fun k hk => by have h2 := HZ2.out; have hk' : w2.heap.size ≤ k := hk; omega)⟩)
  have t0 : W.cell? ⟨w.heap.size + 1, 0, none⟩ = some (i64 c.s0) := cell_of_blk HS.out.1 0
  have t1 : W.cell? ⟨w.heap.size + 1, 1, none⟩ = some (i64 c.k0) := cell_of_blk HS.out.1 1
  have t2 : W.cell? ⟨w.heap.size + 1, 2, none⟩ = some (i64 c.s1) := cell_of_blk HS.out.1 2
  have t3 : W.cell? ⟨w.heap.size + 1, 3, none⟩ = some (i64 c.k1) := cell_of_blk HS.out.1 3
  have t4 : W.cell? ⟨w.heap.size + 1, 4, none⟩ = some (i64 c.s2) := cell_of_blk HS.out.1 4
  have t5 : W.cell? ⟨w.heap.size + 1, 5, none⟩ = some (i64 c.k2) := cell_of_blk HS.out.1 5
  have t6 : W.cell? ⟨w.heap.size + 1, 6, none⟩ = some (i64 c.s3) := cell_of_blk HS.out.1 6
  have t7 : W.cell? ⟨w.heap.size + 1, 7, none⟩ = some (i64 c.k3) := cell_of_blk HS.out.1 7
  have t8 : W.cell? ⟨w.heap.size + 1, 8, none⟩ = some (i64 c.m) := cell_of_blk HS.out.1 8
  have t9 : W.cell? ⟨w.heap.size + 1, 9, none⟩ = some (i64 c.f) := cell_of_blk HS.out.1 9
  have hzW : w.heap.size + 1 < W.heap.size := blk_lt HS.out.1
  clear d0 d1 d2 d3 d4 d5 d6 d7 d8 d9 f0 f1 f2 f3 f4 f5 f6 f7 f8 f9 z0 z1 z2 z3 z4 z5 z6 z7 z8 z9
  refine wpAnyH_done (by kernel_rfl) ?_ _
  go_wp2
  refine bodyPost_ret (v := .tuple #[.pointer (some ⟨pd, 0, none⟩), .agg #[i64 c.s0, i64 c.k0, i64 c.s1, i64 c.k1, i64 c.s2, i64 c.k2, i64 c.s3, i64 c.k3, i64 c.m, i64 c.f]]) (by simp [results, Try.results8, go_sem, t0, t1, t2, t3, t4, t5, t6, t7, t8, t9]) rfl ⟨pd, rfl, HFIN.out.1.drew, ?_⟩
  exact H.fr HFIN.out.2 (Fr.below (In := fun _ => False) ((Below.refl _ W).drew)) (fun _ _ x => x)
end Go.Proofs.Ythbbfjfekchdiaa
