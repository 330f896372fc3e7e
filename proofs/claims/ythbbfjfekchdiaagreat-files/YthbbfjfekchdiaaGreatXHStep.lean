import Derived.Test.YthbbfjfekchdiaaGreatXHPick
import Derived.Deep.RegionHeld3
namespace Go.Proofs.YthbbfjfekchdiaaGreat
open Go.RowKit
set_option linter.unusedSimpArgs false
attribute [local go_sem] Go.wp_at_zero Go.wp_at_succ

set_option maxHeartbeats 2000000 in
theorem step2_ask {R : Rep} (H : ProgOk R) (kd oa ob od oe : Int) (c : Cfg) (la : Option Addr) (ln lc : Nat) (ss : ByteArray) (B : Nat) (w : World) (tag : Nat → Tag) (ds : List RDb) (bs is ps : List Value) (hk3 : 3 ≤ kd) (hk10 : kd ≤ 10) (hk7 : kd ≠ 7) (hI : HInv R w B tag ds bs is ps) (h1 : 1 ≤ ds.length) (hn : ds.length ≤ 1000000000000) (ha1 : -9223372036854775808 ≤ oa) (ha2 : oa ≤ 9223372036854775807)
    (hask : ∀ (w1 : World) (tag1 : Nat → Tag) (j g cap pd pr : Nat) (d : RDb), Below w.heap.size w w1 → HInv R w1 B tag1 ds bs is ps → PairAt R w1 B tag1 ds j g cap pd pr d → Calls Tryz.prog 16 #[.pointer (some ⟨B, 0, none⟩), .agg #[.pointer (some ⟨pd, 0, none⟩), .pointer (some ⟨pr, 0, none⟩)], opV kd oa ob od oe c la ln lc ss] w1 fun e w' => e = .returned (.bool true) ∧ AskPost R w1 w' B tag1 ds bs is ps g) :
    Calls Tryz.prog 11 #[.pointer (some ⟨B, 0, none⟩), opV kd oa ob od oe c la ln lc ss] w fun e w' => e = .returned (.bool true) ∧ Left2 R w w' B ds bs is ps := by
  have HI := hid hI
  have hz := hI.lt
  have HASK := hid hask
  have hlt := pickM_lt oa h1
  obtain ⟨g, cap, pd, pr, d, hp⟩ := hI.pair hlt
  have HP := hid hp
  obtain ⟨n, hn'⟩ : ∃ n, n = ds.length := ⟨_, rfl⟩
  obtain ⟨j, hj⟩ : ∃ j, j = pickM oa ds.length := ⟨_, rfl⟩
  have d0 := hp.c0
  have e0 := hp.e0
  have e1 := hp.e1
  rw [← hj] at hlt e0 e1 HP
  rw [← hn'] at hlt h1 hn d0 hj
  have hgz : g < w.heap.size := by obtain ⟨cur, x⟩ := hp.gt; exact blk_lt x
  have HJ := hid hj
  have HNN := hid hn'
  have hn0 : ((n : Int) == 0) = false := beq_eq_false_iff_ne.2 (by omega)
  have q1 : (kd == 1) = false := beq_eq_false_iff_ne.2 (by omega)
  have q2 : (kd == 2) = false := beq_eq_false_iff_ne.2 (by omega)
  have q7 : (kd == 7) = false := beq_eq_false_iff_ne.2 hk7
  have q3 : decide (kd < 3) = false := decide_eq_false (by omega)
  have q10 : decide (10 < kd) = false := decide_eq_false (by omega)
  have hji : (j : Int) < (n : Int) := by omega
  have hj0 : (0 : Int) ≤ (j : Int) := by omega
  have HA := hid (fun (o : Obj) => (Below.refl w.heap.size w).alloc (Nat.le_refl _) o)
  clear hI hp hj hn' hask
  go_enter Tryz.func11, Tryz.ntmps11
  go_wp2_with fail
  refine wp_region_held_drew (S := (fun w' => w'.cell? ⟨B, 0, none⟩ = some (.slice (some ⟨g, 0, none⟩) n cap) ∧ w'.cell? ⟨w.heap.size, 0, none⟩ = some (i64 kd) ∧ w'.cell? ⟨w.heap.size, 1, none⟩ = some (i64 oa) ∧ w'.cell? ⟨w.heap.size, 2, none⟩ = some (i64 ob) ∧ w'.cell? ⟨w.heap.size, 3, none⟩ = some (i64 od) ∧ w'.cell? ⟨w.heap.size, 4, none⟩ = some (i64 oe) ∧ w'.cell? ⟨w.heap.size, 5, none⟩ = some (i64 c.s0) ∧ w'.cell? ⟨w.heap.size, 6, none⟩ = some (i64 c.k0) ∧ w'.cell? ⟨w.heap.size, 7, none⟩ = some (i64 c.s1) ∧ w'.cell? ⟨w.heap.size, 8, none⟩ = some (i64 c.k1) ∧ w'.cell? ⟨w.heap.size, 9, none⟩ = some (i64 c.s2) ∧ w'.cell? ⟨w.heap.size, 10, none⟩ = some (i64 c.k2) ∧ w'.cell? ⟨w.heap.size, 11, none⟩ = some (i64 c.s3) ∧ w'.cell? ⟨w.heap.size, 12, none⟩ = some (i64 c.k3) ∧ w'.cell? ⟨w.heap.size, 13, none⟩ = some (i64 c.m) ∧ w'.cell? ⟨w.heap.size, 14, none⟩ = some (i64 c.f) ∧ w'.cell? ⟨w.heap.size, 15, none⟩ = some (.slice la ln lc) ∧ w'.cell? ⟨w.heap.size, 16, none⟩ = some (.string ss) ∧ w'.cell? ⟨g, j * 2, none⟩ = some (.pointer (some ⟨pd, 0, none⟩)) ∧ w'.cell? ⟨g, j * 2 + 1, none⟩ = some (.pointer (some ⟨pr, 0, none⟩)))) (by kernel_rfl) ?_ (fun hHeld => ?_)
  · go_keep
  refine wpAnyH_take (i := 0) (oi := { dst := some 41, op := Op.move (Operand.tmp 0), type := 27, pos := _, after := #[], guard := none }) (v := ?vs0) rfl (by kernel_rfl) (by kernel_rfl) (by kernel_rfl) (fun _ _ _ h => h) (Or.inl ⟨by rfl, ?hs0⟩) (by assumption) ?_
  case hs0 => (intro w hSw; (try dsimp only at hSw); go_simp; try with_reducible rfl)
  try simp only [Act.put, List.setIfInBounds_toArray, List.set_cons_zero, List.set_cons_succ]
  refine wpAnyH_take (i := 1) (oi := { dst := some 42, op := Op.move (Operand.tmp 0), type := 27, pos := _, after := #[], guard := none }) (v := ?vs1) rfl (by kernel_rfl) (by kernel_rfl) (by kernel_rfl) (fun _ _ _ h => h) (Or.inl ⟨by rfl, ?hs1⟩) (by assumption) ?_
  case hs1 => (intro w hSw; (try dsimp only at hSw); go_simp; try with_reducible rfl)
  try simp only [Act.put, List.setIfInBounds_toArray, List.set_cons_zero, List.set_cons_succ]
  refine wpAnyH_take (i := 2) (oi := { dst := some 43, op := Op.nilCheck (Operand.tmp 42), type := 0, pos := _, after := #[{ on := 1, ground := Ground.data }], guard := none }) (v := ?vs2) rfl (by kernel_rfl) (by kernel_rfl) (by kernel_rfl) (fun _ _ _ h => h) (Or.inl ⟨by rfl, ?hs2⟩) (by assumption) ?_
  case hs2 => (intro w hSw; (try dsimp only at hSw); go_simp; try with_reducible rfl)
  try simp only [Act.put, List.setIfInBounds_toArray, List.set_cons_zero, List.set_cons_succ]
  refine wpAnyH_take (i := 3) (oi := { dst := some 44, op := Op.fieldAddr 35 (Operand.tmp 43) 0, type := 0, pos := _, after := #[{ on := 2, ground := Ground.data }], guard := none }) (v := ?vs3) rfl (by kernel_rfl) (by kernel_rfl) (by kernel_rfl) (fun _ _ _ h => h) (Or.inl ⟨by rfl, ?hs3⟩) (by assumption) ?_
  case hs3 => (intro w hSw; (try dsimp only at hSw); go_simp; try with_reducible rfl)
  try simp only [Act.put, List.setIfInBounds_toArray, List.set_cons_zero, List.set_cons_succ]
  refine wpAnyH_take (i := 4) (oi := { dst := some 45, op := Op.load 28 (Operand.tmp 44), type := 28, pos := _, after := #[{ on := 3, ground := Ground.data }], guard := none }) (v := ?vs4) rfl (by kernel_rfl) (by kernel_rfl) (by kernel_rfl) (fun _ _ _ h => h) (Or.inl ⟨by rfl, ?hs4⟩) (by assumption) ?_
  case hs4 => (intro w hSw; (try dsimp only at hSw); go_simp; try with_reducible rfl)
  try simp only [Act.put, List.setIfInBounds_toArray, List.set_cons_zero, List.set_cons_succ]
  refine wpAnyH_take (i := 5) (oi := { dst := some 46, op := Op.fieldAddr 43 (Operand.tmp 3) 1, type := 0, pos := _, after := #[], guard := none }) (v := ?vs5) rfl (by kernel_rfl) (by kernel_rfl) (by kernel_rfl) (fun _ _ _ h => h) (Or.inl ⟨by rfl, ?hs5⟩) (by assumption) ?_
  case hs5 => (intro w hSw; (try dsimp only at hSw); go_simp; try with_reducible rfl)
  try simp only [Act.put, List.setIfInBounds_toArray, List.set_cons_zero, List.set_cons_succ]
  refine wpAnyH_take (i := 6) (oi := { dst := some 47, op := Op.load 3 (Operand.tmp 46), type := 3, pos := _, after := #[{ on := 5, ground := Ground.data }], guard := none }) (v := ?vs6) rfl (by kernel_rfl) (by kernel_rfl) (by kernel_rfl) (fun _ _ _ h => h) (Or.inl ⟨by rfl, ?hs6⟩) (by assumption) ?_
  case hs6 => (intro w hSw; (try dsimp only at hSw); go_simp; try with_reducible rfl)
  try simp only [Act.put, List.setIfInBounds_toArray, List.set_cons_zero, List.set_cons_succ]
  refine wpAnyH_take (i := 7) (oi := { dst := some 48, op := Op.move (Operand.tmp 0), type := 27, pos := _, after := #[], guard := none }) (v := ?vs7) rfl (by kernel_rfl) (by kernel_rfl) (by kernel_rfl) (fun _ _ _ h => h) (Or.inl ⟨by rfl, ?hs7⟩) (by assumption) ?_
  case hs7 => (intro w hSw; (try dsimp only at hSw); go_simp; try with_reducible rfl)
  try simp only [Act.put, List.setIfInBounds_toArray, List.set_cons_zero, List.set_cons_succ]
  refine wpAnyH_take (i := 8) (oi := { dst := some 49, op := Op.nilCheck (Operand.tmp 48), type := 0, pos := _, after := #[{ on := 7, ground := Ground.data }], guard := none }) (v := ?vs8) rfl (by kernel_rfl) (by kernel_rfl) (by kernel_rfl) (fun _ _ _ h => h) (Or.inl ⟨by rfl, ?hs8⟩) (by assumption) ?_
  case hs8 => (intro w hSw; (try dsimp only at hSw); go_simp; try with_reducible rfl)
  try simp only [Act.put, List.setIfInBounds_toArray, List.set_cons_zero, List.set_cons_succ]
  refine wpAnyH_take (i := 9) (oi := { dst := some 50, op := Op.fieldAddr 35 (Operand.tmp 49) 0, type := 0, pos := _, after := #[{ on := 8, ground := Ground.data }], guard := none }) (v := ?vs9) rfl (by kernel_rfl) (by kernel_rfl) (by kernel_rfl) (fun _ _ _ h => h) (Or.inl ⟨by rfl, ?hs9⟩) (by assumption) ?_
  case hs9 => (intro w hSw; (try dsimp only at hSw); go_simp; try with_reducible rfl)
  try simp only [Act.put, List.setIfInBounds_toArray, List.set_cons_zero, List.set_cons_succ]
  refine wpAnyH_take (i := 10) (oi := { dst := some 51, op := Op.load 28 (Operand.tmp 50), type := 28, pos := _, after := #[{ on := 9, ground := Ground.data }], guard := none }) (v := ?vs10) rfl (by kernel_rfl) (by kernel_rfl) (by kernel_rfl) (fun _ _ _ h => h) (Or.inl ⟨by rfl, ?hs10⟩) (by assumption) ?_
  case hs10 => (intro w hSw; (try dsimp only at hSw); go_simp; try with_reducible rfl)
  try simp only [Act.put, List.setIfInBounds_toArray, List.set_cons_zero, List.set_cons_succ]
  refine wpAnyH_take (i := 11) (oi := { dst := some 52, op := Op.call { callee := Callee.builtin Builtin.len, args := #[Operand.tmp 51], argTypes := #[28] }, type := 3, pos := _, after := #[{ on := 10, ground := Ground.data }], guard := none }) (v := ?vs11) rfl (by kernel_rfl) (by kernel_rfl) (by kernel_rfl) (fun _ _ _ h => h) (Or.inl ⟨by rfl, ?hs11⟩) (by assumption) ?_
  case hs11 => (intro w hSw; (try dsimp only at hSw); go_simp; try with_reducible rfl)
  try simp only [Act.put, List.setIfInBounds_toArray, List.set_cons_zero, List.set_cons_succ]
  refine wpAnyH_take (i := 15) (oi := { dst := some 56, op := Op.load 43 (Operand.tmp 3), type := 43, pos := _, after := #[], guard := none }) (v := ?vs15) rfl (by kernel_rfl) (by kernel_rfl) (by kernel_rfl) (fun _ _ _ h => h) (Or.inl ⟨by rfl, ?hs15⟩) (by assumption) ?_
  case hs15 => (intro w hSw; (try dsimp only at hSw); go_simp; try with_reducible rfl)
  try simp only [Act.put, List.setIfInBounds_toArray, List.set_cons_zero, List.set_cons_succ]
  refine wpAnyH_ready (rs := [12]) (by kernel_rfl) (by simp) ?_
  refine AllReadyH.cons rfl (fun K hK => ?_) AllReadyH.nil
  go_simp
  refine (pick2_any _ _ _ h1 (by omega) ha1 ha2).mono ?_
  rintro e w5 ⟨rfl, rfl⟩
  rw [← HJ.out]
  go_wp2_with fail
  refine hK.out _ _ ?_ (fun hHeld => ?_)
  · exact hHeld
  clear hK K
  refine wpAnyH_take (i := 13) (oi := { dst := some 54, op := Op.indexAddr 28 (Operand.tmp 45) (Operand.tmp 53), type := 0, pos := _, after := #[{ on := 4, ground := Ground.data }, { on := 12, ground := Ground.data }], guard := none }) (v := ?vs13) rfl (by kernel_rfl) (by kernel_rfl) (by kernel_rfl) (fun _ _ _ h => h) (Or.inl ⟨by rfl, ?hs13⟩) (by assumption) ?_
  case hs13 => (intro w hSw; (try dsimp only at hSw); go_simp; try with_reducible rfl)
  try simp only [Act.put, List.setIfInBounds_toArray, List.set_cons_zero, List.set_cons_succ]
  refine wpAnyH_take (i := 14) (oi := { dst := some 55, op := Op.load 53 (Operand.tmp 54), type := 53, pos := _, after := #[{ on := 13, ground := Ground.data }], guard := none }) (v := ?vs14) rfl (by kernel_rfl) (by kernel_rfl) (by kernel_rfl) (fun _ _ _ h => h) (Or.inl ⟨by rfl, ?hs14⟩) (by assumption) ?_
  case hs14 => (intro w hSw; (try dsimp only at hSw); go_simp; try with_reducible rfl)
  try simp only [Act.put, List.setIfInBounds_toArray, List.set_cons_zero, List.set_cons_succ]
  refine wpAnyH_ready (rs := [16]) (by kernel_rfl) (by simp) ?_
  refine AllReadyH.cons rfl (fun K hK => ?_) AllReadyH.nil
  go_simp
  have hbx := fun (o : Obj) => (HA.out o).drew
  have hIx := fun (o : Obj) => HI.out.retag H (hbx o) (fun _ => .arg)
  have hPx := fun (o : Obj) => (HP.out.retag H (hbx o) (fun _ => .arg))
  refine (HASK.out _ _ j g cap pd pr d (hbx _) (hIx _) (hPx _)).mono ?_
  rintro e w6 ⟨rfl, hA6⟩
  have HF := hid (show Left2 R w w6 B ds bs is ps from ⟨hA6.left.1, ((hbx _).mono (by omega)).trans hA6.left.2⟩)
  have hbox := hA6.arg w.heap.size (by show w.heap.size < (w.alloc _).heap.size; simp) (tagUp_ge (Nat.le_refl _))
  have hgb := hA6.gblk
  have hc0 := hA6.c0
  clear hA6 hbx hIx hPx
  go_wp2_with fail
  refine hK.out _ _ ?_ (fun hHeld => ?_)
  · have cb : ∀ o, w6.cell? ⟨w.heap.size, o, none⟩ = _ := fun o => World.cell?_of_block (a := ⟨w.heap.size, o, none⟩) hbox
    have cg : ∀ o, w6.cell? ⟨g, o, none⟩ = _ := fun o => World.cell?_of_block (a := ⟨g, o, none⟩) hgb
    refine ⟨hc0.trans ?_, (cb 0).trans ?_, (cb 1).trans ?_, (cb 2).trans ?_, (cb 3).trans ?_, (cb 4).trans ?_, (cb 5).trans ?_, (cb 6).trans ?_, (cb 7).trans ?_, (cb 8).trans ?_, (cb 9).trans ?_, (cb 10).trans ?_, (cb 11).trans ?_, (cb 12).trans ?_, (cb 13).trans ?_, (cb 14).trans ?_, (cb 15).trans ?_, (cb 16).trans ?_, (cg _).trans ?_, (cg _).trans ?_⟩ <;> simp [*]
  clear hK K hbox hgb hc0
  refine wpAnyH_take (i := 17) (oi := { dst := some 4, op := Op.assign (Operand.tmp 57), type := 4, pos := _, after := #[{ on := 16, ground := Ground.data }, { on := 16, ground := Ground.chain }, { on := 0, ground := Ground.phase }, { on := 1, ground := Ground.phase }, { on := 2, ground := Ground.phase }, { on := 3, ground := Ground.phase }, { on := 4, ground := Ground.phase }, { on := 5, ground := Ground.phase }, { on := 6, ground := Ground.phase }, { on := 7, ground := Ground.phase }, { on := 8, ground := Ground.phase }, { on := 9, ground := Ground.phase }, { on := 10, ground := Ground.phase }, { on := 11, ground := Ground.phase }, { on := 12, ground := Ground.phase }, { on := 13, ground := Ground.phase }, { on := 14, ground := Ground.phase }, { on := 15, ground := Ground.phase }, { on := 16, ground := Ground.phase }], guard := none }) (v := ?vs17) rfl (by kernel_rfl) (by kernel_rfl) (by kernel_rfl) (fun _ _ _ h => h) (Or.inl ⟨by rfl, ?hs17⟩) (by assumption) ?_
  case hs17 => (intro w hSw; (try dsimp only at hSw); go_simp; try with_reducible rfl)
  try simp only [Act.put, List.setIfInBounds_toArray, List.set_cons_zero, List.set_cons_succ]
  refine wpAnyH_done (by kernel_rfl) ?_ _
  go_wp2
  go_ret
  exact ⟨rfl, HF.out⟩
end Go.Proofs.YthbbfjfekchdiaaGreat
