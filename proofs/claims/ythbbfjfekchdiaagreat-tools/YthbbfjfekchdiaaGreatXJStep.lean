import Derived.Test.YthbbfjfekchdiaaGreatXJAgain
import Derived.Test.YthbbfjfekchdiaaGreatXJLoaded
import Derived.Test.YthbbfjfekchdiaaGreatXJAskD
import Derived.Test.YthbbfjfekchdiaaGreatXHAmong
import Derived.Deep.RegionHeld3
/-
  A step, of whatever kind.
-/
namespace Go.Proofs.YthbbfjfekchdiaaGreat
open Go.RowKit
set_option linter.unusedSimpArgs false
attribute [local go_sem] Go.wp_at_zero Go.wp_at_succ

set_option maxRecDepth 4000 in
set_option maxHeartbeats 2000000 in
theorem step3_ask {R : Rep} (H : ProgOk R) (kd oa ob od oe : Int) (c : Cfg) (la : Option Addr) (ln lc : Nat) (ss : ByteArray) (B : Nat) (w : World) (tag : Nat → Tag) (ds : List RDb) (bs is ps : List Value) (hk3 : 3 ≤ kd) (hk10 : kd ≤ 10) (hk7 : kd ≠ 7) (hI : HInv R w B tag ds bs is ps) (h1 : 1 ≤ ds.length) (hn : ds.length ≤ 1000000000000) (ha1 : -9223372036854775808 ≤ oa) (ha2 : oa ≤ 9223372036854775807)
    (hask : ∀ (w1 : World) (tag1 : Nat → Tag) (j g cap pd pr : Nat) (d : RDb), Below w.heap.size w w1 → HInv R w1 B tag1 ds bs is ps → PairAt R w1 B tag1 ds j g cap pd pr d → Calls Tryz.prog 16 #[.pointer (some ⟨B, 0, none⟩), .agg #[.pointer (some ⟨pd, 0, none⟩), .pointer (some ⟨pr, 0, none⟩)], opV kd oa ob od oe c la ln lc ss] w1 fun e w' => e = .returned (.bool true) ∧ AskPost3 R w1 w' B tag1 ds bs is ps) :
    Calls Tryz.prog 11 #[.pointer (some ⟨B, 0, none⟩), opV kd oa ob od oe c la ln lc ss] w fun e w' => e = .returned (.bool true) ∧ Left3 R w w' B ds bs is ps := by
  have HI := hid hI
  have hz := hI.lt
  have HASK := hid hask
  have hlt := pickM_lt oa h1
  obtain ⟨g, cap, pd, pr, d, hp⟩ := hI.pair hlt
  have HP := hid hp
  obtain ⟨n, hn'⟩ : ∃ n, n = ds.length := ⟨_, rfl⟩
  obtain ⟨j, hj⟩ : ∃ j, j = pickM oa ds.length := ⟨_, rfl⟩
  have d0 := hp.c0
  have e0 := hp.e0
  have e1 := hp.e1
  rw [← hj] at hlt e0 e1 HP
  rw [← hn'] at hlt h1 hn d0 hj
  have hgz : g < w.heap.size := by obtain ⟨cur, x⟩ := hp.gt; exact blk_lt x
  have HJ := hid hj
  have HNN := hid hn'
  have hn0 : ((n : Int) == 0) = false := beq_eq_false_iff_ne.2 (by omega)
  have q1 : (kd == 1) = false := beq_eq_false_iff_ne.2 (by omega)
  have q2 : (kd == 2) = false := beq_eq_false_iff_ne.2 (by omega)
  have q7 : (kd == 7) = false := beq_eq_false_iff_ne.2 hk7
  have q3 : decide (kd < 3) = false := decide_eq_false (by omega)
  have q10 : decide (10 < kd) = false := decide_eq_false (by omega)
  have hji : (j : Int) < (n : Int) := by omega
  have hj0 : (0 : Int) ≤ (j : Int) := by omega
  have HA := hid (fun (o : Obj) => (Below.refl w.heap.size w).alloc (Nat.le_refl _) o)
  clear hI hp hj hn' hask
  go_enter Tryz.func11, Tryz.ntmps11
  go_wp2_with fail
  refine wp_region_held_drew (S := (fun w' => w'.cell? ⟨w.heap.size, 0, none⟩ = some (i64 kd) ∧ w'.cell? ⟨w.heap.size, 1, none⟩ = some (i64 oa) ∧ w'.cell? ⟨w.heap.size, 2, none⟩ = some (i64 ob) ∧ w'.cell? ⟨w.heap.size, 3, none⟩ = some (i64 od) ∧ w'.cell? ⟨w.heap.size, 4, none⟩ = some (i64 oe) ∧ w'.cell? ⟨w.heap.size, 5, none⟩ = some (i64 c.s0) ∧ w'.cell? ⟨w.heap.size, 6, none⟩ = some (i64 c.k0) ∧ w'.cell? ⟨w.heap.size, 7, none⟩ = some (i64 c.s1) ∧ w'.cell? ⟨w.heap.size, 8, none⟩ = some (i64 c.k1) ∧ w'.cell? ⟨w.heap.size, 9, none⟩ = some (i64 c.s2) ∧ w'.cell? ⟨w.heap.size, 10, none⟩ = some (i64 c.k2) ∧ w'.cell? ⟨w.heap.size, 11, none⟩ = some (i64 c.s3) ∧ w'.cell? ⟨w.heap.size, 12, none⟩ = some (i64 c.k3) ∧ w'.cell? ⟨w.heap.size, 13, none⟩ = some (i64 c.m) ∧ w'.cell? ⟨w.heap.size, 14, none⟩ = some (i64 c.f) ∧ w'.cell? ⟨w.heap.size, 15, none⟩ = some (.slice la ln lc) ∧ w'.cell? ⟨w.heap.size, 16, none⟩ = some (.string ss))) (by kernel_rfl) ?_ (fun hHeld => ?_)
  · go_keep
  refine wpAnyH_take (i := 0) (oi := { dst := some 41, op := Op.move (Operand.tmp 0), type := 27, pos := _, after := #[], guard := none }) (v := ?vs0) rfl (by kernel_rfl) (by kernel_rfl) (by kernel_rfl) (fun _ _ _ h => h) (Or.inl ⟨by rfl, ?hs0⟩) (by assumption) ?_
  case hs0 => (intro w hSw; (try dsimp only at hSw); go_simp; try with_reducible rfl)
  try simp only [Act.put, List.setIfInBounds_toArray, List.set_cons_zero, List.set_cons_succ]
  refine wpAnyH_take (i := 1) (oi := { dst := some 42, op := Op.move (Operand.tmp 0), type := 27, pos := _, after := #[], guard := none }) (v := ?vs1) rfl (by kernel_rfl) (by kernel_rfl) (by kernel_rfl) (fun _ _ _ h => h) (Or.inl ⟨by rfl, ?hs1⟩) (by assumption) ?_
  case hs1 => (intro w hSw; (try dsimp only at hSw); go_simp; try with_reducible rfl)
  try simp only [Act.put, List.setIfInBounds_toArray, List.set_cons_zero, List.set_cons_succ]
  refine wpAnyH_take (i := 2) (oi := { dst := some 43, op := Op.nilCheck (Operand.tmp 42), type := 0, pos := _, after := #[{ on := 1, ground := Ground.data }], guard := none }) (v := ?vs2) rfl (by kernel_rfl) (by kernel_rfl) (by kernel_rfl) (fun _ _ _ h => h) (Or.inl ⟨by rfl, ?hs2⟩) (by assumption) ?_
  case hs2 => (intro w hSw; (try dsimp only at hSw); go_simp; try with_reducible rfl)
  try simp only [Act.put, List.setIfInBounds_toArray, List.set_cons_zero, List.set_cons_succ]
  refine wpAnyH_take (i := 3) (oi := { dst := some 44, op := Op.fieldAddr 35 (Operand.tmp 43) 0, type := 0, pos := _, after := #[{ on := 2, ground := Ground.data }], guard := none }) (v := ?vs3) rfl (by kernel_rfl) (by kernel_rfl) (by kernel_rfl) (fun _ _ _ h => h) (Or.inl ⟨by rfl, ?hs3⟩) (by assumption) ?_
  case hs3 => (intro w hSw; (try dsimp only at hSw); go_simp; try with_reducible rfl)
  try simp only [Act.put, List.setIfInBounds_toArray, List.set_cons_zero, List.set_cons_succ]
  refine wpAnyH_take (i := 5) (oi := { dst := some 46, op := Op.fieldAddr 43 (Operand.tmp 3) 1, type := 0, pos := _, after := #[], guard := none }) (v := ?vs5) rfl (by kernel_rfl) (by kernel_rfl) (by kernel_rfl) (fun _ _ _ h => h) (Or.inl ⟨by rfl, ?hs5⟩) (by assumption) ?_
  case hs5 => (intro w hSw; (try dsimp only at hSw); go_simp; try with_reducible rfl)
  try simp only [Act.put, List.setIfInBounds_toArray, List.set_cons_zero, List.set_cons_succ]
  refine wpAnyH_take (i := 6) (oi := { dst := some 47, op := Op.load 3 (Operand.tmp 46), type := 3, pos := _, after := #[{ on := 5, ground := Ground.data }], guard := none }) (v := ?vs6) rfl (by kernel_rfl) (by kernel_rfl) (by kernel_rfl) (fun _ _ _ h => h) (Or.inl ⟨by rfl, ?hs6⟩) (by assumption) ?_
  case hs6 => (intro w hSw; (try dsimp only at hSw); go_simp; try with_reducible rfl)
  try simp only [Act.put, List.setIfInBounds_toArray, List.set_cons_zero, List.set_cons_succ]
  refine wpAnyH_take (i := 7) (oi := { dst := some 48, op := Op.move (Operand.tmp 0), type := 27, pos := _, after := #[], guard := none }) (v := ?vs7) rfl (by kernel_rfl) (by kernel_rfl) (by kernel_rfl) (fun _ _ _ h => h) (Or.inl ⟨by rfl, ?hs7⟩) (by assumption) ?_
  case hs7 => (intro w hSw; (try dsimp only at hSw); go_simp; try with_reducible rfl)
  try simp only [Act.put, List.setIfInBounds_toArray, List.set_cons_zero, List.set_cons_succ]
  refine wpAnyH_take (i := 8) (oi := { dst := some 49, op := Op.nilCheck (Operand.tmp 48), type := 0, pos := _, after := #[{ on := 7, ground := Ground.data }], guard := none }) (v := ?vs8) rfl (by kernel_rfl) (by kernel_rfl) (by kernel_rfl) (fun _ _ _ h => h) (Or.inl ⟨by rfl, ?hs8⟩) (by assumption) ?_
  case hs8 => (intro w hSw; (try dsimp only at hSw); go_simp; try with_reducible rfl)
  try simp only [Act.put, List.setIfInBounds_toArray, List.set_cons_zero, List.set_cons_succ]
  refine wpAnyH_take (i := 9) (oi := { dst := some 50, op := Op.fieldAddr 35 (Operand.tmp 49) 0, type := 0, pos := _, after := #[{ on := 8, ground := Ground.data }], guard := none }) (v := ?vs9) rfl (by kernel_rfl) (by kernel_rfl) (by kernel_rfl) (fun _ _ _ h => h) (Or.inl ⟨by rfl, ?hs9⟩) (by assumption) ?_
  case hs9 => (intro w hSw; (try dsimp only at hSw); go_simp; try with_reducible rfl)
  try simp only [Act.put, List.setIfInBounds_toArray, List.set_cons_zero, List.set_cons_succ]
  refine wpAnyH_take (i := 15) (oi := { dst := some 56, op := Op.load 43 (Operand.tmp 3), type := 43, pos := _, after := #[], guard := none }) (v := ?vs15) rfl (by kernel_rfl) (by kernel_rfl) (by kernel_rfl) (fun _ _ _ h => h) (Or.inl ⟨by rfl, ?hs15⟩) (by assumption) ?_
  case hs15 => (intro w hSw; (try dsimp only at hSw); go_simp; try with_reducible rfl)
  try simp only [Act.put, List.setIfInBounds_toArray, List.set_cons_zero, List.set_cons_succ]
  refine wpAnyH_ready (rs := [4, 10]) (by kernel_rfl) (by simp) ?_
  refine AllReadyH.cons rfl (fun K hK => ?_) (AllReadyH.cons rfl (fun K hK => ?_) AllReadyH.nil)
  · go_simp
    refine hK.out _ _ ?_ (fun hHeld => ?_)
    · exact hHeld
    clear hK K
    refine wpAnyH_ready (rs := [10]) (by kernel_rfl) (by simp) ?_
    refine AllReadyH.cons rfl (fun K hK => ?_) AllReadyH.nil
    go_simp
    refine hK.out _ _ ?_ (fun hHeld => ?_)
    · exact hHeld
    clear hK K
    refine wpAnyH_take (i := 11) (oi := { dst := some 52, op := Op.call { callee := Callee.builtin Builtin.len, args := #[Operand.tmp 51], argTypes := #[28] }, type := 3, pos := _, after := #[{ on := 10, ground := Ground.data }], guard := none }) (v := ?vp11) rfl (by kernel_rfl) (by kernel_rfl) (by kernel_rfl) (fun _ _ _ h => h) (Or.inl ⟨by rfl, ?hp11⟩) (by assumption) ?_
    case hp11 => (intro w hSw; (try dsimp only at hSw); go_simp; try with_reducible rfl)
    try simp only [Act.put, List.setIfInBounds_toArray, List.set_cons_zero, List.set_cons_succ]
    refine wpAnyH_ready (rs := [12]) (by kernel_rfl) (by simp) ?_
    refine AllReadyH.cons rfl (fun K hK => ?_) AllReadyH.nil
    go_simp
    refine (pick2_any _ _ _ h1 (by omega) ha1 ha2).mono ?_
    rintro e w5 ⟨rfl, hw5⟩
    have hw5 := hw5.symm
    subst hw5
    rw [← HJ.out]
    go_wp2_with fail
    refine hK.out _ _ ?_ (fun hHeld => ?_)
    · exact hHeld
    clear hK K
    refine wpAnyH_take (i := 13) (oi := { dst := some 54, op := Op.indexAddr 28 (Operand.tmp 45) (Operand.tmp 53), type := 0, pos := _, after := #[{ on := 4, ground := Ground.data }, { on := 12, ground := Ground.data }], guard := none }) (v := ?vp13) rfl (by kernel_rfl) (by kernel_rfl) (by kernel_rfl) (fun _ _ _ h => h) (Or.inl ⟨by rfl, ?hp13⟩) (by assumption) ?_
    case hp13 => (intro w hSw; (try dsimp only at hSw); go_simp; try with_reducible rfl)
    try simp only [Act.put, List.setIfInBounds_toArray, List.set_cons_zero, List.set_cons_succ]
    refine wpAnyH_ready (rs := [14]) (by kernel_rfl) (by simp) ?_
    refine AllReadyH.cons rfl (fun K hK => ?_) AllReadyH.nil
    go_simp
    refine hK.out _ _ ?_ (fun hHeld => ?_)
    · exact hHeld
    clear hK K
    refine wpAnyH_ready (rs := [16]) (by kernel_rfl) (by simp) ?_
    refine AllReadyH.cons rfl (fun K hK => ?_) AllReadyH.nil
    go_simp
    have hbx := fun (o : Obj) => (HA.out o).drew
    have hIx := fun (o : Obj) => HI.out.retag H (hbx o) (fun _ => .arg)
    have hPx := fun (o : Obj) => (HP.out.retag H (hbx o) (fun _ => .arg))
    refine (HASK.out _ _ j g cap pd pr d (hbx _) (hIx _) (hPx _)).mono ?_
    rintro e w6 ⟨rfl, hA6⟩
    have HF := hid (show Left3 R w w6 B ds bs is ps from ⟨hA6.left.1, ((hbx _).mono (by omega)).trans hA6.left.2⟩)
    have hbox := hA6.arg w.heap.size (by show w.heap.size < (w.alloc _).heap.size; simp) (tagUp_ge (Nat.le_refl _))
    clear hA6 hbx hIx hPx
    go_wp2_with fail
    refine hK.out _ _ ?_ (fun hHeld => ?_)
    · have cb : ∀ o, w6.cell? ⟨w.heap.size, o, none⟩ = _ := fun o => World.cell?_of_block (a := ⟨w.heap.size, o, none⟩) hbox
      refine ⟨(cb 0).trans ?_, (cb 1).trans ?_, (cb 2).trans ?_, (cb 3).trans ?_, (cb 4).trans ?_, (cb 5).trans ?_, (cb 6).trans ?_, (cb 7).trans ?_, (cb 8).trans ?_, (cb 9).trans ?_, (cb 10).trans ?_, (cb 11).trans ?_, (cb 12).trans ?_, (cb 13).trans ?_, (cb 14).trans ?_, (cb 15).trans ?_, (cb 16).trans ?_⟩ <;> simp [*]
    clear hK K hbox
    refine wpAnyH_take (i := 17) (oi := { dst := some 4, op := Op.assign (Operand.tmp 57), type := 4, pos := _, after := #[{ on := 16, ground := Ground.data }, { on := 16, ground := Ground.chain }, { on := 0, ground := Ground.phase }, { on := 1, ground := Ground.phase }, { on := 2, ground := Ground.phase }, { on := 3, ground := Ground.phase }, { on := 4, ground := Ground.phase }, { on := 5, ground := Ground.phase }, { on := 6, ground := Ground.phase }, { on := 7, ground := Ground.phase }, { on := 8, ground := Ground.phase }, { on := 9, ground := Ground.phase }, { on := 10, ground := Ground.phase }, { on := 11, ground := Ground.phase }, { on := 12, ground := Ground.phase }, { on := 13, ground := Ground.phase }, { on := 14, ground := Ground.phase }, { on := 15, ground := Ground.phase }, { on := 16, ground := Ground.phase }], guard := none }) (v := ?vp17) rfl (by kernel_rfl) (by kernel_rfl) (by kernel_rfl) (fun _ _ _ h => h) (Or.inl ⟨by rfl, ?hp17⟩) (by assumption) ?_
    case hp17 => (intro w hSw; (try dsimp only at hSw); go_simp; try with_reducible rfl)
    try simp only [Act.put, List.setIfInBounds_toArray, List.set_cons_zero, List.set_cons_succ]
    refine wpAnyH_done (by kernel_rfl) ?_ _
    go_wp2
    go_ret
    exact ⟨rfl, HF.out⟩
  · go_simp
    refine hK.out _ _ ?_ (fun hHeld => ?_)
    · exact hHeld
    clear hK K
    refine wpAnyH_take (i := 11) (oi := { dst := some 52, op := Op.call { callee := Callee.builtin Builtin.len, args := #[Operand.tmp 51], argTypes := #[28] }, type := 3, pos := _, after := #[{ on := 10, ground := Ground.data }], guard := none }) (v := ?vq11) rfl (by kernel_rfl) (by kernel_rfl) (by kernel_rfl) (fun _ _ _ h => h) (Or.inl ⟨by rfl, ?hq11⟩) (by assumption) ?_
    case hq11 => (intro w hSw; (try dsimp only at hSw); go_simp; try with_reducible rfl)
    try simp only [Act.put, List.setIfInBounds_toArray, List.set_cons_zero, List.set_cons_succ]
    refine wpAnyH_ready (rs := [4, 12]) (by kernel_rfl) (by simp) ?_
    refine AllReadyH.cons rfl (fun K hK => ?_) (AllReadyH.cons rfl (fun K hK => ?_) AllReadyH.nil)
    · go_simp
      refine hK.out _ _ ?_ (fun hHeld => ?_)
      · exact hHeld
      clear hK K
      refine wpAnyH_ready (rs := [12]) (by kernel_rfl) (by simp) ?_
      refine AllReadyH.cons rfl (fun K hK => ?_) AllReadyH.nil
      go_simp
      refine (pick2_any _ _ _ h1 (by omega) ha1 ha2).mono ?_
      rintro e w5 ⟨rfl, hw5⟩
      have hw5 := hw5.symm
      subst hw5
      rw [← HJ.out]
      go_wp2_with fail
      refine hK.out _ _ ?_ (fun hHeld => ?_)
      · exact hHeld
      clear hK K
      refine wpAnyH_take (i := 13) (oi := { dst := some 54, op := Op.indexAddr 28 (Operand.tmp 45) (Operand.tmp 53), type := 0, pos := _, after := #[{ on := 4, ground := Ground.data }, { on := 12, ground := Ground.data }], guard := none }) (v := ?vq13) rfl (by kernel_rfl) (by kernel_rfl) (by kernel_rfl) (fun _ _ _ h => h) (Or.inl ⟨by rfl, ?hq13⟩) (by assumption) ?_
      case hq13 => (intro w hSw; (try dsimp only at hSw); go_simp; try with_reducible rfl)
      try simp only [Act.put, List.setIfInBounds_toArray, List.set_cons_zero, List.set_cons_succ]
      refine wpAnyH_ready (rs := [14]) (by kernel_rfl) (by simp) ?_
      refine AllReadyH.cons rfl (fun K hK => ?_) AllReadyH.nil
      go_simp
      refine hK.out _ _ ?_ (fun hHeld => ?_)
      · exact hHeld
      clear hK K
      refine wpAnyH_ready (rs := [16]) (by kernel_rfl) (by simp) ?_
      refine AllReadyH.cons rfl (fun K hK => ?_) AllReadyH.nil
      go_simp
      have hbx := fun (o : Obj) => (HA.out o).drew
      have hIx := fun (o : Obj) => HI.out.retag H (hbx o) (fun _ => .arg)
      have hPx := fun (o : Obj) => (HP.out.retag H (hbx o) (fun _ => .arg))
      refine (HASK.out _ _ j g cap pd pr d (hbx _) (hIx _) (hPx _)).mono ?_
      rintro e w6 ⟨rfl, hA6⟩
      have HF := hid (show Left3 R w w6 B ds bs is ps from ⟨hA6.left.1, ((hbx _).mono (by omega)).trans hA6.left.2⟩)
      have hbox := hA6.arg w.heap.size (by show w.heap.size < (w.alloc _).heap.size; simp) (tagUp_ge (Nat.le_refl _))
      clear hA6 hbx hIx hPx
      go_wp2_with fail
      refine hK.out _ _ ?_ (fun hHeld => ?_)
      · have cb : ∀ o, w6.cell? ⟨w.heap.size, o, none⟩ = _ := fun o => World.cell?_of_block (a := ⟨w.heap.size, o, none⟩) hbox
        refine ⟨(cb 0).trans ?_, (cb 1).trans ?_, (cb 2).trans ?_, (cb 3).trans ?_, (cb 4).trans ?_, (cb 5).trans ?_, (cb 6).trans ?_, (cb 7).trans ?_, (cb 8).trans ?_, (cb 9).trans ?_, (cb 10).trans ?_, (cb 11).trans ?_, (cb 12).trans ?_, (cb 13).trans ?_, (cb 14).trans ?_, (cb 15).trans ?_, (cb 16).trans ?_⟩ <;> simp [*]
      clear hK K hbox
      refine wpAnyH_take (i := 17) (oi := { dst := some 4, op := Op.assign (Operand.tmp 57), type := 4, pos := _, after := #[{ on := 16, ground := Ground.data }, { on := 16, ground := Ground.chain }, { on := 0, ground := Ground.phase }, { on := 1, ground := Ground.phase }, { on := 2, ground := Ground.phase }, { on := 3, ground := Ground.phase }, { on := 4, ground := Ground.phase }, { on := 5, ground := Ground.phase }, { on := 6, ground := Ground.phase }, { on := 7, ground := Ground.phase }, { on := 8, ground := Ground.phase }, { on := 9, ground := Ground.phase }, { on := 10, ground := Ground.phase }, { on := 11, ground := Ground.phase }, { on := 12, ground := Ground.phase }, { on := 13, ground := Ground.phase }, { on := 14, ground := Ground.phase }, { on := 15, ground := Ground.phase }, { on := 16, ground := Ground.phase }], guard := none }) (v := ?vq17) rfl (by kernel_rfl) (by kernel_rfl) (by kernel_rfl) (fun _ _ _ h => h) (Or.inl ⟨by rfl, ?hq17⟩) (by assumption) ?_
      case hq17 => (intro w hSw; (try dsimp only at hSw); go_simp; try with_reducible rfl)
      try simp only [Act.put, List.setIfInBounds_toArray, List.set_cons_zero, List.set_cons_succ]
      refine wpAnyH_done (by kernel_rfl) ?_ _
      go_wp2
      go_ret
      exact ⟨rfl, HF.out⟩
    · go_simp
      refine (pick2_any _ _ _ h1 (by omega) ha1 ha2).mono ?_
      rintro e w5 ⟨rfl, hw5⟩
      have hw5 := hw5.symm
      subst hw5
      rw [← HJ.out]
      go_wp2_with fail
      refine hK.out _ _ ?_ (fun hHeld => ?_)
      · exact hHeld
      clear hK K
      refine wpAnyH_ready (rs := [4]) (by kernel_rfl) (by simp) ?_
      refine AllReadyH.cons rfl (fun K hK => ?_) AllReadyH.nil
      go_simp
      refine hK.out _ _ ?_ (fun hHeld => ?_)
      · exact hHeld
      clear hK K
      refine wpAnyH_take (i := 13) (oi := { dst := some 54, op := Op.indexAddr 28 (Operand.tmp 45) (Operand.tmp 53), type := 0, pos := _, after := #[{ on := 4, ground := Ground.data }, { on := 12, ground := Ground.data }], guard := none }) (v := ?vr13) rfl (by kernel_rfl) (by kernel_rfl) (by kernel_rfl) (fun _ _ _ h => h) (Or.inl ⟨by rfl, ?hr13⟩) (by assumption) ?_
      case hr13 => (intro w hSw; (try dsimp only at hSw); go_simp; try with_reducible rfl)
      try simp only [Act.put, List.setIfInBounds_toArray, List.set_cons_zero, List.set_cons_succ]
      refine wpAnyH_ready (rs := [14]) (by kernel_rfl) (by simp) ?_
      refine AllReadyH.cons rfl (fun K hK => ?_) AllReadyH.nil
      go_simp
      refine hK.out _ _ ?_ (fun hHeld => ?_)
      · exact hHeld
      clear hK K
      refine wpAnyH_ready (rs := [16]) (by kernel_rfl) (by simp) ?_
      refine AllReadyH.cons rfl (fun K hK => ?_) AllReadyH.nil
      go_simp
      have hbx := fun (o : Obj) => (HA.out o).drew
      have hIx := fun (o : Obj) => HI.out.retag H (hbx o) (fun _ => .arg)
      have hPx := fun (o : Obj) => (HP.out.retag H (hbx o) (fun _ => .arg))
      refine (HASK.out _ _ j g cap pd pr d (hbx _) (hIx _) (hPx _)).mono ?_
      rintro e w6 ⟨rfl, hA6⟩
      have HF := hid (show Left3 R w w6 B ds bs is ps from ⟨hA6.left.1, ((hbx _).mono (by omega)).trans hA6.left.2⟩)
      have hbox := hA6.arg w.heap.size (by show w.heap.size < (w.alloc _).heap.size; simp) (tagUp_ge (Nat.le_refl _))
      clear hA6 hbx hIx hPx
      go_wp2_with fail
      refine hK.out _ _ ?_ (fun hHeld => ?_)
      · have cb : ∀ o, w6.cell? ⟨w.heap.size, o, none⟩ = _ := fun o => World.cell?_of_block (a := ⟨w.heap.size, o, none⟩) hbox
        refine ⟨(cb 0).trans ?_, (cb 1).trans ?_, (cb 2).trans ?_, (cb 3).trans ?_, (cb 4).trans ?_, (cb 5).trans ?_, (cb 6).trans ?_, (cb 7).trans ?_, (cb 8).trans ?_, (cb 9).trans ?_, (cb 10).trans ?_, (cb 11).trans ?_, (cb 12).trans ?_, (cb 13).trans ?_, (cb 14).trans ?_, (cb 15).trans ?_, (cb 16).trans ?_⟩ <;> simp [*]
      clear hK K hbox
      refine wpAnyH_take (i := 17) (oi := { dst := some 4, op := Op.assign (Operand.tmp 57), type := 4, pos := _, after := #[{ on := 16, ground := Ground.data }, { on := 16, ground := Ground.chain }, { on := 0, ground := Ground.phase }, { on := 1, ground := Ground.phase }, { on := 2, ground := Ground.phase }, { on := 3, ground := Ground.phase }, { on := 4, ground := Ground.phase }, { on := 5, ground := Ground.phase }, { on := 6, ground := Ground.phase }, { on := 7, ground := Ground.phase }, { on := 8, ground := Ground.phase }, { on := 9, ground := Ground.phase }, { on := 10, ground := Ground.phase }, { on := 11, ground := Ground.phase }, { on := 12, ground := Ground.phase }, { on := 13, ground := Ground.phase }, { on := 14, ground := Ground.phase }, { on := 15, ground := Ground.phase }, { on := 16, ground := Ground.phase }], guard := none }) (v := ?vr17) rfl (by kernel_rfl) (by kernel_rfl) (by kernel_rfl) (fun _ _ _ h => h) (Or.inl ⟨by rfl, ?hr17⟩) (by assumption) ?_
      case hr17 => (intro w hSw; (try dsimp only at hSw); go_simp; try with_reducible rfl)
      try simp only [Act.put, List.setIfInBounds_toArray, List.set_cons_zero, List.set_cons_succ]
      refine wpAnyH_done (by kernel_rfl) ?_ _
      go_wp2
      go_ret
      exact ⟨rfl, HF.out⟩

set_option maxRecDepth 4000 in
set_option maxHeartbeats 1000000 in
theorem step3_load {R : Rep} (H2 : ProgOk2 R) (kd oa ob od oe : Int) (c : Cfg) (la : Option Addr) (ln lc : Nat) (ss : ByteArray) (B : Nat) (w : World) (tag : Nat → Tag) (ds : List RDb) (bs is ps : List Value) (hk : kd = 7) (hI : HInv R w B tag ds bs is ps) (hn : ds.length ≤ 1000000000000) (hss : ss.size ≤ 140737488355328) :
    Calls Tryz.prog 11 #[.pointer (some ⟨B, 0, none⟩), opV kd oa ob od oe c la ln lc ss] w fun e w' => e = .returned (.bool true) ∧ Left3 R w w' B ds bs is ps := by
  subst hk
  have H := H2.base
  have HI := hid hI
  have hz := hI.lt
  have HA := hid (fun (o : Obj) => (Below.refl w.heap.size w).alloc (Nat.le_refl _) o)
  clear hI
  go_enter Tryz.func11, Tryz.ntmps11
  go_wp2_with fail
  refine (loaded_any H2 7 oa ob od oe c la ln lc ss B _ tag ds bs is ps (HI.out.below H (HA.out _)) hn hss).mono ?_
  rintro e w1 ⟨rfl, hl1⟩
  have HF := hid (show Left3 R w w1 B ds bs is ps from ⟨hl1.1, ((HA.out _).mono (by omega)).trans hl1.2⟩)
  clear hl1
  go_wp2
  go_ret
  exact ⟨rfl, HF.out⟩

/-- what is asked of a step's numbers and lists -/
structure SOk (w : World) (B : Nat) (oa ob : Int) (la : Option Addr) (ln lc : Nat) (ss : ByteArray) : Prop where
  list : LOk w B la ln lc
  a1 : -9223372036854775808 ≤ oa ∧ oa ≤ 9223372036854775807
  b1 : -9223372036854775808 ≤ ob ∧ ob ≤ 9223372036854775807
  str : ss.size ≤ 140737488355328
theorem SOk.below {w w' : World} {B : Nat} {oa ob : Int} {la : Option Addr} {ln lc : Nat} {ss : ByteArray} (h : SOk w B oa ob la ln lc ss) (hb : Below B w w') : SOk w' B oa ob la ln lc ss := ⟨h.list.below hb, h.a1, h.b1, h.str⟩

/-- every step -/
theorem step3_any {R : Rep} (H2 : ProgOk2 R) (HTY : ProgTy R) (kd oa ob od oe : Int) (c : Cfg) (la : Option Addr) (ln lc : Nat) (ss : ByteArray) (B : Nat) (w : World) (tag : Nat → Tag) (ds : List RDb) (bs is ps : List Value) (hk1 : 1 ≤ kd) (hk10 : kd ≤ 10) (hI : HInv R w B tag ds bs is ps) (hn : ds.length ≤ 1000000000000) (hbs : (bs.length + 4) * 24 ≤ 140737488355328) (his : (is.length + 4) * 24 ≤ 140737488355328) (hps : (ps.length + 4) * 24 ≤ 140737488355328) (hS : SOk w B oa ob la ln lc ss) :
    Calls Tryz.prog 11 #[.pointer (some ⟨B, 0, none⟩), opV kd oa ob od oe c la ln lc ss] w fun e w' => e = .returned (.bool true) ∧ Left3 R w w' B ds bs is ps := by
  have H := H2.base
  by_cases h7 : kd = 7
  · exact step3_load H2 kd oa ob od oe c la ln lc ss B w tag ds bs is ps h7 hI hn hS.str
  by_cases h2 : kd ≤ 2
  · exact (step2_12 H kd oa ob od oe c la ln lc ss B w tag ds bs is ps (by omega) hI hn).mono fun e w' ⟨a, b⟩ => ⟨a, b.three⟩
  · cases ds with
    | nil => exact (step2_none H kd oa ob od oe c la ln lc ss B w tag bs is ps (by omega) (by omega) h7 hI).mono fun e w' ⟨a, b⟩ => ⟨a, b.three⟩
    | cons x l =>
      refine step3_ask H kd oa ob od oe c la ln lc ss B w tag (x :: l) bs is ps (by omega) hk10 h7 hI (by simp) hn hS.a1.1 hS.a1.2 ?_
      intro w1 tag1 j g cap pd pr d hb1 hI1 hp1
      have h3 : kd = 3 ∨ kd = 4 ∨ kd = 5 ∨ kd = 6 ∨ kd = 8 ∨ kd = 9 ∨ kd = 10 := by omega
      rcases h3 with h3 | h3 | h3 | h3 | h3 | h3 | h3
      · exact (asked2_config H kd oa ob od oe c la ln lc ss B w1 tag1 _ bs is ps j g cap pd pr d h3 hI1 hp1).mono fun e w' ⟨a, b⟩ => ⟨a, b.three⟩
      · have hz := hI.lt
        have hL1 := hS.list.below (hb1.mono (by omega))
        obtain ⟨pts, hpts⟩ := hL1.row
        exact (asked2_upd H kd oa ob od oe c la ln lc ss pts B w1 tag1 _ bs is ps j g cap pd pr d h3 hI1 hp1 hpts hL1.nil hL1.low hL1.len).mono fun e w' ⟨a, b⟩ => ⟨a, b.three⟩
      · exact (asked2_fet H kd oa ob od oe c la ln lc ss B w1 tag1 _ bs is ps j g cap pd pr d h3 hI1 hp1 hps).mono fun e w' ⟨a, b⟩ => ⟨a, b.three⟩
      · exact asked3_save H2 kd oa ob od oe c la ln lc ss B w1 tag1 _ bs is ps j g cap pd pr d h3 hI1 hp1 hbs
      · exact asked3_again H2 HTY kd oa ob od oe c la ln lc ss B w1 tag1 _ bs is ps j g cap pd pr d h3 hI1 hp1 hbs hn
      · exact asked3_resize H2 kd oa ob od oe c la ln lc ss B w1 tag1 _ bs is ps j g cap pd pr d h3 hI1 hp1 hn
      · exact asked3_diff H2 kd oa ob od oe c la ln lc ss B w1 tag1 _ bs is ps j g cap pd pr d h3 hI1 hp1 his (by simp) hn hS.b1.1 hS.b1.2
end Go.Proofs.YthbbfjfekchdiaaGreat
