import Derived.Test.YthbbfjfekchdiaaGreatXRRead
import Derived.Test.YthbbfjfekchdiaaGreatXZDiff
import Derived.Test.YthbbfjfekchdiaaGreatXJAgain
import Derived.Test.YthbbfjfekchdiaaGreatXRResize
import Derived.Test.YthbbfjfekchdiaaGreatXHPick
import Derived.Deep.DeepCutAuto
namespace Go.Proofs.YthbbfjfekchdiaaGreat
open Go.RowKit
set_option linter.unusedSimpArgs false
attribute [local go_sem] Go.wp_at_zero Go.wp_at_succ
theorem slotP_same {a b : Option Pt} : a = b ↔ a.isSome = b.isSome ∧ a.getD (0, 0) = b.getD (0, 0) := by
  cases a <;> cases b <;> simp
set_option maxRecDepth 4000 in
set_option maxHeartbeats 4000000 in
theorem diff_ref (p q : Nat) (d o : RDb) (In Jn : Nat → Prop) (w : World) (hrep : RRep w In p d) (hrep2 : RRep w Jn q o) (hd : d.Ok) (ho : o.Ok) :
    Calls Tryz.prog 71 #[.pointer (some ⟨p, 0, none⟩), .pointer (some ⟨q, 0, none⟩)] w fun e w' => ∃ v, e = .returned (.tuple #[v, i64 (diffErr d o)]) ∧ DfI w w' v (diffN d o) := by
  have h4 := d.c.many_le
  have HREP := hid hrep
  have HREP2 := hid hrep2
  have HD := hid hd
  have HO := hid ho
  have HBD := hid (bdB_all (d.c.ok_iff.1 hd.cfg).2.2.2.2.1)
  obtain ⟨ip, gl, vs, hp, hg, hs, ig, hr⟩ := hrep
  obtain ⟨ip2, gl2, vs2, hp2, hg2, hs2, ig2, hr2⟩ := hrep2
  have HCC := hid (fun i (hi : i < 4) => cfg_cell hp i hi)
  have x10 : w.cell? ⟨p, 10, none⟩ = some (.slice (some ⟨gl, 0, none⟩) d.c.many d.c.many) := cell_of_blk hp 10
  have r0 : w.cell? ⟨p, 0, none⟩ = some (i64 d.c.s0) := cell_of_blk hp 0
  have r1 : w.cell? ⟨p, 1, none⟩ = some (i64 d.c.k0) := cell_of_blk hp 1
  have r2 : w.cell? ⟨p, 2, none⟩ = some (i64 d.c.s1) := cell_of_blk hp 2
  have r3 : w.cell? ⟨p, 3, none⟩ = some (i64 d.c.k1) := cell_of_blk hp 3
  have r4 : w.cell? ⟨p, 4, none⟩ = some (i64 d.c.s2) := cell_of_blk hp 4
  have r5 : w.cell? ⟨p, 5, none⟩ = some (i64 d.c.k2) := cell_of_blk hp 5
  have r6 : w.cell? ⟨p, 6, none⟩ = some (i64 d.c.s3) := cell_of_blk hp 6
  have r7 : w.cell? ⟨p, 7, none⟩ = some (i64 d.c.k3) := cell_of_blk hp 7
  have t0 : w.cell? ⟨q, 0, none⟩ = some (i64 o.c.s0) := cell_of_blk hp2 0
  have t1 : w.cell? ⟨q, 1, none⟩ = some (i64 o.c.k0) := cell_of_blk hp2 1
  have t2 : w.cell? ⟨q, 2, none⟩ = some (i64 o.c.s1) := cell_of_blk hp2 2
  have t3 : w.cell? ⟨q, 3, none⟩ = some (i64 o.c.k1) := cell_of_blk hp2 3
  have t4 : w.cell? ⟨q, 4, none⟩ = some (i64 o.c.s2) := cell_of_blk hp2 4
  have t5 : w.cell? ⟨q, 5, none⟩ = some (i64 o.c.k2) := cell_of_blk hp2 5
  have t6 : w.cell? ⟨q, 6, none⟩ = some (i64 o.c.s3) := cell_of_blk hp2 6
  have t7 : w.cell? ⟨q, 7, none⟩ = some (i64 o.c.k3) := cell_of_blk hp2 7
  have hpz : p < w.heap.size := blk_lt hp
  have hqz : q < w.heap.size := blk_lt hp2
  have HLEN := hid hd.len
  have HLEN2 := hid ho.len
  have heq := fun (w : World) => eq_arcs8 d.c.s0 d.c.k0 d.c.s1 d.c.k1 d.c.s2 d.c.k2 d.c.s3 d.c.k3 o.c.s0 o.c.k0 o.c.s1 o.c.k1 o.c.s2 o.c.k2 o.c.s3 o.c.k3 w
  obtain ⟨b, hb⟩ : ∃ b, b = decide (arcs8 d.c = arcs8 o.c) := ⟨_, rfl⟩
  rw [show decide ([d.c.s0, d.c.k0, d.c.s1, d.c.k1, d.c.s2, d.c.k2, d.c.s3, d.c.k3] = [o.c.s0, o.c.k0, o.c.s1, o.c.k1, o.c.s2, o.c.k2, o.c.s3, o.c.k3]) = b from hb.symm] at heq
  have HEB := hid hb
  clear hp hg hs ip ig hr hd ho hb hp2 hg2 hs2 ip2 ig2 hr2
  go_enter Tryz.func71, Tryz.ntmps71
  go_wp2_with fail
  go_quiet (fail)
  clear r0 r1 r2 r3 r4 r5 r6 r7 t0 t1 t2 t3 t4 t5 t6 t7 heq
  have HBW := hid (fun n => below_drewN (Below.refl w.heap.size w) n)
  cases b with
  | false =>
    have hne : ¬ arcs8 d.c = arcs8 o.c := of_decide_eq_false HEB.out.symm
    have HE := hid (show diffErr d o = 1 by unfold diffErr; rw [if_neg hne])
    have HN := hid (show diffN d o = [] by unfold diffN; rw [if_neg hne])
    clear hne
    go_wp2
    refine bodyPost_ret (v := .tuple #[.slice none 0 0, i64 1]) (by simp [results, Tryz.results71, go_sem]) rfl ?_
    exact ⟨_, by rw [HE.out], ⟨HBW.out _, by rw [HN.out]; exact World.ownsRow_nil _ _ _ _⟩⟩
  | true =>
    have heqa : arcs8 d.c = arcs8 o.c := of_decide_eq_true HEB.out.symm
    have HSA := hid (sameArcs_iff.1 heqa)
    have HE := hid (show diffErr d o = 0 by unfold diffErr; rw [if_pos heqa])
    have HND := hid (show diffN d o = diffA d o d.c.many 0 by unfold diffN; rw [if_pos heqa, diffA_all HSA.out])
    obtain ⟨n, hn⟩ : ∃ n, n = d.c.many := ⟨_, rfl⟩
    have HNM := hid hn
    have HNO := hid (show o.c.many = n by rw [hn]; exact (many_arcs HSA.out).symm)
    rw [← hn] at h4 x10 HND
    clear heqa hn
    go_wp2
    go_loopw [6, 7, 8] (fun v' m' i' wr => ∃ i N : Nat, i ≤ n ∧ i' = i64 i ∧ m' = i64 N ∧ N = lenA d.c i ∧ DfI w wr v' (diffA d o i 0)) (fun _ _ i' _ => n - (intOf i').toNat)
    case atStart => exact ⟨0, 0, by omega, rfl, rfl, rfl, HBW.out _, by rw [diffA_zero]; exact World.ownsRow_nil _ _ _ _⟩
    clear HBW
    case round =>
      obtain ⟨i, N, hi, rfl, rfl, hN, I⟩ := hrel
      have HI := hid I
      obtain ⟨a6, c6, rfl⟩ := I.form
      have z10 := cell_later I.old x10
      have hzp : p < wr.heap.size := World.block_lt_of_cell? _ _ z10
      clear I
      by_cases hlt : i < n
      case neg =>
        have ei : i = n := by omega
        subst ei
        rw [← HND.out] at HI
        go_wp2
        refine bodyPost_ret (v := .tuple #[.slice a6 (diffA d o i 0).length c6, i64 0]) (by simp [results, Tryz.results71, go_sem]) rfl ?_
        exact ⟨_, by rw [HE.out, HND.out], HI.out⟩
      have HLT := hid (show i < d.c.many by rw [← HNM.out]; exact hlt)
      obtain ⟨b1, b2, b3, b4⟩ := (show 1 ≤ d.c.s i ∧ d.c.s i ≤ 86400 ∧ 1 ≤ d.c.k i ∧ d.c.k i ≤ 60 from HBD.out i HLT.out)
      have HY1 := hid (HCC.out i (by omega)).2
      have HLL := hid (lenA_le (c := d.c) (fun j hj => by have := HBD.out j hj; omega) i (by rw [← HNM.out]; exact hi))
      have HLS := hid (lenA_succ d.c i)
      have HDN := hid (diffA_next HSA.out HLT.out)
      have HDS := hid (fun (j : Nat) (hj : j < (d.c.k i).toNat) => diffA_succ HSA.out (i := i) (j := j) HLT.out hj)
      have HDL := hid (fun (j : Nat) (hj : j ≤ (d.c.k i).toNat) => diffA_len (o := o) (i := i) (j := j) HLT.out hj)
      rw [← hN] at HLL HLS HDS HDL
      obtain ⟨l, hl⟩ : ∃ l, d.L[i]? = some l := ⟨_, List.getElem?_eq_getElem (by rw [HLEN.out]; exact HLT.out)⟩
      obtain ⟨l2, hl2⟩ : ∃ l, o.L[i]? = some l := ⟨_, List.getElem?_eq_getElem (by rw [HLEN2.out, HNO.out]; exact hlt)⟩
      rw [hl, hl2, Option.getD_some, Option.getD_some] at HDS
      have HL := hid hl
      have HL2 := hid hl2
      obtain ⟨kk, hkd⟩ : ∃ k, k = d.c.k i := ⟨_, rfl⟩
      rw [← hkd] at HY1 b3 b4 HDS HDL HDN HLS
      have HN4 : N ≤ 240 := by have := HLL.out; omega
      have i0 : (0 : Int) ≤ (i : Int) := by omega
      have i1 : (i : Int) < 4 := by omega
      have i2 : (i : Int) < (n : Int) := by omega
      clear hl hl2 hkd b1 b2 hN
      go_wp2
      go_loopw [6, 7, 9] (fun v' m' j' wx => ∃ j M : Nat, (j : Int) ≤ kk ∧ j' = i64 j ∧ m' = i64 M ∧ M = N + j ∧ DfI w wx v' (diffA d o i j)) (fun _ _ j' _ => kk.toNat - (intOf j').toNat)
      case atStart => exact ⟨0, N, by omega, rfl, rfl, rfl, HI.out⟩
      clear HI z10 hzp
      case round =>
        obtain ⟨j, M, hj, rfl, rfl, hM, I⟩ := hrel
        have HM := hid hM
        have HI := hid I
        obtain ⟨a6, c6, rfl⟩ := I.form
        have y1 := cell_later I.old HY1.out
        have hzp : p < wr.heap.size := World.block_lt_of_cell? _ _ y1
        have hM2 : M ≤ 300 := by omega
        clear I hM
        by_cases hlj : (j : Int) < kk
        case neg =>
          have ej : kk.toNat = j := by omega
          rw [ej] at HDN HLS
          have HI' := hid (show DfI w wr (.slice a6 (diffA d o i j).length c6) (diffA d o (i + 1) 0) by rw [HDN.out]; exact HI.out)
          go_wp2
          go_roundw
          case rel => first | exact ⟨i + 1, M, by omega, by go_num, rfl, by rw [HLS.out]; exact HM.out, HI'.out⟩ | ((repeat apply Exists.intro); exact ⟨⟨i + 1, M, by omega, by go_num, rfl, by rw [HLS.out]; exact HM.out, HI'.out⟩, rfl⟩)
          case measure => simp [intOf]; omega
        have HS := hid (slot_ref p i j d l In wr (HREP.out.later HI.out.old) HD.out HL.out)
        have HS2 := hid (fun (wz : World) (hz : Below wr.heap.size wr wz) => slot_ref q i j o l2 Jn wz (HREP2.out.later (HI.out.old.trans (hz.mono HI.out.old.size))) HO.out HL2.out)
        have HSS := hid (HDS.out j (by omega))
        rw [← HM.out] at HSS
        have HDLj := hid (HDL.out j (by omega))
        have hsame := @slotP_same (slotAt d.c i l j) (slotAt o.c i l2 j)
        unfold slotP at HS HS2
        obtain ⟨o1, ho1⟩ : ∃ x, x = slotAt d.c i l j := ⟨_, rfl⟩
        obtain ⟨o2, ho2⟩ : ∃ x, x = slotAt o.c i l2 j := ⟨_, rfl⟩
        rw [← ho1] at HS HSS hsame
        rw [← ho2] at HS2 HSS hsame
        obtain ⟨f1, hf1⟩ : ∃ x, x = o1.isSome := ⟨_, rfl⟩
        obtain ⟨f2, hf2⟩ : ∃ x, x = o2.isSome := ⟨_, rfl⟩
        obtain ⟨a1, ha1⟩ : ∃ x, x = (o1.getD (0, 0)).1 := ⟨_, rfl⟩
        obtain ⟨v1, hv1⟩ : ∃ x, x = (o1.getD (0, 0)).2 := ⟨_, rfl⟩
        obtain ⟨a2, ha2⟩ : ∃ x, x = (o2.getD (0, 0)).1 := ⟨_, rfl⟩
        obtain ⟨v2, hv2⟩ : ∃ x, x = (o2.getD (0, 0)).2 := ⟨_, rfl⟩
        have HSM := hid (show o1 = o2 ↔ f1 = f2 ∧ a1 = a2 ∧ v1 = v2 by
          rw [hsame, hf1, hf2, ha1, ha2, hv1, hv2]
          exact ⟨fun x => ⟨x.1, by rw [x.2], by rw [x.2]⟩, fun x => ⟨x.1, Prod.ext x.2.1 x.2.2⟩⟩)
        rw [← hf1, ← ha1, ← hv1] at HS
        rw [← hf2, ← ha2, ← hv2] at HS2
        clear hsame ho1 ho2 hf1 hf2 ha1 hv1 ha2 hv2
        go_wp2_with fail
        refine HS.out.mono ?_
        rintro e w1 ⟨rfl, hb1⟩
        have HB1 := hid hb1
        have hz1 := hb1.size
        clear hb1
        go_wp2_with fail
        refine (HS2.out _ (HB1.out.alloc hz1 _)).mono ?_
        rintro e w2 ⟨rfl, hb2⟩
        have c10 : w2.cell? ⟨w1.heap.size, 0, none⟩ = some (i64 a1) := cell_later hb2 (by simp)
        have c11 : w2.cell? ⟨w1.heap.size, 1, none⟩ = some (i64 v1) := cell_later hb2 (by simp)
        have HI2 := hid (HI.out.below ((HB1.out.alloc hz1 _).trans (hb2.mono (by simp; omega))))
        have hz2 : w1.heap.size < w2.heap.size := by have := hb2.size; simp at this; omega
        clear hb2 HB1
        obtain ⟨bt, hbt⟩ : ∃ b, b = decide (o1 = o2) := ⟨_, rfl⟩
        cases bt with
        | true =>
          have ho := of_decide_eq_true hbt.symm
          obtain ⟨rfl, rfl, rfl⟩ := HSM.out.1 ho
          rw [if_pos ho, List.append_nil] at HSS
          have HX := hid (show DfI w w2 (.slice a6 (diffA d o i j).length c6) (diffA d o i (j + 1)) by rw [HSS.out]; exact HI2.out)
          clear ho hbt
          go_wp2
          go_roundw
          case rel => first | exact ⟨j + 1, M + 1, by omega, by go_num, by go_num, by have := HM.out; omega, HX.out.below ((Below.refl _ w2).alloc (Nat.le_refl _) _)⟩ | ((repeat apply Exists.intro); exact ⟨⟨j + 1, M + 1, by omega, by go_num, by go_num, by have := HM.out; omega, HX.out.below ((Below.refl _ w2).alloc (Nat.le_refl _) _)⟩, rfl⟩)
          case measure => simp [intOf]; omega
        | false =>
          have ho := of_decide_eq_false hbt.symm
          have hcs : (f1 != f2) = true ∨ (f1 = f2 ∧ ¬ a1 = a2) ∨ (f1 = f2 ∧ a1 = a2 ∧ ¬ v1 = v2) := by
            by_cases x1 : f1 = f2
            · by_cases x2 : a1 = a2
              · by_cases x3 : v1 = v2
                · exact absurd (HSM.out.2 ⟨x1, x2, x3⟩) ho
                · exact .inr (.inr ⟨x1, x2, x3⟩)
              · exact .inr (.inl ⟨x1, x2⟩)
            · exact .inl (by simpa using x1)
          rw [if_neg ho] at HSS
          clear ho hbt HSM
          have hol : (diffA d o i j).length ≤ 1000 := by have := HDLj.out; omega
          obtain ⟨os, hos⟩ : ∃ os, os = diffA d o i j := ⟨_, rfl⟩
          obtain ⟨tg, htg⟩ : ∃ t, t = diffA d o i (j + 1) := ⟨_, rfl⟩
          rw [← hos] at hol HI2 HSS ⊢
          rw [← htg] at HSS
          have HTG := hid htg
          have hz3 := HI2.out.old.size
          clear hos htg
          have HFIN := hid (fun (w4 : World) (v' : Value) (O1 O2 : Obj) (hown : w4.ownsRow w.heap.size 3 1 v' tg.length (tg.map i64)) (hgrow : ((w2.alloc O1).alloc O2).grownBy w4 (Value.slice a6 os.length c6).ownBlock) => show DfI w w4 v' (diffA d o i (j + 1)) from by
            rw [← HTG.out]
            exact ⟨Below.grown ((HI2.out.old.alloc hz3 _).alloc (by simp; omega) _) hgrow (by simp; omega) (fun j hj => (HI2.out.own.lt j hj).1), hown⟩)
          have hcs2 : (f1 = true ∧ f2 = false) ∨ (f1 = false ∧ f2 = true) ∨ (f1 = f2 ∧ (a1 == a2) = false) ∨ (f1 = f2 ∧ a1 = a2 ∧ (v1 == v2) = false) := by
            rcases hcs with h | ⟨h1, h2⟩ | ⟨h1, h2, h3⟩
            · revert h
              cases f1 <;> cases f2 <;> simp
            · exact .inr (.inr (.inl ⟨h1, beq_eq_false_iff_ne.2 h2⟩))
            · exact .inr (.inr (.inr ⟨h1, h2, beq_eq_false_iff_ne.2 h3⟩))
          clear hcs
          rcases hcs2 with ⟨rfl, rfl⟩ | ⟨rfl, rfl⟩ | ⟨rfl, haa⟩ | ⟨rfl, rfl, hvv⟩
          all_goals (
            go_wp2_with (at_builtin; go_must (refine wpList_append_int _ (by rfl) (.tmp 68) (.tmp 70) (by rfl) w.heap.size _ _ os M (by rfl) (by rfl) tg HSS ((HI2.out.own.alloc _).alloc _) (w2.heap.size + 1) 1 (by rfl) (by simp) hol (by simp; omega) ?_))
            intro v' w4 hown hgrow
            have HI4 := hid (HFIN.out _ _ _ _ hown hgrow)
            clear hown hgrow
            go_wp2
            go_roundw
            case rel => first | exact ⟨j + 1, M + 1, by omega, by go_num, by go_num, by have := HM.out; omega, HI4.out⟩ | ((repeat apply Exists.intro); exact ⟨⟨j + 1, M + 1, by omega, by go_num, by go_num, by have := HM.out; omega, HI4.out⟩, rfl⟩)
            case measure => simp [intOf]; omega)
end Go.Proofs.YthbbfjfekchdiaaGreat
namespace Go.Proofs.YthbbfjfekchdiaaGreat
open Go.RowKit
set_option linter.unusedSimpArgs false
attribute [local go_sem] Go.wp_at_zero Go.wp_at_succ
set_option maxRecDepth 4000 in
set_option maxHeartbeats 4000000 in
theorem asked3_resize {R : Rep} (H2 : ProgOk2 R) (kd oa ob od oe : Int) (c : Cfg) (la : Option Addr) (ln lc : Nat) (ss : ByteArray) (B : Nat) (w : World) (tag : Nat → Tag) (ds : List RDb) (bs is ps : List Value) (j g cap pd pr : Nat) (d : RDb) (hk : kd = 9) (hI : HInv R w B tag ds bs is ps) (hp : PairAt R w B tag ds j g cap pd pr d) (hn : ds.length ≤ 1000000000000) :
    Calls Tryz.prog 16 #[.pointer (some ⟨B, 0, none⟩), .agg #[.pointer (some ⟨pd, 0, none⟩), .pointer (some ⟨pr, 0, none⟩)], opV kd oa ob od oe c la ln lc ss] w fun e w' => e = .returned (.bool true) ∧ AskPost3 R w w' B tag ds bs is ps := by
  subst hk
  have H := H2.base
  have HI := hid hI
  have hz := hI.lt
  obtain ⟨P, Q, hT, _⟩ := hp.both
  have HT := hid hT
  have HSAME := hid (fun (w' : World) (hb : Below w.heap.size w w') => (show AskPost3 R w w' B tag ds bs is ps from (ask_below H hI hp hb).three))
  clear hI hp hT
  go_enter Tryz.func16, Tryz.ntmps16
  go_wp2_with fail
  generalize hwX : (w.alloc (.cells #[.pointer (some ⟨pd, 0, none⟩), .pointer (some ⟨pr, 0, none⟩)] 53)).alloc (.cells #[i64 9, i64 oa, i64 ob, i64 od, i64 oe, i64 c.s0, i64 c.k0, i64 c.s1, i64 c.k1, i64 c.s2, i64 c.k2, i64 c.s3, i64 c.k3, i64 c.m, i64 c.f, .slice la ln lc, .string ss] 43) = wX
  have HBX := hid (show Below w.heap.size w wX by rw [← hwX]; exact ((Below.refl w.heap.size w).alloc (Nat.le_refl _) _).alloc (by simp) _)
  have HPX := hid (show wX.heap[w.heap.size]? = some (.cells #[.pointer (some ⟨pd, 0, none⟩), .pointer (some ⟨pr, 0, none⟩)] 53) by rw [← hwX]; exact blk_alloc (blk_new w _))
  have HOX := hid (show wX.heap[w.heap.size + 1]? = some (.cells #[i64 9, i64 oa, i64 ob, i64 od, i64 oe, i64 c.s0, i64 c.k0, i64 c.s1, i64 c.k1, i64 c.s2, i64 c.k2, i64 c.s3, i64 c.k3, i64 c.m, i64 c.f, .slice la ln lc, .string ss] 43) by
    rw [← hwX]
    have := blk_new (w.alloc (.cells #[.pointer (some ⟨pd, 0, none⟩), .pointer (some ⟨pr, 0, none⟩)] 53)) (.cells #[i64 9, i64 oa, i64 ob, i64 od, i64 oe, i64 c.s0, i64 c.k0, i64 c.s1, i64 c.k1, i64 c.s2, i64 c.k2, i64 c.s3, i64 c.k3, i64 c.m, i64 c.f, .slice la ln lc, .string ss] 43)
    rwa [show (w.alloc (.cells #[.pointer (some ⟨pd, 0, none⟩), .pointer (some ⟨pr, 0, none⟩)] 53)).heap.size = w.heap.size + 1 by simp] at this)
  have hzX : w.heap.size + 1 < wX.heap.size := blk_lt HOX.out
  clear hwX
  refine (H2.resize pd ob c d P _ (H.fr HT.out.p (Fr.below (In := fun _ => False) HBX.out) (fun _ _ x => x))).mono ?_
  rintro e w1 ⟨hb1, hn1, hy1⟩
  have HB1 := hid hb1
  have hz1 := hb1.size
  have HR := hid (fun (w : World) (h : RRep w Q pr d) => resize_ref pr ob c d Q w h HT.out.ok)
  have p1 : w1.cell? ⟨w.heap.size, 1, none⟩ = some (.pointer (some ⟨pr, 0, none⟩)) := cell_of_blk (blk_later hb1 (by omega) HPX.out) 1
  have o2 : w1.cell? ⟨w.heap.size + 1, 2, none⟩ = some (i64 ob) := cell_of_blk (blk_later hb1 hzX HOX.out) 2
  have d0 : w1.cell? ⟨w.heap.size + 1, 5, none⟩ = some (i64 c.s0) := cell_of_blk (blk_later hb1 hzX HOX.out) 5
  have d1 : w1.cell? ⟨w.heap.size + 1, 6, none⟩ = some (i64 c.k0) := cell_of_blk (blk_later hb1 hzX HOX.out) 6
  have d2 : w1.cell? ⟨w.heap.size + 1, 7, none⟩ = some (i64 c.s1) := cell_of_blk (blk_later hb1 hzX HOX.out) 7
  have d3 : w1.cell? ⟨w.heap.size + 1, 8, none⟩ = some (i64 c.k1) := cell_of_blk (blk_later hb1 hzX HOX.out) 8
  have d4 : w1.cell? ⟨w.heap.size + 1, 9, none⟩ = some (i64 c.s2) := cell_of_blk (blk_later hb1 hzX HOX.out) 9
  have d5 : w1.cell? ⟨w.heap.size + 1, 10, none⟩ = some (i64 c.k2) := cell_of_blk (blk_later hb1 hzX HOX.out) 10
  have d6 : w1.cell? ⟨w.heap.size + 1, 11, none⟩ = some (i64 c.s3) := cell_of_blk (blk_later hb1 hzX HOX.out) 11
  have d7 : w1.cell? ⟨w.heap.size + 1, 12, none⟩ = some (i64 c.k3) := cell_of_blk (blk_later hb1 hzX HOX.out) 12
  have d8 : w1.cell? ⟨w.heap.size + 1, 13, none⟩ = some (i64 c.m) := cell_of_blk (blk_later hb1 hzX HOX.out) 13
  have d9 : w1.cell? ⟨w.heap.size + 1, 14, none⟩ = some (i64 c.f) := cell_of_blk (blk_later hb1 hzX HOX.out) 14
  have hzw1 : w.heap.size < w1.heap.size := by omega
  have hzo1 : w.heap.size + 1 < w1.heap.size := by omega
  have HBW1 := hid (HBX.out.trans (hb1.mono (by omega)))
  clear hb1
  by_cases he : resizeErr ob c = 0
  case neg =>
    have e1 := hn1 he
    subst e1
    have HE := hid he
    obtain ⟨er, her⟩ : ∃ x, x = resizeErr ob c := ⟨_, rfl⟩
    rw [← her]
    have HER := hid her
    clear hn1 hy1 he her
    go_wp2_with fail
    clear p1 o2 d0 d1 d2 d3 d4 d5 d6 d7 d8 d9
    refine (HR.out _ (HT.out.r.later HBW1.out)).mono ?_
    rintro e w2 ⟨hb2, hn2, _⟩
    have e2 := hn2 HE.out
    subst e2
    rw [← HER.out]
    have HB2 := hid (HBW1.out.trans (hb2.mono (by omega)))
    clear hb2 hn2
    go_wp2_with fail
    refine (one2_no _ _).mono ?_
    rintro e w3 ⟨rfl, hb3⟩
    have HF := hid (HSAME.out w3 (HB2.out.trans (hb3.mono HB2.out.size)))
    clear hb3
    go_wp2
    go_ret
    exact ⟨by simp, HF.out⟩
  case pos =>
    obtain ⟨pq, e1, hRq⟩ := hy1 he
    subst e1
    have HE := hid he
    have HRQ := hid (H.lim hRq)
    have HDK := hid (H2.al hRq).1
    clear hn1 hy1 he hRq
    go_wp2_with fail
    clear p1 o2 d0 d1 d2 d3 d4 d5 d6 d7 d8 d9
    refine (HR.out _ (HT.out.r.later HBW1.out)).mono ?_
    rintro e w2 ⟨hb2, _, hy2⟩
    obtain ⟨pr', e2, hRr⟩ := hy2 HE.out
    subst e2
    have hz2 := hb2.size
    have HB2 := hid (HBW1.out.trans (hb2.mono (by omega)))
    have HI2 := hid (HI.out.retag H HB2.out (fun k => if k < wX.heap.size then .arg else .db ds.length))
    have HBO := hid (show Both R w2 (fun k => wX.heap.size ≤ k) pq pr' (resizeR d ob c) from
      ⟨fun k => wX.heap.size ≤ k ∧ k < w1.heap.size, fun k => w1.heap.size ≤ k ∧ k < w2.heap.size, ⟨H.fr HRQ.out (Fr.below (In := fun _ => False) hb2) (fun _ _ x => x), hRr.lim, HDK.out, fun k hk hj => by have h1 := hk.2; have h2 := hj.1; omega, fun k hk => by have h1 := hk.2; omega, fun k hk => hk.2⟩, fun k hk => by
        rcases hk with hk | hk
        · exact hk.1
        · have := hk.1; show wX.heap.size ≤ k; omega⟩)
    have H04 := hid (show ∀ k, wX.heap.size ≤ k → k < w2.heap.size → tagUp tag w.heap.size (fun k => if k < wX.heap.size then Tag.arg else Tag.db ds.length) k = .db ds.length from fun k hk _ => (tagUp_ge (by omega)).trans (if_neg (by omega)))
    clear hb2 hy2 hRr
    go_wp2_with fail
    refine (one3_yes H B pq pr' _ (resizeR d ob c) _ _ ds bs is ps HI2.out H04.out HBO.out hn).mono ?_
    rintro e w5 ⟨rfl, ⟨tag5, hI5⟩, hB5, hA5⟩
    have HF := hid (show AskPost3 R w w5 B tag ds bs is ps from ⟨⟨⟨tag5, _, bs, is, ps, hI5, by simp, by omega, by omega, by omega, id⟩, (HB2.out.mono (by omega)).trans hB5⟩, fun k hk ht => by
      have := HB2.out.size
      rw [hA5 k (by omega) (by rw [tagUp_lt hk]; exact ht), HB2.out.block k hk]⟩)
    clear hI5 hB5 hA5
    go_wp2
    go_ret
    exact ⟨by simp, HF.out⟩
end Go.Proofs.YthbbfjfekchdiaaGreat
namespace Go.Proofs.YthbbfjfekchdiaaGreat
open Go.RowKit
set_option linter.unusedSimpArgs false
attribute [local go_sem] Go.wp_at_zero Go.wp_at_succ
theorem int_atJ {w : World} {base : Nat} {v : Value} {l : List Int} (h : w.ownsRow base 3 1 v l.length (l.map i64)) {i : Nat} {x : Int} (hx : l[i]? = some x) : ∃ g c, v = .slice (some ⟨g, 0, none⟩) l.length c ∧ g < w.heap.size ∧ w.cell? ⟨g, i, none⟩ = some (i64 x) := by
  have hi : i < l.length := by obtain ⟨y, _⟩ := List.getElem?_eq_some_iff.1 hx; exact y
  obtain ⟨_, ⟨h, h0⟩ | ⟨g, cap, cur, hv, _, hblk, _, _, hsz, ht⟩⟩ := h
  · omega
  refine ⟨g, cap, hv, blk_lt hblk, ?_⟩
  have e : (l.map i64)[i]? = some (i64 x) := by rw [List.getElem?_map, hx]; rfl
  rw [cell_of_blk hblk, ← e, ← ht, List.getElem?_take_of_lt (by omega)]
  simp
theorem diffN_len {d o : RDb} (hd : d.Ok) : (diffN d o).length ≤ 1000 := by
  unfold diffN
  split
  · unfold diffL
    have h1 := diffFrom_len (allSlots d) (allSlots o) 0
    have h2 : (allSlots d).length ≤ 240 := by
      have h4 := d.c.many_le
      have hb := bdB_all (d.c.ok_iff.1 hd.cfg).2.2.2.2.1
      have h1 := (d.c.ok_iff.1 hd.cfg).2.2.1
      obtain ⟨m, hm⟩ : ∃ m, d.c.many = m + 1 := ⟨d.c.many - 1, by omega⟩
      have e := dA_all d
      rw [hm, dA_next (by omega)] at e
      rw [← e, dA_len (by omega) (Nat.le_refl _)]
      have h5 := (hb m (by omega)).2.2.2
      have h6 := lenA_le (c := d.c) (fun j hj => by have := (hb j hj).2.2.2; omega) m (by omega)
      omega
    omega
  · simp
set_option maxRecDepth 4000 in
set_option maxHeartbeats 4000000 in
theorem differs_any {R : Rep} (H2 : ProgOk2 R) (B : Nat) (c0 c1 c2 pv : Value) (es : List Value) (pd pr qd qr : Nat) (d o : RDb) (In Jn : Nat → Prop) (w : World) (hb : Both R w In pd pr d) (hb2 : Both R w Jn qd qr o)
    (hB : w.heap[B]? = some (.cells #[c0, c1, pv, c2] 35)) (hpv : w.ownsRow (B + 1) 24 1 pv es.length es) (hes : (es.length + 4) * 24 ≤ 140737488355328) :
    Calls Tryz.prog 37 #[.pointer (some ⟨B, 0, none⟩), .agg #[.pointer (some ⟨pd, 0, none⟩), .pointer (some ⟨pr, 0, none⟩)], .agg #[.pointer (some ⟨qd, 0, none⟩), .pointer (some ⟨qr, 0, none⟩)]] w fun e w' => e = .returned (.bool true) ∧ ∃ w1 vl n pv' v1 v2 v3, Below w.heap.size w w1 ∧ KJ (fun x => #[c0, c1, x, c2]) 3 24 B w.heap.size w1 w' vl pv pv' ((((es ++ [vl]) ++ [v1]) ++ [v2]) ++ [v3]) [(vl, n), (v1, n + 1), (v2, n + 2), (v3, n + 3)] (mkI es.length) := by
  have H := H2.base
  have HB := hid hB
  have HPV := hid hpv
  have hBz : B < w.heap.size := blk_lt hB
  obtain ⟨P, Q, hT, _⟩ := hb
  obtain ⟨P2, Q2, hT2, _⟩ := hb2
  have HT := hid hT
  have HT2 := hid hT2
  have HLN := hid (diffN_len (o := o) (H2.al hT.p).1)
  clear hB hpv hT hT2
  go_enter Tryz.func37, Tryz.ntmps37
  go_wp2_with fail
  have kb := fun (o1 o2 : Obj) => ((Below.refl w.heap.size w).alloc (Nat.le_refl _) o1).alloc (by simp) o2
  refine (H2.diff pd qd d o P P2 _ (H.fr HT.out.p (Fr.below (In := fun _ => False) (kb _ _)) (fun _ _ x => x)) (H.fr HT2.out.p (Fr.below (In := fun _ => False) (kb _ _)) (fun _ _ x => x))).mono ?_
  rintro e w1 ⟨vl, rfl, hD1, hnil1⟩
  have HB1 := hid (show Below w.heap.size w w1 from (kb _ _).trans (hD1.old.mono (by simp; omega)))
  have HO1 := hid (show w1.ownsRow w.heap.size 3 1 vl (diffN d o).length ((diffN d o).map i64) from owns_base hD1.own (by simp; omega))
  have q1 : w1.cell? ⟨w.heap.size, 1, none⟩ = some (.pointer (some ⟨pr, 0, none⟩)) := cell_later hD1.old (by simp)
  have q2 : w1.cell? ⟨w.heap.size + 1, 1, none⟩ = some (.pointer (some ⟨qr, 0, none⟩)) := by
    have hx := blk_new (w.alloc (.cells #[.pointer (some ⟨pd, 0, none⟩), .pointer (some ⟨pr, 0, none⟩)] 53)) (.cells #[.pointer (some ⟨qd, 0, none⟩), .pointer (some ⟨qr, 0, none⟩)] 53)
    rw [show (w.alloc (.cells #[.pointer (some ⟨pd, 0, none⟩), .pointer (some ⟨pr, 0, none⟩)] 53)).heap.size = w.heap.size + 1 by simp] at hx
    exact cell_of_blk (blk_later hD1.old (by simp) hx) 1
  have hz1 : w.heap.size + 1 < w1.heap.size := World.block_lt_of_cell? _ _ q2
  have hz1' : w.heap.size < w1.heap.size := by omega
  have HRD := hid (fun (w : World) (h1 : RRep w Q pr d) (h2 : RRep w Q2 qr o) => diff_ref pr qr d o Q Q2 w h1 h2 HT.out.ok HT2.out.ok)
  obtain ⟨er, her⟩ : ∃ x, x = diffErr d o := ⟨_, rfl⟩
  obtain ⟨nn, hnn⟩ : ∃ x, x = diffN d o := ⟨_, rfl⟩
  rw [← her] at HRD hnil1 ⊢
  rw [← hnn] at HRD HO1 HLN
  have hln := HLN.out
  obtain ⟨a1, d1, hv1⟩ := slice_form HO1.out
  subst hv1
  have HNIL := hid (show er ≠ 0 → a1 = none from fun he => by have := hnil1 he; simp only [Value.slice.injEq] at this; exact this.1)
  clear hD1 hnil1 kb her hnn
  go_wp2_with fail
  refine (HRD.out _ (HT.out.r.later HB1.out) (HT2.out.r.later HB1.out)).mono ?_
  rintro e w2 ⟨vm, rfl, hD2⟩
  have HB12 := hid hD2.old
  have hz12 := hD2.old.size
  have HO12 := hid (owns_below HO1.out hD2.old)
  have HO2 := hid hD2.own
  obtain ⟨a2, d2, hv2⟩ := slice_form HO2.out
  subst hv2
  have HB2 := hid (HB1.out.trans (hD2.old.mono (by omega)))
  clear hD2 q1 q2
  go_upto_region 3 with fail
  go_cut [11] (fun z wx => z = .bool true ∧ wx = w2)
  case first =>
    have hnil := fun (w : World) => run_eql_slice_nil0 (P := Tryz.prog) w 24 3 a1 nn.length d1 Tryz.underlying24
    by_cases he : er = 0
    · subst he
      cases a1 with
      | none =>
        go_wp2_with fail
        go_meet
        exact ⟨rfl, rfl⟩
      | some ad =>
        go_wp2_with fail
        go_meet
        exact ⟨rfl, rfl⟩
    · have ha := HNIL.out he
      subst ha
      go_wp2_with fail
      go_meet
      exact ⟨rfl, rfl⟩
  case rest =>
    obtain ⟨rfl, hwc⟩ := hcut
    have hwc' := hwc.symm
    subst hwc'
    clear hwc
    go_wp2
    go_loopw [11, 12] (fun ok i' wr => ∃ i : Nat, i ≤ nn.length ∧ i' = i64 i ∧ ok = .bool true ∧ Below w2.heap.size w2 wr) (fun _ i' _ => nn.length - (intOf i').toNat)
    case atStart => exact ⟨0, by omega, rfl, rfl, Below.refl _ _⟩
    case round =>
      obtain ⟨i, hi, rfl, rfl, hbx⟩ := hrel
      have HBX := hid hbx
      have hzx := hbx.size
      clear hbx
      by_cases hlt : i < nn.length
      · obtain ⟨q, hq⟩ : ∃ q, nn[i]? = some q := ⟨_, List.getElem?_eq_getElem hlt⟩
        obtain ⟨b1, e1, hv1, hb1z, x0⟩ := int_atJ (owns_below HO12.out HBX.out) hq
        obtain ⟨b2, e2, hv2, hb2z, y0⟩ := int_atJ (owns_below HO2.out HBX.out) hq
        simp only [Value.slice.injEq, true_and] at hv1 hv2
        obtain ⟨rfl, rfl⟩ := hv1
        obtain ⟨rfl, rfl⟩ := hv2
        have i0 : (0 : Int) ≤ (i : Int) := by omega
        have i1 : (i : Int) < (nn.length : Int) := by omega
        clear hq
        go_wp2_with fail
        go_quiet (fail)
        go_wp2
        go_roundw
        case rel => first | exact ⟨i + 1, by omega, by go_num, rfl, below_drewN HBX.out _⟩ | ((repeat apply Exists.intro); exact ⟨⟨i + 1, by omega, by go_num, rfl, below_drewN HBX.out _⟩, rfl⟩)
        case measure => simp [intOf]; omega
      · have HBR := hid (show Below w.heap.size w wr from HB2.out.trans (HBX.out.mono (by omega)))
        have hBr : B < wr.heap.size := by omega
        go_wp2_with fail
        refine (keepsInts_any B w.heap.size c0 c1 c2 pv (.slice a1 nn.length d1) es _ nn.length _ (blk_later HBR.out hBz HB.out) (owns_below HPV.out HBR.out) (owns_below HO12.out HBX.out) (by omega) hes (by omega)).mono ?_
        rintro e w4 ⟨rfl, pv', v1, v2, v3, hK4⟩
        have HK4 := hid hK4
        clear hK4
        go_wp2
        go_ret
        exact ⟨rfl, wr, _, _, pv', v1, v2, v3, HBR.out, HK4.out⟩
end Go.Proofs.YthbbfjfekchdiaaGreat
