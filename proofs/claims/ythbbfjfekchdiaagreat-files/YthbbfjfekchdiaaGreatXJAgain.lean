import Derived.Test.YthbbfjfekchdiaaGreatXZDiff
import Derived.Test.YthbbfjfekchdiaaGreatXJOne
import Derived.Test.YthbbfjfekchdiaaGreatXRSave
import Derived.Test.YthbbfjfekchdiaaGreatXRLoad
import Derived.Test.YthbbfjfekchdiaaGreatXHPick
namespace Go.Proofs.YthbbfjfekchdiaaGreat
structure Eqv (d e : RDb) : Prop where
  c : e.c = d.c
  len : e.L.length = d.L.length
  p : ∀ i : Nat, ((d.L[i]?).getD []).Perm ((e.L[i]?).getD [])
theorem Eqv.refl (d : RDb) : Eqv d d := ⟨rfl, rfl, fun _ => List.Perm.refl _⟩
theorem set_getD {L : List (List Pt)} {i j : Nat} {l : List Pt} (hi : i < L.length) : ((L.set i l)[j]?).getD [] = if i = j then l else (L[j]?).getD [] := by
  by_cases e : i = j
  · subst e
    rw [if_pos rfl, List.getElem?_set_self hi]; rfl
  · rw [if_neg e, List.getElem?_set_ne e]
theorem Eqv.put {d e : RDb} (h : Eqv d e) {i : Nat} {l m : List Pt} (hi : i < d.L.length) (hp : l.Perm m) : Eqv (d.put i l) (e.put i m) := by
  refine ⟨h.c, by unfold RDb.put; simp [h.len], fun j => ?_⟩
  unfold RDb.put
  rw [set_getD hi, set_getD (by rw [h.len]; exact hi)]
  by_cases x : i = j
  · rw [if_pos x, if_pos x]; exact hp
  · rw [if_neg x, if_neg x]; exact h.p j
theorem saveL_len {d : RDb} (hd : d.Ok) (ha : d.Al) : (saveL d).length = 7 + (8 * d.c.many + slotLen d.c 0 d.c.many) := by
  obtain ⟨h1, h2⟩ := arcs_in hd ha
  unfold saveL
  rw [List.length_append, List.length_append, flat_len (arcBytes_len d.c), slotLen_of (arcsOf d) 0 h2, h1, List.length_range]
  rfl
end Go.Proofs.YthbbfjfekchdiaaGreat
namespace Go.Proofs.YthbbfjfekchdiaaGreat
open Go.RowKit
set_option linter.unusedSimpArgs false
attribute [local go_sem] Go.wp_at_zero Go.wp_at_succ
structure ProgTy (R : Rep) : Prop where
  typ : ∀ {w : World} {In : Nat → Prop} {p : Nat} {d : RDb}, R w In p d → R w (fun k => In k ∧ ∃ cs t, w.heap[k]? = some (.cells cs t) ∧ t ≠ 5 ∧ t ≠ 57) p d
theorem saveL_byteJ {d : RDb} (hd : d.Ok) : ByteL (saveL d) := by
  obtain ⟨⟨m1, m2⟩, ⟨f1, f2⟩, n1, _⟩ := d.c.ok_iff.1 hd.cfg
  have h4 := d.c.many_le
  intro b hb
  unfold saveL at hb
  rcases List.mem_append.1 hb with hb | hb
  · simp only [List.mem_cons, List.not_mem_nil, or_false] at hb
    rcases hb with rfl | rfl | rfl | rfl | rfl | rfl | rfl <;> omega
  · rcases List.mem_append.1 hb with hb | hb
    · obtain ⟨i, _, hi⟩ := List.mem_flatMap.1 hb
      unfold arcBytes at hi
      rcases List.mem_append.1 hi with hi | hi
      · exact numL_byte _ _ b hi
      · exact numL_byte _ _ b hi
    · unfold bytesOf at hb
      obtain ⟨L, _, hL⟩ := List.mem_flatMap.1 hb
      obtain ⟨o, _, ho⟩ := List.mem_flatMap.1 hL
      unfold slotBytes at ho
      rcases List.mem_append.1 ho with ho | ho
      · exact numL_byte _ _ b ho
      · exact numL_byte _ _ b ho
theorem saveL_neJ (d : RDb) : saveL d ≠ [] := by unfold saveL; simp
theorem saveL_short {d : RDb} (hd : d.Ok) (ha : d.Al) : (saveL d).length ≤ 4000 := by
  have h4 := d.c.many_le
  have hb := bdB_all (d.c.ok_iff.1 hd.cfg).2.2.2.2.1
  have key : ∀ (n i : Nat), i + n ≤ d.c.many → slotLen d.c i n ≤ 720 * n := by
    intro n
    induction n with
    | zero => intro i _; simp [slotLen]
    | succ n ih =>
      intro i hi
      have h1 := ih (i + 1) (by omega)
      have h2 := (hb i (by omega)).2.2.2
      rw [slotLen]
      omega
  have := key d.c.many 0 (by omega)
  rw [saveL_len hd ha]
  omega
theorem conv_rowJ {w : World} {v : Value} {l : List Int} (h : RowB w v l) (hl : l ≠ []) : (convert 57 9 v).run Tryz.prog w = .ok (.string (strOfNums l)) w := by
  obtain ⟨b, o, cap, rfl, h2, hrg⟩ := h.some' hl
  refine run_convert_bytes_arg (P := Tryz.prog) w 57 5 Tryz.underlying57 Tryz.underlying5 b o l.length cap l rfl (fun i hi => ?_) 9 Tryz.underlying9
  refine hrg i _ ?_
  unfold bs
  rw [List.getElem?_map, List.getElem?_eq_getElem hi]
  simp [List.getD, List.getElem?_eq_getElem hi]
theorem AskPost3.from {R : Rep} {w w0 w' : World} {B : Nat} {tag : Nat → Tag} {ds : List RDb} {bs is ps : List Value} (h : AskPost3 R w0 w' B tag ds bs is ps) (hb : Below w.heap.size w w0) (hB : B < w.heap.size) : AskPost3 R w w' B tag ds bs is ps :=
  ⟨⟨h.left.1, (hb.mono (by omega)).trans h.left.2⟩, fun k hk ht => (h.arg k (Nat.lt_of_lt_of_le hk hb.size) ht).trans (hb.block k hk)⟩
theorem ask_fetB {R : Rep} (H : ProgOk R) {w w1 w' : World} {B : Nat} {tag : Nat → Tag} {ds : List RDb} {bs is ps : List Value} (h : HInv R w B tag ds bs is ps) (hb1 : Below w.heap.size w w1) {v bv iv pv vl bv' v1 v2 v3 : Value} {n : Nat}
    (hB0 : w.heap[B]? = some (.cells #[v, bv, iv, pv] 35)) (tb : At tag bv .world)
    (K : KJ (fun x => #[v, x, iv, pv]) 5 57 B w.heap.size w1 w' vl bv bv' ((((bs ++ [vl]) ++ [v1]) ++ [v2]) ++ [v3]) [(vl, n), (v1, n + 1), (v2, n + 2), (v3, n + 3)] (mkB bs.length)) : AskPost3 R w w' B tag ds bs is ps := by
  obtain ⟨tag', _, _, a, b, c, f⟩ := h.fetB H hb1 (fun _ => .arg) hB0 K
  refine ⟨⟨⟨tag', ds, _, is, ps, a, by omega, by simp, by omega, by omega, c⟩, b⟩, fun k hk ht => f.block k hk ?_⟩
  rintro (rfl | hx)
  · rw [h.tagB] at ht; cases ht
  · rw [tb k hx] at ht; cases ht
set_option maxRecDepth 4000 in
set_option maxHeartbeats 2000000 in
theorem asked3_save {R : Rep} (H2 : ProgOk2 R) (kd oa ob od oe : Int) (c : Cfg) (la : Option Addr) (ln lc : Nat) (ss : ByteArray) (B : Nat) (w : World) (tag : Nat → Tag) (ds : List RDb) (bs is ps : List Value) (j g cap pd pr : Nat) (d : RDb) (hk : kd = 6) (hI : HInv R w B tag ds bs is ps) (hp : PairAt R w B tag ds j g cap pd pr d) (hbs : (bs.length + 4) * 24 ≤ 140737488355328) :
    Calls Tryz.prog 16 #[.pointer (some ⟨B, 0, none⟩), .agg #[.pointer (some ⟨pd, 0, none⟩), .pointer (some ⟨pr, 0, none⟩)], opV kd oa ob od oe c la ln lc ss] w fun e w' => e = .returned (.bool true) ∧ AskPost3 R w w' B tag ds bs is ps := by
  subst hk
  have H := H2.base
  have HI := hid hI
  obtain ⟨v, prs, bv, iv, pv, hB, hv, tv, hpp, k1, k2, k3⟩ := hI.mem
  have HB := hid hB
  have HK := hid k1
  have hz := hI.lt
  obtain ⟨P, Q, hT, _⟩ := hp.both
  have HT := hid hT
  have HAL := hid (H2.al hT.p)
  clear hI hp hB hv tv hpp k1 k2 k3 hT
  go_enter Tryz.func16, Tryz.ntmps16
  go_wp2_with fail
  have kb := fun (o1 o2 : Obj) => ((Below.refl w.heap.size w).alloc (Nat.le_refl _) o1).alloc (by simp) o2
  refine (H2.save pd d P _ (H.fr HT.out.p (Fr.below (In := fun _ => False) (kb _ _)) (fun _ _ x => x))).mono ?_
  rintro e w1 ⟨vx, rfl, hS⟩
  have HB1 := hid (show Below w.heap.size w w1 from (kb _ _).trans (hS.old.mono (by simp; omega)))
  have q1 : w1.cell? ⟨w.heap.size, 1, none⟩ = some (.pointer (some ⟨pr, 0, none⟩)) := cell_later hS.old (by simp)
  have hz2 : w.heap.size < w1.heap.size := World.block_lt_of_cell? _ _ q1
  have HSO := hid (show w1.ownsRow w.heap.size 5 1 vx (saveL d).length (Go.Proofs.YthbbfjfekchdiaaGreat.bs (saveL d)) from owns_base hS.own (by simp; omega))
  clear hS kb
  go_wp2_with fail
  refine (save_ref pr d Q _ (HT.out.r.later HB1.out) HT.out.ok).mono ?_
  rintro e w2 ⟨rfl, hb2⟩
  have hz12 := hb2.size
  have HB2 := hid (HB1.out.trans (hb2.mono (by omega)))
  have HSO2 := hid (owns_below HSO.out hb2)
  have hcv := conv_rowJ (RowB.of HSO2.out) (saveL_neJ d)
  obtain ⟨ax, cx, hvx⟩ := slice_form HSO2.out
  subst hvx
  have HSH := hid (saveL_short HAL.out.1 HAL.out.2)
  have hBr : B < w2.heap.size := by omega
  clear hb2 q1
  go_wp2_with fail
  clear hcv
  refine (keepsBytes_any B w.heap.size v iv pv bv (.slice ax (saveL d).length cx) bs _ (saveL d).length _ (blk_later HB2.out hz HB.out) (owns_below HK.out.row HB2.out) HSO2.out (by have := HSH.out; omega) hbs (by omega)).mono ?_
  rintro e w3 ⟨rfl, bv', v1, v2, v3, hK3⟩
  have HA := hid (ask_fetB H HI.out HB2.out HB.out HK.out.tagv hK3)
  clear hK3
  go_wp2
  go_ret
  exact ⟨by simp, HA.out⟩
end Go.Proofs.YthbbfjfekchdiaaGreat
namespace Go.Proofs.YthbbfjfekchdiaaGreat
open Go.RowKit
set_option linter.unusedSimpArgs false
attribute [local go_sem] Go.wp_at_zero Go.wp_at_succ
set_option maxRecDepth 4000 in
set_option maxHeartbeats 1000000 in
theorem clone_any (pr : Nat) (d : RDb) (Q : Nat → Prop) (w : World) (hr : RRep w Q pr d) (hd : d.Ok) (ha : d.Al) :
    Calls Tryz.prog 61 #[.pointer (some ⟨pr, 0, none⟩)] w fun e w' => ∃ p, e = .returned (.pointer (some ⟨p, 0, none⟩)) ∧ Below w.heap.size w w' ∧ RRep w' (fun k => w.heap.size ≤ k) p d.norm := by
  have HR := hid hr
  have HD := hid hd
  have HA := hid ha
  have HLD := hid (fun (w : World) => rload_any (strOfNums (saveL d)) w (by rw [strOfNums_size]; have := saveL_short hd ha; omega))
  rw [ofB_str (saveL_byteJ hd)] at HLD
  clear hr hd ha
  go_enter Tryz.func61, Tryz.ntmps61
  go_wp2_with fail
  refine (save_ref pr d Q _ HR.out HD.out).mono ?_
  rintro e w1 ⟨rfl, hb1⟩
  have HB1 := hid hb1
  have hz1 := hb1.size
  clear hb1
  go_wp2_with fail
  refine (HLD.out _).mono ?_
  rintro e w2 ⟨hb2, _, hL⟩
  obtain ⟨p, rfl, hr2⟩ := hL _ (load_save HD.out HA.out)
  have HF := hid (show Below w.heap.size w w2 ∧ RRep w2 (fun k => w.heap.size ≤ k) p d.norm from ⟨HB1.out.trans (hb2.mono hz1), hr2.weak fun k hk => by have hk' : w1.heap.size ≤ k := hk; omega⟩)
  clear hb2 hL hr2
  go_wp2
  go_ret
  exact ⟨p, rfl, HF.out⟩
set_option maxRecDepth 4000 in
set_option maxHeartbeats 2000000 in
theorem again_any {R : Rep} (H2 : ProgOk2 R) (HTY : ProgTy R) (B : Nat) (w : World) (tag : Nat → Tag) (ds : List RDb) (bs is ps : List Value) (j pd pr : Nat) (d : RDb) (hI : HInv R w B tag ds bs is ps) (hb : Both R w (fun k => tag k = .db j) pd pr d) (hbs : (bs.length + 4) * 24 ≤ 140737488355328) (hn : ds.length ≤ 1000000000000) :
    Calls Tryz.prog 34 #[.pointer (some ⟨B, 0, none⟩), .agg #[.pointer (some ⟨pd, 0, none⟩), .pointer (some ⟨pr, 0, none⟩)]] w fun e w' => e = .returned (.bool true) ∧ AskPost3 R w w' B tag ds bs is ps := by
  have H := H2.base
  have HI := hid hI
  obtain ⟨v, prs, bv, iv, pv, hB, hv, tv, hpp, k1, k2, k3⟩ := hI.mem
  have HB := hid hB
  have HK := hid k1
  have hz := hI.lt
  obtain ⟨P, Q, hT, hPQ⟩ := hb
  have HPQ := hid hPQ
  have HT := hid hT
  have HAL := hid (H2.al hT.p)
  have HNK := hid (norm_kept HAL.out.1 HAL.out.2)
  clear hI hB hv tv hpp k1 k2 k3 hT hPQ
  go_enter Tryz.func34, Tryz.ntmps34
  go_wp2_with fail
  have kb := fun (o1 : Obj) => (Below.refl w.heap.size w).alloc (Nat.le_refl _) o1
  refine (H2.save pd d P _ (H.fr HT.out.p (Fr.below (In := fun _ => False) (kb _)) (fun _ _ x => x))).mono ?_
  rintro e w1 ⟨vx, rfl, hS⟩
  have HB1 := hid (show Below w.heap.size w w1 from (kb _).trans (hS.old.mono (by simp)))
  have q1 : w1.cell? ⟨w.heap.size, 1, none⟩ = some (.pointer (some ⟨pr, 0, none⟩)) := cell_later hS.old (by simp)
  have hz1 : w.heap.size < w1.heap.size := World.block_lt_of_cell? _ _ q1
  have HS1 := hid (show w1.ownsRow (w.heap.size + 1) 5 1 vx (saveL d).length (Go.Proofs.YthbbfjfekchdiaaGreat.bs (saveL d)) from owns_base hS.own (by simp))
  have HSO := hid (owns_base HS1.out (show w.heap.size ≤ w.heap.size + 1 by omega))
  obtain ⟨ax, cx, hvx⟩ := slice_form HSO.out
  subst hvx
  clear hS kb
  go_wp2_with fail
  refine (H2.load _ (saveL d) w1 (RowB.of HSO.out) (saveL_byteJ HAL.out.1) ?_).mono ?_
  · intro a n c e hn hx
    cases e
    have h1 := (HSO.out.lt a.block rfl).2
    have hx' : w1.heap.size ≤ a.block := hx
    omega
  rintro e w2 ⟨hb2, _, hL⟩
  obtain ⟨pq, rfl, hR2⟩ := hL _ (load_save HAL.out.1 HAL.out.2)
  have hz2 := hb2.size
  have HB2 := hid (HB1.out.trans (hb2.mono (by omega)))
  have HR2 := hid (H.lim (HTY.typ hR2))
  have HSO2 := hid (owns_below HSO.out hb2)
  have q2 := cell_later hb2 q1
  have HSH := hid (saveL_short HAL.out.1 HAL.out.2)
  have hBr : B < w2.heap.size := by omega
  clear hb2 hL hR2 q1
  go_wp2_with fail
  refine (keepsBytes_any B w.heap.size v iv pv bv (.slice ax (saveL d).length cx) bs _ (saveL d).length _ (blk_later HB2.out hz HB.out) (owns_below HK.out.row HB2.out) HSO2.out (by have := HSH.out; omega) hbs (by omega)).mono ?_
  rintro e w3 ⟨rfl, bv', v1, v2, v3, hK3⟩
  have HK3 := hid hK3
  have HFE := hid (HI.out.fetB H HB2.out (fun _ => .db ds.length) HB.out hK3)
  have hz3 := hK3.fr.size
  have q3 : w3.cell? ⟨w.heap.size, 1, none⟩ = some (.pointer (some ⟨pr, 0, none⟩)) := by
    have hx : ¬ (w.heap.size = B ∨ bv.ownBlock = some w.heap.size ∨ (Value.slice ax (saveL d).length cx).ownBlock = some w.heap.size) := by
      rintro (x | x | x)
      · omega
      · have := (HK.out.row.lt _ x).2; omega
      · have := (HS1.out.lt _ x).1; omega
    exact (World.cell?_of_block (a := ⟨w.heap.size, 1, none⟩) (hK3.fr.block _ (by show w.heap.size < _; omega) hx)).trans q2
  obtain ⟨tag', ht1, ht2, hI3, hB3, hAp, hF3⟩ := HFE.out
  have HR3 := hid (show RRep w3 Q pr d from HT.out.r.fr hF3 fun k hk hx => by
    have h1 := HPQ.out k (.inr hk)
    rcases hx with rfl | hx
    · rw [HI.out.tagB] at h1; cases h1
    · rw [HK.out.tagv k hx] at h1; cases h1)
  have HTG := hid (And.intro ht1 ht2)
  have HI3 := hid hI3
  have HBB := hid hB3
  have HAP := hid hAp
  have HF3 := hid hF3
  have hzw3 : w.heap.size < w3.heap.size := by omega
  clear ht1 ht2 hI3 hB3 hAp hF3 hK3 q2
  go_wp2_with fail
  refine (clone_any pr d Q _ HR3.out HAL.out.1 HAL.out.2).mono ?_
  rintro e w4 ⟨pr', rfl, hb4, hr4⟩
  have hz4 := hb4.size
  obtain ⟨P2, hP2⟩ : ∃ P2 : Nat → Prop, P2 = fun k => (w1.heap.size ≤ k ∧ ∃ cs t, w2.heap[k]? = some (.cells cs t) ∧ t ≠ 5 ∧ t ≠ 57) ∧ k < w2.heap.size := ⟨_, rfl⟩
  rw [← hP2] at HR2
  have HP2 := hid (show ∀ k, P2 k → (w1.heap.size ≤ k ∧ ∃ cs t, w3.heap[k]? = some (.cells cs t) ∧ t ≠ 5 ∧ t ≠ 57) ∧ k < w2.heap.size ∧ ¬ (k = B ∨ bv.ownBlock = some k ∨ (Value.slice ax (saveL d).length cx).ownBlock = some k) from fun k hk => by
    rw [hP2] at hk
    obtain ⟨⟨h1, cs, t, h2, h3, h4⟩, h5⟩ := hk
    have hx : ¬ (k = B ∨ bv.ownBlock = some k ∨ (Value.slice ax (saveL d).length cx).ownBlock = some k) := by
      rintro (y | y | y)
      · omega
      · have := (HK.out.row.lt _ y).2; omega
      · obtain ⟨cs', hc'⟩ := owns_cells HSO2.out y
        rw [h2] at hc'
        cases hc'
        exact h3 rfl
    exact ⟨⟨h1, cs, t, (HK3.out.fr.block k h5 hx).trans h2, h3, h4⟩, h5, hx⟩)
  have HRN := hid (H.fr (H.fr HR2.out HK3.out.fr fun k hk => (HP2.out k hk).2.2) (Fr.below (In := fun _ => False) hb4) (fun _ _ x => x))
  have HBO := hid (show Both R w4 (fun k => P2 k ∨ w3.heap.size ≤ k) pq pr' d.norm from
    ⟨P2, fun k => w3.heap.size ≤ k ∧ k < w4.heap.size, ⟨HRN.out, hr4.lim, HNK.out.1, fun k hk hj => by have := (HP2.out k hk).2.1; have := hj.1; omega, fun k hk => by have := (HP2.out k hk).2.1; omega, fun k hk => hk.2⟩, fun k hk => by
      rcases hk with hk | hk
      · exact .inl hk
      · exact .inr hk.1⟩)
  have HI4 := hid (HI3.out.retag H hb4 (fun _ => .db ds.length))
  have H04 := hid (show ∀ k, (P2 k ∨ w3.heap.size ≤ k) → k < w4.heap.size → tagUp tag' w3.heap.size (fun _ => Tag.db ds.length) k = .db ds.length from fun k hk _ => by
    rcases hk with hk | hk
    · obtain ⟨⟨h1, cs, t, h2, h3, h4⟩, h5, _⟩ := HP2.out k hk
      rw [tagUp_lt (by omega)]
      refine HTG.out.2 k (by omega) (fun e => ?_) ?_
      · obtain ⟨cs', hc'⟩ := owns_cells HK3.out.own e
        rw [h2] at hc'
        cases hc'
        exact h4 rfl
      · rintro ⟨cs', hc'⟩
        rw [h2] at hc'
        cases hc'
        exact h3 rfl
    · exact tagUp_ge hk)
  have HB4 := hid hb4
  clear hb4 hr4 q3
  go_wp2_with fail
  refine (one3_yes H B pq pr' _ d.norm _ _ ds _ is ps HI4.out H04.out HBO.out hn).mono ?_
  rintro e w5 ⟨rfl, ⟨tag5, hI5⟩, hB5, hA5⟩
  have HA := hid (show AskPost3 R w w5 B tag ds bs is ps from ⟨⟨⟨tag5, _, _, is, ps, hI5, by simp, by simp, by omega, by omega, HAP.out⟩, HBB.out.trans ((HB4.out.mono (by omega)).trans hB5)⟩, fun k hk ht => by
    have h3 : k < w3.heap.size := by omega
    rw [hA5 k (by omega) (by rw [tagUp_lt h3, HTG.out.1 k hk]; exact ht), HB4.out.block k h3]
    refine HF3.out.block k hk ?_
    rintro (rfl | hx)
    · rw [HI.out.tagB] at ht; cases ht
    · rw [HK.out.tagv k hx] at ht; cases ht⟩)
  clear hI5 hB5 hA5
  go_wp2
  go_ret
  exact ⟨by simp, HA.out⟩
set_option maxRecDepth 4000 in
set_option maxHeartbeats 2000000 in
theorem asked3_again {R : Rep} (H2 : ProgOk2 R) (HTY : ProgTy R) (kd oa ob od oe : Int) (c : Cfg) (la : Option Addr) (ln lc : Nat) (ss : ByteArray) (B : Nat) (w : World) (tag : Nat → Tag) (ds : List RDb) (bs is ps : List Value) (j g cap pd pr : Nat) (d : RDb) (hk : kd = 8) (hI : HInv R w B tag ds bs is ps) (hp : PairAt R w B tag ds j g cap pd pr d) (hbs : (bs.length + 4) * 24 ≤ 140737488355328) (hn : ds.length ≤ 1000000000000) :
    Calls Tryz.prog 16 #[.pointer (some ⟨B, 0, none⟩), .agg #[.pointer (some ⟨pd, 0, none⟩), .pointer (some ⟨pr, 0, none⟩)], opV kd oa ob od oe c la ln lc ss] w fun e w' => e = .returned (.bool true) ∧ AskPost3 R w w' B tag ds bs is ps := by
  subst hk
  have H := H2.base
  have HI := hid hI
  have HP := hid hp
  have hz := hI.lt
  clear hI hp
  go_enter Tryz.func16, Tryz.ntmps16
  go_wp2_with fail
  have kb := fun (o1 o2 : Obj) => ((Below.refl w.heap.size w).alloc (Nat.le_refl _) o1).alloc (by simp) o2
  refine (again_any H2 HTY B _ tag ds bs is ps j pd pr d (HI.out.below H (kb _ _)) (HP.out.both.below H (kb _ _)) hbs hn).mono ?_
  rintro e w1 ⟨rfl, hA⟩
  have HA := hid (hA.from (kb _ _) hz)
  clear hA kb
  go_wp2
  go_ret
  exact ⟨rfl, HA.out⟩
end Go.Proofs.YthbbfjfekchdiaaGreat
