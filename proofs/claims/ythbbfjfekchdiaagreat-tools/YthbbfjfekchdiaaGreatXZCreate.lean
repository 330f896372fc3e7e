import Derived.Test.YthbbfjfekchdiaaGreatXTk
import Derived.Test.YthbbfjfekchdiaaGreatXPNum
import Derived.Test.YthbbfjfekchdiaaGreatXZFirst
namespace Go.Proofs.YthbbfjfekchdiaaGreat
open Go.RowKit
set_option linter.unusedSimpArgs false
attribute [local go_sem] Go.wp_at_zero Go.wp_at_succ
theorem made_slots (k : Nat) : madeCells #[.bool false, .int .i64 0, .int .i64 0] (k * 3) = slotBlk (List.replicate k none) := by
  apply Array.ext_getElem?
  intro j
  have hR : (slotBlk (List.replicate k none))[j]? = ((List.replicate k (none : Option Pt)).flatMap slotCells)[j]? := by unfold slotBlk; simp
  rw [hR]
  by_cases hj : j < k * 3
  · have e : j = j / 3 * 3 + j % 3 := by omega
    have hn : (List.replicate k (none : Option Pt))[j / 3]? = some none := by rw [List.getElem?_replicate, if_pos (by omega)]
    have h1 := slots_at hn (j % 3) (by omega)
    rw [← e] at h1
    rw [h1]
    unfold madeCells
    rw [Array.getElem?_map, Array.getElem?_range, if_pos hj, Option.map_some]
    have h3 : j % 3 = 0 ∨ j % 3 = 1 ∨ j % 3 = 2 := by omega
    have e3 : #[Value.bool false, Value.int .i64 0, Value.int .i64 0].size = 3 := rfl
    rw [e3]
    rcases h3 with h | h | h <;> rw [h] <;> rfl
  · rw [List.getElem?_eq_none (l := (List.replicate k (none : Option Pt)).flatMap slotCells) (by rw [slots_len, List.length_replicate]; omega), Array.getElem?_eq_none (by rw [size_madeCells]; omega)]
theorem slotsL_nil (c : Cfg) (i k : Nat) : slotsL c i [] k = List.replicate k none := by
  unfold slotsL slotAt
  rw [List.eq_replicate_iff]
  refine ⟨by simp, fun b hb => ?_⟩
  obtain ⟨j, _, hj⟩ := List.mem_map.1 hb
  rw [← hj]
  rfl
def SlotNew (w w' : World) (ad : Option Addr) (k : Nat) : Prop := ∃ g, ad = some ⟨g, 0, none⟩ ∧ w.heap.size ≤ g ∧ w'.heap[g]? = some (.cells (slotBlk (List.replicate k none)) 116)
set_option maxHeartbeats 1000000 in
theorem newZ_any (s k : Int) (w : World) (h0 : 1 ≤ k) (h1 : k ≤ 60) :
    Calls Tryz.prog 44 #[.agg #[i64 s, i64 k]] w fun e w' => ∃ ad, e = .returned (.agg #[i64 s, .slice ad k.toNat k.toNat]) ∧ Below w.heap.size w w' ∧ SlotNew w w' ad k.toNat := by
  obtain ⟨i0, hi, hz0, hz1, hz2⟩ := info_parts Tryz.infoSlot
  have hmk := fun (w : World) => run_makeSlice (P := Tryz.prog) w 92 116 i0 _ Tryz.underlying92 hi hz0 .i64 .i64 k k (by omega) (by omega) (by rw [hz1]; omega) (by rw [hz2]; omega) (by omega)
  have HZ1 := hid hz1
  go_enter Tryz.func44, Tryz.ntmps44
  go_wp2
  go_region
  all_goals go_wp2
  all_goals
    refine bodyPost_ret (v := .agg #[i64 s, .slice (some ⟨w.heap.size + 1 + 1, 0, none⟩) k.toNat k.toNat]) (by simp [results, Tryz.results44, go_sem]) rfl ⟨_, rfl, ?_, _, rfl, by omega, ?_⟩
    · exact ((((Below.refl _ _).alloc (Nat.le_refl _) _).alloc (by simp) _).alloc (by simp; omega) _).drew
    · have h := blk_new ((w.alloc (.cells #[i64 s, i64 k] 37)).alloc (.cells #[.int .i64 s, .slice (some ⟨w.heap.size + 1 + 1, 0, none⟩) k.toNat k.toNat] 94)) (.cells (madeCells #[.bool false, .int .i64 0, .int .i64 0] (k.toNat * 3)) 116)
      have e : ((w.alloc (.cells #[i64 s, i64 k] 37)).alloc (.cells #[.int .i64 s, .slice (some ⟨w.heap.size + 1 + 1, 0, none⟩) k.toNat k.toNat] 94)).heap.size = w.heap.size + 1 + 1 := by simp
      rw [e, made_slots] at h
      rw [made_slots]
      exact h
structure CIZ (c : Cfg) (D : Nat) (w1 wr : World) (k : Nat) (v : Value) (xs : List Value) : Prop where
  ci : CI c D w1 wr k v xs
  sl : ∃ gs : List Nat, gs.length = k ∧ gs.Nodup ∧ ∀ (i g : Nat), gs[i]? = some g → D + 2 ≤ g ∧ g < wr.heap.size ∧ xs[i * 2]? = some (i64 (c.s i)) ∧ xs[i * 2 + 1]? = some (.slice (some ⟨g, 0, none⟩) (c.k i).toNat (c.k i).toNat) ∧ wr.heap[g]? = some (.cells (slotBlk (List.replicate (c.k i).toNat none)) 116)
theorem ciz_start (c : Cfg) (w1 : World) : CIZ c w1.heap.size w1 ((w1.alloc (.cells #[.slice none 0 0, .iface (methT c.m) (.agg #[]), i64 c.f] 89)).alloc (.cells #[i64 c.s0, i64 c.k0, i64 c.s1, i64 c.k1, i64 c.s2, i64 c.k2, i64 c.s3, i64 c.k3, i64 c.m, i64 c.f] 40)) 0 (.slice none 0 0) [] :=
  ⟨ci_start c w1, [], rfl, List.nodup_nil, fun i g hg => by simp at hg⟩
theorem ciz_step {c : Cfg} {D : Nat} {w1 wr wN w3 : World} {k g cap : Nat} {v : Value} {xs : List Value} {A O : Obj} {ad : Option Addr} (I : CIZ c D w1 wr k v xs)
    (hb : Below (wr.heap.size + 1) (wr.alloc A).drew wN)
    (hown : w3.ownsRow (D + 2) 94 2 (.slice (some ⟨g, 0, none⟩) (k + 1) cap) (k + 1) (xs ++ [i64 (c.s k), .slice ad (c.k k).toNat (c.k k).toNat]))
    (hgrow : (wN.alloc O).grownBy w3 v.ownBlock) (hsl : SlotNew (wr.alloc A).drew wN ad (c.k k).toNat) :
    CIZ c D w1 (w3.setCell ⟨D, 0, none⟩ (.slice (some ⟨g, 0, none⟩) (k + 1) cap)) (k + 1) (.slice (some ⟨g, 0, none⟩) (k + 1) cap) (xs ++ [i64 (c.s k), .slice ad (c.k k).toNat (c.k k).toNat]) := by
  refine ⟨ci_step I.ci hb hown hgrow, ?_⟩
  obtain ⟨gs, h1, h2, h3⟩ := I.sl
  obtain ⟨gN, rfl, h4, h5⟩ := hsl
  have hbig := I.ci.big
  have hxl := I.ci.arc.1
  have e4 : (wr.alloc A).drew.heap.size = wr.heap.size + 1 := by show (wr.alloc A).heap.size = _; simp
  rw [e4] at h4
  have hs1 : wr.heap.size + 1 ≤ wN.heap.size := by have := hb.size; omega
  have hs2 := hgrow.size
  have e2 : (wN.alloc O).heap.size = wN.heap.size + 1 := by simp
  have hgN := blk_lt h5
  have far : ∀ j, j < wr.heap.size → some j ≠ v.ownBlock → w3.heap[j]? = wr.heap[j]? := by
    intro j hj hne
    rw [hgrow.block j (by omega) hne, Below.heap_alloc wN O j (by omega), hb.block j (by omega)]
    exact Below.heap_alloc wr A j hj
  have hnew : w3.heap[gN]? = wN.heap[gN]? := by
    rw [hgrow.block gN (by omega) (fun e => by have := (I.ci.own.lt gN e.symm).2; omega), Below.heap_alloc wN O gN hgN]
  refine ⟨gs ++ [gN], by rw [List.length_append, h1]; rfl, ?_, fun i x hx => ?_⟩
  · rw [List.nodup_append]
    refine ⟨h2, by simp, fun a ha b hb' e => ?_⟩
    obtain ⟨j, hj⟩ := List.mem_iff_getElem?.1 ha
    have := (h3 j a hj).2.1
    simp at hb'
    omega
  · rw [size_setCell]
    by_cases hi : i < k
    · rw [List.getElem?_append_left (by omega)] at hx
      obtain ⟨a1, a2, a3, a4, a5⟩ := h3 i x hx
      refine ⟨a1, by omega, ?_, ?_, ?_⟩
      · rw [List.getElem?_append_left (by omega)]; exact a3
      · rw [List.getElem?_append_left (by omega)]; exact a4
      · rw [blk_setCell_far (by show x ≠ D; omega), far x a2 ?_]
        · exact a5
        · intro e
          obtain ⟨_, ⟨hv, _⟩ | ⟨g1, _, cur, hv, _, hblk, _⟩⟩ := I.ci.own
          · rw [hv] at e; simp [Value.ownBlock] at e
          · rw [hv] at e
            simp [Value.ownBlock] at e
            subst e
            rw [hblk] at a5
            simp at a5
    · have hik : i = k := by
        obtain ⟨y, _⟩ := List.getElem?_eq_some_iff.1 hx
        simp at y
        omega
      subst hik
      rw [List.getElem?_append_right (by omega), h1] at hx
      simp at hx
      subst hx
      refine ⟨by omega, by omega, ?_, ?_, ?_⟩
      · rw [List.getElem?_append_right (by omega), hxl, show i * 2 - 2 * i = 0 by omega]; rfl
      · rw [List.getElem?_append_right (by omega), hxl, show i * 2 + 1 - 2 * i = 1 by omega]; rfl
      · rw [blk_setCell_far (by show gN ≠ D; omega), hnew]
        exact h5
theorem ciz_end {c : Cfg} {w w1 wr : World} {v : Value} {xs : List Value} (hc : c.Ok) (I : CIZ c w1.heap.size w1 wr c.many v xs) (hw : w.heap.size ≤ w1.heap.size) : ZRep wr (fun k => w.heap.size ≤ k) w1.heap.size (RDb.new c) := by
  have hok : (RDb.new c).Ok := by
    refine ⟨hc, by simp [RDb.new], fun i l hl => ?_, fun i l hl => ?_⟩
    · have : l = [] := (List.mem_replicate.1 (List.mem_iff_getElem?.2 ⟨i, hl⟩)).2
      subst this
      exact ⟨fun q hq => by simp at hq, by simp⟩
    · have : l = [] := (List.mem_replicate.1 (List.mem_iff_getElem?.2 ⟨i, hl⟩)).2
      subst this
      simp
  have hal : (RDb.new c).Al := new_al c _ fun l hl => (List.mem_replicate.1 hl).2
  have hm1 : 1 ≤ c.many := (c.ok_iff.1 hc).2.2.1
  obtain ⟨gs, h1, h2, h3⟩ := I.sl
  obtain ⟨_, ⟨_, hn⟩ | ⟨gl, cap, cur, rfl, hg, hblk, hcap, _, hsz, htk⟩⟩ := I.ci.own
  · omega
  refine ⟨hok, hal, hw, gl, cap, cur, gs, by show w.heap.size ≤ gl; omega, I.ci.blk, hblk, h1, h2, fun x hx => ?_, fun i x l hx hl => ?_⟩
  · obtain ⟨i, hi⟩ := List.mem_iff_getElem?.1 hx
    have := (h3 i x hi).1
    show w.heap.size ≤ x
    omega
  · have hln : l = [] := (List.mem_replicate.1 (List.mem_iff_getElem?.2 ⟨i, hl⟩)).2
    subst hln
    obtain ⟨_, _, a3, a4, a5⟩ := h3 i x hx
    have hi : i < c.many := by
      obtain ⟨y, _⟩ := List.getElem?_eq_some_iff.1 hx
      omega
    have hcell : ∀ (j : Nat) (u : Value), j < c.many * 2 → xs[j]? = some u → cur[j]? = some u := fun j u hj hu => by
      rw [← htk, List.getElem?_take_of_lt hj] at hu
      rw [← Array.getElem?_toList]
      exact hu
    exact ⟨hcell _ _ (by omega) a3, hcell _ _ (by omega) a4, by
      show wr.heap[x]? = some (.cells (slotBlk (slotsL c i [] (c.k i).toNat)) 116)
      rw [slotsL_nil]; exact a5⟩
set_option maxHeartbeats 2000000 in
theorem zcreate_yes (c : Cfg) (w : World) (h : c.Ok) :
    Calls Tryz.prog 21 #[.agg c.cells] w fun e w' => ∃ p, e = .returned (.tuple #[.pointer (some ⟨p, 0, none⟩), i64 0]) ∧ Below w.heap.size w w' ∧ ZRep w' (fun k => w.heap.size ≤ k) p (RDb.new c) := by
  show Calls Tryz.prog 21 #[.agg #[i64 c.s0, i64 c.k0, i64 c.s1, i64 c.k1, i64 c.s2, i64 c.k2, i64 c.s3, i64 c.k3, i64 c.m, i64 c.f]] w _
  have he := c.err_ok h
  have HOK := hid h
  have HI := c.ok_iff.1 h
  obtain ⟨a1, a2⟩ := HI.1
  have hm1 := HI.2.2.1
  have HBD := hid (bdB_all HI.2.2.2.2.1)
  clear HI
  have h4 := c.many_le
  obtain ⟨i0, hi, hz0, hz1, hz2⟩ := info_parts Tryz.infoArchive
  have HI0 := hid (And.intro hi (And.intro hz0 (And.intro hz1 hz2)))
  clear h hi hz0 hz1 hz2
  go_enter Tryz.func21, Tryz.ntmps21
  go_wp2_with (first | (go_at_call 20; refine (pcheck_any c _).mono ?_; rintro e w1 ⟨rfl, hb⟩; have HB := hid (below_one hb); obtain ⟨c0, c1, c2, c3, c4, c5, c6, c7, c8, c9⟩ := (box_new w c).later hb; have hz : w.heap.size < w1.heap.size := (by have := hb.size; simp at this; omega); clear hb) | (go_at_call 42; refine (bynumber_yes _ _ a1 a2).mono ?_; rintro e w1 ⟨rfl, rfl⟩) | (go_at_call 43; refine (used_any c _).mono ?_; rintro e w' ⟨rfl, rfl⟩))
  go_loopw [29] (fun i wr => ∃ (k : Nat) (v : Value) (xs : List Value), k ≤ c.many ∧ i = i64 k ∧ CIZ c w1.heap.size w1 wr k v xs) (fun i _ => c.many - (intOf i).toNat)
  case atStart => exact ⟨0, _, _, by omega, rfl, ciz_start c w1⟩
  case round =>
    clear c0 c1 c2 c3 c4 c5 c6 c7 c8 c9 hz
    obtain ⟨k, v, xs, hk, rfl, IZ⟩ := hrel
    have HIZ := hid IZ
    have I := IZ.ci
    have HI := hid I
    clear IZ
    obtain ⟨c0, c1, c2, c3, c4, c5, c6, c7, _, _⟩ := I.box
    have d0 : wr.cell? ⟨w1.heap.size, 0, none⟩ = some v := cell_of_blk I.blk 0
    have fz : wr.frozen? ⟨w1.heap.size, 0, none⟩ = false := frozen_of_blk I.blk 0
    have hz : w1.heap.size < wr.heap.size := by have := I.big; omega
    have hz2 : w1.heap.size + 1 < wr.heap.size := by have := I.big; omega
    have HA := hid (show some wr.heap.size ≠ v.ownBlock from fun x => absurd (I.own.lt _ x.symm).2 (Nat.lt_irrefl _))
    have HD := hid (show some w1.heap.size ≠ v.ownBlock from owns_not I.own (by omega))
    clear I
    by_cases hlt : k < c.many
    case neg =>
      go_wp2
      go_ret2
      have e : k = c.many := by omega
      subst e
      exact ⟨_, rfl, HB.out.trans (HI.out.old.mono HB.out.size), ciz_end HOK.out HIZ.out (by have := HB.out.size; omega)⟩
    have h5 : k = 0 ∨ k = 1 ∨ k = 2 ∨ k = 3 := by omega
    rcases h5 with rfl | rfl | rfl | rfl
    · have hbd := HBD.out 0 hlt
      obtain ⟨b1, b2, b3, b4⟩ := (show 1 ≤ c.s0 ∧ c.s0 ≤ 86400 ∧ 1 ≤ c.k0 ∧ c.k0 ≤ 60 from hbd)
      clear hbd
      go_wp2_with fail
      refine wp_region_held_drew (S := (fun w' => w'.cell? ⟨wr.heap.size, 0, none⟩ = some (i64 c.s0) ∧ w'.cell? ⟨wr.heap.size, 1, none⟩ = some (i64 c.k0))) (by kernel_rfl) ?_ (fun hHeld => ?_)
      · go_keep
      refine tkI (i := 0) (oi := ⟨some 33, .move (.tmp 7), 50, _, #[], none⟩) ?_
      try simp only [Act.put, tkA, tkB, tkC]
      refine tkI (i := 1) (oi := ⟨some 34, .move (.tmp 7), 50, _, #[], none⟩) ?_
      try simp only [Act.put, tkA, tkB, tkC]
      refine tkI (i := 2) (oi := ⟨some 35, .nilCheck (.tmp 34), 0, _, #[⟨1, .data⟩], none⟩) ?_
      try simp only [Act.put, tkA, tkB, tkC]
      refine tkI (i := 3) (oi := ⟨some 36, .fieldAddr 89 (.tmp 35) 0, 0, _, #[⟨2, .data⟩], none⟩) ?_
      try simp only [Act.put, tkA, tkB, tkC]
      refine tkI (i := 5) (oi := ⟨some 38, .load 37 (.tmp 9), 37, _, #[], none⟩) ?_
      try simp only [Act.put, tkA, tkB, tkC]
      refine wpAnyH_ready (rs := [4, 6]) (by kernel_rfl) (by simp) ?_
      refine AllReadyH.cons rfl (fun K hK => ?_) (AllReadyH.cons rfl (fun K hK => ?_) AllReadyH.nil)
      · go_simp
        refine hK.out _ _ ?_ (fun hHeld => ?_)
        · first | exact hHeld | go_keep
        clear hK K
        refine wpAnyH_ready (rs := [6]) (by kernel_rfl) (by simp) ?_
        refine AllReadyH.cons rfl (fun K hK => ?_) AllReadyH.nil
        go_simp
        go_wp2_with (go_at_call 44; refine (newZ_any _ _ _ b3 b4).mono ?_; rintro e wN ⟨ad, rfl, hbN, hsl⟩; have HSL := hid hsl; clear hsl)
        refine hK.out _ _ ?_ (fun hHeld => ?_)
        · exact ⟨cell_later hbN (by simp [*]), cell_later hbN (by simp [*])⟩
        clear hK K
        have hbN' : Below (wr.heap.size + 1) (wr.alloc (.cells #[i64 c.s0, i64 c.k0] 37)).drew wN := by
          have e : (wr.alloc (.cells #[i64 c.s0, i64 c.k0] 37)).drew.heap.size = wr.heap.size + 1 := by show (wr.alloc _).heap.size = _; simp
          rw [← e]; exact hbN
        have ownN := owns_below HI.out.own (((Below.refl _ wr).alloc (Nat.le_refl _) (.cells #[i64 c.s0, i64 c.k0] 37)).drew.trans (hbN'.mono (by omega)))
        have hzN : wr.heap.size < wN.heap.size := by have := hbN'.size; have e : (wr.alloc (.cells #[i64 c.s0, i64 c.k0] 37)).drew.heap.size = wr.heap.size + 1 := (by show (wr.alloc _).heap.size = _; simp); omega
        have hzD : w1.heap.size < wN.heap.size := by omega
        have blkN := blk_later hbN' (by omega) (show (wr.alloc _).drew.heap[w1.heap.size]? = _ from blk_alloc HI.out.blk)
        have dN : wN.cell? ⟨w1.heap.size, 0, none⟩ = some v := cell_of_blk blkN 0
        have fN : wN.frozen? ⟨w1.heap.size, 0, none⟩ = false := frozen_of_blk blkN 0
        have HK := hid blkN
        clear blkN
        have HN := hid hbN'
        clear hbN hbN'
        refine wpAnyH_ready (rs := [7]) (by kernel_rfl) (by simp) ?_
        refine AllReadyH.cons rfl (fun K hK => ?_) AllReadyH.nil
        go_simp
        refine hK.out _ _ ?_ (fun hHeld => ?_)
        · go_keep
        clear hK K
        refine wpAnyH_ready (rs := [8]) (by kernel_rfl) (by simp) ?_
        refine AllReadyH.cons rfl (fun K hK => ?_) AllReadyH.nil
        refine step_append_lies _ (by rfl) (.tmp 37) (.tmp 40) 87 (by rfl) (w1.heap.size + 2) 94 i0 _ 2 32 Tryz.underlying87 HI0.out.1 HI0.out.2.1 HI0.out.2.2.1 HI0.out.2.2.2 rfl (by decide) v 0 xs (by rfl) (ownN.alloc _) ⟨wN.heap.size, 0, none⟩ 1 1 [i64 c.s0, .slice ad c.k0.toNat c.k0.toNat] (by rfl) rfl (World.news_of_block (heap_alloc_new wN _)) (by simp [Value.oneCell']) (by decide) (by decide) (by decide) (by simp; omega) (wN.heap.size + 1) (by simp) ?_
        intro g cap w3 hown3 hgrow hat hlt3
        refine hK.out _ _ ?_ (fun hHeld => ?_)
        · exact ⟨hgrow.cell (by simp [*]) HA.out, hgrow.cell (by simp [*]) HA.out⟩
        clear hK K
        have blk3 := (hgrow.block _ (by simp; omega) HD.out).trans (blk_alloc HK.out)
        have d3 : w3.cell? ⟨w1.heap.size, 0, none⟩ = some v := cell_of_blk blk3 0
        have f3 : w3.frozen? ⟨w1.heap.size, 0, none⟩ = false := frozen_of_blk blk3 0
        clear blk3
        have HR := hid (ciz_step HIZ.out HN.out hown3 hgrow HSL.out)
        clear hown3 hgrow hat hlt3 ownN dN fN
        refine tkI (i := 9) (oi := ⟨some 42, .nilCheck (.tmp 33), 0, _, #[⟨0, .data⟩, ⟨0, .phase⟩, ⟨1, .phase⟩, ⟨2, .phase⟩, ⟨3, .phase⟩, ⟨4, .phase⟩, ⟨5, .phase⟩, ⟨6, .phase⟩, ⟨7, .phase⟩, ⟨8, .phase⟩], none⟩) ?_
        try simp only [Act.put, tkA, tkB, tkC]
        refine tkI (i := 10) (oi := ⟨some 43, .fieldAddr 89 (.tmp 42) 0, 0, _, #[⟨9, .data⟩, ⟨0, .phase⟩, ⟨1, .phase⟩, ⟨2, .phase⟩, ⟨3, .phase⟩, ⟨4, .phase⟩, ⟨5, .phase⟩, ⟨6, .phase⟩, ⟨7, .phase⟩, ⟨8, .phase⟩], none⟩) ?_
        try simp only [Act.put, tkA, tkB, tkC]
        refine wpAnyH_ready (rs := [11]) (by kernel_rfl) (by simp) ?_
        refine AllReadyH.cons rfl (fun K hK => ?_) AllReadyH.nil
        go_simp
        refine hK.out _ _ ?_ (fun hHeld => ?_)
        · exact ⟨(World.cell?_setCell_far _ _ _ _ (by show w1.heap.size ≠ wr.heap.size; omega)).trans hHeld.1, (World.cell?_setCell_far _ _ _ _ (by show w1.heap.size ≠ wr.heap.size; omega)).trans hHeld.2⟩
        clear hK K
        refine wpAnyH_done (by kernel_rfl) ?_ _
        go_wp2
        go_roundw
        case rel => first | exact ⟨1, _, _, by omega, by first | rfl | go_num, HR.out⟩ | ((repeat apply Exists.intro); exact ⟨⟨1, _, _, by omega, by first | rfl | go_num, HR.out⟩, rfl⟩)
        case measure => simp [intOf]; omega
      · go_simp
        go_wp2_with (go_at_call 44; refine (newZ_any _ _ _ b3 b4).mono ?_; rintro e wN ⟨ad, rfl, hbN, hsl⟩; have HSL := hid hsl; clear hsl)
        refine hK.out _ _ ?_ (fun hHeld => ?_)
        · exact ⟨cell_later hbN (by simp [*]), cell_later hbN (by simp [*])⟩
        clear hK K
        have hbN' : Below (wr.heap.size + 1) (wr.alloc (.cells #[i64 c.s0, i64 c.k0] 37)).drew wN := by
          have e : (wr.alloc (.cells #[i64 c.s0, i64 c.k0] 37)).drew.heap.size = wr.heap.size + 1 := by show (wr.alloc _).heap.size = _; simp
          rw [← e]; exact hbN
        have ownN := owns_below HI.out.own (((Below.refl _ wr).alloc (Nat.le_refl _) (.cells #[i64 c.s0, i64 c.k0] 37)).drew.trans (hbN'.mono (by omega)))
        have hzN : wr.heap.size < wN.heap.size := by have := hbN'.size; have e : (wr.alloc (.cells #[i64 c.s0, i64 c.k0] 37)).drew.heap.size = wr.heap.size + 1 := (by show (wr.alloc _).heap.size = _; simp); omega
        have hzD : w1.heap.size < wN.heap.size := by omega
        have blkN := blk_later hbN' (by omega) (show (wr.alloc _).drew.heap[w1.heap.size]? = _ from blk_alloc HI.out.blk)
        have dN : wN.cell? ⟨w1.heap.size, 0, none⟩ = some v := cell_of_blk blkN 0
        have fN : wN.frozen? ⟨w1.heap.size, 0, none⟩ = false := frozen_of_blk blkN 0
        have HK := hid blkN
        clear blkN
        have HN := hid hbN'
        clear hbN hbN'
        refine wpAnyH_ready (rs := [4, 7]) (by kernel_rfl) (by simp) ?_
        refine AllReadyH.cons rfl (fun K hK => ?_) (AllReadyH.cons rfl (fun K hK => ?_) AllReadyH.nil)
        · go_simp
          refine hK.out _ _ ?_ (fun hHeld => ?_)
          · first | exact hHeld | go_keep
          clear hK K
          refine wpAnyH_ready (rs := [7]) (by kernel_rfl) (by simp) ?_
          refine AllReadyH.cons rfl (fun K hK => ?_) AllReadyH.nil
          go_simp
          refine hK.out _ _ ?_ (fun hHeld => ?_)
          · go_keep
          clear hK K
          refine wpAnyH_ready (rs := [8]) (by kernel_rfl) (by simp) ?_
          refine AllReadyH.cons rfl (fun K hK => ?_) AllReadyH.nil
          refine step_append_lies _ (by rfl) (.tmp 37) (.tmp 40) 87 (by rfl) (w1.heap.size + 2) 94 i0 _ 2 32 Tryz.underlying87 HI0.out.1 HI0.out.2.1 HI0.out.2.2.1 HI0.out.2.2.2 rfl (by decide) v 0 xs (by rfl) (ownN.alloc _) ⟨wN.heap.size, 0, none⟩ 1 1 [i64 c.s0, .slice ad c.k0.toNat c.k0.toNat] (by rfl) rfl (World.news_of_block (heap_alloc_new wN _)) (by simp [Value.oneCell']) (by decide) (by decide) (by decide) (by simp; omega) (wN.heap.size + 1) (by simp) ?_
          intro g cap w3 hown3 hgrow hat hlt3
          refine hK.out _ _ ?_ (fun hHeld => ?_)
          · exact ⟨hgrow.cell (by simp [*]) HA.out, hgrow.cell (by simp [*]) HA.out⟩
          clear hK K
          have blk3 := (hgrow.block _ (by simp; omega) HD.out).trans (blk_alloc HK.out)
          have d3 : w3.cell? ⟨w1.heap.size, 0, none⟩ = some v := cell_of_blk blk3 0
          have f3 : w3.frozen? ⟨w1.heap.size, 0, none⟩ = false := frozen_of_blk blk3 0
          clear blk3
          have HR := hid (ciz_step HIZ.out HN.out hown3 hgrow HSL.out)
          clear hown3 hgrow hat hlt3 ownN dN fN
          refine tkI (i := 9) (oi := ⟨some 42, .nilCheck (.tmp 33), 0, _, #[⟨0, .data⟩, ⟨0, .phase⟩, ⟨1, .phase⟩, ⟨2, .phase⟩, ⟨3, .phase⟩, ⟨4, .phase⟩, ⟨5, .phase⟩, ⟨6, .phase⟩, ⟨7, .phase⟩, ⟨8, .phase⟩], none⟩) ?_
          try simp only [Act.put, tkA, tkB, tkC]
          refine tkI (i := 10) (oi := ⟨some 43, .fieldAddr 89 (.tmp 42) 0, 0, _, #[⟨9, .data⟩, ⟨0, .phase⟩, ⟨1, .phase⟩, ⟨2, .phase⟩, ⟨3, .phase⟩, ⟨4, .phase⟩, ⟨5, .phase⟩, ⟨6, .phase⟩, ⟨7, .phase⟩, ⟨8, .phase⟩], none⟩) ?_
          try simp only [Act.put, tkA, tkB, tkC]
          refine wpAnyH_ready (rs := [11]) (by kernel_rfl) (by simp) ?_
          refine AllReadyH.cons rfl (fun K hK => ?_) AllReadyH.nil
          go_simp
          refine hK.out _ _ ?_ (fun hHeld => ?_)
          · exact ⟨(World.cell?_setCell_far _ _ _ _ (by show w1.heap.size ≠ wr.heap.size; omega)).trans hHeld.1, (World.cell?_setCell_far _ _ _ _ (by show w1.heap.size ≠ wr.heap.size; omega)).trans hHeld.2⟩
          clear hK K
          refine wpAnyH_done (by kernel_rfl) ?_ _
          go_wp2
          go_roundw
          case rel => first | exact ⟨1, _, _, by omega, by first | rfl | go_num, HR.out⟩ | ((repeat apply Exists.intro); exact ⟨⟨1, _, _, by omega, by first | rfl | go_num, HR.out⟩, rfl⟩)
          case measure => simp [intOf]; omega
        · go_simp
          refine hK.out _ _ ?_ (fun hHeld => ?_)
          · go_keep
          clear hK K
          refine wpAnyH_ready (rs := [4]) (by kernel_rfl) (by simp) ?_
          refine AllReadyH.cons rfl (fun K hK => ?_) AllReadyH.nil
          go_simp
          refine hK.out _ _ ?_ (fun hHeld => ?_)
          · first | exact hHeld | go_keep
          clear hK K
          refine wpAnyH_ready (rs := [8]) (by kernel_rfl) (by simp) ?_
          refine AllReadyH.cons rfl (fun K hK => ?_) AllReadyH.nil
          refine step_append_lies _ (by rfl) (.tmp 37) (.tmp 40) 87 (by rfl) (w1.heap.size + 2) 94 i0 _ 2 32 Tryz.underlying87 HI0.out.1 HI0.out.2.1 HI0.out.2.2.1 HI0.out.2.2.2 rfl (by decide) v 0 xs (by rfl) (ownN.alloc _) ⟨wN.heap.size, 0, none⟩ 1 1 [i64 c.s0, .slice ad c.k0.toNat c.k0.toNat] (by rfl) rfl (World.news_of_block (heap_alloc_new wN _)) (by simp [Value.oneCell']) (by decide) (by decide) (by decide) (by simp; omega) (wN.heap.size + 1) (by simp) ?_
          intro g cap w3 hown3 hgrow hat hlt3
          refine hK.out _ _ ?_ (fun hHeld => ?_)
          · exact ⟨hgrow.cell (by simp [*]) HA.out, hgrow.cell (by simp [*]) HA.out⟩
          clear hK K
          have blk3 := (hgrow.block _ (by simp; omega) HD.out).trans (blk_alloc HK.out)
          have d3 : w3.cell? ⟨w1.heap.size, 0, none⟩ = some v := cell_of_blk blk3 0
          have f3 : w3.frozen? ⟨w1.heap.size, 0, none⟩ = false := frozen_of_blk blk3 0
          clear blk3
          have HR := hid (ciz_step HIZ.out HN.out hown3 hgrow HSL.out)
          clear hown3 hgrow hat hlt3 ownN dN fN
          refine tkI (i := 9) (oi := ⟨some 42, .nilCheck (.tmp 33), 0, _, #[⟨0, .data⟩, ⟨0, .phase⟩, ⟨1, .phase⟩, ⟨2, .phase⟩, ⟨3, .phase⟩, ⟨4, .phase⟩, ⟨5, .phase⟩, ⟨6, .phase⟩, ⟨7, .phase⟩, ⟨8, .phase⟩], none⟩) ?_
          try simp only [Act.put, tkA, tkB, tkC]
          refine tkI (i := 10) (oi := ⟨some 43, .fieldAddr 89 (.tmp 42) 0, 0, _, #[⟨9, .data⟩, ⟨0, .phase⟩, ⟨1, .phase⟩, ⟨2, .phase⟩, ⟨3, .phase⟩, ⟨4, .phase⟩, ⟨5, .phase⟩, ⟨6, .phase⟩, ⟨7, .phase⟩, ⟨8, .phase⟩], none⟩) ?_
          try simp only [Act.put, tkA, tkB, tkC]
          refine wpAnyH_ready (rs := [11]) (by kernel_rfl) (by simp) ?_
          refine AllReadyH.cons rfl (fun K hK => ?_) AllReadyH.nil
          go_simp
          refine hK.out _ _ ?_ (fun hHeld => ?_)
          · exact ⟨(World.cell?_setCell_far _ _ _ _ (by show w1.heap.size ≠ wr.heap.size; omega)).trans hHeld.1, (World.cell?_setCell_far _ _ _ _ (by show w1.heap.size ≠ wr.heap.size; omega)).trans hHeld.2⟩
          clear hK K
          refine wpAnyH_done (by kernel_rfl) ?_ _
          go_wp2
          go_roundw
          case rel => first | exact ⟨1, _, _, by omega, by first | rfl | go_num, HR.out⟩ | ((repeat apply Exists.intro); exact ⟨⟨1, _, _, by omega, by first | rfl | go_num, HR.out⟩, rfl⟩)
          case measure => simp [intOf]; omega
    · have hbd := HBD.out 1 hlt
      obtain ⟨b1, b2, b3, b4⟩ := (show 1 ≤ c.s1 ∧ c.s1 ≤ 86400 ∧ 1 ≤ c.k1 ∧ c.k1 ≤ 60 from hbd)
      clear hbd
      go_wp2_with fail
      refine wp_region_held_drew (S := (fun w' => w'.cell? ⟨wr.heap.size, 0, none⟩ = some (i64 c.s1) ∧ w'.cell? ⟨wr.heap.size, 1, none⟩ = some (i64 c.k1))) (by kernel_rfl) ?_ (fun hHeld => ?_)
      · go_keep
      refine tkI (i := 0) (oi := ⟨some 33, .move (.tmp 7), 50, _, #[], none⟩) ?_
      try simp only [Act.put, tkA, tkB, tkC]
      refine tkI (i := 1) (oi := ⟨some 34, .move (.tmp 7), 50, _, #[], none⟩) ?_
      try simp only [Act.put, tkA, tkB, tkC]
      refine tkI (i := 2) (oi := ⟨some 35, .nilCheck (.tmp 34), 0, _, #[⟨1, .data⟩], none⟩) ?_
      try simp only [Act.put, tkA, tkB, tkC]
      refine tkI (i := 3) (oi := ⟨some 36, .fieldAddr 89 (.tmp 35) 0, 0, _, #[⟨2, .data⟩], none⟩) ?_
      try simp only [Act.put, tkA, tkB, tkC]
      refine tkI (i := 5) (oi := ⟨some 38, .load 37 (.tmp 9), 37, _, #[], none⟩) ?_
      try simp only [Act.put, tkA, tkB, tkC]
      refine wpAnyH_ready (rs := [4, 6]) (by kernel_rfl) (by simp) ?_
      refine AllReadyH.cons rfl (fun K hK => ?_) (AllReadyH.cons rfl (fun K hK => ?_) AllReadyH.nil)
      · go_simp
        refine hK.out _ _ ?_ (fun hHeld => ?_)
        · first | exact hHeld | go_keep
        clear hK K
        refine wpAnyH_ready (rs := [6]) (by kernel_rfl) (by simp) ?_
        refine AllReadyH.cons rfl (fun K hK => ?_) AllReadyH.nil
        go_simp
        go_wp2_with (go_at_call 44; refine (newZ_any _ _ _ b3 b4).mono ?_; rintro e wN ⟨ad, rfl, hbN, hsl⟩; have HSL := hid hsl; clear hsl)
        refine hK.out _ _ ?_ (fun hHeld => ?_)
        · exact ⟨cell_later hbN (by simp [*]), cell_later hbN (by simp [*])⟩
        clear hK K
        have hbN' : Below (wr.heap.size + 1) (wr.alloc (.cells #[i64 c.s1, i64 c.k1] 37)).drew wN := by
          have e : (wr.alloc (.cells #[i64 c.s1, i64 c.k1] 37)).drew.heap.size = wr.heap.size + 1 := by show (wr.alloc _).heap.size = _; simp
          rw [← e]; exact hbN
        have ownN := owns_below HI.out.own (((Below.refl _ wr).alloc (Nat.le_refl _) (.cells #[i64 c.s1, i64 c.k1] 37)).drew.trans (hbN'.mono (by omega)))
        have hzN : wr.heap.size < wN.heap.size := by have := hbN'.size; have e : (wr.alloc (.cells #[i64 c.s1, i64 c.k1] 37)).drew.heap.size = wr.heap.size + 1 := (by show (wr.alloc _).heap.size = _; simp); omega
        have hzD : w1.heap.size < wN.heap.size := by omega
        have blkN := blk_later hbN' (by omega) (show (wr.alloc _).drew.heap[w1.heap.size]? = _ from blk_alloc HI.out.blk)
        have dN : wN.cell? ⟨w1.heap.size, 0, none⟩ = some v := cell_of_blk blkN 0
        have fN : wN.frozen? ⟨w1.heap.size, 0, none⟩ = false := frozen_of_blk blkN 0
        have HK := hid blkN
        clear blkN
        have HN := hid hbN'
        clear hbN hbN'
        refine wpAnyH_ready (rs := [7]) (by kernel_rfl) (by simp) ?_
        refine AllReadyH.cons rfl (fun K hK => ?_) AllReadyH.nil
        go_simp
        refine hK.out _ _ ?_ (fun hHeld => ?_)
        · go_keep
        clear hK K
        refine wpAnyH_ready (rs := [8]) (by kernel_rfl) (by simp) ?_
        refine AllReadyH.cons rfl (fun K hK => ?_) AllReadyH.nil
        refine step_append_lies _ (by rfl) (.tmp 37) (.tmp 40) 87 (by rfl) (w1.heap.size + 2) 94 i0 _ 2 32 Tryz.underlying87 HI0.out.1 HI0.out.2.1 HI0.out.2.2.1 HI0.out.2.2.2 rfl (by decide) v 1 xs (by rfl) (ownN.alloc _) ⟨wN.heap.size, 0, none⟩ 1 1 [i64 c.s1, .slice ad c.k1.toNat c.k1.toNat] (by rfl) rfl (World.news_of_block (heap_alloc_new wN _)) (by simp [Value.oneCell']) (by decide) (by decide) (by decide) (by simp; omega) (wN.heap.size + 1) (by simp) ?_
        intro g cap w3 hown3 hgrow hat hlt3
        refine hK.out _ _ ?_ (fun hHeld => ?_)
        · exact ⟨hgrow.cell (by simp [*]) HA.out, hgrow.cell (by simp [*]) HA.out⟩
        clear hK K
        have blk3 := (hgrow.block _ (by simp; omega) HD.out).trans (blk_alloc HK.out)
        have d3 : w3.cell? ⟨w1.heap.size, 0, none⟩ = some v := cell_of_blk blk3 0
        have f3 : w3.frozen? ⟨w1.heap.size, 0, none⟩ = false := frozen_of_blk blk3 0
        clear blk3
        have HR := hid (ciz_step HIZ.out HN.out hown3 hgrow HSL.out)
        clear hown3 hgrow hat hlt3 ownN dN fN
        refine tkI (i := 9) (oi := ⟨some 42, .nilCheck (.tmp 33), 0, _, #[⟨0, .data⟩, ⟨0, .phase⟩, ⟨1, .phase⟩, ⟨2, .phase⟩, ⟨3, .phase⟩, ⟨4, .phase⟩, ⟨5, .phase⟩, ⟨6, .phase⟩, ⟨7, .phase⟩, ⟨8, .phase⟩], none⟩) ?_
        try simp only [Act.put, tkA, tkB, tkC]
        refine tkI (i := 10) (oi := ⟨some 43, .fieldAddr 89 (.tmp 42) 0, 0, _, #[⟨9, .data⟩, ⟨0, .phase⟩, ⟨1, .phase⟩, ⟨2, .phase⟩, ⟨3, .phase⟩, ⟨4, .phase⟩, ⟨5, .phase⟩, ⟨6, .phase⟩, ⟨7, .phase⟩, ⟨8, .phase⟩], none⟩) ?_
        try simp only [Act.put, tkA, tkB, tkC]
        refine wpAnyH_ready (rs := [11]) (by kernel_rfl) (by simp) ?_
        refine AllReadyH.cons rfl (fun K hK => ?_) AllReadyH.nil
        go_simp
        refine hK.out _ _ ?_ (fun hHeld => ?_)
        · exact ⟨(World.cell?_setCell_far _ _ _ _ (by show w1.heap.size ≠ wr.heap.size; omega)).trans hHeld.1, (World.cell?_setCell_far _ _ _ _ (by show w1.heap.size ≠ wr.heap.size; omega)).trans hHeld.2⟩
        clear hK K
        refine wpAnyH_done (by kernel_rfl) ?_ _
        go_wp2
        go_roundw
        case rel => first | exact ⟨2, _, _, by omega, by first | rfl | go_num, HR.out⟩ | ((repeat apply Exists.intro); exact ⟨⟨2, _, _, by omega, by first | rfl | go_num, HR.out⟩, rfl⟩)
        case measure => simp [intOf]; omega
      · go_simp
        go_wp2_with (go_at_call 44; refine (newZ_any _ _ _ b3 b4).mono ?_; rintro e wN ⟨ad, rfl, hbN, hsl⟩; have HSL := hid hsl; clear hsl)
        refine hK.out _ _ ?_ (fun hHeld => ?_)
        · exact ⟨cell_later hbN (by simp [*]), cell_later hbN (by simp [*])⟩
        clear hK K
        have hbN' : Below (wr.heap.size + 1) (wr.alloc (.cells #[i64 c.s1, i64 c.k1] 37)).drew wN := by
          have e : (wr.alloc (.cells #[i64 c.s1, i64 c.k1] 37)).drew.heap.size = wr.heap.size + 1 := by show (wr.alloc _).heap.size = _; simp
          rw [← e]; exact hbN
        have ownN := owns_below HI.out.own (((Below.refl _ wr).alloc (Nat.le_refl _) (.cells #[i64 c.s1, i64 c.k1] 37)).drew.trans (hbN'.mono (by omega)))
        have hzN : wr.heap.size < wN.heap.size := by have := hbN'.size; have e : (wr.alloc (.cells #[i64 c.s1, i64 c.k1] 37)).drew.heap.size = wr.heap.size + 1 := (by show (wr.alloc _).heap.size = _; simp); omega
        have hzD : w1.heap.size < wN.heap.size := by omega
        have blkN := blk_later hbN' (by omega) (show (wr.alloc _).drew.heap[w1.heap.size]? = _ from blk_alloc HI.out.blk)
        have dN : wN.cell? ⟨w1.heap.size, 0, none⟩ = some v := cell_of_blk blkN 0
        have fN : wN.frozen? ⟨w1.heap.size, 0, none⟩ = false := frozen_of_blk blkN 0
        have HK := hid blkN
        clear blkN
        have HN := hid hbN'
        clear hbN hbN'
        refine wpAnyH_ready (rs := [4, 7]) (by kernel_rfl) (by simp) ?_
        refine AllReadyH.cons rfl (fun K hK => ?_) (AllReadyH.cons rfl (fun K hK => ?_) AllReadyH.nil)
        · go_simp
          refine hK.out _ _ ?_ (fun hHeld => ?_)
          · first | exact hHeld | go_keep
          clear hK K
          refine wpAnyH_ready (rs := [7]) (by kernel_rfl) (by simp) ?_
          refine AllReadyH.cons rfl (fun K hK => ?_) AllReadyH.nil
          go_simp
          refine hK.out _ _ ?_ (fun hHeld => ?_)
          · go_keep
          clear hK K
          refine wpAnyH_ready (rs := [8]) (by kernel_rfl) (by simp) ?_
          refine AllReadyH.cons rfl (fun K hK => ?_) AllReadyH.nil
          refine step_append_lies _ (by rfl) (.tmp 37) (.tmp 40) 87 (by rfl) (w1.heap.size + 2) 94 i0 _ 2 32 Tryz.underlying87 HI0.out.1 HI0.out.2.1 HI0.out.2.2.1 HI0.out.2.2.2 rfl (by decide) v 1 xs (by rfl) (ownN.alloc _) ⟨wN.heap.size, 0, none⟩ 1 1 [i64 c.s1, .slice ad c.k1.toNat c.k1.toNat] (by rfl) rfl (World.news_of_block (heap_alloc_new wN _)) (by simp [Value.oneCell']) (by decide) (by decide) (by decide) (by simp; omega) (wN.heap.size + 1) (by simp) ?_
          intro g cap w3 hown3 hgrow hat hlt3
          refine hK.out _ _ ?_ (fun hHeld => ?_)
          · exact ⟨hgrow.cell (by simp [*]) HA.out, hgrow.cell (by simp [*]) HA.out⟩
          clear hK K
          have blk3 := (hgrow.block _ (by simp; omega) HD.out).trans (blk_alloc HK.out)
          have d3 : w3.cell? ⟨w1.heap.size, 0, none⟩ = some v := cell_of_blk blk3 0
          have f3 : w3.frozen? ⟨w1.heap.size, 0, none⟩ = false := frozen_of_blk blk3 0
          clear blk3
          have HR := hid (ciz_step HIZ.out HN.out hown3 hgrow HSL.out)
          clear hown3 hgrow hat hlt3 ownN dN fN
          refine tkI (i := 9) (oi := ⟨some 42, .nilCheck (.tmp 33), 0, _, #[⟨0, .data⟩, ⟨0, .phase⟩, ⟨1, .phase⟩, ⟨2, .phase⟩, ⟨3, .phase⟩, ⟨4, .phase⟩, ⟨5, .phase⟩, ⟨6, .phase⟩, ⟨7, .phase⟩, ⟨8, .phase⟩], none⟩) ?_
          try simp only [Act.put, tkA, tkB, tkC]
          refine tkI (i := 10) (oi := ⟨some 43, .fieldAddr 89 (.tmp 42) 0, 0, _, #[⟨9, .data⟩, ⟨0, .phase⟩, ⟨1, .phase⟩, ⟨2, .phase⟩, ⟨3, .phase⟩, ⟨4, .phase⟩, ⟨5, .phase⟩, ⟨6, .phase⟩, ⟨7, .phase⟩, ⟨8, .phase⟩], none⟩) ?_
          try simp only [Act.put, tkA, tkB, tkC]
          refine wpAnyH_ready (rs := [11]) (by kernel_rfl) (by simp) ?_
          refine AllReadyH.cons rfl (fun K hK => ?_) AllReadyH.nil
          go_simp
          refine hK.out _ _ ?_ (fun hHeld => ?_)
          · exact ⟨(World.cell?_setCell_far _ _ _ _ (by show w1.heap.size ≠ wr.heap.size; omega)).trans hHeld.1, (World.cell?_setCell_far _ _ _ _ (by show w1.heap.size ≠ wr.heap.size; omega)).trans hHeld.2⟩
          clear hK K
          refine wpAnyH_done (by kernel_rfl) ?_ _
          go_wp2
          go_roundw
          case rel => first | exact ⟨2, _, _, by omega, by first | rfl | go_num, HR.out⟩ | ((repeat apply Exists.intro); exact ⟨⟨2, _, _, by omega, by first | rfl | go_num, HR.out⟩, rfl⟩)
          case measure => simp [intOf]; omega
        · go_simp
          refine hK.out _ _ ?_ (fun hHeld => ?_)
          · go_keep
          clear hK K
          refine wpAnyH_ready (rs := [4]) (by kernel_rfl) (by simp) ?_
          refine AllReadyH.cons rfl (fun K hK => ?_) AllReadyH.nil
          go_simp
          refine hK.out _ _ ?_ (fun hHeld => ?_)
          · first | exact hHeld | go_keep
          clear hK K
          refine wpAnyH_ready (rs := [8]) (by kernel_rfl) (by simp) ?_
          refine AllReadyH.cons rfl (fun K hK => ?_) AllReadyH.nil
          refine step_append_lies _ (by rfl) (.tmp 37) (.tmp 40) 87 (by rfl) (w1.heap.size + 2) 94 i0 _ 2 32 Tryz.underlying87 HI0.out.1 HI0.out.2.1 HI0.out.2.2.1 HI0.out.2.2.2 rfl (by decide) v 1 xs (by rfl) (ownN.alloc _) ⟨wN.heap.size, 0, none⟩ 1 1 [i64 c.s1, .slice ad c.k1.toNat c.k1.toNat] (by rfl) rfl (World.news_of_block (heap_alloc_new wN _)) (by simp [Value.oneCell']) (by decide) (by decide) (by decide) (by simp; omega) (wN.heap.size + 1) (by simp) ?_
          intro g cap w3 hown3 hgrow hat hlt3
          refine hK.out _ _ ?_ (fun hHeld => ?_)
          · exact ⟨hgrow.cell (by simp [*]) HA.out, hgrow.cell (by simp [*]) HA.out⟩
          clear hK K
          have blk3 := (hgrow.block _ (by simp; omega) HD.out).trans (blk_alloc HK.out)
          have d3 : w3.cell? ⟨w1.heap.size, 0, none⟩ = some v := cell_of_blk blk3 0
          have f3 : w3.frozen? ⟨w1.heap.size, 0, none⟩ = false := frozen_of_blk blk3 0
          clear blk3
          have HR := hid (ciz_step HIZ.out HN.out hown3 hgrow HSL.out)
          clear hown3 hgrow hat hlt3 ownN dN fN
          refine tkI (i := 9) (oi := ⟨some 42, .nilCheck (.tmp 33), 0, _, #[⟨0, .data⟩, ⟨0, .phase⟩, ⟨1, .phase⟩, ⟨2, .phase⟩, ⟨3, .phase⟩, ⟨4, .phase⟩, ⟨5, .phase⟩, ⟨6, .phase⟩, ⟨7, .phase⟩, ⟨8, .phase⟩], none⟩) ?_
          try simp only [Act.put, tkA, tkB, tkC]
          refine tkI (i := 10) (oi := ⟨some 43, .fieldAddr 89 (.tmp 42) 0, 0, _, #[⟨9, .data⟩, ⟨0, .phase⟩, ⟨1, .phase⟩, ⟨2, .phase⟩, ⟨3, .phase⟩, ⟨4, .phase⟩, ⟨5, .phase⟩, ⟨6, .phase⟩, ⟨7, .phase⟩, ⟨8, .phase⟩], none⟩) ?_
          try simp only [Act.put, tkA, tkB, tkC]
          refine wpAnyH_ready (rs := [11]) (by kernel_rfl) (by simp) ?_
          refine AllReadyH.cons rfl (fun K hK => ?_) AllReadyH.nil
          go_simp
          refine hK.out _ _ ?_ (fun hHeld => ?_)
          · exact ⟨(World.cell?_setCell_far _ _ _ _ (by show w1.heap.size ≠ wr.heap.size; omega)).trans hHeld.1, (World.cell?_setCell_far _ _ _ _ (by show w1.heap.size ≠ wr.heap.size; omega)).trans hHeld.2⟩
          clear hK K
          refine wpAnyH_done (by kernel_rfl) ?_ _
          go_wp2
          go_roundw
          case rel => first | exact ⟨2, _, _, by omega, by first | rfl | go_num, HR.out⟩ | ((repeat apply Exists.intro); exact ⟨⟨2, _, _, by omega, by first | rfl | go_num, HR.out⟩, rfl⟩)
          case measure => simp [intOf]; omega
    · have hbd := HBD.out 2 hlt
      obtain ⟨b1, b2, b3, b4⟩ := (show 1 ≤ c.s2 ∧ c.s2 ≤ 86400 ∧ 1 ≤ c.k2 ∧ c.k2 ≤ 60 from hbd)
      clear hbd
      go_wp2_with fail
      refine wp_region_held_drew (S := (fun w' => w'.cell? ⟨wr.heap.size, 0, none⟩ = some (i64 c.s2) ∧ w'.cell? ⟨wr.heap.size, 1, none⟩ = some (i64 c.k2))) (by kernel_rfl) ?_ (fun hHeld => ?_)
      · go_keep
      refine tkI (i := 0) (oi := ⟨some 33, .move (.tmp 7), 50, _, #[], none⟩) ?_
      try simp only [Act.put, tkA, tkB, tkC]
      refine tkI (i := 1) (oi := ⟨some 34, .move (.tmp 7), 50, _, #[], none⟩) ?_
      try simp only [Act.put, tkA, tkB, tkC]
      refine tkI (i := 2) (oi := ⟨some 35, .nilCheck (.tmp 34), 0, _, #[⟨1, .data⟩], none⟩) ?_
      try simp only [Act.put, tkA, tkB, tkC]
      refine tkI (i := 3) (oi := ⟨some 36, .fieldAddr 89 (.tmp 35) 0, 0, _, #[⟨2, .data⟩], none⟩) ?_
      try simp only [Act.put, tkA, tkB, tkC]
      refine tkI (i := 5) (oi := ⟨some 38, .load 37 (.tmp 9), 37, _, #[], none⟩) ?_
      try simp only [Act.put, tkA, tkB, tkC]
      refine wpAnyH_ready (rs := [4, 6]) (by kernel_rfl) (by simp) ?_
      refine AllReadyH.cons rfl (fun K hK => ?_) (AllReadyH.cons rfl (fun K hK => ?_) AllReadyH.nil)
      · go_simp
        refine hK.out _ _ ?_ (fun hHeld => ?_)
        · first | exact hHeld | go_keep
        clear hK K
        refine wpAnyH_ready (rs := [6]) (by kernel_rfl) (by simp) ?_
        refine AllReadyH.cons rfl (fun K hK => ?_) AllReadyH.nil
        go_simp
        go_wp2_with (go_at_call 44; refine (newZ_any _ _ _ b3 b4).mono ?_; rintro e wN ⟨ad, rfl, hbN, hsl⟩; have HSL := hid hsl; clear hsl)
        refine hK.out _ _ ?_ (fun hHeld => ?_)
        · exact ⟨cell_later hbN (by simp [*]), cell_later hbN (by simp [*])⟩
        clear hK K
        have hbN' : Below (wr.heap.size + 1) (wr.alloc (.cells #[i64 c.s2, i64 c.k2] 37)).drew wN := by
          have e : (wr.alloc (.cells #[i64 c.s2, i64 c.k2] 37)).drew.heap.size = wr.heap.size + 1 := by show (wr.alloc _).heap.size = _; simp
          rw [← e]; exact hbN
        have ownN := owns_below HI.out.own (((Below.refl _ wr).alloc (Nat.le_refl _) (.cells #[i64 c.s2, i64 c.k2] 37)).drew.trans (hbN'.mono (by omega)))
        have hzN : wr.heap.size < wN.heap.size := by have := hbN'.size; have e : (wr.alloc (.cells #[i64 c.s2, i64 c.k2] 37)).drew.heap.size = wr.heap.size + 1 := (by show (wr.alloc _).heap.size = _; simp); omega
        have hzD : w1.heap.size < wN.heap.size := by omega
        have blkN := blk_later hbN' (by omega) (show (wr.alloc _).drew.heap[w1.heap.size]? = _ from blk_alloc HI.out.blk)
        have dN : wN.cell? ⟨w1.heap.size, 0, none⟩ = some v := cell_of_blk blkN 0
        have fN : wN.frozen? ⟨w1.heap.size, 0, none⟩ = false := frozen_of_blk blkN 0
        have HK := hid blkN
        clear blkN
        have HN := hid hbN'
        clear hbN hbN'
        refine wpAnyH_ready (rs := [7]) (by kernel_rfl) (by simp) ?_
        refine AllReadyH.cons rfl (fun K hK => ?_) AllReadyH.nil
        go_simp
        refine hK.out _ _ ?_ (fun hHeld => ?_)
        · go_keep
        clear hK K
        refine wpAnyH_ready (rs := [8]) (by kernel_rfl) (by simp) ?_
        refine AllReadyH.cons rfl (fun K hK => ?_) AllReadyH.nil
        refine step_append_lies _ (by rfl) (.tmp 37) (.tmp 40) 87 (by rfl) (w1.heap.size + 2) 94 i0 _ 2 32 Tryz.underlying87 HI0.out.1 HI0.out.2.1 HI0.out.2.2.1 HI0.out.2.2.2 rfl (by decide) v 2 xs (by rfl) (ownN.alloc _) ⟨wN.heap.size, 0, none⟩ 1 1 [i64 c.s2, .slice ad c.k2.toNat c.k2.toNat] (by rfl) rfl (World.news_of_block (heap_alloc_new wN _)) (by simp [Value.oneCell']) (by decide) (by decide) (by decide) (by simp; omega) (wN.heap.size + 1) (by simp) ?_
        intro g cap w3 hown3 hgrow hat hlt3
        refine hK.out _ _ ?_ (fun hHeld => ?_)
        · exact ⟨hgrow.cell (by simp [*]) HA.out, hgrow.cell (by simp [*]) HA.out⟩
        clear hK K
        have blk3 := (hgrow.block _ (by simp; omega) HD.out).trans (blk_alloc HK.out)
        have d3 : w3.cell? ⟨w1.heap.size, 0, none⟩ = some v := cell_of_blk blk3 0
        have f3 : w3.frozen? ⟨w1.heap.size, 0, none⟩ = false := frozen_of_blk blk3 0
        clear blk3
        have HR := hid (ciz_step HIZ.out HN.out hown3 hgrow HSL.out)
        clear hown3 hgrow hat hlt3 ownN dN fN
        refine tkI (i := 9) (oi := ⟨some 42, .nilCheck (.tmp 33), 0, _, #[⟨0, .data⟩, ⟨0, .phase⟩, ⟨1, .phase⟩, ⟨2, .phase⟩, ⟨3, .phase⟩, ⟨4, .phase⟩, ⟨5, .phase⟩, ⟨6, .phase⟩, ⟨7, .phase⟩, ⟨8, .phase⟩], none⟩) ?_
        try simp only [Act.put, tkA, tkB, tkC]
        refine tkI (i := 10) (oi := ⟨some 43, .fieldAddr 89 (.tmp 42) 0, 0, _, #[⟨9, .data⟩, ⟨0, .phase⟩, ⟨1, .phase⟩, ⟨2, .phase⟩, ⟨3, .phase⟩, ⟨4, .phase⟩, ⟨5, .phase⟩, ⟨6, .phase⟩, ⟨7, .phase⟩, ⟨8, .phase⟩], none⟩) ?_
        try simp only [Act.put, tkA, tkB, tkC]
        refine wpAnyH_ready (rs := [11]) (by kernel_rfl) (by simp) ?_
        refine AllReadyH.cons rfl (fun K hK => ?_) AllReadyH.nil
        go_simp
        refine hK.out _ _ ?_ (fun hHeld => ?_)
        · exact ⟨(World.cell?_setCell_far _ _ _ _ (by show w1.heap.size ≠ wr.heap.size; omega)).trans hHeld.1, (World.cell?_setCell_far _ _ _ _ (by show w1.heap.size ≠ wr.heap.size; omega)).trans hHeld.2⟩
        clear hK K
        refine wpAnyH_done (by kernel_rfl) ?_ _
        go_wp2
        go_roundw
        case rel => first | exact ⟨3, _, _, by omega, by first | rfl | go_num, HR.out⟩ | ((repeat apply Exists.intro); exact ⟨⟨3, _, _, by omega, by first | rfl | go_num, HR.out⟩, rfl⟩)
        case measure => simp [intOf]; omega
      · go_simp
        go_wp2_with (go_at_call 44; refine (newZ_any _ _ _ b3 b4).mono ?_; rintro e wN ⟨ad, rfl, hbN, hsl⟩; have HSL := hid hsl; clear hsl)
        refine hK.out _ _ ?_ (fun hHeld => ?_)
        · exact ⟨cell_later hbN (by simp [*]), cell_later hbN (by simp [*])⟩
        clear hK K
        have hbN' : Below (wr.heap.size + 1) (wr.alloc (.cells #[i64 c.s2, i64 c.k2] 37)).drew wN := by
          have e : (wr.alloc (.cells #[i64 c.s2, i64 c.k2] 37)).drew.heap.size = wr.heap.size + 1 := by show (wr.alloc _).heap.size = _; simp
          rw [← e]; exact hbN
        have ownN := owns_below HI.out.own (((Below.refl _ wr).alloc (Nat.le_refl _) (.cells #[i64 c.s2, i64 c.k2] 37)).drew.trans (hbN'.mono (by omega)))
        have hzN : wr.heap.size < wN.heap.size := by have := hbN'.size; have e : (wr.alloc (.cells #[i64 c.s2, i64 c.k2] 37)).drew.heap.size = wr.heap.size + 1 := (by show (wr.alloc _).heap.size = _; simp); omega
        have hzD : w1.heap.size < wN.heap.size := by omega
        have blkN := blk_later hbN' (by omega) (show (wr.alloc _).drew.heap[w1.heap.size]? = _ from blk_alloc HI.out.blk)
        have dN : wN.cell? ⟨w1.heap.size, 0, none⟩ = some v := cell_of_blk blkN 0
        have fN : wN.frozen? ⟨w1.heap.size, 0, none⟩ = false := frozen_of_blk blkN 0
        have HK := hid blkN
        clear blkN
        have HN := hid hbN'
        clear hbN hbN'
        refine wpAnyH_ready (rs := [4, 7]) (by kernel_rfl) (by simp) ?_
        refine AllReadyH.cons rfl (fun K hK => ?_) (AllReadyH.cons rfl (fun K hK => ?_) AllReadyH.nil)
        · go_simp
          refine hK.out _ _ ?_ (fun hHeld => ?_)
          · first | exact hHeld | go_keep
          clear hK K
          refine wpAnyH_ready (rs := [7]) (by kernel_rfl) (by simp) ?_
          refine AllReadyH.cons rfl (fun K hK => ?_) AllReadyH.nil
          go_simp
          refine hK.out _ _ ?_ (fun hHeld => ?_)
          · go_keep
          clear hK K
          refine wpAnyH_ready (rs := [8]) (by kernel_rfl) (by simp) ?_
          refine AllReadyH.cons rfl (fun K hK => ?_) AllReadyH.nil
          refine step_append_lies _ (by rfl) (.tmp 37) (.tmp 40) 87 (by rfl) (w1.heap.size + 2) 94 i0 _ 2 32 Tryz.underlying87 HI0.out.1 HI0.out.2.1 HI0.out.2.2.1 HI0.out.2.2.2 rfl (by decide) v 2 xs (by rfl) (ownN.alloc _) ⟨wN.heap.size, 0, none⟩ 1 1 [i64 c.s2, .slice ad c.k2.toNat c.k2.toNat] (by rfl) rfl (World.news_of_block (heap_alloc_new wN _)) (by simp [Value.oneCell']) (by decide) (by decide) (by decide) (by simp; omega) (wN.heap.size + 1) (by simp) ?_
          intro g cap w3 hown3 hgrow hat hlt3
          refine hK.out _ _ ?_ (fun hHeld => ?_)
          · exact ⟨hgrow.cell (by simp [*]) HA.out, hgrow.cell (by simp [*]) HA.out⟩
          clear hK K
          have blk3 := (hgrow.block _ (by simp; omega) HD.out).trans (blk_alloc HK.out)
          have d3 : w3.cell? ⟨w1.heap.size, 0, none⟩ = some v := cell_of_blk blk3 0
          have f3 : w3.frozen? ⟨w1.heap.size, 0, none⟩ = false := frozen_of_blk blk3 0
          clear blk3
          have HR := hid (ciz_step HIZ.out HN.out hown3 hgrow HSL.out)
          clear hown3 hgrow hat hlt3 ownN dN fN
          refine tkI (i := 9) (oi := ⟨some 42, .nilCheck (.tmp 33), 0, _, #[⟨0, .data⟩, ⟨0, .phase⟩, ⟨1, .phase⟩, ⟨2, .phase⟩, ⟨3, .phase⟩, ⟨4, .phase⟩, ⟨5, .phase⟩, ⟨6, .phase⟩, ⟨7, .phase⟩, ⟨8, .phase⟩], none⟩) ?_
          try simp only [Act.put, tkA, tkB, tkC]
          refine tkI (i := 10) (oi := ⟨some 43, .fieldAddr 89 (.tmp 42) 0, 0, _, #[⟨9, .data⟩, ⟨0, .phase⟩, ⟨1, .phase⟩, ⟨2, .phase⟩, ⟨3, .phase⟩, ⟨4, .phase⟩, ⟨5, .phase⟩, ⟨6, .phase⟩, ⟨7, .phase⟩, ⟨8, .phase⟩], none⟩) ?_
          try simp only [Act.put, tkA, tkB, tkC]
          refine wpAnyH_ready (rs := [11]) (by kernel_rfl) (by simp) ?_
          refine AllReadyH.cons rfl (fun K hK => ?_) AllReadyH.nil
          go_simp
          refine hK.out _ _ ?_ (fun hHeld => ?_)
          · exact ⟨(World.cell?_setCell_far _ _ _ _ (by show w1.heap.size ≠ wr.heap.size; omega)).trans hHeld.1, (World.cell?_setCell_far _ _ _ _ (by show w1.heap.size ≠ wr.heap.size; omega)).trans hHeld.2⟩
          clear hK K
          refine wpAnyH_done (by kernel_rfl) ?_ _
          go_wp2
          go_roundw
          case rel => first | exact ⟨3, _, _, by omega, by first | rfl | go_num, HR.out⟩ | ((repeat apply Exists.intro); exact ⟨⟨3, _, _, by omega, by first | rfl | go_num, HR.out⟩, rfl⟩)
          case measure => simp [intOf]; omega
        · go_simp
          refine hK.out _ _ ?_ (fun hHeld => ?_)
          · go_keep
          clear hK K
          refine wpAnyH_ready (rs := [4]) (by kernel_rfl) (by simp) ?_
          refine AllReadyH.cons rfl (fun K hK => ?_) AllReadyH.nil
          go_simp
          refine hK.out _ _ ?_ (fun hHeld => ?_)
          · first | exact hHeld | go_keep
          clear hK K
          refine wpAnyH_ready (rs := [8]) (by kernel_rfl) (by simp) ?_
          refine AllReadyH.cons rfl (fun K hK => ?_) AllReadyH.nil
          refine step_append_lies _ (by rfl) (.tmp 37) (.tmp 40) 87 (by rfl) (w1.heap.size + 2) 94 i0 _ 2 32 Tryz.underlying87 HI0.out.1 HI0.out.2.1 HI0.out.2.2.1 HI0.out.2.2.2 rfl (by decide) v 2 xs (by rfl) (ownN.alloc _) ⟨wN.heap.size, 0, none⟩ 1 1 [i64 c.s2, .slice ad c.k2.toNat c.k2.toNat] (by rfl) rfl (World.news_of_block (heap_alloc_new wN _)) (by simp [Value.oneCell']) (by decide) (by decide) (by decide) (by simp; omega) (wN.heap.size + 1) (by simp) ?_
          intro g cap w3 hown3 hgrow hat hlt3
          refine hK.out _ _ ?_ (fun hHeld => ?_)
          · exact ⟨hgrow.cell (by simp [*]) HA.out, hgrow.cell (by simp [*]) HA.out⟩
          clear hK K
          have blk3 := (hgrow.block _ (by simp; omega) HD.out).trans (blk_alloc HK.out)
          have d3 : w3.cell? ⟨w1.heap.size, 0, none⟩ = some v := cell_of_blk blk3 0
          have f3 : w3.frozen? ⟨w1.heap.size, 0, none⟩ = false := frozen_of_blk blk3 0
          clear blk3
          have HR := hid (ciz_step HIZ.out HN.out hown3 hgrow HSL.out)
          clear hown3 hgrow hat hlt3 ownN dN fN
          refine tkI (i := 9) (oi := ⟨some 42, .nilCheck (.tmp 33), 0, _, #[⟨0, .data⟩, ⟨0, .phase⟩, ⟨1, .phase⟩, ⟨2, .phase⟩, ⟨3, .phase⟩, ⟨4, .phase⟩, ⟨5, .phase⟩, ⟨6, .phase⟩, ⟨7, .phase⟩, ⟨8, .phase⟩], none⟩) ?_
          try simp only [Act.put, tkA, tkB, tkC]
          refine tkI (i := 10) (oi := ⟨some 43, .fieldAddr 89 (.tmp 42) 0, 0, _, #[⟨9, .data⟩, ⟨0, .phase⟩, ⟨1, .phase⟩, ⟨2, .phase⟩, ⟨3, .phase⟩, ⟨4, .phase⟩, ⟨5, .phase⟩, ⟨6, .phase⟩, ⟨7, .phase⟩, ⟨8, .phase⟩], none⟩) ?_
          try simp only [Act.put, tkA, tkB, tkC]
          refine wpAnyH_ready (rs := [11]) (by kernel_rfl) (by simp) ?_
          refine AllReadyH.cons rfl (fun K hK => ?_) AllReadyH.nil
          go_simp
          refine hK.out _ _ ?_ (fun hHeld => ?_)
          · exact ⟨(World.cell?_setCell_far _ _ _ _ (by show w1.heap.size ≠ wr.heap.size; omega)).trans hHeld.1, (World.cell?_setCell_far _ _ _ _ (by show w1.heap.size ≠ wr.heap.size; omega)).trans hHeld.2⟩
          clear hK K
          refine wpAnyH_done (by kernel_rfl) ?_ _
          go_wp2
          go_roundw
          case rel => first | exact ⟨3, _, _, by omega, by first | rfl | go_num, HR.out⟩ | ((repeat apply Exists.intro); exact ⟨⟨3, _, _, by omega, by first | rfl | go_num, HR.out⟩, rfl⟩)
          case measure => simp [intOf]; omega
    · have hbd := HBD.out 3 hlt
      obtain ⟨b1, b2, b3, b4⟩ := (show 1 ≤ c.s3 ∧ c.s3 ≤ 86400 ∧ 1 ≤ c.k3 ∧ c.k3 ≤ 60 from hbd)
      clear hbd
      go_wp2_with fail
      refine wp_region_held_drew (S := (fun w' => w'.cell? ⟨wr.heap.size, 0, none⟩ = some (i64 c.s3) ∧ w'.cell? ⟨wr.heap.size, 1, none⟩ = some (i64 c.k3))) (by kernel_rfl) ?_ (fun hHeld => ?_)
      · go_keep
      refine tkI (i := 0) (oi := ⟨some 33, .move (.tmp 7), 50, _, #[], none⟩) ?_
      try simp only [Act.put, tkA, tkB, tkC]
      refine tkI (i := 1) (oi := ⟨some 34, .move (.tmp 7), 50, _, #[], none⟩) ?_
      try simp only [Act.put, tkA, tkB, tkC]
      refine tkI (i := 2) (oi := ⟨some 35, .nilCheck (.tmp 34), 0, _, #[⟨1, .data⟩], none⟩) ?_
      try simp only [Act.put, tkA, tkB, tkC]
      refine tkI (i := 3) (oi := ⟨some 36, .fieldAddr 89 (.tmp 35) 0, 0, _, #[⟨2, .data⟩], none⟩) ?_
      try simp only [Act.put, tkA, tkB, tkC]
      refine tkI (i := 5) (oi := ⟨some 38, .load 37 (.tmp 9), 37, _, #[], none⟩) ?_
      try simp only [Act.put, tkA, tkB, tkC]
      refine wpAnyH_ready (rs := [4, 6]) (by kernel_rfl) (by simp) ?_
      refine AllReadyH.cons rfl (fun K hK => ?_) (AllReadyH.cons rfl (fun K hK => ?_) AllReadyH.nil)
      · go_simp
        refine hK.out _ _ ?_ (fun hHeld => ?_)
        · first | exact hHeld | go_keep
        clear hK K
        refine wpAnyH_ready (rs := [6]) (by kernel_rfl) (by simp) ?_
        refine AllReadyH.cons rfl (fun K hK => ?_) AllReadyH.nil
        go_simp
        go_wp2_with (go_at_call 44; refine (newZ_any _ _ _ b3 b4).mono ?_; rintro e wN ⟨ad, rfl, hbN, hsl⟩; have HSL := hid hsl; clear hsl)
        refine hK.out _ _ ?_ (fun hHeld => ?_)
        · exact ⟨cell_later hbN (by simp [*]), cell_later hbN (by simp [*])⟩
        clear hK K
        have hbN' : Below (wr.heap.size + 1) (wr.alloc (.cells #[i64 c.s3, i64 c.k3] 37)).drew wN := by
          have e : (wr.alloc (.cells #[i64 c.s3, i64 c.k3] 37)).drew.heap.size = wr.heap.size + 1 := by show (wr.alloc _).heap.size = _; simp
          rw [← e]; exact hbN
        have ownN := owns_below HI.out.own (((Below.refl _ wr).alloc (Nat.le_refl _) (.cells #[i64 c.s3, i64 c.k3] 37)).drew.trans (hbN'.mono (by omega)))
        have hzN : wr.heap.size < wN.heap.size := by have := hbN'.size; have e : (wr.alloc (.cells #[i64 c.s3, i64 c.k3] 37)).drew.heap.size = wr.heap.size + 1 := (by show (wr.alloc _).heap.size = _; simp); omega
        have hzD : w1.heap.size < wN.heap.size := by omega
        have blkN := blk_later hbN' (by omega) (show (wr.alloc _).drew.heap[w1.heap.size]? = _ from blk_alloc HI.out.blk)
        have dN : wN.cell? ⟨w1.heap.size, 0, none⟩ = some v := cell_of_blk blkN 0
        have fN : wN.frozen? ⟨w1.heap.size, 0, none⟩ = false := frozen_of_blk blkN 0
        have HK := hid blkN
        clear blkN
        have HN := hid hbN'
        clear hbN hbN'
        refine wpAnyH_ready (rs := [7]) (by kernel_rfl) (by simp) ?_
        refine AllReadyH.cons rfl (fun K hK => ?_) AllReadyH.nil
        go_simp
        refine hK.out _ _ ?_ (fun hHeld => ?_)
        · go_keep
        clear hK K
        refine wpAnyH_ready (rs := [8]) (by kernel_rfl) (by simp) ?_
        refine AllReadyH.cons rfl (fun K hK => ?_) AllReadyH.nil
        refine step_append_lies _ (by rfl) (.tmp 37) (.tmp 40) 87 (by rfl) (w1.heap.size + 2) 94 i0 _ 2 32 Tryz.underlying87 HI0.out.1 HI0.out.2.1 HI0.out.2.2.1 HI0.out.2.2.2 rfl (by decide) v 3 xs (by rfl) (ownN.alloc _) ⟨wN.heap.size, 0, none⟩ 1 1 [i64 c.s3, .slice ad c.k3.toNat c.k3.toNat] (by rfl) rfl (World.news_of_block (heap_alloc_new wN _)) (by simp [Value.oneCell']) (by decide) (by decide) (by decide) (by simp; omega) (wN.heap.size + 1) (by simp) ?_
        intro g cap w3 hown3 hgrow hat hlt3
        refine hK.out _ _ ?_ (fun hHeld => ?_)
        · exact ⟨hgrow.cell (by simp [*]) HA.out, hgrow.cell (by simp [*]) HA.out⟩
        clear hK K
        have blk3 := (hgrow.block _ (by simp; omega) HD.out).trans (blk_alloc HK.out)
        have d3 : w3.cell? ⟨w1.heap.size, 0, none⟩ = some v := cell_of_blk blk3 0
        have f3 : w3.frozen? ⟨w1.heap.size, 0, none⟩ = false := frozen_of_blk blk3 0
        clear blk3
        have HR := hid (ciz_step HIZ.out HN.out hown3 hgrow HSL.out)
        clear hown3 hgrow hat hlt3 ownN dN fN
        refine tkI (i := 9) (oi := ⟨some 42, .nilCheck (.tmp 33), 0, _, #[⟨0, .data⟩, ⟨0, .phase⟩, ⟨1, .phase⟩, ⟨2, .phase⟩, ⟨3, .phase⟩, ⟨4, .phase⟩, ⟨5, .phase⟩, ⟨6, .phase⟩, ⟨7, .phase⟩, ⟨8, .phase⟩], none⟩) ?_
        try simp only [Act.put, tkA, tkB, tkC]
        refine tkI (i := 10) (oi := ⟨some 43, .fieldAddr 89 (.tmp 42) 0, 0, _, #[⟨9, .data⟩, ⟨0, .phase⟩, ⟨1, .phase⟩, ⟨2, .phase⟩, ⟨3, .phase⟩, ⟨4, .phase⟩, ⟨5, .phase⟩, ⟨6, .phase⟩, ⟨7, .phase⟩, ⟨8, .phase⟩], none⟩) ?_
        try simp only [Act.put, tkA, tkB, tkC]
        refine wpAnyH_ready (rs := [11]) (by kernel_rfl) (by simp) ?_
        refine AllReadyH.cons rfl (fun K hK => ?_) AllReadyH.nil
        go_simp
        refine hK.out _ _ ?_ (fun hHeld => ?_)
        · exact ⟨(World.cell?_setCell_far _ _ _ _ (by show w1.heap.size ≠ wr.heap.size; omega)).trans hHeld.1, (World.cell?_setCell_far _ _ _ _ (by show w1.heap.size ≠ wr.heap.size; omega)).trans hHeld.2⟩
        clear hK K
        refine wpAnyH_done (by kernel_rfl) ?_ _
        go_wp2
        go_roundw
        case rel => first | exact ⟨4, _, _, by omega, by first | rfl | go_num, HR.out⟩ | ((repeat apply Exists.intro); exact ⟨⟨4, _, _, by omega, by first | rfl | go_num, HR.out⟩, rfl⟩)
        case measure => simp [intOf]; omega
      · go_simp
        go_wp2_with (go_at_call 44; refine (newZ_any _ _ _ b3 b4).mono ?_; rintro e wN ⟨ad, rfl, hbN, hsl⟩; have HSL := hid hsl; clear hsl)
        refine hK.out _ _ ?_ (fun hHeld => ?_)
        · exact ⟨cell_later hbN (by simp [*]), cell_later hbN (by simp [*])⟩
        clear hK K
        have hbN' : Below (wr.heap.size + 1) (wr.alloc (.cells #[i64 c.s3, i64 c.k3] 37)).drew wN := by
          have e : (wr.alloc (.cells #[i64 c.s3, i64 c.k3] 37)).drew.heap.size = wr.heap.size + 1 := by show (wr.alloc _).heap.size = _; simp
          rw [← e]; exact hbN
        have ownN := owns_below HI.out.own (((Below.refl _ wr).alloc (Nat.le_refl _) (.cells #[i64 c.s3, i64 c.k3] 37)).drew.trans (hbN'.mono (by omega)))
        have hzN : wr.heap.size < wN.heap.size := by have := hbN'.size; have e : (wr.alloc (.cells #[i64 c.s3, i64 c.k3] 37)).drew.heap.size = wr.heap.size + 1 := (by show (wr.alloc _).heap.size = _; simp); omega
        have hzD : w1.heap.size < wN.heap.size := by omega
        have blkN := blk_later hbN' (by omega) (show (wr.alloc _).drew.heap[w1.heap.size]? = _ from blk_alloc HI.out.blk)
        have dN : wN.cell? ⟨w1.heap.size, 0, none⟩ = some v := cell_of_blk blkN 0
        have fN : wN.frozen? ⟨w1.heap.size, 0, none⟩ = false := frozen_of_blk blkN 0
        have HK := hid blkN
        clear blkN
        have HN := hid hbN'
        clear hbN hbN'
        refine wpAnyH_ready (rs := [4, 7]) (by kernel_rfl) (by simp) ?_
        refine AllReadyH.cons rfl (fun K hK => ?_) (AllReadyH.cons rfl (fun K hK => ?_) AllReadyH.nil)
        · go_simp
          refine hK.out _ _ ?_ (fun hHeld => ?_)
          · first | exact hHeld | go_keep
          clear hK K
          refine wpAnyH_ready (rs := [7]) (by kernel_rfl) (by simp) ?_
          refine AllReadyH.cons rfl (fun K hK => ?_) AllReadyH.nil
          go_simp
          refine hK.out _ _ ?_ (fun hHeld => ?_)
          · go_keep
          clear hK K
          refine wpAnyH_ready (rs := [8]) (by kernel_rfl) (by simp) ?_
          refine AllReadyH.cons rfl (fun K hK => ?_) AllReadyH.nil
          refine step_append_lies _ (by rfl) (.tmp 37) (.tmp 40) 87 (by rfl) (w1.heap.size + 2) 94 i0 _ 2 32 Tryz.underlying87 HI0.out.1 HI0.out.2.1 HI0.out.2.2.1 HI0.out.2.2.2 rfl (by decide) v 3 xs (by rfl) (ownN.alloc _) ⟨wN.heap.size, 0, none⟩ 1 1 [i64 c.s3, .slice ad c.k3.toNat c.k3.toNat] (by rfl) rfl (World.news_of_block (heap_alloc_new wN _)) (by simp [Value.oneCell']) (by decide) (by decide) (by decide) (by simp; omega) (wN.heap.size + 1) (by simp) ?_
          intro g cap w3 hown3 hgrow hat hlt3
          refine hK.out _ _ ?_ (fun hHeld => ?_)
          · exact ⟨hgrow.cell (by simp [*]) HA.out, hgrow.cell (by simp [*]) HA.out⟩
          clear hK K
          have blk3 := (hgrow.block _ (by simp; omega) HD.out).trans (blk_alloc HK.out)
          have d3 : w3.cell? ⟨w1.heap.size, 0, none⟩ = some v := cell_of_blk blk3 0
          have f3 : w3.frozen? ⟨w1.heap.size, 0, none⟩ = false := frozen_of_blk blk3 0
          clear blk3
          have HR := hid (ciz_step HIZ.out HN.out hown3 hgrow HSL.out)
          clear hown3 hgrow hat hlt3 ownN dN fN
          refine tkI (i := 9) (oi := ⟨some 42, .nilCheck (.tmp 33), 0, _, #[⟨0, .data⟩, ⟨0, .phase⟩, ⟨1, .phase⟩, ⟨2, .phase⟩, ⟨3, .phase⟩, ⟨4, .phase⟩, ⟨5, .phase⟩, ⟨6, .phase⟩, ⟨7, .phase⟩, ⟨8, .phase⟩], none⟩) ?_
          try simp only [Act.put, tkA, tkB, tkC]
          refine tkI (i := 10) (oi := ⟨some 43, .fieldAddr 89 (.tmp 42) 0, 0, _, #[⟨9, .data⟩, ⟨0, .phase⟩, ⟨1, .phase⟩, ⟨2, .phase⟩, ⟨3, .phase⟩, ⟨4, .phase⟩, ⟨5, .phase⟩, ⟨6, .phase⟩, ⟨7, .phase⟩, ⟨8, .phase⟩], none⟩) ?_
          try simp only [Act.put, tkA, tkB, tkC]
          refine wpAnyH_ready (rs := [11]) (by kernel_rfl) (by simp) ?_
          refine AllReadyH.cons rfl (fun K hK => ?_) AllReadyH.nil
          go_simp
          refine hK.out _ _ ?_ (fun hHeld => ?_)
          · exact ⟨(World.cell?_setCell_far _ _ _ _ (by show w1.heap.size ≠ wr.heap.size; omega)).trans hHeld.1, (World.cell?_setCell_far _ _ _ _ (by show w1.heap.size ≠ wr.heap.size; omega)).trans hHeld.2⟩
          clear hK K
          refine wpAnyH_done (by kernel_rfl) ?_ _
          go_wp2
          go_roundw
          case rel => first | exact ⟨4, _, _, by omega, by first | rfl | go_num, HR.out⟩ | ((repeat apply Exists.intro); exact ⟨⟨4, _, _, by omega, by first | rfl | go_num, HR.out⟩, rfl⟩)
          case measure => simp [intOf]; omega
        · go_simp
          refine hK.out _ _ ?_ (fun hHeld => ?_)
          · go_keep
          clear hK K
          refine wpAnyH_ready (rs := [4]) (by kernel_rfl) (by simp) ?_
          refine AllReadyH.cons rfl (fun K hK => ?_) AllReadyH.nil
          go_simp
          refine hK.out _ _ ?_ (fun hHeld => ?_)
          · first | exact hHeld | go_keep
          clear hK K
          refine wpAnyH_ready (rs := [8]) (by kernel_rfl) (by simp) ?_
          refine AllReadyH.cons rfl (fun K hK => ?_) AllReadyH.nil
          refine step_append_lies _ (by rfl) (.tmp 37) (.tmp 40) 87 (by rfl) (w1.heap.size + 2) 94 i0 _ 2 32 Tryz.underlying87 HI0.out.1 HI0.out.2.1 HI0.out.2.2.1 HI0.out.2.2.2 rfl (by decide) v 3 xs (by rfl) (ownN.alloc _) ⟨wN.heap.size, 0, none⟩ 1 1 [i64 c.s3, .slice ad c.k3.toNat c.k3.toNat] (by rfl) rfl (World.news_of_block (heap_alloc_new wN _)) (by simp [Value.oneCell']) (by decide) (by decide) (by decide) (by simp; omega) (wN.heap.size + 1) (by simp) ?_
          intro g cap w3 hown3 hgrow hat hlt3
          refine hK.out _ _ ?_ (fun hHeld => ?_)
          · exact ⟨hgrow.cell (by simp [*]) HA.out, hgrow.cell (by simp [*]) HA.out⟩
          clear hK K
          have blk3 := (hgrow.block _ (by simp; omega) HD.out).trans (blk_alloc HK.out)
          have d3 : w3.cell? ⟨w1.heap.size, 0, none⟩ = some v := cell_of_blk blk3 0
          have f3 : w3.frozen? ⟨w1.heap.size, 0, none⟩ = false := frozen_of_blk blk3 0
          clear blk3
          have HR := hid (ciz_step HIZ.out HN.out hown3 hgrow HSL.out)
          clear hown3 hgrow hat hlt3 ownN dN fN
          refine tkI (i := 9) (oi := ⟨some 42, .nilCheck (.tmp 33), 0, _, #[⟨0, .data⟩, ⟨0, .phase⟩, ⟨1, .phase⟩, ⟨2, .phase⟩, ⟨3, .phase⟩, ⟨4, .phase⟩, ⟨5, .phase⟩, ⟨6, .phase⟩, ⟨7, .phase⟩, ⟨8, .phase⟩], none⟩) ?_
          try simp only [Act.put, tkA, tkB, tkC]
          refine tkI (i := 10) (oi := ⟨some 43, .fieldAddr 89 (.tmp 42) 0, 0, _, #[⟨9, .data⟩, ⟨0, .phase⟩, ⟨1, .phase⟩, ⟨2, .phase⟩, ⟨3, .phase⟩, ⟨4, .phase⟩, ⟨5, .phase⟩, ⟨6, .phase⟩, ⟨7, .phase⟩, ⟨8, .phase⟩], none⟩) ?_
          try simp only [Act.put, tkA, tkB, tkC]
          refine wpAnyH_ready (rs := [11]) (by kernel_rfl) (by simp) ?_
          refine AllReadyH.cons rfl (fun K hK => ?_) AllReadyH.nil
          go_simp
          refine hK.out _ _ ?_ (fun hHeld => ?_)
          · exact ⟨(World.cell?_setCell_far _ _ _ _ (by show w1.heap.size ≠ wr.heap.size; omega)).trans hHeld.1, (World.cell?_setCell_far _ _ _ _ (by show w1.heap.size ≠ wr.heap.size; omega)).trans hHeld.2⟩
          clear hK K
          refine wpAnyH_done (by kernel_rfl) ?_ _
          go_wp2
          go_roundw
          case rel => first | exact ⟨4, _, _, by omega, by first | rfl | go_num, HR.out⟩ | ((repeat apply Exists.intro); exact ⟨⟨4, _, _, by omega, by first | rfl | go_num, HR.out⟩, rfl⟩)
          case measure => simp [intOf]; omega
end Go.Proofs.YthbbfjfekchdiaaGreat
