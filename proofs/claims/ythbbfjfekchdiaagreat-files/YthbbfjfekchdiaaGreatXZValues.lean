import Derived.Test.YthbbfjfekchdiaaGreatXZHead
import Derived.Test.YthbbfjfekchdiaaGreatXZSlots
import Derived.Test.YthbbfjfekchdiaaGreatXPNum
import Derived.Test.YthbbfjfekchdiaaGreatXZFirst
import Derived.Test.YthbbfjfekchdiaaGreatXZPoints
import Derived.Test.YthbbfjfekchdiaaGreatXRWrites
namespace Go.Proofs.YthbbfjfekchdiaaGreat
open Go.RowKit
set_option linter.unusedSimpArgs false
attribute [local go_sem] Go.wp_at_zero Go.wp_at_succ
def LoadPost (w : World) (b : List Int) (e : Ending) (w' : World) : Prop :=
  Below w.heap.size w w' ∧ (loadL b = none → e = .returned (.tuple #[.pointer none, i64 5])) ∧ ∀ d, loadL b = some d → ∃ p, e = .returned (.tuple #[.pointer (some ⟨p, 0, none⟩), i64 0]) ∧ ZRep w' (fun k => w.heap.size ≤ k) p d
theorem LoadPost.bad {w w' : World} {b : List Int} (h : Below w.heap.size w w') (hn : loadL b = none) : LoadPost w b (.returned (.tuple #[.pointer none, i64 5])) w' :=
  ⟨h, fun _ => rfl, fun d hd => by rw [hn] at hd; cases hd⟩
theorem loadL_head {b : List Int} (h : b.length < 7 ∨ b.take 4 ≠ sunL ∨ (4 < b.getD 6 0 ∨ b.length < 7 + 8 * (b.getD 6 0).toNat)) : loadL b = none := by
  unfold loadL
  rw [if_pos]
  rcases h with h | h | h | h
  · exact .inl h
  · exact .inr (.inl h)
  · exact .inr (.inr (.inr (.inl h)))
  · exact .inr (.inr (.inr (.inr h)))
theorem loadL_cfg {b : List Int} (h : ¬ (cfgRead b (b.getD 6 0).toNat).Ok ∨ (cfgRead b (b.getD 6 0).toNat).many ≠ (b.getD 6 0).toNat) : loadL b = none := by
  unfold loadL
  split
  · rfl
  · rw [if_pos]
    rcases h with h | h
    · exact .inl (by rw [Cfg.err_no h]; decide)
    · exact .inr (.inl h)
theorem loadL_slots {b : List Int} (h : arcsRead (cfgRead b (b.getD 6 0).toNat) 0 (b.getD 6 0).toNat (b.drop (7 + 8 * (b.getD 6 0).toNat)) = none ∨ (b.drop (7 + 8 * (b.getD 6 0).toNat)).length ≠ slotLen (cfgRead b (b.getD 6 0).toNat) 0 (b.getD 6 0).toNat) : loadL b = none := by
  unfold loadL
  split
  · rfl
  · split
    · rfl
    · rename_i h1 h2
      rcases h with h | h
      · rw [h]; rfl
      · exfalso
        apply h
        rw [List.length_drop]
        have : ¬ b.length < 7 + 8 * (b.getD 6 0).toNat := fun y => h1 (.inr (.inr (.inr (.inr y))))
        have : b.length = 7 + 8 * (b.getD 6 0).toNat + slotLen (cfgRead b (b.getD 6 0).toNat) 0 (b.getD 6 0).toNat := Classical.not_not.1 fun y => h2 (.inr (.inr y))
        omega
theorem loadL_ok {b : List Int} {A : List (List (Option Pt))} {r : List Int} (h7 : 7 ≤ b.length) (hm : b.take 4 = sunL) (hh : ¬ (4 < b.getD 6 0 ∨ b.length < 7 + 8 * (b.getD 6 0).toNat)) (hc : (cfgRead b (b.getD 6 0).toNat).Ok) (hmn : (cfgRead b (b.getD 6 0).toNat).many = (b.getD 6 0).toNat) (hl : (b.drop (7 + 8 * (b.getD 6 0).toNat)).length = slotLen (cfgRead b (b.getD 6 0).toNat) 0 (b.getD 6 0).toNat)
    (ha : arcsRead (cfgRead b (b.getD 6 0).toNat) 0 (b.getD 6 0).toNat (b.drop (7 + 8 * (b.getD 6 0).toNat)) = some (A, r)) : loadL b = some ⟨cfgRead b (b.getD 6 0).toNat, A.map listOf⟩ := by
  have h1 := hc.1.2.2.2.2
  rw [hmn] at h1
  unfold loadL
  rw [if_neg, if_neg, ha]
  · rfl
  · rintro (x | x | x)
    · rw [Cfg.err_ok hc] at x; exact x rfl
    · exact x hmn
    · rw [List.length_drop] at hl
      have : ¬ b.length < 7 + 8 * (b.getD 6 0).toNat := fun y => hh (.inr y)
      omega
  · rintro (x | x | x | x | x)
    · omega
    · exact x hm
    · omega
    · exact hh (.inl x)
    · exact hh (.inr x)
set_option maxRecDepth 4000 in
set_option maxHeartbeats 2000000 in
theorem load_bad (v : Value) (b : List Int) (w : World) (hh : Calls Tryz.prog 45 #[v] w fun e w' => e = .returned (.tuple #[.agg zero10, .slice none 0 0, .bool false]) ∧ Below w.heap.size w w') (hn : loadL b = none) :
    Calls Tryz.prog 25 #[v] w fun e w' => LoadPost w b e w' := by
  have HP := hid (fun (w' : World) (h : Below w.heap.size w w') => LoadPost.bad (b := b) h hn)
  have HH := hid hh
  clear hh hn
  go_enter Tryz.func25, Tryz.ntmps25
  go_wp2_with fail
  refine HH.out.mono ?_
  rintro e w1 ⟨rfl, hb1⟩
  have HB := hid hb1
  have hwz : w.heap.size ≤ w1.heap.size := hb1.size
  clear hb1
  simp only [zero10]
  go_wp2
  exact bodyPost_ret (v := .tuple #[.pointer none, i64 5]) (by simp [results, Tryz.results25, go_sem]) rfl (HP.out _ (HB.out.alloc (by omega) _))
set_option maxRecDepth 4000 in
set_option maxHeartbeats 2000000 in
theorem zload_go (v : Value) (b r : List Int) (c : Cfg) (q : Bool) (w : World)
    (hh : Calls Tryz.prog 45 #[v] w fun e w' => ∃ v', e = .returned (.tuple #[.agg c.cells, v', .bool q]) ∧ Below w.heap.size w w' ∧ RowB w' v' r ∧ OutB (fun k => w.heap.size ≤ k) v')
    (hb : ByteL r) (h1 : q = false ∨ ¬ c.Ok → loadL b = none) (h2 : q = true → c.Ok → (arcsRead c 0 c.many r = none ∨ r.length ≠ slotLen c 0 c.many) → loadL b = none) (h3 : q = true → c.Ok → r.length = slotLen c 0 c.many → ∀ A, arcsRead c 0 c.many r = some (A, []) → loadL b = some ⟨c, A.map listOf⟩) :
    Calls Tryz.prog 25 #[v] w fun e w' => LoadPost w b e w' := by
  have HP := hid (fun (w' : World) (h : Below w.heap.size w w') (hn : loadL b = none) => LoadPost.bad (b := b) h hn)
  have HH := hid hh
  have HBR := hid hb
  have H1 := hid h1
  have H2 := hid h2
  have H3 := hid h3
  clear hh hb h1 h2 h3
  go_enter Tryz.func25, Tryz.ntmps25
  go_wp2_with fail
  refine HH.out.mono ?_
  rintro e w1 ⟨v', rfl, hb1, hrow, hout⟩
  have HB := hid hb1
  have HROW := hid hrow
  have HOUT := hid hout
  have hwz : w.heap.size ≤ w1.heap.size := hb1.size
  have HBA := hid (fun (O : Obj) => HB.out.alloc (by omega) O)
  clear hb1 hrow hout
  simp only [Cfg.cells]
  cases q with
  | false =>
    have HN := hid (H1.out (.inl rfl))
    go_wp2
    exact bodyPost_ret (v := .tuple #[.pointer none, i64 5]) (by simp [results, Tryz.results25, go_sem]) rfl (HP.out _ (HBA.out _) HN.out)
  | true =>
    go_wp2_with fail
    by_cases hc : c.Ok
    · have HC := hid hc
      refine (show Calls Tryz.prog 21 #[.agg #[i64 c.s0, i64 c.k0, i64 c.s1, i64 c.k1, i64 c.s2, i64 c.k2, i64 c.s3, i64 c.k3, i64 c.m, i64 c.f]] _ _ from zcreate_yes c _ hc).mono ?_
      rintro e w2 ⟨p, rfl, hb2, hz⟩
      have HB2 := hid ((HBA.out _).trans (hb2.mono (HBA.out _).size))
      have HZ := hid (hz.weak (In' := fun k => w.heap.size ≤ k) fun k hk => Nat.le_trans (Nat.le_trans hwz (by simp)) hk)
      have HROW2 := hid ((HROW.out.later ((Below.refl _ w1).alloc (Nat.le_refl _) _)).later hb2)
      clear hb2 hz hc HROW
      go_wp2_with fail
      refine (readSlots_any p c (fun k => w.heap.size ≤ k) v' r _ HZ.out HROW2.out HBR.out HOUT.out).mono ?_
      rintro e w3 ⟨hf3, ⟨rfl, hlen, A, hA, hz3⟩ | ⟨rfl, hbad⟩⟩
      · have HF := hid (show LoadPost w b (.returned (.tuple #[.pointer (some ⟨p, 0, none⟩), i64 0])) w3 from by
          have hl := H3.out (by trivial) HC.out hlen A hA
          refine ⟨HB2.out.trans ⟨hf3.os, hf3.tape, hf3.output, hf3.size, fun k hk => hf3.block k (Nat.lt_of_lt_of_le hk HB2.out.size) (by omega)⟩, (fun hn => by rw [hl] at hn; cases hn), fun d hd => ?_⟩
          rw [hl] at hd
          cases hd
          exact ⟨p, rfl, hz3⟩)
        clear hf3 hlen hA hz3
        go_wp2
        exact bodyPost_ret (v := .tuple #[.pointer (some ⟨p, 0, none⟩), i64 0]) (by simp [results, Tryz.results25, go_sem]) rfl HF.out
      · have HF := hid (HP.out w3 (HB2.out.trans ⟨hf3.os, hf3.tape, hf3.output, hf3.size, fun k hk => hf3.block k (Nat.lt_of_lt_of_le hk HB2.out.size) (by omega)⟩) (H2.out (by trivial) HC.out hbad))
        clear hf3 hbad
        go_wp2
        exact bodyPost_ret (v := .tuple #[.pointer none, i64 5]) (by simp [results, Tryz.results25, go_sem]) rfl HF.out
    · refine (show Calls Tryz.prog 21 #[.agg #[i64 c.s0, i64 c.k0, i64 c.s1, i64 c.k1, i64 c.s2, i64 c.k2, i64 c.s3, i64 c.k3, i64 c.m, i64 c.f]] _ _ from pcreate_no c _ hc).mono ?_
      rintro e w2 ⟨rfl, hb2⟩
      have HF := hid (HP.out w2 ((HBA.out _).trans (hb2.mono (HBA.out _).size)) (H1.out (.inr hc)))
      clear hb2 hc
      go_wp2
      exact bodyPost_ret (v := .tuple #[.pointer none, i64 5]) (by simp [results, Tryz.results25, go_sem]) rfl HF.out
theorem zload_any (v : Value) (b : List Int) (w : World) (hr : RowB w v b) (hb : ByteL b) (hlow : OutB (fun k => w.heap.size ≤ k) v) :
    Calls Tryz.prog 25 #[v] w fun e w' => LoadPost w b e w' := by
  by_cases h7 : b.length < 7
  · exact load_bad v b w (head_short v b w hr h7) (loadL_head (.inl h7))
  by_cases hm : b.take 4 = sunL
  · by_cases hh : 4 < b.getD 6 0 ∨ b.length < 7 + 8 * (b.getD 6 0).toNat
    · refine load_bad v b w ?_ (loadL_head (.inr (.inr hh)))
      exact head_rest v b w hr hb (by omega) hm _ (fun _ w' h => ⟨rfl, h⟩) (fun h => absurd hh h)
    · refine zload_go v b (b.drop (7 + 8 * (b.getD 6 0).toNat)) (cfgRead b (b.getD 6 0).toNat) ((cfgRead b (b.getD 6 0).toNat).many == (b.getD 6 0).toNat) w ?_ (fun x hx => hb x (List.mem_of_mem_drop hx)) ?_ ?_ ?_
      · exact head_rest v b w hr hb (by omega) hm _ (fun h => absurd h hh) (fun _ v' w' h1 h2 h3 => ⟨v', rfl, h1, h2, h3 _ hlow⟩)
      · rintro (h | h)
        · exact loadL_cfg (.inr (beq_eq_false_iff_ne.1 h))
        · exact loadL_cfg (.inl h)
      · intro hq _ h
        rw [beq_iff_eq.1 hq] at h
        exact loadL_slots h
      · intro hq hc hl A hA
        rw [beq_iff_eq.1 hq] at hl hA
        exact loadL_ok (by omega) hm hh hc (beq_iff_eq.1 hq) hl hA
  · exact load_bad v b w (head_mark v b w hr hb (by omega) hm) (loadL_head (.inr (.inl hm)))
end Go.Proofs.YthbbfjfekchdiaaGreat
namespace Go.Proofs.YthbbfjfekchdiaaGreat
open Go.RowKit
set_option linter.unusedSimpArgs false
attribute [local go_sem] Go.wp_at_zero Go.wp_at_succ
theorem ArcRow.length {c : Cfg} {k : Nat} {xs : List Value} (h : ArcRow c k xs) : xs.length = 2 * k := h.1
theorem ArcRow.at {c : Cfg} {k : Nat} {xs : List Value} (h : ArcRow c k xs) : ∀ j, j < k → xs[2 * j]? = some (i64 (c.s j)) ∧ ∃ ad, xs[2 * j + 1]? = some (.slice ad (c.k j).toNat (c.k j).toNat) := h.2
def Cfg.part (c : Cfg) (k : Nat) : Array Value :=
  #[i64 (if 0 < k then c.s0 else 0), i64 (if 0 < k then c.k0 else 0), i64 (if 1 < k then c.s1 else 0), i64 (if 1 < k then c.k1 else 0), i64 (if 2 < k then c.s2 else 0), i64 (if 2 < k then c.k2 else 0), i64 (if 3 < k then c.s3 else 0), i64 (if 3 < k then c.k3 else 0), i64 c.m, i64 c.f]
theorem Cfg.part_all {c : Cfg} (h : c.Ok) : c.part c.many = c.cells := by
  have hz : ∀ i, i < 4 → ¬ i < c.many → c.Zero i := fun i h4 hn => (h.2.1 i h4).1 (by omega)
  have e : ∀ i, i < 4 → (if i < c.many then c.s i else 0) = c.s i ∧ (if i < c.many then c.k i else 0) = c.k i := by
    intro i h4
    by_cases x : i < c.many
    · simp [x]
    · have z := hz i h4 x; simp [x, z.1, z.2]
  have e0 := e 0 (by omega); have e1 := e 1 (by omega); have e2 := e 2 (by omega); have e3 := e 3 (by omega)
  simp only [Cfg.s, Cfg.k] at e0 e1 e2 e3
  unfold Cfg.part
  rw [e0.1, e0.2, e1.1, e1.2, e2.1, e2.2, e3.1, e3.2]
structure KConfI (c : Cfg) (w wr : World) (k : Nat) : Prop where
  old : Below w.heap.size w wr
  blkR : wr.heap[w.heap.size]? = some (.cells #[i64 0, i64 0, i64 0, i64 0, i64 0, i64 0, i64 0, i64 0, i64 0, i64 0] 40)
  blkC : wr.heap[w.heap.size + 1]? = some (.cells (c.part k) 40)
theorem ki_start (c : Cfg) (w : World) : KConfI c w ((w.alloc (.cells #[i64 0, i64 0, i64 0, i64 0, i64 0, i64 0, i64 0, i64 0, i64 0, i64 0] 40)).alloc (.cells #[i64 0, i64 0, i64 0, i64 0, i64 0, i64 0, i64 0, i64 0, i64 c.m, i64 c.f] 40)).drew 0 where
  old := (((Below.refl _ w).alloc (Nat.le_refl _) _).alloc (by simp) _).drew
  blkR := blk_alloc (blk_new w _)
  blkC := by
    have h := blk_new (w.alloc (.cells #[i64 0, i64 0, i64 0, i64 0, i64 0, i64 0, i64 0, i64 0, i64 0, i64 0] 40)) (.cells #[i64 0, i64 0, i64 0, i64 0, i64 0, i64 0, i64 0, i64 0, i64 c.m, i64 c.f] 40)
    have e : (w.alloc (.cells #[i64 0, i64 0, i64 0, i64 0, i64 0, i64 0, i64 0, i64 0, i64 0, i64 0] 40)).heap.size = w.heap.size + 1 := by simp
    rw [e] at h
    exact h
theorem ki_step {c : Cfg} {w wr wS : World} {k : Nat} {A : Obj} {a b : Int} (I : KConfI c w wr k) (hb : Below (wr.alloc A).heap.size (wr.alloc A) wS)
    (hp : ((c.part k).setIfInBounds (2 * k) (i64 a)).setIfInBounds (2 * k + 1) (i64 b) = c.part (k + 1)) :
    KConfI c w ((wS.setCell ⟨w.heap.size + 1, 2 * k, none⟩ (i64 a)).setCell ⟨w.heap.size + 1, 2 * k + 1, none⟩ (i64 b)) (k + 1) := by
  have hz := blk_lt I.blkC
  have e : (wr.alloc A).heap.size = wr.heap.size + 1 := by simp
  rw [e] at hb
  refine ⟨?_, ?_, ?_⟩
  · refine Below.setCell (p := ⟨w.heap.size + 1, 2 * k + 1, none⟩) (Below.setCell (p := ⟨w.heap.size + 1, 2 * k, none⟩) ?_ (Nat.le_succ _) _) (Nat.le_succ _) _
    exact (I.old.alloc (by omega) A).trans (hb.mono (by omega))
  · rw [blk_setCell_far (by show w.heap.size ≠ w.heap.size + 1; omega), blk_setCell_far (by show w.heap.size ≠ w.heap.size + 1; omega)]
    exact blk_later hb (by omega) (blk_alloc I.blkR)
  · rw [← hp]
    exact blk_setCell (blk_setCell (blk_later hb (by omega) (blk_alloc I.blkC)) _ _) _ _
set_option maxHeartbeats 2000000 in
theorem config_cells (c : Cfg) (p : Nat) (w : World) (h : c.Ok) (hr : ∃ g cap, w.heap[p]? = some (.cells #[.slice (some ⟨g, 0, none⟩) c.many cap, .iface (methT c.m) (.agg #[]), i64 c.f] 89) ∧
      ∀ j, j < c.many → w.cell? ⟨g, 2 * j, none⟩ = some (i64 (c.s j)) ∧ ∃ ad, w.cell? ⟨g, 2 * j + 1, none⟩ = some (.slice ad (c.k j).toNat (c.k j).toNat)) :
    Calls Tryz.prog 28 #[.pointer (some ⟨p, 0, none⟩)] w fun e w' => e = .returned (.agg c.cells) ∧ Below w.heap.size w w' := by
  have HP := hid (Cfg.part_all h)
  have HI := c.ok_iff.1 h
  obtain ⟨a1, a2⟩ := HI.1
  have hm1 := HI.2.2.1
  have HBD := hid (bdB_all HI.2.2.2.2.1)
  have h4 := c.many_le
  clear HI h
  obtain ⟨g, cap, hblk, hcells⟩ := hr
  have HC := hid hcells
  have d0 : w.cell? ⟨p, 0, none⟩ = some (.slice (some ⟨g, 0, none⟩) c.many cap) := cell_of_blk hblk 0
  have d1 : w.cell? ⟨p, 1, none⟩ = some (.iface (methT c.m) (.agg #[])) := cell_of_blk hblk 1
  have d2 : w.cell? ⟨p, 2, none⟩ = some (i64 c.f) := cell_of_blk hblk 2
  have hp := blk_lt hblk
  clear hblk hcells
  go_enter Tryz.func28, Tryz.ntmps28
  go_wp2_with fail
  go_region_held3 (fun w' => w'.cell? ⟨p, 1, none⟩ = some (.iface (methT c.m) (.agg #[])) ∧ w'.cell? ⟨p, 2, none⟩ = some (i64 c.f)) (go_keep) ((go_at_call 48; refine (number_any _ _ a1 a2).mono ?_; rintro e w' ⟨rfl, rfl⟩))
  all_goals go_wp2_with fail
  all_goals
    go_loopw [21] (fun i wr => ∃ k : Nat, k ≤ c.many ∧ i = i64 k ∧ KConfI c w wr k) (fun i _ => c.many - (intOf i).toNat)
    case atStart => exact ⟨0, by omega, rfl, ki_start c w⟩
    case round =>
      obtain ⟨k, hk, rfl, I⟩ := hrel
      have HI := hid I
      have hzC : w.heap.size + 1 < wr.heap.size := blk_lt I.blkC
      clear I
      by_cases hlt : k < c.many
      case neg =>
        have e : k = c.many := by omega
        subst e
        have HB := hid HI.out.old
        have bC := HI.out.blkC
        rw [HP.out] at bC
        have bR := HI.out.blkR
        have x0 : wr.cell? ⟨w.heap.size + 1, 0, none⟩ = some (i64 c.s0) := cell_of_blk bC 0
        have x1 : wr.cell? ⟨w.heap.size + 1, 1, none⟩ = some (i64 c.k0) := cell_of_blk bC 1
        have x2 : wr.cell? ⟨w.heap.size + 1, 2, none⟩ = some (i64 c.s1) := cell_of_blk bC 2
        have x3 : wr.cell? ⟨w.heap.size + 1, 3, none⟩ = some (i64 c.k1) := cell_of_blk bC 3
        have x4 : wr.cell? ⟨w.heap.size + 1, 4, none⟩ = some (i64 c.s2) := cell_of_blk bC 4
        have x5 : wr.cell? ⟨w.heap.size + 1, 5, none⟩ = some (i64 c.k2) := cell_of_blk bC 5
        have x6 : wr.cell? ⟨w.heap.size + 1, 6, none⟩ = some (i64 c.s3) := cell_of_blk bC 6
        have x7 : wr.cell? ⟨w.heap.size + 1, 7, none⟩ = some (i64 c.k3) := cell_of_blk bC 7
        have x8 : wr.cell? ⟨w.heap.size + 1, 8, none⟩ = some (i64 c.m) := cell_of_blk bC 8
        have x9 : wr.cell? ⟨w.heap.size + 1, 9, none⟩ = some (i64 c.f) := cell_of_blk bC 9
        have y0 : wr.cell? ⟨w.heap.size, 0, none⟩ = some (i64 0) := cell_of_blk bR 0
        have z0 : wr.frozen? ⟨w.heap.size, 0, none⟩ = false := frozen_of_blk bR 0
        have y1 : wr.cell? ⟨w.heap.size, 1, none⟩ = some (i64 0) := cell_of_blk bR 1
        have z1 : wr.frozen? ⟨w.heap.size, 1, none⟩ = false := frozen_of_blk bR 1
        have y2 : wr.cell? ⟨w.heap.size, 2, none⟩ = some (i64 0) := cell_of_blk bR 2
        have z2 : wr.frozen? ⟨w.heap.size, 2, none⟩ = false := frozen_of_blk bR 2
        have y3 : wr.cell? ⟨w.heap.size, 3, none⟩ = some (i64 0) := cell_of_blk bR 3
        have z3 : wr.frozen? ⟨w.heap.size, 3, none⟩ = false := frozen_of_blk bR 3
        have y4 : wr.cell? ⟨w.heap.size, 4, none⟩ = some (i64 0) := cell_of_blk bR 4
        have z4 : wr.frozen? ⟨w.heap.size, 4, none⟩ = false := frozen_of_blk bR 4
        have y5 : wr.cell? ⟨w.heap.size, 5, none⟩ = some (i64 0) := cell_of_blk bR 5
        have z5 : wr.frozen? ⟨w.heap.size, 5, none⟩ = false := frozen_of_blk bR 5
        have y6 : wr.cell? ⟨w.heap.size, 6, none⟩ = some (i64 0) := cell_of_blk bR 6
        have z6 : wr.frozen? ⟨w.heap.size, 6, none⟩ = false := frozen_of_blk bR 6
        have y7 : wr.cell? ⟨w.heap.size, 7, none⟩ = some (i64 0) := cell_of_blk bR 7
        have z7 : wr.frozen? ⟨w.heap.size, 7, none⟩ = false := frozen_of_blk bR 7
        have y8 : wr.cell? ⟨w.heap.size, 8, none⟩ = some (i64 0) := cell_of_blk bR 8
        have z8 : wr.frozen? ⟨w.heap.size, 8, none⟩ = false := frozen_of_blk bR 8
        have y9 : wr.cell? ⟨w.heap.size, 9, none⟩ = some (i64 0) := cell_of_blk bR 9
        have z9 : wr.frozen? ⟨w.heap.size, 9, none⟩ = false := frozen_of_blk bR 9
        have hzR : w.heap.size < wr.heap.size := blk_lt bR
        clear bC bR
        go_wp2
        refine bodyPost_ret (v := .agg #[i64 c.s0, i64 c.k0, i64 c.s1, i64 c.k1, i64 c.s2, i64 c.k2, i64 c.s3, i64 c.k3, i64 c.m, i64 c.f]) (by simp [results, Tryz.results28, go_sem, y0, y1, y2, y3, y4, y5, y6, y7, y8, y9, hzR]) rfl ⟨rfl, ?_⟩
        exact (Below.setCell (p := ⟨w.heap.size, 9, none⟩) (Below.setCell (p := ⟨w.heap.size, 8, none⟩) (Below.setCell (p := ⟨w.heap.size, 7, none⟩) (Below.setCell (p := ⟨w.heap.size, 6, none⟩) (Below.setCell (p := ⟨w.heap.size, 5, none⟩) (Below.setCell (p := ⟨w.heap.size, 4, none⟩) (Below.setCell (p := ⟨w.heap.size, 3, none⟩) (Below.setCell (p := ⟨w.heap.size, 2, none⟩) (Below.setCell (p := ⟨w.heap.size, 1, none⟩) (Below.setCell (p := ⟨w.heap.size, 0, none⟩) HB.out (Nat.le_refl w.heap.size) _) (Nat.le_refl w.heap.size) _) (Nat.le_refl w.heap.size) _) (Nat.le_refl w.heap.size) _) (Nat.le_refl w.heap.size) _) (Nat.le_refl w.heap.size) _) (Nat.le_refl w.heap.size) _) (Nat.le_refl w.heap.size) _) (Nat.le_refl w.heap.size) _) (Nat.le_refl w.heap.size) _)
      have h5 : k = 0 ∨ k = 1 ∨ k = 2 ∨ k = 3 := by omega
      rcases h5 with rfl | rfl | rfl | rfl
      · obtain ⟨q0, ad, q1⟩ := HC.out 0 hlt
        have hbd := HBD.out 0 hlt
        obtain ⟨n, hn⟩ : ∃ n, n = (c.k 0).toNat := ⟨_, rfl⟩
        have HN := hid (show (n : Int) = c.k0 by rw [hn]; exact Int.toNat_of_nonneg (by have := hbd.2.2.1; omega))
        rw [← hn] at q1
        have r0 : wr.cell? ⟨g, 0, none⟩ = some (i64 c.s0) := cell_later HI.out.old q0
        have r1 : wr.cell? ⟨g, 1, none⟩ = some (.slice ad n n) := cell_later HI.out.old q1
        clear q0 q1 hbd hn
        go_wp2_with fail
        refine (shape_any _ _ _ _).mono ?_
        rintro e wS ⟨rfl, hbS⟩
        have HS := hid (ki_step (k := 0) (a := c.s0) (b := n) HI.out hbS (by rw [HN.out]; rfl))
        have blkS := blk_later hbS (by simp; omega) (blk_alloc HI.out.blkC)
        have u0 : wS.cell? ⟨w.heap.size + 1, 0, none⟩ = some (i64 0) := (cell_of_blk blkS 0).trans rfl
        have u1 : wS.cell? ⟨w.heap.size + 1, 1, none⟩ = some (i64 0) := (cell_of_blk blkS 1).trans rfl
        have v0 : wS.frozen? ⟨w.heap.size + 1, 0, none⟩ = false := frozen_of_blk blkS 0
        have v1 : wS.frozen? ⟨w.heap.size + 1, 1, none⟩ = false := frozen_of_blk blkS 1
        have hzS : w.heap.size + 1 < wS.heap.size := blk_lt blkS
        clear hbS blkS
        go_wp2
        go_roundw
        case rel => first | exact ⟨1, by omega, by first | rfl | go_num, HS.out⟩ | ((repeat apply Exists.intro); exact ⟨⟨1, by omega, by first | rfl | go_num, HS.out⟩, rfl⟩)
        case measure => simp [intOf]; omega
      · obtain ⟨q0, ad, q1⟩ := HC.out 1 hlt
        have hbd := HBD.out 1 hlt
        obtain ⟨n, hn⟩ : ∃ n, n = (c.k 1).toNat := ⟨_, rfl⟩
        have HN := hid (show (n : Int) = c.k1 by rw [hn]; exact Int.toNat_of_nonneg (by have := hbd.2.2.1; omega))
        rw [← hn] at q1
        have r0 : wr.cell? ⟨g, 2, none⟩ = some (i64 c.s1) := cell_later HI.out.old q0
        have r1 : wr.cell? ⟨g, 3, none⟩ = some (.slice ad n n) := cell_later HI.out.old q1
        clear q0 q1 hbd hn
        go_wp2_with fail
        refine (shape_any _ _ _ _).mono ?_
        rintro e wS ⟨rfl, hbS⟩
        have HS := hid (ki_step (k := 1) (a := c.s1) (b := n) HI.out hbS (by rw [HN.out]; rfl))
        have blkS := blk_later hbS (by simp; omega) (blk_alloc HI.out.blkC)
        have u0 : wS.cell? ⟨w.heap.size + 1, 2, none⟩ = some (i64 0) := (cell_of_blk blkS 2).trans rfl
        have u1 : wS.cell? ⟨w.heap.size + 1, 3, none⟩ = some (i64 0) := (cell_of_blk blkS 3).trans rfl
        have v0 : wS.frozen? ⟨w.heap.size + 1, 2, none⟩ = false := frozen_of_blk blkS 2
        have v1 : wS.frozen? ⟨w.heap.size + 1, 3, none⟩ = false := frozen_of_blk blkS 3
        have hzS : w.heap.size + 1 < wS.heap.size := blk_lt blkS
        clear hbS blkS
        go_wp2
        go_roundw
        case rel => first | exact ⟨2, by omega, by first | rfl | go_num, HS.out⟩ | ((repeat apply Exists.intro); exact ⟨⟨2, by omega, by first | rfl | go_num, HS.out⟩, rfl⟩)
        case measure => simp [intOf]; omega
      · obtain ⟨q0, ad, q1⟩ := HC.out 2 hlt
        have hbd := HBD.out 2 hlt
        obtain ⟨n, hn⟩ : ∃ n, n = (c.k 2).toNat := ⟨_, rfl⟩
        have HN := hid (show (n : Int) = c.k2 by rw [hn]; exact Int.toNat_of_nonneg (by have := hbd.2.2.1; omega))
        rw [← hn] at q1
        have r0 : wr.cell? ⟨g, 4, none⟩ = some (i64 c.s2) := cell_later HI.out.old q0
        have r1 : wr.cell? ⟨g, 5, none⟩ = some (.slice ad n n) := cell_later HI.out.old q1
        clear q0 q1 hbd hn
        go_wp2_with fail
        refine (shape_any _ _ _ _).mono ?_
        rintro e wS ⟨rfl, hbS⟩
        have HS := hid (ki_step (k := 2) (a := c.s2) (b := n) HI.out hbS (by rw [HN.out]; rfl))
        have blkS := blk_later hbS (by simp; omega) (blk_alloc HI.out.blkC)
        have u0 : wS.cell? ⟨w.heap.size + 1, 4, none⟩ = some (i64 0) := (cell_of_blk blkS 4).trans rfl
        have u1 : wS.cell? ⟨w.heap.size + 1, 5, none⟩ = some (i64 0) := (cell_of_blk blkS 5).trans rfl
        have v0 : wS.frozen? ⟨w.heap.size + 1, 4, none⟩ = false := frozen_of_blk blkS 4
        have v1 : wS.frozen? ⟨w.heap.size + 1, 5, none⟩ = false := frozen_of_blk blkS 5
        have hzS : w.heap.size + 1 < wS.heap.size := blk_lt blkS
        clear hbS blkS
        go_wp2
        go_roundw
        case rel => first | exact ⟨3, by omega, by first | rfl | go_num, HS.out⟩ | ((repeat apply Exists.intro); exact ⟨⟨3, by omega, by first | rfl | go_num, HS.out⟩, rfl⟩)
        case measure => simp [intOf]; omega
      · obtain ⟨q0, ad, q1⟩ := HC.out 3 hlt
        have hbd := HBD.out 3 hlt
        obtain ⟨n, hn⟩ : ∃ n, n = (c.k 3).toNat := ⟨_, rfl⟩
        have HN := hid (show (n : Int) = c.k3 by rw [hn]; exact Int.toNat_of_nonneg (by have := hbd.2.2.1; omega))
        rw [← hn] at q1
        have r0 : wr.cell? ⟨g, 6, none⟩ = some (i64 c.s3) := cell_later HI.out.old q0
        have r1 : wr.cell? ⟨g, 7, none⟩ = some (.slice ad n n) := cell_later HI.out.old q1
        clear q0 q1 hbd hn
        go_wp2_with fail
        refine (shape_any _ _ _ _).mono ?_
        rintro e wS ⟨rfl, hbS⟩
        have HS := hid (ki_step (k := 3) (a := c.s3) (b := n) HI.out hbS (by rw [HN.out]; rfl))
        have blkS := blk_later hbS (by simp; omega) (blk_alloc HI.out.blkC)
        have u0 : wS.cell? ⟨w.heap.size + 1, 6, none⟩ = some (i64 0) := (cell_of_blk blkS 6).trans rfl
        have u1 : wS.cell? ⟨w.heap.size + 1, 7, none⟩ = some (i64 0) := (cell_of_blk blkS 7).trans rfl
        have v0 : wS.frozen? ⟨w.heap.size + 1, 6, none⟩ = false := frozen_of_blk blkS 6
        have v1 : wS.frozen? ⟨w.heap.size + 1, 7, none⟩ = false := frozen_of_blk blkS 7
        have hzS : w.heap.size + 1 < wS.heap.size := blk_lt blkS
        clear hbS blkS
        go_wp2
        go_roundw
        case rel => first | exact ⟨4, by omega, by first | rfl | go_num, HS.out⟩ | ((repeat apply Exists.intro); exact ⟨⟨4, by omega, by first | rfl | go_num, HS.out⟩, rfl⟩)
        case measure => simp [intOf]; omega
end Go.Proofs.YthbbfjfekchdiaaGreat
namespace Go.Proofs.YthbbfjfekchdiaaGreat
open Go.RowKit
theorem zconfig_any (p : Nat) (d : RDb) (In : Nat → Prop) (w : World) (h : ZRep w In p d) :
    Calls Tryz.prog 28 #[.pointer (some ⟨p, 0, none⟩)] w fun e w' => e = .returned (.agg d.c.cells) ∧ Below w.heap.size w w' := by
  refine config_cells d.c p w h.ok.cfg ?_
  obtain ⟨gl, cap, cur, gs, a, b, c, e, f, gi, r⟩ := h.mem
  refine ⟨gl, cap, b, fun j hj => ?_⟩
  obtain ⟨x, hx⟩ : ∃ x, gs[j]? = some x := ⟨_, List.getElem?_eq_getElem (by omega)⟩
  obtain ⟨r1, r2, _⟩ := r j x _ hx (List.getElem?_eq_getElem (by rw [h.ok.len]; exact hj))
  refine ⟨?_, some ⟨x, 0, none⟩, ?_⟩
  · rw [cell_of_blk c, Nat.mul_comm]; exact r1
  · rw [cell_of_blk c, Nat.mul_comm]; exact r2
end Go.Proofs.YthbbfjfekchdiaaGreat
namespace Go.Proofs.YthbbfjfekchdiaaGreat
open Go.RowKit
set_option linter.unusedSimpArgs false
theorem wpList_append_int (w : World) {ops : Array Oper} {rest : List Oper} {o : Oper} {a : Act} {Q : Exit → Act → World → Prop} (hgd : o.guard = none) (s x : Operand)
    (ho : o.op = .call { callee := .builtin .append, args := #[s, x], argTypes := #[24, 24] }) (base : Nat) (v xv : Value) (os : List Int) (q : Int) (hs : a.eval s = v) (hx : a.eval x = xv) (tgt : List Int) (htgt : Hid (tgt = os ++ [q]))
    (hown : w.ownsRow base 3 1 v os.length (os.map i64)) (b c : Nat) (hsv : xv = .slice (some ⟨b, 0, none⟩) 1 c) (hsrc : w.cell? ⟨b, 0, none⟩ = some (i64 q)) (hlen : os.length ≤ 1000) (hbase : base ≤ w.heap.size)
    (h : ∀ v' w', w'.ownsRow base 3 1 v' tgt.length (tgt.map i64) → w.grownBy w' v.ownBlock → wpList Tryz.prog ops Q rest (a.put o.dst v') w') : wpList Tryz.prog ops Q (o :: rest) a w := by
  have htgt := htgt.out
  subst htgt
  subst hsv
  obtain ⟨q0, hi0, hz0, hz1, hz2⟩ := info_parts Tryz.infoInt
  refine wpList_append_own w hgd s x _ ho base 3 q0 _ 1 8 Tryz.underlying24 hi0 hz0 hz1 hz2 rfl (by decide) v os.length (os.map i64) hs hown ⟨b, 0, none⟩ 1 c [i64 q] hx rfl ?_ ?_ (by unfold maxLen; omega) (by omega) hbase ?_
  · intro j u hj
    have hj0 : j = 0 := by obtain ⟨y, _⟩ := List.getElem?_eq_some_iff.1 hj; simp at y; exact y
    subst hj0
    simp at hj
    subst hj
    rw [show (⟨b, 0, none⟩ : Addr).add 0 = ⟨b, 0, none⟩ from rfl]
    exact hsrc
  · intro u hu
    simp at hu
    subst hu
    rfl
  · intro v' w' ho' hg' _
    refine h v' w' ?_ hg'
    rw [List.map_append, List.length_append]
    exact ho'
set_option maxHeartbeats 4000000 in
theorem zvalues_any (v : Value) (pts : List Pt) (w : World) (hr : RowAt w v pts) (hl : pts.length ≤ 1000) :
    Calls Tryz.prog 104 #[v] w fun e w' => ∃ v', e = .returned v' ∧ Below w.heap.size w w' ∧ w'.ownsRow w.heap.size 3 1 v' (pts.map (·.2)).length ((pts.map (·.2)).map i64) := by
  have HR := hid hr
  obtain ⟨a, cap, rfl, _⟩ := hr
  go_enter Tryz.func104, Tryz.ntmps104
  go_wp2
  go_loopw [3, 8] (fun v' i wr => ∃ m : Nat, m ≤ pts.length ∧ i = i64 m ∧ wr.ownsRow w.heap.size 3 1 v' ((pts.take m).map (·.2)).length (((pts.take m).map (·.2)).map i64) ∧ Below w.heap.size w wr) (fun _ i _ => pts.length - (intOf i).toNat)
  case atStart => exact ⟨0, by omega, rfl, World.ownsRow_nil _ _ _ _, Below.refl _ _⟩
  case round =>
    obtain ⟨m, hm, rfl, ho, hb⟩ := hrel
    have HO := hid ho
    have HB := hid hb
    have hzr := hb.size
    obtain ⟨os, hos⟩ : ∃ os, os = (pts.take m).map (·.2) := ⟨_, rfl⟩
    rw [← hos] at HO
    have hol : os.length ≤ 1000 := by
      rw [hos, List.length_map]
      have := List.length_take_le m pts
      omega
    have HOS := hid hos
    obtain ⟨a', c', hv', hrow⟩ := HR.out.later hb
    simp only [Value.slice.injEq, true_and] at hv'
    obtain ⟨rfl, rfl⟩ := hv'
    have HROW := hid hrow
    clear ho hb hos hrow
    obtain ⟨a3, c3, rfl⟩ : ∃ a c, u3 = .slice a os.length c := by
      obtain ⟨_, ⟨h, h0⟩ | ⟨g, cap, cur, h, _⟩⟩ := HO.out
      · exact ⟨none, 0, by rw [h, h0]⟩
      · exact ⟨_, _, h⟩
    by_cases hlt : m < pts.length
    rotate_left
    · have HOS2 := hid (show os = pts.map (·.2) by rw [HOS.out, List.take_of_length_le (by omega)])
      go_wp2
      go_ret
      exact ⟨_, rfl, HB.out, by rw [← HOS2.out]; exact HO.out⟩
    obtain ⟨q, hq⟩ : ∃ q, pts[m]? = some q := ⟨_, List.getElem?_eq_getElem hlt⟩
    obtain ⟨b, rfl, hbz, x0, x1⟩ := HROW.out m q hq
    have HN := hid (show (pts.take (m + 1)).map (·.2) = os ++ [q.2] by rw [List.take_add_one, hq, List.map_append, HOS.out]; rfl)
    obtain ⟨qt, qv⟩ := q
    dsimp only at x0 x1 HN
    obtain ⟨tg, htg⟩ : ∃ t, t = os ++ [qv] := ⟨_, rfl⟩
    rw [← htg] at HN
    have HTG := hid htg
    have m0 : (0 : Int) ≤ (m : Int) := by omega
    have m1 : (m : Int) < (pts.length : Int) := by omega
    clear hq htg
    go_wp2_with (at_builtin; go_must (refine wpList_append_int _ (by rfl) (.tmp 12) (.tmp 15) (by rfl) w.heap.size _ _ os qv (by rfl) (by rfl) tg HTG ((HO.out.alloc _).alloc _) (wr.heap.size + 1) 1 (by rfl) (by simp) hol (by simp; omega) ?_))
    intro v' w' hown hgrow
    have HOW := hid hown
    have HBW := hid (show Below w.heap.size w w' from Below.grown ((HB.out.alloc hzr _).alloc (by simp; omega) _) hgrow (by simp; omega) (fun j hj => (HO.out.lt j hj).1))
    clear hown hgrow
    go_wp2
    go_roundw
    case rel => first | exact ⟨m + 1, by omega, by go_num, by rw [HN.out]; exact HOW.out, HBW.out⟩ | ((repeat apply Exists.intro); exact ⟨⟨m + 1, by omega, by go_num, by rw [HN.out]; exact HOW.out, HBW.out⟩, rfl⟩)
    case measure => simp [intOf]; omega
end Go.Proofs.YthbbfjfekchdiaaGreat
