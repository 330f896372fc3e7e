import Derived.Test.YthbbfjfekchdiaaGreatXTk
import Derived.Test.YthbbfjfekchdiaaGreatXZBytes
namespace Go.Proofs.YthbbfjfekchdiaaGreat
open Go.RowKit
set_option linter.unusedSimpArgs false
attribute [local go_sem] Go.wp_at_zero Go.wp_at_succ
set_option maxRecDepth 8000 in
set_option maxHeartbeats 2000000 in
theorem eq_bytes12 (x0 x1 x2 x3 x4 x5 x6 x7 x8 x9 x10 x11 y0 y1 y2 y3 y4 y5 y6 y7 y8 y9 y10 y11 : Int) (w : World) : (Op.equalIn 10000 118 (.agg #[.int .u8 x0, .int .u8 x1, .int .u8 x2, .int .u8 x3, .int .u8 x4, .int .u8 x5, .int .u8 x6, .int .u8 x7, .int .u8 x8, .int .u8 x9, .int .u8 x10, .int .u8 x11]) (.agg #[.int .u8 y0, .int .u8 y1, .int .u8 y2, .int .u8 y3, .int .u8 y4, .int .u8 y5, .int .u8 y6, .int .u8 y7, .int .u8 y8, .int .u8 y9, .int .u8 y10, .int .u8 y11])).run Tryz.prog w = .ok ((x0 == y0) && (x1 == y1) && (x2 == y2) && (x3 == y3) && (x4 == y4) && (x5 == y5) && (x6 == y6) && (x7 == y7) && (x8 == y8) && (x9 == y9) && (x10 == y10) && (x11 == y11)) w := by
  rw [show (10000 : Nat) = 9999 + 1 from rfl, Op.equalIn]
  simp only [Sem.run_bind, run_underlying Tryz.underlying118, Result.andThen_ok]
  simp only [Std.Legacy.Range.forIn_eq_forIn_range', Std.Legacy.Range.size, Nat.sub_zero, Nat.add_sub_cancel, Nat.div_one, List.range'_succ, List.range'_zero, List.forIn_cons, List.forIn_nil]
  go_simp
  by_cases h0 : x0 = y0
  case neg => simp [h0]
  by_cases h1 : x1 = y1
  case neg => simp [h0, h1]
  by_cases h2 : x2 = y2
  case neg => simp [h0, h1, h2]
  by_cases h3 : x3 = y3
  case neg => simp [h0, h1, h2, h3]
  by_cases h4 : x4 = y4
  case neg => simp [h0, h1, h2, h3, h4]
  by_cases h5 : x5 = y5
  case neg => simp [h0, h1, h2, h3, h4, h5]
  by_cases h6 : x6 = y6
  case neg => simp [h0, h1, h2, h3, h4, h5, h6]
  by_cases h7 : x7 = y7
  case neg => simp [h0, h1, h2, h3, h4, h5, h6, h7]
  by_cases h8 : x8 = y8
  case neg => simp [h0, h1, h2, h3, h4, h5, h6, h7, h8]
  by_cases h9 : x9 = y9
  case neg => simp [h0, h1, h2, h3, h4, h5, h6, h7, h8, h9]
  by_cases h10 : x10 = y10
  case neg => simp [h0, h1, h2, h3, h4, h5, h6, h7, h8, h9, h10]
  by_cases h11 : x11 = y11
  case neg => simp [h0, h1, h2, h3, h4, h5, h6, h7, h8, h9, h10, h11]
  simp [h0, h1, h2, h3, h4, h5, h6, h7, h8, h9, h10, h11]
set_option maxRecDepth 8000 in
theorem eq_bytes {l m : List Int} (hl : l.length = 12) (hm : m.length = 12) (w : World) : (Op.equalIn 10000 118 (.agg (bs l).toArray) (.agg (bs m).toArray)).run Tryz.prog w = .ok (decide (l = m)) w := by
  obtain ⟨x0, x1, x2, x3, x4, x5, x6, x7, x8, x9, x10, x11, rfl⟩ := twelve hl
  obtain ⟨y0, y1, y2, y3, y4, y5, y6, y7, y8, y9, y10, y11, rfl⟩ := twelve hm
  have := eq_bytes12 x0 x1 x2 x3 x4 x5 x6 x7 x8 x9 x10 x11 y0 y1 y2 y3 y4 y5 y6 y7 y8 y9 y10 y11 w
  unfold bs
  simp only [List.map_cons, List.map_nil]
  rw [this]
  congr 1
  rw [Bool.eq_iff_iff]
  simp only [Bool.and_eq_true, beq_iff_eq, decide_eq_true_iff, List.cons.injEq, and_true, and_assoc]
def slotFrom (l : List Int) : Option Pt := if l = slotBytes none then none else some (readU (l.take 4), readN (l.drop 4))
theorem split_at {l : List Int} {n m : Nat} (h : l.length = n + m) : (l.take n).length = n ∧ (l.drop n).length = m := by
  rw [List.length_take, List.length_drop]; omega
theorem bs_take (l : List Int) (n : Nat) : (bs l).take n = bs (l.take n) := by unfold bs; rw [List.map_take]
theorem bs_drop (l : List Int) (n : Nat) : (bs l).drop n = bs (l.drop n) := by unfold bs; rw [List.map_drop]
theorem range_drop {w : World} {b o : Nat} {cs : List Value} (h : w.rangeAt b o cs) (n : Nat) : w.rangeAt b (o + n) (cs.drop n) := by
  intro j v hv
  rw [List.getElem?_drop] at hv
  have := h _ _ hv
  rw [← Nat.add_assoc] at this
  exact this
theorem range_take {w : World} {b o : Nat} {cs : List Value} (h : w.rangeAt b o cs) (n : Nat) : w.rangeAt b o (cs.take n) := by
  intro j v hv
  have hj : j < n := by
    have := (List.getElem?_eq_some_iff.1 hv).1
    rw [List.length_take] at this
    omega
  rw [List.getElem?_take_of_lt hj] at hv
  exact h _ _ hv
theorem read_at (b o n cap : Nat) (l : List Int) (w : World) (hn : l.length = n) (hl : w.rangeAt b o (bs l)) (hb : ByteL l) (h8 : n ≤ 8) (h1 : 1 ≤ n) :
    Calls Tryz.prog 95 #[.slice (some ⟨b, o, none⟩) n cap] w fun e w' => e = .returned (i64 (readN l)) ∧ w' = w := by
  subst hn
  exact read_num b o cap l w hl hb h8 h1
set_option maxRecDepth 4000 in
set_option maxHeartbeats 2000000 in
theorem shape_read (l : List Int) (w : World) (hl : l.length = 8) (hb : ByteL l) :
    Calls Tryz.prog 77 #[.agg (bs l).toArray] w fun e w' => e = .returned (.agg #[i64 (readU (l.take 4)), i64 (readU (l.drop 4))]) ∧ Below w.heap.size w w' := by
  obtain ⟨l1, l2⟩ := split_at (n := 4) (m := 4) hl
  have HB1 := hid (show ByteL (l.take 4) from fun x hx => hb x (List.mem_of_mem_take hx))
  have HB2 := hid (show ByteL (l.drop 4) from fun x hx => hb x (List.mem_of_mem_drop hx))
  have HL1 := hid l1
  have HL2 := hid l2
  have r1 : readU (l.take 4) = readN (l.take 4) := (readN_short (by omega)).symm
  have r2 : readU (l.drop 4) = readN (l.drop 4) := (readN_short (by omega)).symm
  rw [r1, r2]
  obtain ⟨a, ha⟩ : ∃ a, a = readN (l.take 4) := ⟨_, rfl⟩
  obtain ⟨b, hb'⟩ : ∃ b, b = readN (l.drop 4) := ⟨_, rfl⟩
  rw [← ha, ← hb']
  have HA := hid ha
  have HB := hid hb'
  obtain ⟨cs, hcs⟩ : ∃ cs, cs = bs l := ⟨_, rfl⟩
  have hlen : cs.length = 8 := by rw [hcs, bs_len, hl]
  have HR1 := hid (show ∀ w' : World, w'.rangeAt w.heap.size 0 cs → w'.rangeAt w.heap.size 0 (bs (l.take 4)) ∧ w'.rangeAt w.heap.size 4 (bs (l.drop 4)) from fun w' h => by
    rw [← bs_take, ← bs_drop, ← hcs]
    exact ⟨range_take h 4, by simpa using range_drop h 4⟩)
  rw [← hcs]
  clear hb hcs r1 r2 ha hb' l1 l2 hl
  go_enter Tryz.func77, Tryz.ntmps77
  go_wp2_with fail
  have hrg : ((w.alloc (.cells cs.toArray 113)).alloc (.cells #[.int .i64 0, .int .i64 0] 37)).rangeAt w.heap.size 0 cs :=
    range_blk (A := []) (C := []) (t := 113) (by rw [List.append_nil]; exact blk_alloc (blk_new w _))
  have hwz : w.heap.size < ((w.alloc (.cells cs.toArray 113)).alloc (.cells #[.int .i64 0, .int .i64 0] 37)).heap.size := by simp; omega
  refine wp_region_held_drew (S := (fun _ => True)) (by kernel_rfl) ?_ (fun hHeld => ?_)
  · trivial
  refine tkI (i := 0) (oi := ⟨some 3, .slice 113 (.tmp 1) none (some (.const (Value.int .i64 4))) none, 57, _, #[], none⟩) ?_
  try simp only [Act.put, tkA, tkB, tkC]
  refine tkI (i := 2) (oi := ⟨some 5, .slice 113 (.tmp 1) (some (.const (Value.int .i64 4))) none none, 57, _, #[], none⟩) ?_
  try simp only [Act.put, tkA, tkB, tkC]
  refine wpAnyH_ready (rs := [1]) (by kernel_rfl) (by simp) ?_
  refine AllReadyH.cons rfl (fun K hK => ?_) AllReadyH.nil
  go_simp
  refine (read_at w.heap.size 0 4 8 (l.take 4) _ HL1.out (HR1.out _ (by simpa using hrg)).1 HB1.out (by omega) (by omega)).mono ?_
  rintro e w1 ⟨rfl, rfl⟩
  rw [← HA.out]
  go_wp2_with fail
  refine hK.out _ _ trivial (fun hHeld => ?_)
  clear hK K
  refine wpAnyH_ready (rs := [3]) (by kernel_rfl) (by simp) ?_
  refine AllReadyH.cons rfl (fun K hK => ?_) AllReadyH.nil
  go_simp
  refine (read_at w.heap.size 4 4 4 (l.drop 4) _ HL2.out (HR1.out _ (by simpa using hrg)).2 HB2.out (by omega) (by omega)).mono ?_
  rintro e w1 ⟨rfl, rfl⟩
  rw [← HB.out]
  go_wp2_with fail
  refine hK.out _ _ trivial (fun hHeld => ?_)
  clear hK K
  refine tkI (i := 4) (oi := ⟨some 7, .build 37 #[(0, .tmp 4), (1, .tmp 6)], 37, _, #[⟨1, .data⟩, ⟨3, .data⟩], none⟩) ?_
  try simp only [Act.put, tkA, tkB, tkC]
  refine wpAnyH_ready (rs := [5]) (by kernel_rfl) (by simp) ?_
  refine AllReadyH.cons rfl (fun K hK => ?_) AllReadyH.nil
  go_simp
  refine hK.out _ _ trivial (fun hHeld => ?_)
  clear hK K
  refine wpAnyH_done (by kernel_rfl) ?_ _
  go_wp2
  refine bodyPost_ret (v := .agg #[i64 a, i64 b]) (by simp [results, Tryz.results77, go_sem]) rfl ⟨rfl, ?_⟩
  exact (((Below.refl _ w).alloc (Nat.le_refl _) _).alloc (by simp) _).drew
set_option maxRecDepth 4000 in
set_option maxHeartbeats 2000000 in
theorem bytes_slot (l : List Int) (w : World) (hl : l.length = 12) (hb : ByteL l) :
    Calls Tryz.prog 78 #[.agg (bs l).toArray] w fun e w' => e = .returned (.agg (slotCells (slotFrom l)).toArray) ∧ Below w.heap.size w w' := by
  obtain ⟨l1, l2⟩ := split_at (n := 4) (m := 8) hl
  have HB1 := hid (show ByteL (l.take 4) from fun x hx => hb x (List.mem_of_mem_take hx))
  have HB2 := hid (show ByteL (l.drop 4) from fun x hx => hb x (List.mem_of_mem_drop hx))
  have HL1 := hid l1
  have HL2 := hid l2
  have r1 : readU (l.take 4) = readN (l.take 4) := (readN_short (by omega)).symm
  have HSF := hid (show slotFrom l = if l = slotBytes none then none else some (readN (l.take 4), readN (l.drop 4)) by rw [← r1]; rfl)
  obtain ⟨a, ha⟩ : ∃ a, a = readN (l.take 4) := ⟨_, rfl⟩
  obtain ⟨b, hb'⟩ : ∃ b, b = readN (l.drop 4) := ⟨_, rfl⟩
  rw [← ha, ← hb'] at HSF
  have HA := hid ha
  have HB := hid hb'
  have heq := fun (w : World) => eq_bytes hl (slotBytes_len none) w
  obtain ⟨cs, hcs⟩ : ∃ cs, cs = bs l := ⟨_, rfl⟩
  obtain ⟨fs, hfs⟩ : ∃ fs, fs = bs (slotBytes none) := ⟨_, rfl⟩
  have hlen : cs.length = 12 := by rw [hcs, bs_len, hl]
  have HSZ := hid (show (Tryz.prog.info? 118).map (·.size) = some cs.length by rw [hlen]; exact Tryz.infoBytes)
  have HR1 := hid (show ∀ w' : World, w'.rangeAt w.heap.size 0 cs → w'.rangeAt w.heap.size 0 (bs (l.take 4)) ∧ w'.rangeAt w.heap.size 4 (bs (l.drop 4)) from fun w' h => by
    rw [← bs_take, ← bs_drop, ← hcs]
    exact ⟨range_take h 4, by simpa using range_drop h 4⟩)
  rw [← hcs, ← hfs] at heq
  have HFS := hid hfs
  rw [← hcs]
  obtain ⟨q, hq⟩ : ∃ q, q = decide (l = slotBytes none) := ⟨_, rfl⟩
  rw [← hq] at heq
  have HQ := hid hq
  clear hb hcs r1 ha hb' l1 l2 hl hfs hq
  go_enter Tryz.func78, Tryz.ntmps78
  go_wp2_with fail
  refine wp_region_held_drew (S := (fun w' => w'.rangeAt w.heap.size 0 cs ∧ w'.cell? ⟨w.heap.size + 1 + 1, 0, none⟩ = some (.bool false) ∧ w'.cell? ⟨w.heap.size + 1 + 1, 1, none⟩ = some (i64 0) ∧ w'.cell? ⟨w.heap.size + 1 + 1, 2, none⟩ = some (i64 0))) (by kernel_rfl) ?_ (fun hHeld => ?_)
  · exact ⟨range_blk (A := []) (C := []) (t := 118) (by rw [List.append_nil]; exact three_low w _ _ _), cell_of_blk (three_top w _ _ (.cells #[.bool false, i64 0, i64 0] 116)) 0, cell_of_blk (three_top w _ _ (.cells #[.bool false, i64 0, i64 0] 116)) 1, cell_of_blk (three_top w _ _ (.cells #[.bool false, i64 0, i64 0] 116)) 2⟩
  refine wpAnyH_take (i := 0) (oi := ⟨some 4, .load 118 (.tmp 1), 118, _, #[], none⟩) (v := .agg cs.toArray) rfl (by kernel_rfl) (by kernel_rfl) (by kernel_rfl) (fun _ _ _ h => h) (yieldsIf_load_mid (by rfl) 118 (.tmp 1) rfl w.heap.size 0 rfl cs _ (fun w h => h.1) Tryz.underlying118 rfl HSZ.out) (by assumption) ?_
  try simp only [Act.put, tkA, tkB, tkC]
  refine tkI (i := 1) (oi := ⟨some 5, .load 116 (.tmp 3), 116, _, #[], none⟩) ?_
  try simp only [Act.put, tkA, tkB, tkC]
  refine wpAnyH_ready (rs := [2]) (by kernel_rfl) (by simp) ?_
  refine AllReadyH.cons rfl (fun K hK => ?_) AllReadyH.nil
  go_simp
  refine (slot_bytes_any none _).mono ?_
  rintro e w1 ⟨rfl, hb1⟩
  rw [← HFS.out]
  have HBL := hid (show Below w.heap.size w w1 from (Below.drew (three_below w _ _ _)).trans (hb1.mono (by simp; omega)))
  have HLOW := hid (blk_later hb1 (by simp; omega) (three_low w _ _ _))
  have HMID := hid (blk_later hb1 (by simp) (three_mid w _ _ _))
  have HTOP := hid (blk_later hb1 (by simp) (three_top w _ _ _))
  clear hb1
  go_wp2_with fail
  refine hK.out _ _ ?_ (fun hHeld => ?_)
  · exact ⟨range_blk (A := []) (C := []) (t := 118) (by rw [List.append_nil]; exact HLOW.out), cell_of_blk HTOP.out 0, cell_of_blk HTOP.out 1, cell_of_blk HTOP.out 2⟩
  clear hK K
  refine tkI (i := 3) (oi := ⟨some 7, .binOp .eql 118 (.tmp 4) (.tmp 6) 118, 4, _, #[⟨0, .data⟩, ⟨2, .data⟩], none⟩) ?_
  try simp only [Act.put, tkA, tkB, tkC]
  refine wpAnyH_done (by kernel_rfl) ?_ _
  have t0 : w1.cell? ⟨w.heap.size + 1 + 1, 0, none⟩ = some (.bool false) := cell_of_blk HTOP.out 0
  have t1 : w1.cell? ⟨w.heap.size + 1 + 1, 1, none⟩ = some (i64 0) := cell_of_blk HTOP.out 1
  have t2 : w1.cell? ⟨w.heap.size + 1 + 1, 2, none⟩ = some (i64 0) := cell_of_blk HTOP.out 2
  have m0 : w1.cell? ⟨w.heap.size + 1, 0, none⟩ = some (.bool false) := cell_of_blk HMID.out 0
  have m1 : w1.cell? ⟨w.heap.size + 1, 1, none⟩ = some (i64 0) := cell_of_blk HMID.out 1
  have m2 : w1.cell? ⟨w.heap.size + 1, 2, none⟩ = some (i64 0) := cell_of_blk HMID.out 2
  have f0 : w1.frozen? ⟨w.heap.size + 1, 0, none⟩ = false := frozen_of_blk HMID.out 0
  have f1 : w1.frozen? ⟨w.heap.size + 1, 1, none⟩ = false := frozen_of_blk HMID.out 1
  have f2 : w1.frozen? ⟨w.heap.size + 1, 2, none⟩ = false := frozen_of_blk HMID.out 2
  have hwz : w.heap.size + 1 + 1 < w1.heap.size := blk_lt HTOP.out
  have hwz1 : w.heap.size + 1 < w1.heap.size := by omega
  have hwz0 : w.heap.size < w1.heap.size := by omega
  have HRG := hid (range_blk (A := []) (C := []) (t := 118) (X := cs) (b := w.heap.size) (w := w1) (by rw [List.append_nil]; exact HLOW.out))
  clear heq hHeld HLOW HMID HTOP
  cases q with
  | true =>
    rw [if_pos (of_decide_eq_true HQ.out.symm)] at HSF
    go_wp2
    refine bodyPost_ret (v := .agg #[.bool false, i64 0, i64 0]) (by simp [results, Tryz.results78, go_sem, *]) rfl ⟨by rw [HSF.out]; rfl, ?_⟩
    repeat (first | (with_reducible refine Below.drew ?_) | (with_reducible refine Below.setCell ?_ (by dsimp only; omega) _))
    exact HBL.out
  | false =>
    rw [if_neg (of_decide_eq_false HQ.out.symm)] at HSF
    go_wp2_with fail
    refine wp_region_held_drew (S := (fun _ => True)) (by kernel_rfl) ?_ (fun hHeld => ?_)
    · trivial
    refine tkI (i := 0) (oi := ⟨some 9, .slice 118 (.tmp 1) none (some (.const (Value.int .i64 4))) none, 57, _, #[], none⟩) ?_
    try simp only [Act.put, tkA, tkB, tkC]
    refine tkI (i := 2) (oi := ⟨some 11, .slice 118 (.tmp 1) (some (.const (Value.int .i64 4))) none none, 57, _, #[], none⟩) ?_
    try simp only [Act.put, tkA, tkB, tkC]
    refine wpAnyH_ready (rs := [1]) (by kernel_rfl) (by simp) ?_
    refine AllReadyH.cons rfl (fun K hK => ?_) AllReadyH.nil
    go_simp
    refine (read_at w.heap.size 0 4 12 (l.take 4) _ HL1.out (HR1.out _ (by simpa using HRG.out)).1 HB1.out (by omega) (by omega)).mono ?_
    rintro e w2 ⟨rfl, rfl⟩
    rw [← HA.out]
    go_wp2_with fail
    refine hK.out _ _ trivial (fun hHeld => ?_)
    clear hK K
    refine wpAnyH_ready (rs := [3]) (by kernel_rfl) (by simp) ?_
    refine AllReadyH.cons rfl (fun K hK => ?_) AllReadyH.nil
    go_simp
    refine (read_at w.heap.size 4 8 8 (l.drop 4) _ HL2.out (HR1.out _ (by simpa using HRG.out)).2 HB2.out (by omega) (by omega)).mono ?_
    rintro e w2 ⟨rfl, rfl⟩
    rw [← HB.out]
    go_wp2_with fail
    refine hK.out _ _ trivial (fun hHeld => ?_)
    clear hK K
    refine tkI (i := 4) (oi := ⟨some 13, .build 116 #[(0, .const (Value.bool true)), (1, .tmp 10), (2, .tmp 12)], 116, _, #[⟨1, .data⟩, ⟨3, .data⟩], none⟩) ?_
    try simp only [Act.put, tkA, tkB, tkC]
    refine wpAnyH_ready (rs := [5]) (by kernel_rfl) (by simp) ?_
    refine AllReadyH.cons rfl (fun K hK => ?_) AllReadyH.nil
    go_simp
    refine hK.out _ _ trivial (fun hHeld => ?_)
    clear hK K
    refine wpAnyH_done (by kernel_rfl) ?_ _
    go_wp2
    refine bodyPost_ret (v := .agg #[.bool true, i64 a, i64 b]) (by simp [results, Tryz.results78, go_sem, *]) rfl ⟨by rw [HSF.out]; rfl, ?_⟩
    repeat (first | (with_reducible refine Below.drew ?_) | (with_reducible refine Below.setCell ?_ (by dsimp only; omega) _))
    exact HBL.out
def belB (s : Int) (k : Nat) (t : Int) (n : Nat) : Bool := decide (t % s = 0) && decide (t / s % (k : Int) = (n : Int))
set_option maxHeartbeats 1000000 in
theorem belongs_any (s t : Int) (g k cap n : Nat) (w : World) (s1 : 1 ≤ s) (s2 : s ≤ 1000000) (t0 : 0 ≤ t) (t1 : t ≤ 1000000000000) (k1 : 1 ≤ k) (k2 : k ≤ 1000) :
    Calls Tryz.prog 97 #[arcV s g k cap, i64 t, i64 n] w fun e w' => e = .returned (.bool (belB s k t n)) ∧ Below w.heap.size w w' := by
  have r0 : 0 ≤ t % s := Int.emod_nonneg _ (by omega)
  go_enter Tryz.func97, Tryz.ntmps97
  go_wp2_with fail
  have HB0 := hid (fun (o : Obj) => (Below.refl w.heap.size w).alloc (Nat.le_refl _) o)
  refine (zbegin_any s t g k cap _ s1 s2 t0 t1).mono ?_
  rintro e w1 ⟨rfl, hb1⟩
  have HB1 := hid ((HB0.out _).trans (hb1.mono (by simp)))
  have c0 := cell_later hb1 (show (w.alloc (.cells #[i64 s, .slice (some ⟨g, 0, none⟩) k cap] 94)).cell? ⟨w.heap.size, 0, none⟩ = some (i64 s) by simp)
  have c1 := cell_later hb1 (show (w.alloc (.cells #[i64 s, .slice (some ⟨g, 0, none⟩) k cap] 94)).cell? ⟨w.heap.size, 1, none⟩ = some (.slice (some ⟨g, 0, none⟩) k cap) by simp)
  have hz : w.heap.size < w1.heap.size := World.block_lt_of_cell? _ _ c0
  clear hb1 HB0
  by_cases h : t % s = 0
  · have HH := hid h
    have e1 : (t - t % s == t) = true := by rw [h]; simp
    clear h
    go_wp2_with fail
    refine (zslot_any s t g k cap _ s1 s2 t0 t1 k1 k2).mono ?_
    rintro e w2 ⟨rfl, hb2⟩
    have HB2 := hid (HB1.out.trans (hb2.mono HB1.out.size))
    clear hb2
    go_wp2
    go_ret
    refine ⟨?_, HB2.out⟩
    unfold belB
    simp [HH.out]
    rfl
  · have HH := hid h
    have e1 : (t - t % s == t) = false := beq_eq_false_iff_ne.2 (by omega)
    clear h
    go_wp2
    go_ret
    refine ⟨?_, HB1.out⟩
    unfold belB
    simp [HH.out]
end Go.Proofs.YthbbfjfekchdiaaGreat
namespace Go.Proofs.YthbbfjfekchdiaaGreat
open Go.RowKit
set_option linter.unusedSimpArgs false
attribute [local go_sem] Go.wp_at_zero Go.wp_at_succ
def okB (s : Int) (k n : Nat) : Option Pt → Bool
  | none => true
  | some q => ((decide (0 ≤ q.1) && decide (q.1 ≤ 2147483647)) && (decide (-1000000000 ≤ q.2) && decide (q.2 ≤ 1000000000))) && belB s k q.1 n
set_option maxHeartbeats 1000000 in
theorem mayBe_none (s a b : Int) (g k cap n : Nat) (w : World) :
    Calls Tryz.prog 79 #[arcV s g k cap, i64 n, .agg #[.bool false, i64 a, i64 b]] w fun e w' => e = .returned (.bool true) ∧ Below w.heap.size w w' := by
  go_enter Tryz.func79, Tryz.ntmps79
  go_wp2
  go_ret
  exact ⟨rfl, ((Below.refl _ w).alloc (Nat.le_refl _) _).alloc (by simp) _⟩
set_option maxHeartbeats 2000000 in
theorem mayBe_some (s a b : Int) (g k cap n : Nat) (w : World) (s1 : 1 ≤ s) (s2 : s ≤ 1000000) (k1 : 1 ≤ k) (k2 : k ≤ 1000) :
    Calls Tryz.prog 79 #[arcV s g k cap, i64 n, .agg #[.bool true, i64 a, i64 b]] w fun e w' => e = .returned (.bool (okB s k n (some (a, b)))) ∧ Below w.heap.size w w' := by
  have HB0 := hid (fun (o1 o2 : Obj) => ((Below.refl w.heap.size w).alloc (Nat.le_refl _) o1).alloc (by simp) o2)
  go_enter Tryz.func79, Tryz.ntmps79
  go_wp2_with fail
  refine (zstamp_any a _).mono ?_
  rintro e w1 ⟨rfl, rfl⟩
  by_cases ha : 0 ≤ a ∧ a ≤ 2147483647
  · obtain ⟨a0, a1⟩ := ha
    have e1 : (decide (0 ≤ a) && decide (a ≤ 2147483647)) = true := by simp [a0, a1]
    have HE1 := hid e1
    rw [e1]
    clear e1
    go_wp2_with fail
    refine (zvalue_any b _).mono ?_
    rintro e w1 ⟨rfl, rfl⟩
    by_cases hb : -1000000000 ≤ b ∧ b ≤ 1000000000
    · obtain ⟨b0, b1⟩ := hb
      have e2 : (decide (-1000000000 ≤ b) && decide (b ≤ 1000000000)) = true := by simp [b0, b1]
      have HE2 := hid e2
      rw [e2]
      clear e2
      go_wp2_with fail
      refine (belongs_any s a g k cap n _ s1 s2 a0 (by omega) k1 k2).mono ?_
      rintro e w2 ⟨rfl, hb2⟩
      have HB2 := hid ((HB0.out _ _).trans (hb2.mono (HB0.out _ _).size))
      clear hb2
      go_wp2
      go_ret
      refine ⟨?_, HB2.out⟩
      unfold okB
      simp [HE1.out, HE2.out]
    · have e2 : (decide (-1000000000 ≤ b) && decide (b ≤ 1000000000)) = false := by
        rw [Bool.and_eq_false_iff, decide_eq_false_iff_not, decide_eq_false_iff_not]; omega
      have HE2 := hid e2
      rw [e2]
      clear e2
      go_wp2
      go_ret
      refine ⟨?_, HB0.out _ _⟩
      unfold okB
      simp [HE1.out, HE2.out]
  · have e1 : (decide (0 ≤ a) && decide (a ≤ 2147483647)) = false := by
      rw [Bool.and_eq_false_iff, decide_eq_false_iff_not, decide_eq_false_iff_not]; omega
    have HE1 := hid e1
    rw [e1]
    clear e1
    go_wp2
    go_ret
    refine ⟨?_, HB0.out _ _⟩
    unfold okB
    simp [HE1.out]
theorem mayBe_any (o : Option Pt) (s : Int) (g k cap n : Nat) (w : World) (s1 : 1 ≤ s) (s2 : s ≤ 1000000) (k1 : 1 ≤ k) (k2 : k ≤ 1000) :
    Calls Tryz.prog 79 #[arcV s g k cap, i64 n, .agg (slotCells o).toArray] w fun e w' => e = .returned (.bool (okB s k n o)) ∧ Below w.heap.size w w' := by
  cases o with
  | none => exact mayBe_none s 0 0 g k cap n w
  | some q => exact mayBe_some s q.1 q.2 g k cap n w s1 s2 k1 k2
theorem free_iff {l : List Int} (hl : l.length = 12) (hb : ByteL l) : l = slotBytes none ↔ readU (l.take 4) = 4294967295 ∧ readN (l.drop 4) = 0 := by
  obtain ⟨l1, l2⟩ := split_at (n := 4) (m := 8) hl
  constructor
  · rintro rfl
    exact ⟨by decide, by decide⟩
  · rintro ⟨h1, h2⟩
    have n1 := num_readU (l := l.take 4) fun x hx => hb x (List.mem_of_mem_take hx)
    have n2 := num_readN (l := l.drop 4) (fun x hx => hb x (List.mem_of_mem_drop hx)) l2
    rw [l1, h1] at n1
    rw [h2] at n2
    rw [← List.take_append_drop 4 l, ← n1, ← n2]
    rfl
theorem slotRead_from {c : Cfg} {i n : Nat} {l : List Int} (hl : l.length = 12) (hb : ByteL l) {k : Nat} (hk : c.k i = (k : Int)) : slotRead c i n (readU (l.take 4)) (readN ((l.drop 4).take 8)) = if okB (c.s i) k n (slotFrom l) = true then some (slotFrom l) else none := by
  obtain ⟨l1, l2⟩ := split_at (n := 4) (m := 8) hl
  have e8 : (l.drop 4).take 8 = l.drop 4 := List.take_of_length_le (by omega)
  have hf := free_iff hl hb
  have hu := readU_bd (l := l.take 4) fun x hx => hb x (List.mem_of_mem_take hx)
  rw [e8]
  unfold slotRead slotFrom
  by_cases h : l = slotBytes none
  · rw [if_pos (hf.1 h), if_pos h]
    rfl
  · rw [if_neg fun x => h (hf.2 x), if_neg h]
    unfold okB belB slotOf
    rw [hk]
    by_cases h2 : readU (l.take 4) ≤ 2147483647 ∧ readU (l.take 4) % c.s i = 0 ∧ readU (l.take 4) / c.s i % (k : Int) = (n : Int) ∧ -1000000000 ≤ readN (l.drop 4) ∧ readN (l.drop 4) ≤ 1000000000
    · rw [if_pos h2]
      obtain ⟨a, b, d, e, f⟩ := h2
      simp [a, b, d, e, f, hu.1]
    · rw [if_neg h2, if_neg]
      simp only [Bool.and_eq_true, decide_eq_true_iff]
      rintro ⟨⟨⟨_, a⟩, e, f⟩, b, d⟩
      exact h2 ⟨a, b, d, e, f⟩
end Go.Proofs.YthbbfjfekchdiaaGreat
