import Derived.Test.YthbbfjfekchdiaaGreatXHKeepsB
import Derived.Test.YthbbfjfekchdiaaGreatXHUpdated
import Derived.Test.YthbbfjfekchdiaaGreatXRLoad
import Derived.Test.YthbbfjfekchdiaaGreatXJAgain
import Derived.Test.YthbbfjfekchdiaaGreatXHAmong
import Derived.Lib.LazyBuf
import Derived.Deep.QuietTactic
import Derived.BigQuiet
namespace Go.Proofs.YthbbfjfekchdiaaGreat
open Go.RowKit
set_option linter.unusedSimpArgs false
theorem bs_ofB (s : ByteArray) : (s.data.toList.map fun x => Value.int .u8 (x.toNat : Int)) = bs (ofB s) := by
  unfold bs ofB
  rw [List.map_map]
  rfl
def lentD (s : ByteArray) : List Value := bs (ofB s) ++ marks [.int .u8 77] 8
theorem str_nil {s : ByteArray} (h : s.size = 0) : s.toList = [] := by
  rw [ByteArray.toList_eq]
  exact List.length_eq_zero_iff.1 h
set_option maxRecDepth 4000 in
set_option maxHeartbeats 1000000 in
theorem lentB_nil (s : ByteArray) (raw : Int) (w : World) (hs : s.size = 0) (hr : raw.tmod 2 ≠ 0) : Calls Tryz.prog 24 #[.string s, i64 raw] w fun e w' => e = .returned (.slice none 0 0) ∧ Below w.heap.size w w' := by
  have e1 : (s.toList == []) = true := beq_iff_eq.2 (str_nil hs)
  have e2 : (raw.tmod 2 != 0) = true := bne_iff_ne.2 hr
  clear hs hr
  go_enter Tryz.func24, Tryz.ntmps24
  go_wp2
  go_ret
  exact ⟨rfl, Below.refl _ _⟩
theorem str_ne {s : ByteArray} (h : s.size ≠ 0) : (s.toList == []) = false := beq_eq_false_iff_ne.2 fun e => h (by
  rw [ByteArray.toList_eq] at e
  exact List.length_eq_zero_iff.2 e)
theorem str_eq {s : ByteArray} (h : s.size = 0) : (s.toList == []) = true := beq_iff_eq.2 (str_nil h)
theorem bne_zero {x : Int} (h : x = 0) : (x != 0) = false := by rw [h]; decide
set_option maxRecDepth 4000 in
set_option maxHeartbeats 4000000 in
theorem lentB_a (s : ByteArray) (raw : Int) (w : World) (hs : s.size ≠ 0) (hlen : s.size ≤ 140737488355328) :
    Calls Tryz.prog 24 #[.string s, i64 raw] w fun e w' => e = .returned (.slice (some ⟨w.heap.size, 0, none⟩) s.size (s.size + 8)) ∧ Below w.heap.size w w' ∧ w'.ownsRow w.heap.size 5 1 (.slice (some ⟨w.heap.size, 0, none⟩) (s.size + 8) (s.size + 8)) (s.size + 8) (lentD s) := by
  have e1 := str_ne hs
  skip
  clear hs
  obtain ⟨n, hn⟩ : ∃ n, n = s.size := ⟨_, rfl⟩
  obtain ⟨q9, hi0, hz0, hz1, hz2⟩ := info_parts Tryz.infoBOne
  obtain ⟨w1, hr, ho, hg⟩ := run_make_full (P := Tryz.prog) w w.heap.size 57 5 q9 _ 1 Tryz.underlying57 hi0 hz0 hz1 .i64 .i64 (n + 8) (by rw [hz2]; omega) (by unfold maxLen; omega) (Nat.le_refl _)
  have hr' : (Instr.makeSlice 57 (.int .i64 ((n : Int) + 8)) (.int .i64 ((n : Int) + 8))).run Tryz.prog w = .ok (.slice (some ⟨w.heap.size, 0, none⟩) (n + 8) (n + 8)) w1 := hr
  obtain ⟨_, ⟨hbad, _⟩ | ⟨g, cap, cur, hv, _, hblk, _, hm, hsz, _⟩⟩ := ho
  · cases hbad
  simp only [Value.slice.injEq, Option.some.injEq, Addr.mk.injEq, and_true, true_and] at hv
  obtain ⟨rfl, rfl⟩ := hv
  have hb1 : Below w.heap.size w w1 := ⟨hg.os, hg.tape, hg.output, hg.size, fun k hk => hg.block k hk (by simp)⟩
  have hcp := Go.run_copy_string (P := Tryz.prog) w1 57 9 3 5 w.heap.size 0 (n + 8) (n + 8) s Tryz.underlying57 (fun w => by simp [sizeOf, typeInfo, hi0, hz1]) (by omega) (fun j hj => by rw [Nat.zero_add, cell_of_blk hblk, Array.getElem?_eq_getElem (by omega)]; rfl) (fun j _ => frozen_of_blk hblk _)
  rw [bs_ofB] at hcp
  obtain ⟨R, hR⟩ : ∃ R, R = cur.toList.drop s.size := ⟨_, rfl⟩
  have HRL := hid (show R.length = 8 * 1 by rw [hR, List.length_drop, Array.length_toList, hsz, hn]; omega)
  have hbsl : (bs (ofB s)).length = s.size := by rw [bs_len, ofB_len]
  have hcur : cur = ([] ++ (cur.toList.take s.size ++ R)).toArray := by rw [hR, List.nil_append, List.take_append_drop]
  rw [hcur] at hblk
  obtain ⟨c1, c2, c3⟩ := blk_setCells (bs (ofB s)) [] (cur.toList.take s.size) R w1 hblk (by rw [hbsl, List.length_take, Array.length_toList, hsz]; omega)
  obtain ⟨w2, hw2⟩ : ∃ w2, w2 = w1.setCells w.heap.size 0 (bs (ofB s)) := ⟨_, rfl⟩
  have HST := hid (show w2.ownsRow w.heap.size 5 1 (.slice (some ⟨w.heap.size, 0, none⟩) (n + 8) (n + 8)) (n + 8) (bs (ofB s) ++ markTo [.int .u8 77] R 0) ∧ Below w.heap.size w w2 by
    have hl' : (bs (ofB s) ++ R).length = (n + 8) * 1 := by rw [List.length_append, hbsl, HRL.out, hn]; omega
    rw [markTo_zero, hw2]
    refine ⟨⟨hl', .inr ⟨w.heap.size, n + 8, ([] ++ (bs (ofB s) ++ R)).toArray, rfl, Nat.le_refl _, c1, Nat.le_refl _, by unfold maxLen; omega, by simpa using hl', ?_⟩⟩, fr_below hb1 c2 (Nat.le_refl _)⟩
    exact List.take_of_length_le (Nat.le_of_eq hl'))
  rw [← hw2] at hcp
  have HN := hid hn
  have HBL := hid hbsl
  rw [← hn] at hlen
  have hgi : (goInt s.size : Value) = i64 (n : Int) := by rw [hn]; rfl
  rw [hgi] at hcp
  clear hr hg hblk hsz hm hb1 hi0 hz0 hz1 hz2 hcur c1 c2 c3 hw2 hR hbsl hgi
  rw [← hn]
  have hns : (s.size : Int) = (n : Int) := by rw [hn]
  clear hn
  go_enter Tryz.func24, Tryz.ntmps24
  go_wp2
  clear hr' hcp e1
  go_loopw [7] (fun i' wr => ∃ k : Nat, k ≤ 8 ∧ i' = i64 ((n : Int) + k) ∧ wr.ownsRow w.heap.size 5 1 (.slice (some ⟨w.heap.size, 0, none⟩) (n + 8) (n + 8)) (n + 8) (bs (ofB s) ++ markTo [.int .u8 77] R k) ∧ Below w.heap.size w wr) (fun i' _ => n + 8 - (intOf i').toNat)
  case atStart => exact ⟨0, by omega, by simp, HST.out.1, HST.out.2⟩
  case round =>
    obtain ⟨k, hk, rfl, ho, hb⟩ := hrel
    have HO := hid ho
    have HB := hid hb
    obtain ⟨g, cp, cu, hv, _, hblk, hc, ht⟩ : ∃ g cap cur, Value.slice (some ⟨w.heap.size, 0, none⟩) (n + 8) (n + 8) = .slice (some ⟨g, 0, none⟩) (n + 8) cap ∧ True ∧ wr.heap[g]? = some (.cells cur 5) ∧ cur.size = cap * 1 ∧ True := by
      obtain ⟨_, ⟨hbad, _⟩ | ⟨g, cap, cur, hv, _, hblk, _, hm, hs, _⟩⟩ := ho
      · cases hbad
      · exact ⟨g, cap, cur, hv, trivial, hblk, hs, trivial⟩
    simp only [Value.slice.injEq, Option.some.injEq, Addr.mk.injEq, and_true, true_and] at hv
    obtain ⟨rfl, rfl⟩ := hv
    have hzr : w.heap.size < wr.heap.size := blk_lt hblk
    by_cases hlt : k < 8
    · obtain ⟨x0, hx0⟩ : ∃ x, wr.cell? ⟨w.heap.size, n + k, none⟩ = some x := ⟨_, by rw [cell_of_blk hblk, Array.getElem?_eq_getElem (by omega)]⟩
      have f0 : wr.frozen? ⟨w.heap.size, n + k, none⟩ = false := frozen_of_blk hblk _
      have i0 : (0 : Int) ≤ (n : Int) + k := by omega
      have i1 : (n : Int) + k < ((n + 8 : Nat) : Int) := by omega
      have i2 : ((n : Int) + k).toNat = n + k := by omega
      have HNX := hid (show (wr.setCell ⟨w.heap.size, n + k, none⟩ (.int .u8 77)).ownsRow w.heap.size 5 1 (.slice (some ⟨w.heap.size, 0, none⟩) (n + 8) (n + 8)) (n + 8) (bs (ofB s) ++ markTo [.int .u8 77] R (k + 1)) ∧ Below w.heap.size w (wr.setCell ⟨w.heap.size, n + k, none⟩ (.int .u8 77)) by
        refine ⟨?_, Below.setCell (p := ⟨w.heap.size, n + k, none⟩) HB.out (Nat.le_refl _) _⟩
        have h := owns_setCell HO.out (g := w.heap.size) rfl (n + k) (.int .u8 77)
        rw [set_app (by rw [HBL.out, HN.out]), markTo_one _ R HRL.out hlt] at h
        exact h)
      clear ho hb hblk hc ht
      go_wp2
      exact ⟨⟨k + 1, by omega, by go_num, HNX.out⟩, by simp [intOf]; omega⟩
    · have ek : k = 8 := by omega
      subst ek
      rw [markTo_end [.int .u8 77] R HRL.out] at HO
      clear ho hb hblk hc ht hlt hk
      go_wp2
      go_ret
      exact ⟨rfl, HB.out, HO.out⟩
set_option maxRecDepth 4000 in
set_option maxHeartbeats 4000000 in
theorem lentB_b (s : ByteArray) (raw : Int) (w : World) (hs : s.size = 0 ∧ raw.tmod 2 = 0) (hlen : s.size ≤ 140737488355328) :
    Calls Tryz.prog 24 #[.string s, i64 raw] w fun e w' => e = .returned (.slice (some ⟨w.heap.size, 0, none⟩) s.size (s.size + 8)) ∧ Below w.heap.size w w' ∧ w'.ownsRow w.heap.size 5 1 (.slice (some ⟨w.heap.size, 0, none⟩) (s.size + 8) (s.size + 8)) (s.size + 8) (lentD s) := by
  have e1 := str_eq hs.1
  have e2 := bne_zero hs.2
  clear hs
  obtain ⟨n, hn⟩ : ∃ n, n = s.size := ⟨_, rfl⟩
  obtain ⟨q9, hi0, hz0, hz1, hz2⟩ := info_parts Tryz.infoBOne
  obtain ⟨w1, hr, ho, hg⟩ := run_make_full (P := Tryz.prog) w w.heap.size 57 5 q9 _ 1 Tryz.underlying57 hi0 hz0 hz1 .i64 .i64 (n + 8) (by rw [hz2]; omega) (by unfold maxLen; omega) (Nat.le_refl _)
  have hr' : (Instr.makeSlice 57 (.int .i64 ((n : Int) + 8)) (.int .i64 ((n : Int) + 8))).run Tryz.prog w = .ok (.slice (some ⟨w.heap.size, 0, none⟩) (n + 8) (n + 8)) w1 := hr
  obtain ⟨_, ⟨hbad, _⟩ | ⟨g, cap, cur, hv, _, hblk, _, hm, hsz, _⟩⟩ := ho
  · cases hbad
  simp only [Value.slice.injEq, Option.some.injEq, Addr.mk.injEq, and_true, true_and] at hv
  obtain ⟨rfl, rfl⟩ := hv
  have hb1 : Below w.heap.size w w1 := ⟨hg.os, hg.tape, hg.output, hg.size, fun k hk => hg.block k hk (by simp)⟩
  have hcp := Go.run_copy_string (P := Tryz.prog) w1 57 9 3 5 w.heap.size 0 (n + 8) (n + 8) s Tryz.underlying57 (fun w => by simp [sizeOf, typeInfo, hi0, hz1]) (by omega) (fun j hj => by rw [Nat.zero_add, cell_of_blk hblk, Array.getElem?_eq_getElem (by omega)]; rfl) (fun j _ => frozen_of_blk hblk _)
  rw [bs_ofB] at hcp
  obtain ⟨R, hR⟩ : ∃ R, R = cur.toList.drop s.size := ⟨_, rfl⟩
  have HRL := hid (show R.length = 8 * 1 by rw [hR, List.length_drop, Array.length_toList, hsz, hn]; omega)
  have hbsl : (bs (ofB s)).length = s.size := by rw [bs_len, ofB_len]
  have hcur : cur = ([] ++ (cur.toList.take s.size ++ R)).toArray := by rw [hR, List.nil_append, List.take_append_drop]
  rw [hcur] at hblk
  obtain ⟨c1, c2, c3⟩ := blk_setCells (bs (ofB s)) [] (cur.toList.take s.size) R w1 hblk (by rw [hbsl, List.length_take, Array.length_toList, hsz]; omega)
  obtain ⟨w2, hw2⟩ : ∃ w2, w2 = w1.setCells w.heap.size 0 (bs (ofB s)) := ⟨_, rfl⟩
  have HST := hid (show w2.ownsRow w.heap.size 5 1 (.slice (some ⟨w.heap.size, 0, none⟩) (n + 8) (n + 8)) (n + 8) (bs (ofB s) ++ markTo [.int .u8 77] R 0) ∧ Below w.heap.size w w2 by
    have hl' : (bs (ofB s) ++ R).length = (n + 8) * 1 := by rw [List.length_append, hbsl, HRL.out, hn]; omega
    rw [markTo_zero, hw2]
    refine ⟨⟨hl', .inr ⟨w.heap.size, n + 8, ([] ++ (bs (ofB s) ++ R)).toArray, rfl, Nat.le_refl _, c1, Nat.le_refl _, by unfold maxLen; omega, by simpa using hl', ?_⟩⟩, fr_below hb1 c2 (Nat.le_refl _)⟩
    exact List.take_of_length_le (Nat.le_of_eq hl'))
  rw [← hw2] at hcp
  have HN := hid hn
  have HBL := hid hbsl
  rw [← hn] at hlen
  have hgi : (goInt s.size : Value) = i64 (n : Int) := by rw [hn]; rfl
  rw [hgi] at hcp
  clear hr hg hblk hsz hm hb1 hi0 hz0 hz1 hz2 hcur c1 c2 c3 hw2 hR hbsl hgi
  rw [← hn]
  have hns : (s.size : Int) = (n : Int) := by rw [hn]
  clear hn
  go_enter Tryz.func24, Tryz.ntmps24
  go_wp2
  clear hr' hcp e1
  go_loopw [7] (fun i' wr => ∃ k : Nat, k ≤ 8 ∧ i' = i64 ((n : Int) + k) ∧ wr.ownsRow w.heap.size 5 1 (.slice (some ⟨w.heap.size, 0, none⟩) (n + 8) (n + 8)) (n + 8) (bs (ofB s) ++ markTo [.int .u8 77] R k) ∧ Below w.heap.size w wr) (fun i' _ => n + 8 - (intOf i').toNat)
  case atStart => exact ⟨0, by omega, by simp, HST.out.1, HST.out.2⟩
  case round =>
    obtain ⟨k, hk, rfl, ho, hb⟩ := hrel
    have HO := hid ho
    have HB := hid hb
    obtain ⟨g, cp, cu, hv, _, hblk, hc, ht⟩ : ∃ g cap cur, Value.slice (some ⟨w.heap.size, 0, none⟩) (n + 8) (n + 8) = .slice (some ⟨g, 0, none⟩) (n + 8) cap ∧ True ∧ wr.heap[g]? = some (.cells cur 5) ∧ cur.size = cap * 1 ∧ True := by
      obtain ⟨_, ⟨hbad, _⟩ | ⟨g, cap, cur, hv, _, hblk, _, hm, hs, _⟩⟩ := ho
      · cases hbad
      · exact ⟨g, cap, cur, hv, trivial, hblk, hs, trivial⟩
    simp only [Value.slice.injEq, Option.some.injEq, Addr.mk.injEq, and_true, true_and] at hv
    obtain ⟨rfl, rfl⟩ := hv
    have hzr : w.heap.size < wr.heap.size := blk_lt hblk
    by_cases hlt : k < 8
    · obtain ⟨x0, hx0⟩ : ∃ x, wr.cell? ⟨w.heap.size, n + k, none⟩ = some x := ⟨_, by rw [cell_of_blk hblk, Array.getElem?_eq_getElem (by omega)]⟩
      have f0 : wr.frozen? ⟨w.heap.size, n + k, none⟩ = false := frozen_of_blk hblk _
      have i0 : (0 : Int) ≤ (n : Int) + k := by omega
      have i1 : (n : Int) + k < ((n + 8 : Nat) : Int) := by omega
      have i2 : ((n : Int) + k).toNat = n + k := by omega
      have HNX := hid (show (wr.setCell ⟨w.heap.size, n + k, none⟩ (.int .u8 77)).ownsRow w.heap.size 5 1 (.slice (some ⟨w.heap.size, 0, none⟩) (n + 8) (n + 8)) (n + 8) (bs (ofB s) ++ markTo [.int .u8 77] R (k + 1)) ∧ Below w.heap.size w (wr.setCell ⟨w.heap.size, n + k, none⟩ (.int .u8 77)) by
        refine ⟨?_, Below.setCell (p := ⟨w.heap.size, n + k, none⟩) HB.out (Nat.le_refl _) _⟩
        have h := owns_setCell HO.out (g := w.heap.size) rfl (n + k) (.int .u8 77)
        rw [set_app (by rw [HBL.out, HN.out]), markTo_one _ R HRL.out hlt] at h
        exact h)
      clear ho hb hblk hc ht
      go_wp2
      exact ⟨⟨k + 1, by omega, by go_num, HNX.out⟩, by simp [intOf]; omega⟩
    · have ek : k = 8 := by omega
      subst ek
      rw [markTo_end [.int .u8 77] R HRL.out] at HO
      clear ho hb hblk hc ht hlt hk
      go_wp2
      go_ret
      exact ⟨rfl, HB.out, HO.out⟩
end Go.Proofs.YthbbfjfekchdiaaGreat
namespace Go.Proofs.YthbbfjfekchdiaaGreat
open Go.RowKit
set_option linter.unusedSimpArgs false
set_option maxRecDepth 4000 in
set_option maxHeartbeats 1000000 in
theorem wholeB_nil (s : ByteArray) (w : World) : Calls Tryz.prog 27 #[.slice none 0 0, .string s] w fun e w' => e = .returned (.bool true) ∧ Below w.heap.size w w' := by
  have hnil := fun (w : World) => run_eql_slice_nil0 (P := Tryz.prog) w 57 5 none 0 0 Tryz.underlying57
  go_enter Tryz.func27, Tryz.ntmps27
  go_wp2
  go_ret
  exact ⟨rfl, Below.refl _ _⟩
theorem lentD_len (s : ByteArray) : (lentD s).length = (s.size + 8) * 1 := by unfold lentD; rw [List.length_append, bs_len, ofB_len, marks_length, List.length_singleton]; omega
theorem lentD_back (s : ByteArray) {i : Nat} (h1 : s.size ≤ i) (h2 : i < s.size + 8) : (lentD s)[i]? = some (.int .u8 77) := by
  unfold lentD
  rw [List.getElem?_append_right (by rw [bs_len, ofB_len]; exact h1), bs_len, ofB_len]
  have := marks_at [.int .u8 77] 8 (i - s.size) 0 (by omega) (by decide)
  simpa using this
theorem lentD_front (s : ByteArray) {i : Nat} (h : i < s.size) : (lentD s)[i]? = some (.int .u8 ((ofB s).getD i 0)) := by
  unfold lentD
  rw [List.getElem?_append_left (by rw [bs_len, ofB_len]; exact h)]
  unfold bs
  rw [List.getElem?_map, List.getD]
  obtain ⟨x, hx⟩ : ∃ x, (ofB s)[i]? = some x := ⟨_, List.getElem?_eq_getElem (by rw [ofB_len]; exact h)⟩
  rw [hx]
  rfl
set_option maxRecDepth 4000 in
set_option maxHeartbeats 4000000 in
theorem wholeB_some (s : ByteArray) (g base : Nat) (w : World) (hown : w.ownsRow base 5 1 (.slice (some ⟨g, 0, none⟩) (s.size + 8) (s.size + 8)) (s.size + 8) (lentD s)) (hlen : s.size ≤ 140737488355328) :
    Calls Tryz.prog 27 #[.slice (some ⟨g, 0, none⟩) s.size (s.size + 8), .string s] w fun e w' => e = .returned (.bool true) ∧ Fr (fun k => k = g) w w' := by
  obtain ⟨n, hn⟩ : ∃ n, n = s.size := ⟨_, rfl⟩
  have hnil := fun (w : World) => run_eql_slice_nil0 (P := Tryz.prog) w 57 5 (some ⟨g, 0, none⟩) n (n + 8) Tryz.underlying57
  have HBK := hid (fun i (h1 : n ≤ i) (h2 : i < n + 8) => lentD_back s (by rw [← hn]; exact h1) (by rw [← hn]; exact h2))
  have HLL := hid (show (lentD s).length = (n + 8) * 1 by rw [lentD_len, hn])
  have hcell : ∀ i, i < n → w.cell? ⟨g, 0 + i, none⟩ = some (.int .u8 ((ofB s).getD i 0)) := fun i hi => by
    obtain ⟨_, ⟨hbad, _⟩ | ⟨g', cap, cur, hv, _, hblk, _, hm, hsz, ht⟩⟩ := hown
    · cases hbad
    simp only [Value.slice.injEq, Option.some.injEq, Addr.mk.injEq, and_true, true_and] at hv
    obtain ⟨rfl, rfl⟩ := hv
    rw [Nat.zero_add, cell_of_blk hblk, ← lentD_front s (by rw [← hn]; exact hi), ← ht, List.getElem?_take_of_lt (by omega)]
    simp
  have hcv := run_convert_bytes_arg (P := Tryz.prog) w 57 5 Tryz.underlying57 Tryz.underlying5 g 0 n (n + 8) (ofB s) (by rw [ofB_len, hn]) hcell 9 Tryz.underlying9
  rw [str_ofB] at hcv
  rw [← hn] at hown hlen ⊢
  have HOWN := hid hown
  have hns : (s.size : Int) = (n : Int) := by rw [hn]
  clear hown hn hcell
  go_enter Tryz.func27, Tryz.ntmps27
  go_wp2
  clear hnil hcv
  go_loopw [7, 8] (fun ok i' wr => ∃ i : Nat, i ≤ n + 8 ∧ i' = i64 i ∧ ok = .bool true ∧ wr.ownsRow base 5 1 (.slice (some ⟨g, 0, none⟩) (n + 8) (n + 8)) (n + 8) (markTo [.int .u8 1] (lentD s) i) ∧ Fr (fun k => k = g) w wr) (fun _ i' _ => n + 8 - (intOf i').toNat)
  case atStart => exact ⟨0, by omega, by simp, rfl, by rw [markTo_zero]; exact HOWN.out, Fr.refl _ _⟩
  case round =>
    obtain ⟨i, hi, rfl, rfl, ho, hf⟩ := hrel
    have HO := hid ho
    have HF := hid hf
    obtain ⟨g', cp, cu, hv, hblk, hc, ht⟩ : ∃ g' cap cur, Value.slice (some ⟨g, 0, none⟩) (n + 8) (n + 8) = .slice (some ⟨g', 0, none⟩) (n + 8) cap ∧ wr.heap[g']? = some (.cells cur 5) ∧ cur.size = cap * 1 ∧ cur.toList.take ((n + 8) * 1) = markTo [.int .u8 1] (lentD s) i := by
      obtain ⟨_, ⟨hbad, _⟩ | ⟨g, cap, cur, hv, _, hblk, _, hm, hs, ht⟩⟩ := ho
      · cases hbad
      · exact ⟨g, cap, cur, hv, hblk, hs, ht⟩
    simp only [Value.slice.injEq, Option.some.injEq, Addr.mk.injEq, and_true, true_and] at hv
    obtain ⟨rfl, rfl⟩ := hv
    have hzr : g < wr.heap.size := blk_lt hblk
    by_cases hlt : i < n + 8
    · obtain ⟨x0, hx0⟩ : ∃ x, wr.cell? ⟨g, i, none⟩ = some x := ⟨_, by rw [cell_of_blk hblk, Array.getElem?_eq_getElem (by omega)]⟩
      have f0 : wr.frozen? ⟨g, i, none⟩ = false := frozen_of_blk hblk _
      have i0 : (0 : Int) ≤ (i : Int) := by omega
      have i1 : (i : Int) < (n : Int) + 8 := by omega
      have HRD := hid (show wr.cell? ⟨g, i, none⟩ = (lentD s)[i]? by
        have e := List.getElem?_take_of_lt (l := cu.toList) (show i < (n + 8) * 1 by omega)
        rw [ht, markTo_at [.int .u8 1] (lentD s) (i := i) (j := i) (by simp)] at e
        rw [cell_of_blk hblk, e]
        simp)
      have HNX := hid (show (wr.setCell ⟨g, i, none⟩ (.int .u8 1)).ownsRow base 5 1 (.slice (some ⟨g, 0, none⟩) (n + 8) (n + 8)) (n + 8) (markTo [.int .u8 1] (lentD s) (i + 1)) ∧ Fr (fun k => k = g) w (wr.setCell ⟨g, i, none⟩ (.int .u8 1)) by
        have h := owns_setCell HO.out (g := g) rfl i (.int .u8 1)
        rw [markTo_one _ (lentD s) HLL.out hlt] at h
        exact ⟨h, HF.out.set (.inl rfl) _ _⟩)
      clear ho hf hblk hc ht
      by_cases hin : i < n
      · have hin' : (i : Int) < (n : Int) := by omega
        go_wp2
        exact ⟨⟨i + 1, by omega, by go_num, rfl, HNX.out⟩, by simp [intOf]; omega⟩
      · have hin' : ¬ (i : Int) < (n : Int) := by omega
        have hx7 : x0 = .int .u8 77 := by
          have := HRD.out
          rw [hx0, HBK.out i (by omega) hlt] at this
          exact Option.some.inj this
        subst hx7
        go_wp2
        exact ⟨⟨i + 1, by omega, by go_num, rfl, HNX.out⟩, by simp [intOf]; omega⟩
    · clear ho hf hblk hc ht
      go_wp2
      go_ret
      exact ⟨rfl, HF.out⟩
end Go.Proofs.YthbbfjfekchdiaaGreat
namespace Go.Proofs.YthbbfjfekchdiaaGreat
open Go.RowKit
set_option linter.unusedSimpArgs false
attribute [local go_sem] Go.wp_at_zero Go.wp_at_succ
theorem lent_any (s : ByteArray) (raw : Int) (w : World) (hlen : s.size ≤ 140737488355328) :
    Calls Tryz.prog 24 #[.string s, i64 raw] w fun e w' => ∃ v, e = .returned v ∧ Below w.heap.size w w' ∧ RowB w' v (ofB s) ∧ OutB (fun k => w'.heap.size ≤ k) v ∧ ∀ w2, Below w'.heap.size w' w2 → Calls Tryz.prog 27 #[v, .string s] w2 fun e w3 => e = .returned (.bool true) ∧ Fr (fun k => k = w.heap.size ∧ k < w'.heap.size) w2 w3 := by
  have some' : ∀ w', Below w.heap.size w w' → w'.ownsRow w.heap.size 5 1 (.slice (some ⟨w.heap.size, 0, none⟩) (s.size + 8) (s.size + 8)) (s.size + 8) (lentD s) →
      RowB w' (.slice (some ⟨w.heap.size, 0, none⟩) s.size (s.size + 8)) (ofB s) ∧ OutB (fun k => w'.heap.size ≤ k) (.slice (some ⟨w.heap.size, 0, none⟩) s.size (s.size + 8)) ∧ ∀ w2, Below w'.heap.size w' w2 → Calls Tryz.prog 27 #[.slice (some ⟨w.heap.size, 0, none⟩) s.size (s.size + 8), .string s] w2 fun e w3 => e = .returned (.bool true) ∧ Fr (fun k => k = w.heap.size ∧ k < w'.heap.size) w2 w3 := by
    intro w' hb ho
    have hlt := (ho.lt w.heap.size rfl).2
    refine ⟨?_, ?_, fun w2 hb2 => (wholeB_some s w.heap.size w.heap.size w2 (owns_below ho hb2) hlen).mono fun e w3 ⟨h1, h2⟩ => ⟨h1, h2.os, h2.tape, h2.output, h2.size, fun k hk hn => h2.block k hk fun (e : k = w.heap.size) => hn ⟨e, by omega⟩⟩⟩
    · have h1 : (ofB s).length = s.size := ofB_len s
      have h2 := RowB.mk' (w := w') (b := w.heap.size) (o := 0) (cap := s.size + 8) (l := ofB s) (fun j v hv => by
        have hj : j < s.size := by
          obtain ⟨y, _⟩ := List.getElem?_eq_some_iff.1 hv
          rw [bs_len, h1] at y
          exact y
        obtain ⟨_, ⟨hbad, _⟩ | ⟨g', cap, cur, hv', _, hblk, _, hm, hsz, ht⟩⟩ := ho
        · cases hbad
        cases hv'
        rw [Nat.zero_add, cell_of_blk hblk]
        have e : (lentD s)[j]? = some v := by
          unfold lentD
          rw [List.getElem?_append_left (by rw [bs_len, h1]; exact hj)]
          exact hv
        rw [← e, ← ht, List.getElem?_take_of_lt (by omega)]
        simp) (by omega)
      rw [h1] at h2
      exact h2
    · intro a n c e hn hx
      cases e
      have hx' : w'.heap.size ≤ w.heap.size := hx
      omega
  by_cases hs : s.size = 0
  · by_cases hr : raw.tmod 2 = 0
    · refine (lentB_b s raw w ⟨hs, hr⟩ hlen).mono ?_
      rintro e w' ⟨rfl, hb, ho⟩
      exact ⟨_, rfl, hb, some' w' hb ho⟩
    · refine (lentB_nil s raw w hs hr).mono ?_
      rintro e w' ⟨rfl, hb⟩
      refine ⟨_, rfl, hb, ?_, ?_, fun w2 _ => (wholeB_nil s w2).mono fun e w3 ⟨h1, h2⟩ => ⟨h1, Fr.below h2⟩⟩
      rotate_left
      · intro a n c e
        cases e
      have h1 : ofB s = [] := List.length_eq_zero_iff.1 ((ofB_len s).trans hs)
      rw [h1]
      exact RowB.nil _ _ _
  · refine (lentB_a s raw w hs hlen).mono ?_
    rintro e w' ⟨rfl, hb, ho⟩
    exact ⟨_, rfl, hb, some' w' hb ho⟩
set_option maxRecDepth 4000 in
set_option maxHeartbeats 4000000 in
theorem loaded_any {R : Rep} (H2 : ProgOk2 R) (kd oa ob od oe : Int) (c : Cfg) (la : Option Addr) (ln lc : Nat) (ss : ByteArray) (B : Nat) (w : World) (tag : Nat → Tag) (ds : List RDb) (bs is ps : List Value) (hI : HInv R w B tag ds bs is ps) (hn : ds.length ≤ 1000000000000) (hss : ss.size ≤ 140737488355328) :
    Calls Tryz.prog 15 #[.pointer (some ⟨B, 0, none⟩), opV kd oa ob od oe c la ln lc ss] w fun e w' => e = .returned (.bool true) ∧ Left3 R w w' B ds bs is ps := by
  have H := H2.base
  have HI := hid hI
  have hz := hI.lt
  have HLB := hid (fun (w : World) => lent_any ss ob w hss)
  have HRL := hid (fun (w : World) => rload_any ss w hss)
  have HBY := hid (ofB_byte ss)
  clear hI
  go_enter Tryz.func15, Tryz.ntmps15
  go_wp2_with fail
  have kb := fun (o1 : Obj) => (Below.refl w.heap.size w).alloc (Nat.le_refl _) o1
  refine (HLB.out _).mono ?_
  rintro e w1 ⟨vb, rfl, hb1, hrow, hout, hwh⟩
  have hz1 : w.heap.size + 1 ≤ w1.heap.size := by have := hb1.size; simp at this; exact this
  have HB1 := hid (show Below w.heap.size w w1 from (kb _).trans (hb1.mono (by simp)))
  have s1 : w1.cell? ⟨w.heap.size, 16, none⟩ = some (.string ss) := cell_later hb1 (by simp)
  rw [show (w.alloc (.cells #[i64 kd, i64 oa, i64 ob, i64 od, i64 oe, i64 c.s0, i64 c.k0, i64 c.s1, i64 c.k1, i64 c.s2, i64 c.k2, i64 c.s3, i64 c.k3, i64 c.m, i64 c.f, .slice la ln lc, .string ss] 43)).heap.size = w.heap.size + 1 by simp] at hwh
  have HWH := hid hwh
  have HROW := hid hrow
  have HOUT := hid hout
  have hzw1 : w.heap.size < w1.heap.size := by omega
  clear hb1 hrow hout hwh kb
  go_wp2_with fail
  refine (H2.load vb (ofB ss) w1 HROW.out HBY.out HOUT.out).mono ?_
  rintro e w2 ⟨hb2, hLn, hLs⟩
  have hz2 := hb2.size
  have HB2 := hid hb2
  have s2 := cell_later hb2 s1
  have hzw2 : w.heap.size < w2.heap.size := by omega
  clear hb2 s1
  cases hl : loadL (ofB ss) with
  | none =>
    have he := hLn hl
    subst he
    have HL := hid hl
    clear hLn hLs hl
    go_wp2_with fail
    refine (HRL.out _).mono ?_
    rintro e w3 ⟨hb3, hRn, _⟩
    have he := hRn HL.out
    subst he
    have HB3 := hid (HB2.out.trans (hb3.mono hz2))
    have s3 := cell_later hb3 s2
    have hz3 := hb3.size
    have hzw3 : w.heap.size < w3.heap.size := by omega
    clear hb3 hRn s2
    go_wp2_with fail
    refine (HWH.out w3 HB3.out).mono ?_
    rintro e w4 ⟨rfl, hf4⟩
    have HF4 := hid (show Below w.heap.size w w4 from by
      have h3 := HB1.out.trans (HB3.out.mono (by omega))
      exact ⟨hf4.os.trans h3.os, hf4.tape.trans h3.tape, hf4.output.trans h3.output, Nat.le_trans h3.size hf4.size, fun k hk => (hf4.block k (by omega) (fun x => by have := x.1; omega)).trans (h3.block k hk)⟩)
    clear hf4 s3
    go_wp2_with fail
    refine (one2_no _ _).mono ?_
    rintro e w5 ⟨rfl, hb5⟩
    have HL5 := hid (left2_same H HI.out (HF4.out.trans (hb5.mono HF4.out.size))).three
    clear hb5
    go_wp2
    go_ret
    exact ⟨by simp, HL5.out⟩
  | some dd =>
    obtain ⟨pq, he, hRq⟩ := hLs dd hl
    subst he
    have HL := hid hl
    have HDK := hid (load_back HBY.out hl)
    have HRQ := hid (H.lim hRq)
    clear hLn hLs hl hRq
    go_wp2_with fail
    refine (HRL.out _).mono ?_
    rintro e w3 ⟨hb3, _, hRs⟩
    obtain ⟨pr, he, hRr⟩ := hRs dd HL.out
    subst he
    have HB3 := hid (HB2.out.trans (hb3.mono hz2))
    have HRR := hid hRr.lim
    have HRQ3 := hid (H.fr HRQ.out (Fr.below (In := fun _ => False) hb3) (fun _ _ x => x))
    have s3 := cell_later hb3 s2
    have hz3 := hb3.size
    have hzw3 : w.heap.size < w3.heap.size := by omega
    clear hb3 hRs hRr s2
    go_wp2_with fail
    refine (HWH.out w3 HB3.out).mono ?_
    rintro e w4 ⟨rfl, hf4⟩
    have hz4 := hf4.size
    have HF4 := hid (show Below w.heap.size w w4 from by
      have h3 := HB1.out.trans (HB3.out.mono (by omega))
      exact ⟨hf4.os.trans h3.os, hf4.tape.trans h3.tape, hf4.output.trans h3.output, Nat.le_trans h3.size hf4.size, fun k hk => (hf4.block k (by omega) (fun x => by have := x.1; omega)).trans (h3.block k hk)⟩)
    have HI4 := hid (HI.out.retag H HF4.out (fun k => if k < w1.heap.size then .arg else .db ds.length))
    have HBO := hid (show Both R w4 (fun k => w1.heap.size ≤ k) pq pr dd from
      ⟨fun k => w1.heap.size ≤ k ∧ k < w2.heap.size, fun k => w2.heap.size ≤ k ∧ k < w3.heap.size, ⟨H.fr HRQ3.out hf4 fun k hk hx => by have h1 := hk.1; have h2 := hx.2; omega, HRR.out.fr hf4 fun k hk hx => by have h1 := hk.1; have h2 := hx.2; omega, HDK.out.1, fun k hk hj => by have h1 := hk.2; have h2 := hj.1; omega, fun k hk => by have h1 := hk.2; omega, fun k hk => by have h1 := hk.2; omega⟩, fun k hk => by
        rcases hk with hk | hk
        · exact hk.1
        · have := hk.1; show w1.heap.size ≤ k; omega⟩)
    have H04 := hid (show ∀ k, w1.heap.size ≤ k → k < w4.heap.size → tagUp tag w.heap.size (fun k => if k < w1.heap.size then Tag.arg else Tag.db ds.length) k = .db ds.length from fun k hk _ => (tagUp_ge (by omega)).trans (if_neg (by omega)))
    clear hf4 s3
    go_wp2_with fail
    refine (one3_yes H B pq pr _ dd _ _ ds bs is ps HI4.out H04.out HBO.out hn).mono ?_
    rintro e w5 ⟨rfl, ⟨tag5, hI5⟩, hB5, _⟩
    have HL5 := hid (show Left3 R w w5 B ds bs is ps from ⟨⟨tag5, _, bs, is, ps, hI5, by simp, by omega, by omega, by omega, id⟩, (HF4.out.mono (by omega)).trans hB5⟩)
    clear hI5 hB5
    go_wp2
    go_ret
    exact ⟨by simp, HL5.out⟩
end Go.Proofs.YthbbfjfekchdiaaGreat
