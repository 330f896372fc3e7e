import Derived.Test.YthbbfjfekchdiaaGreatXTk
import Derived.Test.YthbbfjfekchdiaaGreatXHUpdated
import Derived.Test.YthbbfjfekchdiaaGreatXHKeepsP
import Derived.Deep.RegionLaw
import Derived.Deep.RegionHeld3
import Derived.Deep.DrawnRows
import Derived.Deep.DeepCutAuto
import Derived.Deep.QuietTactic
import Derived.BigQuiet
namespace Go.Proofs.YthbbfjfekchdiaaGreat
open Go.RowKit
set_option linter.unusedSimpArgs false
theorem serP_len {d : RDb} (h : d.Ok) (now fr un : Int) : (serP d now fr un).length ≤ 60 := by
  unfold serP
  split
  · unfold fetchL
    refine Nat.le_trans (List.length_filter_le _ _) ?_
    rw [sortedL_length, List.getD_eq_getElem?_getD]
    cases e : d.L[fetchI d.c now fr]? with
    | none => simp
    | some l => exact (h.pts _ l e).2
  · simp
set_option maxRecDepth 4000 in
set_option maxHeartbeats 4000000 in
theorem fetched_any {R : Rep} (H : ProgOk R) (kd oa ob od oe : Int) (c : Cfg) (la : Option Addr) (ln lc : Nat) (ss : ByteArray) (B : Nat) (c0 c1 c2 pv : Value) (ps : List Value) (pd pr : Nat) (d : RDb) (In : Nat → Prop) (w : World) (hb : Both R w In pd pr d)
    (hB : w.heap[B]? = some (.cells #[c0, c1, c2, pv] 35)) (hpv : w.ownsRow (B + 1) 41 1 pv ps.length ps) (hps : (ps.length + 4) * 24 ≤ 140737488355328) :
    Calls Tryz.prog 30 #[.pointer (some ⟨B, 0, none⟩), .agg #[.pointer (some ⟨pd, 0, none⟩), .pointer (some ⟨pr, 0, none⟩)], opV kd oa ob od oe c la ln lc ss] w fun e w' => e = .returned (.bool true) ∧ ∃ w1 vl n pv' v1 v2 v3, Below w.heap.size w w1 ∧ KI B w.heap.size c0 c1 c2 w1 w' vl pv pv' ((((ps ++ [vl]) ++ [v1]) ++ [v2]) ++ [v3]) [(vl, n), (v1, n + 1), (v2, n + 2), (v3, n + 3)] (mkP ps.length) (i64 (-1000 - (ps.length : Int) / 4)) := by
  have HBo := hid hb
  have HB := hid hB
  have HPV := hid hpv
  have hBz : B < w.heap.size := blk_lt hB
  obtain ⟨P, Q, h, hi⟩ := hb
  have HT := hid h
  have HLEN := hid (serP_len h.ok ob od oe)
  clear hB hpv h hi
  go_enter Tryz.func30, Tryz.ntmps30
  go_wp2_with fail
  have kb := fun (o1 o2 : Obj) => ((Below.refl w.heap.size w).alloc (Nat.le_refl _) o1).alloc (by simp) o2
  refine (H.fetch pd ob od oe d P _ (H.fr HT.out.p (Fr.below (In := fun _ => False) (kb _ _)) (fun _ _ x => x)) HT.out.ok).mono ?_
  rintro e w1 ⟨v, rfl, hb1, ho1, hnil1⟩
  have m1 : w1.cell? ⟨w.heap.size, 1, none⟩ = some (.pointer (some ⟨pr, 0, none⟩)) := cell_later hb1 (by simp)
  have n2 : w1.cell? ⟨w.heap.size + 1, 2, none⟩ = some (i64 ob) := cell_later hb1 (by simp)
  have n3 : w1.cell? ⟨w.heap.size + 1, 3, none⟩ = some (i64 od) := cell_later hb1 (by simp)
  have n4 : w1.cell? ⟨w.heap.size + 1, 4, none⟩ = some (i64 oe) := cell_later hb1 (by simp)
  have z1 : w.heap.size + 2 ≤ w1.heap.size := by have := hb1.size; simp at this; omega
  have HBW := hid (show Below w.heap.size w w1 from (kb _ _).trans (hb1.mono (by simp; omega)))
  have hz1 : w.heap.size < w1.heap.size := by omega
  have hz2 : w.heap.size + 1 < w1.heap.size := by omega
  have HO1 := hid (show w1.ownsRow w.heap.size 48 2 v (serP d ob od oe).length (ptCells (serP d ob od oe)) from owns_base ho1 (by simp; omega))
  have HN1 := hid hnil1
  obtain ⟨er, her⟩ : ∃ e, e = fetchErr d.c ob od oe := ⟨_, rfl⟩
  obtain ⟨sA, hsA⟩ : ∃ e, e = serA d ob od oe := ⟨_, rfl⟩
  obtain ⟨sS, hsS⟩ : ∃ e, e = serS d ob od oe := ⟨_, rfl⟩
  obtain ⟨pp, hpp⟩ : ∃ e, e = serP d ob od oe := ⟨_, rfl⟩
  obtain ⟨a1, d1, rfl⟩ := slice_form HO1.out
  have HRF := hid (fun (x : World) (Qx : Nat → Prop) h1 h2 => fetch_ref pr ob od oe d Qx x h1 h2)
  rw [← her, ← hsA, ← hsS, ← hpp] at HRF
  rw [← hpp] at HO1 HLEN
  rw [← her] at HN1
  rw [← hpp] at HN1
  rw [← her, ← hsA, ← hsS, ← hpp]
  have hpl := HLEN.out
  clear hb1 ho1 hnil1 her hsA hsS hpp kb
  go_wp2_with fail
  refine (HRF.out _ Q ((HT.out.r.later HBW.out).later ((Below.refl _ _).alloc (Nat.le_refl _) _)) HT.out.ok).mono ?_
  rintro e w2 ⟨v2, rfl, hb2, ho2⟩
  obtain ⟨a2, d2, rfl⟩ := slice_form ho2
  have HSB := hid (blk_later hb2 (by simp) (blk_new w1 (.cells #[i64 sA, i64 sS, .slice a1 pp.length d1] 108)))
  have hz3 : w1.heap.size < w2.heap.size := blk_lt HSB.out
  have hb12 : Below w1.heap.size w1 w2 := ((Below.refl _ w1).alloc (Nat.le_refl _) _).trans (hb2.mono (by simp))
  have HB12 := hid hb12
  have HO2 := hid (owns_base ho2 (Nat.zero_le _))
  have HR1 := hid (rowAt_of (owns_below HO1.out hb12))
  have HR2 := hid (rowAt_of ho2)
  have HNIL := hid (show er ≠ 0 → a1 = none from fun he => by have := HN1.out he; simp only [Value.slice.injEq] at this; exact this.1)
  clear hb2 ho2 hb12 m1 n2 n3 n4
  go_upto_region 3 with fail
  generalize hw3 : w2.alloc (.cells #[.int .i64 sA, .int .i64 sS, .slice a2 pp.length d2] 108) = w3
  have HB23 := hid (show Below w2.heap.size w2 w3 by rw [← hw3]; exact (Below.refl _ _).alloc (Nat.le_refl _) _)
  have HTB := hid (show w3.heap[w2.heap.size]? = some (.cells #[i64 sA, i64 sS, .slice a2 pp.length d2] 108) by rw [← hw3]; exact blk_new _ _)
  have HS3 := hid (blk_later HB23.out hz3 HSB.out)
  have s0 : w3.cell? ⟨w1.heap.size, 0, none⟩ = some (i64 sA) := cell_of_blk HS3.out 0
  have s1 : w3.cell? ⟨w1.heap.size, 1, none⟩ = some (i64 sS) := cell_of_blk HS3.out 1
  have s2 : w3.cell? ⟨w1.heap.size, 2, none⟩ = some (.slice a1 pp.length d1) := cell_of_blk HS3.out 2
  have t0 : w3.cell? ⟨w2.heap.size, 0, none⟩ = some (i64 sA) := cell_of_blk HTB.out 0
  have t1 : w3.cell? ⟨w2.heap.size, 1, none⟩ = some (i64 sS) := cell_of_blk HTB.out 1
  have t2 : w3.cell? ⟨w2.heap.size, 2, none⟩ = some (.slice a2 pp.length d2) := cell_of_blk HTB.out 2
  have hz4 : w2.heap.size < w3.heap.size := blk_lt HTB.out
  have hz5 : w1.heap.size < w3.heap.size := by omega
  have HR13 := hid (HR1.out.later HB23.out)
  have HR23 := hid (HR2.out.later HB23.out)
  have HB3 := hid (show Below w.heap.size w w3 from (HBW.out.trans (HB12.out.mono (by omega))).trans (HB23.out.mono (by omega)))
  have HO13 := hid (owns_below (owns_below HO1.out HB12.out) HB23.out)
  clear hw3
  go_cut [11] (fun z wx => z = .bool true ∧ wx = w3)
  case first =>
    have hnil := fun (w : World) => run_eql_slice_nil0 (P := Tryz.prog) w 41 48 a1 pp.length d1 Tryz.underlying41
    by_cases he : er = 0
    · subst he
      cases a1 with
      | none =>
        go_wp2_with fail
        go_meet
        exact ⟨rfl, rfl⟩
      | some ad =>
        go_wp2_with fail
        go_meet
        exact ⟨rfl, rfl⟩
    · have ha := HNIL.out he
      subst ha
      go_wp2_with fail
      go_meet
      exact ⟨rfl, rfl⟩
  case rest =>
    obtain ⟨rfl, hwc⟩ := hcut
    have hwc' := hwc.symm
    subst hwc'
    clear hwc
    go_wp2
    go_loopw [11, 12] (fun ok i' wr => ∃ i : Nat, i ≤ pp.length ∧ i' = i64 i ∧ ok = .bool true ∧ Below w3.heap.size w3 wr) (fun _ i' _ => pp.length - (intOf i').toNat)
    case atStart => exact ⟨0, by omega, rfl, rfl, Below.refl _ _⟩
    case round =>
      obtain ⟨i, hi, rfl, rfl, hbx⟩ := hrel
      have HBX := hid hbx
      have q2 : wr.cell? ⟨w1.heap.size, 2, none⟩ = some (.slice a1 pp.length d1) := cell_later hbx s2
      have r2 : wr.cell? ⟨w2.heap.size, 2, none⟩ = some (.slice a2 pp.length d2) := cell_later hbx t2
      have hzx := hbx.size
      have hx1 : w1.heap.size < wr.heap.size := by omega
      have hx2 : w2.heap.size < wr.heap.size := by omega
      have hBr : B < wr.heap.size := by omega
      clear hbx
      by_cases hlt : i < pp.length
      · obtain ⟨q, hq⟩ : ∃ q, pp[i]? = some q := ⟨_, List.getElem?_eq_getElem hlt⟩
        obtain ⟨a1', c1', hv1, hrow1⟩ := HR13.out.later HBX.out
        obtain ⟨a2', c2', hv2, hrow2⟩ := HR23.out.later HBX.out
        simp only [Value.slice.injEq, true_and] at hv1 hv2
        obtain ⟨rfl, rfl⟩ := hv1
        obtain ⟨rfl, rfl⟩ := hv2
        obtain ⟨b1, rfl, hb1z, x0, x1⟩ := hrow1 i q hq
        obtain ⟨b2, rfl, hb2z, y0, y1⟩ := hrow2 i q hq
        have i0 : (0 : Int) ≤ (i : Int) := by omega
        have i1 : (i : Int) < (pp.length : Int) := by omega
        clear hrow1 hrow2 hq
        go_wp2_with fail
        go_quiet (fail)
        go_wp2
        go_roundw
        case rel => first | exact ⟨i + 1, by omega, by go_num, rfl, below_drewN HBX.out _⟩ | ((repeat apply Exists.intro); exact ⟨⟨i + 1, by omega, by go_num, rfl, below_drewN HBX.out _⟩, rfl⟩)
        case measure => simp [intOf]; omega
      · have HBR := hid (show Below w.heap.size w wr from HB3.out.trans (HBX.out.mono (by omega)))
        have HVR := hid (owns_below HO13.out HBX.out)
        have HSR := hid (blk_later HBX.out hz5 HS3.out)
        go_wp2_with fail
        refine wp_region_held_drew (S := (fun w' => w'.cell? ⟨w1.heap.size, 2, none⟩ = some (.slice a1 pp.length d1))) (by kernel_rfl) ?_ (fun hHeld => ?_)
        · go_keep
        refine tkI (i := 0) (oi := ⟨some 93, .move (.tmp 0), 27, _, #[], none⟩) ?_
        try simp only [Act.put, tkA, tkB, tkC]
        refine tkI (i := 1) (oi := ⟨some 94, .nilCheck (.tmp 93), 0, _, #[⟨0, .data⟩], none⟩) ?_
        try simp only [Act.put, tkA, tkB, tkC]
        refine tkI (i := 2) (oi := ⟨some 95, .fieldAddr 35 (.tmp 94) 1, 0, _, #[⟨1, .data⟩], none⟩) ?_
        try simp only [Act.put, tkA, tkB, tkC]
        refine tkI (i := 3) (oi := ⟨some 96, .fieldAddr 108 (.tmp 7) 2, 0, _, #[], none⟩) ?_
        try simp only [Act.put, tkA, tkB, tkC]
        refine tkI (i := 4) (oi := ⟨some 97, .load 41 (.tmp 96), 41, _, #[⟨3, .data⟩], none⟩) ?_
        try simp only [Act.put, tkA, tkB, tkC]
        refine wpAnyH_ready (rs := [5]) (by kernel_rfl) (by simp) ?_
        refine AllReadyH.cons rfl (fun K hK => ?_) AllReadyH.nil
        go_simp
        have hbd : Below wr.heap.size wr wr.drew := (Below.refl _ _).drew
        have hB' := blk_later hbd hBr (blk_later HBR.out hBz HB.out)
        have hpv' := owns_below (owns_below HPV.out HBR.out) hbd
        refine (keepsPoints_any B w.heap.size c0 c1 c2 pv (.slice a1 pp.length d1) ps _ pp.length _ hB' hpv' (owns_below HVR.out hbd) (by omega) hps (by have := HBR.out.size; exact this)).mono ?_
        rintro e w4 ⟨rfl, pv', v1, v2, v3, hK4⟩
        have HK4 := hid hK4
        refine hK.out _ _ ?_ (fun hHeld => ?_)
        · refine hK4.fr.cell ?_ (cell_later hbd q2)
          have hne := owns_blk HVR.out HSR.out (by decide)
          rintro (e | e | e)
          · have : w1.heap.size = B := e; omega
          · have : w1.heap.size < w.heap.size := (HPV.out.lt _ e).2; omega
          · exact hne e
        clear hK K hK4 hpv' hB' hbd
        refine wpAnyH_done (by kernel_rfl) ?_ _
        go_wp2
        go_ret
        exact ⟨rfl, wr.drew, _, _, pv', v1, v2, v3, HBR.out.drew, HK4.out⟩
end Go.Proofs.YthbbfjfekchdiaaGreat
namespace Go.Proofs.YthbbfjfekchdiaaGreat
open Go.RowKit
set_option linter.unusedSimpArgs false
def mkB (n : Nat) : List Value := [.int .u8 (200 + (n : Int) / 4 % 50)]
def mkI (n : Nat) : List Value := [i64 (-1000 - (n : Int) / 4)]
structure BookRow (w : World) (tr te size : Nat) (mk : Nat → List Value) (v : Value) (es : List Value) : Prop where
  row : w.ownsRow 0 tr 1 v es.length es
  one : ∀ (i : Nat) (u : Value), es[i]? = some u → ∃ n, w.ownsRow 0 te size u n (marks (mk i) n)
theorem BookRow.below {w w' : World} {tr te size : Nat} {mk : Nat → List Value} {v : Value} {es : List Value} (h : BookRow w tr te size mk v es) (hb : Below w.heap.size w w') : BookRow w' tr te size mk v es :=
  ⟨owns_below h.row hb, fun i u hu => by obtain ⟨n, x⟩ := h.one i u hu; exact ⟨n, owns_below x hb⟩⟩
theorem BookRow.nil (w : World) (tr te size : Nat) (mk : Nat → List Value) : BookRow w tr te size mk (.slice none 0 0) [] :=
  ⟨World.ownsRow_nil _ _ _ _, fun i u hu => by simp at hu⟩
theorem BookRow.at {w : World} {tr te size : Nat} {mk : Nat → List Value} {v : Value} {es : List Value} (h : BookRow w tr te size mk v es) (hmk : ∀ i, (mk i).length = size) {i : Nat} (hi : i < es.length) :
    ∃ g cap a n c, v = .slice (some ⟨g, 0, none⟩) es.length cap ∧ w.cell? ⟨g, i, none⟩ = some (.slice a n c) ∧ n ≤ maxLen ∧ ∀ j r u, j < n → (mk i)[r]? = some u → ∃ b, a = some ⟨b, 0, none⟩ ∧ w.cell? ⟨b, j * size + r, none⟩ = some u := by
  obtain ⟨u, hu⟩ : ∃ u, es[i]? = some u := ⟨_, List.getElem?_eq_getElem hi⟩
  obtain ⟨n, ho⟩ := h.one i u hu
  obtain ⟨g, cap, cur, hv, _, hb, ht, hs⟩ := owns_block h.row (by omega)
  have hc : w.cell? ⟨g, i, none⟩ = some u := by
    rw [cell_of_blk hb, ← hu, ← ht, List.getElem?_take_of_lt (by omega)]; simp
  obtain ⟨hl, ⟨rfl, h0⟩ | ⟨b, c, cu, rfl, _, hbb, hn, hm, hss, htt⟩⟩ := ho
  · exact ⟨g, cap, none, 0, 0, hv, hc, by unfold maxLen; omega, fun j r x hj => absurd hj (by omega)⟩
  · refine ⟨g, cap, some ⟨b, 0, none⟩, n, c, hv, hc, by omega, fun j r x hj hr => ⟨b, rfl, ?_⟩⟩
    have hr' : r < (mk i).length := by obtain ⟨y, _⟩ := List.getElem?_eq_some_iff.1 hr; exact y
    have hx := marks_at (mk i) n j r hj hr'
    rw [hr, hmk, ← htt] at hx
    rw [hmk] at hr'
    have hlt : j * size + r < n * size := by
      have := Nat.mul_le_mul_right size (show j + 1 ≤ n from hj)
      rw [Nat.succ_mul] at this
      omega
    rw [List.getElem?_take_of_lt hlt] at hx
    rw [cell_of_blk hbb]
    simpa using hx
set_option maxHeartbeats 1000000 in
theorem mark_any (n : Nat) (w : World) (hn : n ≤ 9223372036854775807) : Calls Tryz.prog 18 #[i64 n] w fun e w' => e = .returned (.int .u8 (200 + (n : Int) / 4 % 50)) ∧ w' = w := by
  have h1 : (0 : Int) ≤ (n : Int) / 4 := by omega
  have h2 : (0 : Int) ≤ (n : Int) / 4 % 50 := by omega
  have h3 : (n : Int) / 4 % 50 < 50 := by omega
  go_enter Tryz.func18, Tryz.ntmps18
  go_wp2
  go_ret
  exact ⟨rfl, rfl⟩
set_option maxRecDepth 4000 in
set_option maxHeartbeats 4000000 in
theorem looks_any (B : Nat) (c0 bv iv pv : Value) (bs is ps : List Value) (w : World) (hB : w.heap[B]? = some (.cells #[c0, bv, iv, pv] 35)) (hb : BookRow w 57 5 1 mkB bv bs) (hi : BookRow w 24 3 1 mkI iv is) (hp : BookRow w 41 48 2 mkP pv ps)
    (lb : bs.length ≤ 140737488355328) (li : is.length ≤ 140737488355328) (lp : ps.length ≤ 140737488355328) :
    Calls Tryz.prog 12 #[.pointer (some ⟨B, 1, none⟩)] w fun e w' => e = .returned (.bool true) ∧ Below w.heap.size w w' := by
  have HBB := hid hb
  have HII := hid hi
  have HPP := hid hp
  obtain ⟨ab, cb, rfl⟩ := slice_form hb.row
  obtain ⟨ai, ci, rfl⟩ := slice_form hi.row
  obtain ⟨ap, cp, rfl⟩ := slice_form hp.row
  have b1 : w.cell? ⟨B, 1, none⟩ = some (.slice ab bs.length cb) := cell_of_blk hB 1
  have b2 : w.cell? ⟨B, 2, none⟩ = some (.slice ai is.length ci) := cell_of_blk hB 2
  have b3 : w.cell? ⟨B, 3, none⟩ = some (.slice ap ps.length cp) := cell_of_blk hB 3
  have hBz : B < w.heap.size := blk_lt hB
  clear hb hi hp hB
  go_enter Tryz.func12, Tryz.ntmps12
  go_wp2
  go_loop [3] (fun i' => ∃ i : Nat, i ≤ bs.length ∧ i' = i64 i) (fun i' => bs.length - (intOf i').toNat)
  case atStart => exact ⟨0, by omega, rfl⟩
  case round =>
    obtain ⟨i, hi, rfl⟩ := hrel
    by_cases hlt : i < bs.length
    · obtain ⟨g, cap, a, n, c, hv, hc, hn, hr⟩ := HBB.out.at (fun _ => rfl) hlt
      simp only [Value.slice.injEq, true_and] at hv
      obtain ⟨rfl, rfl⟩ := hv
      have HR := hid hr
      have i0 : (0 : Int) ≤ (i : Int) := by omega
      have i1 : (i : Int) < (bs.length : Int) := by omega
      have hgz : g < w.heap.size := World.block_lt_of_cell? _ _ hc
      have hn2 : n ≤ 9223372036854775807 := by unfold maxLen at hn; omega
      clear hr hn
      go_wp2_with fail
      refine (mark_any i w (by omega)).mono ?_
      rintro e w' ⟨rfl, rfl⟩
      go_wp2
      go_loop [5] (fun j' => ∃ j : Nat, j ≤ n ∧ j' = i64 j) (fun j' => n - (intOf j').toNat)
      case atStart => exact ⟨0, by omega, rfl⟩
      case round =>
        obtain ⟨j, hj, rfl⟩ := hrel
        by_cases hjl : j < n
        · obtain ⟨b, rfl, hcell⟩ := HR.out j 0 _ hjl rfl
          have hcell' : w'.cell? ⟨b, j, none⟩ = some (.int .u8 (200 + (i : Int) / 4 % 50)) := by simpa using hcell
          have hbz : b < w'.heap.size := World.block_lt_of_cell? _ _ hcell'
          have j0 : (0 : Int) ≤ (j : Int) := by omega
          have j1 : (j : Int) < (n : Int) := by omega
          clear hcell
          go_wp2
          go_round
          case rel => exact ⟨j + 1, by omega, by go_num⟩
          case measure => simp [intOf]; omega
        · go_wp2
          go_round
          case rel => exact ⟨i + 1, by omega, by go_num⟩
          case measure => simp [intOf]; omega
    · go_wp2
      clear hlt hi
      go_loop [6] (fun i' => ∃ i : Nat, i ≤ is.length ∧ i' = i64 i) (fun i' => is.length - (intOf i').toNat)
      case atStart => exact ⟨0, by omega, rfl⟩
      case round =>
        obtain ⟨i, hi, rfl⟩ := hrel
        by_cases hlt : i < is.length
        · obtain ⟨g, cap, a, n, c, hv, hc, hn, hr⟩ := HII.out.at (fun _ => rfl) hlt
          simp only [Value.slice.injEq, true_and] at hv
          obtain ⟨rfl, rfl⟩ := hv
          have HR := hid hr
          have i0 : (0 : Int) ≤ (i : Int) := by omega
          have i1 : (i : Int) < (is.length : Int) := by omega
          have hgz : g < w.heap.size := World.block_lt_of_cell? _ _ hc
          have hn2 : n ≤ 9223372036854775807 := by unfold maxLen at hn; omega
          clear hr hn
          go_wp2
          go_loop [7] (fun j' => ∃ j : Nat, j ≤ n ∧ j' = i64 j) (fun j' => n - (intOf j').toNat)
          case atStart => exact ⟨0, by omega, rfl⟩
          case round =>
            obtain ⟨j, hj, rfl⟩ := hrel
            by_cases hjl : j < n
            · obtain ⟨b, rfl, hcell⟩ := HR.out j 0 _ hjl rfl
              have hcell' : w.cell? ⟨b, j, none⟩ = some (i64 (-1000 - (i : Int) / 4)) := by simpa using hcell
              have hbz : b < w.heap.size := World.block_lt_of_cell? _ _ hcell'
              have j0 : (0 : Int) ≤ (j : Int) := by omega
              have j1 : (j : Int) < (n : Int) := by omega
              clear hcell
              go_wp2
              go_round
              case rel => exact ⟨j + 1, by omega, by go_num⟩
              case measure => simp [intOf]; omega
            · go_wp2
              go_round
              case rel => exact ⟨i + 1, by omega, by go_num⟩
              case measure => simp [intOf]; omega
        · go_wp2
          clear hlt hi
          go_loopw [8] (fun i' wr => ∃ i : Nat, i ≤ ps.length ∧ i' = i64 i ∧ Below w.heap.size w wr) (fun i' _ => ps.length - (intOf i').toNat)
          case atStart => exact ⟨0, by omega, rfl, Below.refl _ _⟩
          case round =>
            obtain ⟨i, hi, rfl, hbel⟩ := hrel
            obtain ⟨wo, hwo⟩ : ∃ wo, wo = wr := ⟨_, rfl⟩
            subst hwo
            have HBel := hid hbel
            have z3 : wo.cell? ⟨B, 3, none⟩ = some (.slice ap ps.length cp) := cell_later hbel b3
            have hBo : B < wo.heap.size := World.block_lt_of_cell? _ _ z3
            have hzo := hbel.size
            clear hbel
            by_cases hlt : i < ps.length
            · obtain ⟨g, cap, a, n, c, hv, hc, hn, hr⟩ := (HPP.out.below HBel.out).at (fun _ => rfl) hlt
              simp only [Value.slice.injEq, true_and] at hv
              obtain ⟨rfl, rfl⟩ := hv
              have HR := hid hr
              have HC := hid hc
              have i0 : (0 : Int) ≤ (i : Int) := by omega
              have i1 : (i : Int) < (ps.length : Int) := by omega
              have hgz : g < wo.heap.size := World.block_lt_of_cell? _ _ hc
              have hn2 : n ≤ 9223372036854775807 := by unfold maxLen at hn; omega
              have Z3 := hid z3
              clear hr hn hc
              go_wp2
              clear z3
              go_loopw [10] (fun j' wx => ∃ j : Nat, j ≤ n ∧ j' = i64 j ∧ Below (wo.heap.size + 1) (wo.alloc (.cells #[i64 (-1000 - (i : Int) / 4), i64 0] 48)) wx) (fun j' _ => n - (intOf j').toNat)
              case atStart => exact ⟨0, by omega, rfl, Below.refl _ _⟩
              case round =>
                obtain ⟨j, hj, rfl, hbx⟩ := hrel
                have HBX := hid hbx
                have hbo : Below wo.heap.size wo wr := ((Below.refl _ wo).alloc (Nat.le_refl _) _).trans (hbx.mono (by omega))
                have HBO := hid hbo
                have hmb := blk_later hbx (by omega) (blk_new wo (.cells #[i64 (-1000 - (i : Int) / 4), i64 0] 48))
                have y0 : wr.cell? ⟨wo.heap.size, 0, none⟩ = some (i64 (-1000 - (i : Int) / 4)) := cell_of_blk hmb 0
                have y1 : wr.cell? ⟨wo.heap.size, 1, none⟩ = some (i64 0) := cell_of_blk hmb 1
                have hzx : wo.heap.size < wr.heap.size := blk_lt hmb
                have z3 : wr.cell? ⟨B, 3, none⟩ = some (.slice (some ⟨g, 0, none⟩) ps.length cp) := cell_later hbo Z3.out
                have zg : wr.cell? ⟨g, i, none⟩ = some (.slice a n c) := cell_later hbo HC.out
                have hBr : B < wr.heap.size := by omega
                have hgr : g < wr.heap.size := by omega
                have HEND := hid (show Below w.heap.size w wr from HBel.out.trans (hbo.mono hzo))
                clear hbx hbo hmb
                by_cases hjl : j < n
                · obtain ⟨b, rfl, hcell⟩ := HR.out j 0 _ hjl rfl
                  obtain ⟨b', hb', hcell2⟩ := HR.out j 1 _ hjl rfl
                  simp only [Option.some.injEq, Addr.mk.injEq, and_true] at hb'
                  subst hb'
                  have k0 : wr.cell? ⟨b, j * 2, none⟩ = some (i64 (-1000 - (i : Int) / 4)) := cell_later HBO.out hcell
                  have k1 : wr.cell? ⟨b, j * 2 + 1, none⟩ = some (i64 0) := cell_later HBO.out hcell2
                  have hbz : b < wr.heap.size := World.block_lt_of_cell? _ _ k0
                  have j0 : (0 : Int) ≤ (j : Int) := by omega
                  have j1 : (j : Int) < (n : Int) := by omega
                  clear hcell hcell2
                  go_wp2_with fail
                  go_quiet (fail)
                  go_wp2
                  go_roundw
                  case rel => first | exact ⟨j + 1, by omega, by go_num, below_drewN HBX.out _⟩ | ((repeat apply Exists.intro); exact ⟨⟨j + 1, by omega, by go_num, below_drewN HBX.out _⟩, rfl⟩)
                  case measure => simp [intOf]; omega
                · go_wp2
                  go_roundw
                  case rel => first | exact ⟨i + 1, by omega, by go_num, HEND.out⟩ | ((repeat apply Exists.intro); exact ⟨⟨i + 1, by omega, by go_num, HEND.out⟩, rfl⟩)
                  case measure => simp [intOf]; omega
            · go_wp2
              go_ret
              exact ⟨rfl, HBel.out⟩
end Go.Proofs.YthbbfjfekchdiaaGreat
