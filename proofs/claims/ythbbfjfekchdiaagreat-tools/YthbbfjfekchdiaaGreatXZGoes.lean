import Derived.Test.YthbbfjfekchdiaaGreatXTk
import Derived.Test.YthbbfjfekchdiaaGreatXZBytes
import Derived.Test.YthbbfjfekchdiaaGreatXZWrite
import Derived.Deep.DeepCutAuto
namespace Go.Proofs.YthbbfjfekchdiaaGreat
open Go.RowKit
set_option linter.unusedSimpArgs false
attribute [local go_sem] Go.wp_at_zero Go.wp_at_succ
structure ZView (w : World) (In : Nat → Prop) (p gl cap : Nat) (d : RDb) : Prop where
  c0 : w.cell? ⟨p, 0, none⟩ = some (.slice (some ⟨gl, 0, none⟩) d.c.many cap)
  c1 : w.cell? ⟨p, 1, none⟩ = some (.iface (methT d.c.m) (.agg #[]))
  c2 : w.cell? ⟨p, 2, none⟩ = some (i64 d.c.f)
  hp : p < w.heap.size
  hg : gl < w.heap.size
  arc : ∀ (i : Nat) (l : List Pt), d.L[i]? = some l → ∃ g, w.cell? ⟨gl, i * 2, none⟩ = some (i64 (d.c.s i)) ∧ w.cell? ⟨gl, i * 2 + 1, none⟩ = some (.slice (some ⟨g, 0, none⟩) (d.c.k i).toNat (d.c.k i).toNat) ∧ w.heap[g]? = some (.cells (slotBlk (slotsL d.c i l (d.c.k i).toNat)) 116) ∧ In g ∧ g ≠ p ∧ g ≠ gl ∧
    ∀ (w' w2 : World) (q : Pt), Below w.heap.size w w' → PtIn q → q.1 % d.c.s i = 0 → Fr (fun j => j = g) w' w2 → w2.heap[g]? = some (.cells (slotBlk ((slotsL d.c i l (d.c.k i).toNat).set (slotOf d.c i q.1).toNat (some q))) 116) → ZRep w2 In p (d.put i (setL d.c i q l))
theorem ZRep.view {w : World} {In : Nat → Prop} {p : Nat} {d : RDb} (h : ZRep w In p d) : ∃ gl cap, ZView w In p gl cap d := by
  obtain ⟨gl, cap, cur, gs, a, b, c, e, f, gi, r⟩ := h.mem
  refine ⟨gl, cap, cell_of_blk b 0, cell_of_blk b 1, cell_of_blk b 2, blk_lt b, blk_lt c, fun i l hl => ?_⟩
  have hi : i < d.c.many := by
    obtain ⟨x, _⟩ := List.getElem?_eq_some_iff.1 hl
    rw [← h.ok.len]; exact x
  obtain ⟨x, hx⟩ : ∃ x, gs[i]? = some x := ⟨_, List.getElem?_eq_getElem (by omega)⟩
  obtain ⟨r1, r2, r3⟩ := r i x l hx hl
  refine ⟨x, by rw [cell_of_blk c]; exact r1, by rw [cell_of_blk c]; exact r2, r3, gi x (List.mem_of_getElem? hx), (fun e => by rw [e, b] at r3; simp at r3), (fun e => by rw [e, c] at r3; simp at r3), fun w' w2 q hb hq hal hf hw => ?_⟩
  refine ZRep.put (w := w') (h.fr (Fr.below (In := fun _ => False) hb) (fun _ _ x => x)) hl hq hal (blk_later hb (blk_lt r3) r3) (fun gl' cap' cur' h1 h2 => ?_) hf hw
  have h1' := blk_later hb (blk_lt b) b
  rw [h1'] at h1
  simp at h1
  obtain ⟨rfl, rfl⟩ := h1
  have h2' := blk_later hb (blk_lt c) c
  rw [h2'] at h2
  simp at h2
  subst h2
  exact r2
theorem goes_next {f : Nat} {d : RDb} {i n : Nat} {t fr : Int} {l l2 : List Pt} (hi : i + 1 < d.c.many) (hl : d.L[i]? = some l) (hl2 : d.L[i + 1]? = some l2) (hfr : fr = t - t % d.c.s (i + 1)) (hn : (d.c.s (i + 1) / d.c.s i).toNat = n) :
    goesF (f + 1) d i t = if (valsTo d.c i l fr n).length = 0 ∨ 100 * ((valsTo d.c i l fr n).length : Int) < d.c.f * n then d else goesF f (d.put (i + 1) (setL d.c (i + 1) (fr, makesI d.c.m (valsTo d.c i l fr n)) l2)) (i + 1) fr := by
  rw [goesF, if_neg (by omega)]
  simp only [← hfr, hn, hl, hl2, Option.getD_some]
theorem Fr.cellZ {In : Nat → Prop} {w w' : World} (h : Fr In w w') {a : Addr} {v : Value} (hn : ¬ In a.block) (hc : w.cell? a = some v) : w'.cell? a = some v :=
  (World.cell?_of_block (h.block a.block (World.block_lt_of_cell? _ _ hc) hn)).trans hc
theorem two_alloc (w : World) (O1 O2 : Obj) : ((w.alloc O1).alloc O2).drew.heap[w.heap.size]? = some O1 ∧ ((w.alloc O1).alloc O2).drew.heap[w.heap.size + 1]? = some O2 ∧ Below w.heap.size w ((w.alloc O1).alloc O2).drew := by
  refine ⟨blk_alloc (blk_new w O1), ?_, (((Below.refl _ w).alloc (Nat.le_refl _) O1).alloc (by simp) O2).drew⟩
  have h := blk_new (w.alloc O1) O2
  have e : (w.alloc O1).heap.size = w.heap.size + 1 := by simp
  rw [e] at h
  exact h
structure ZG (w wr : World) (In : Nat → Prop) (p : Nat) (c : Cfg) (t : Int) (G : RDb) (k f : Nat) (d : RDb) : Prop where
  rep : ZRep wr In p d
  cfg : d.c = c
  lo : k < c.many
  hi : c.many ≤ k + f
  eq : goesF f d k (t - t % c.s k) = G
  has : ∃ l q, d.L[k]? = some l ∧ q ∈ l ∧ q.1 = t - t % c.s k
  fr : Fr In w wr
set_option maxRecDepth 4000 in
set_option maxHeartbeats 4000000 in
theorem zgoon_any (HSO : Hid SortOk) (p i : Nat) (t : Int) (d : RDb) (In : Nat → Prop) (w : World) (h : ZRep w In p d) (hi : i < d.c.many) (t0 : 0 ≤ t) (t1 : t ≤ 2147483647) (hhas : ∃ l q, d.L[i]? = some l ∧ q ∈ l ∧ q.1 = t - t % d.c.s i) :
    Calls Tryz.prog 91 #[.pointer (some ⟨p, 0, none⟩), i64 i, i64 t] w fun e w' => e = .returned (.tuple #[]) ∧ ZRep w' In p (goesF d.c.many d i (t - t % d.c.s i)) ∧ Fr In w w' := by
  obtain ⟨G, hG⟩ : ∃ G, G = goesF d.c.many d i (t - t % d.c.s i) := ⟨_, rfl⟩
  obtain ⟨c, hc⟩ : ∃ c, c = d.c := ⟨_, rfl⟩
  have HS := hid (show ZG w w In p c t G i c.many d from ⟨h, hc.symm, by rw [hc]; exact hi, by omega, by rw [hG, hc], by rw [hc]; exact hhas, Fr.refl _ _⟩)
  rw [← hG]
  have h4 := c.many_le
  clear h hi hhas hG hc
  go_enter Tryz.func91, Tryz.ntmps91
  go_wp2
  go_loopw [6] (fun i' wr => ∃ (k f : Nat) (d : RDb), i' = i64 k ∧ ZG w wr In p c t G k f d) (fun i' _ => c.many - (intOf i').toNat)
  case atStart => exact ⟨i, c.many, d, rfl, HS.out⟩
  case round =>
    clear HS
    obtain ⟨k, f, d', rfl, hZ⟩ := hrel
    have HZ := hid hZ
    obtain ⟨gl, cap, hV⟩ := hZ.rep.view
    have HV := hid hV
    have c0 := hV.c0
    rw [hZ.cfg] at c0
    have hpz := hV.hp
    have hgz := hV.hg
    have hk := hZ.lo
    clear hZ hV
    have k0 : (0 : Int) ≤ (k : Int) := by omega
    have k4 : (k : Int) < 4 := by omega
    by_cases hlt : k + 1 < c.many
    rotate_left
    · have HE := hid (show d' = G by have h1 := HZ.out.eq; rw [goesF_last (by rw [HZ.out.cfg]; omega)] at h1; exact h1)
      have hlt' : ¬ (k : Int) + 1 < (c.many : Int) := by omega
      go_wp2
      go_end0
      exact ⟨rfl, by rw [← HE.out]; exact HZ.out.rep, HZ.out.fr⟩
    have hlt' : (k : Int) + 1 < (c.many : Int) := by omega
    obtain ⟨l1, hl1⟩ : ∃ l, d'.L[k]? = some l := ⟨_, List.getElem?_eq_getElem (by rw [HZ.out.rep.ok.len, HZ.out.cfg]; omega)⟩
    obtain ⟨l2, hl2⟩ : ∃ l, d'.L[k + 1]? = some l := ⟨_, List.getElem?_eq_getElem (by rw [HZ.out.rep.ok.len, HZ.out.cfg]; omega)⟩
    obtain ⟨g1, a0, a1, ab, _, _, _, _⟩ := HV.out.arc k l1 hl1
    obtain ⟨g2, b0, b1, bb, hIn2, hg2p, _, hput⟩ := HV.out.arc (k + 1) l2 hl2
    rw [HZ.out.cfg] at a0 a1 ab b0 b1 bb hput
    have HA := hid ab
    have HB := hid bb
    have HPUT := hid hput
    have HIN2 := hid hIn2
    have HL1 := hid hl1
    have HL2 := hid hl2
    have HOKc := hid (show c.Ok by rw [← HZ.out.cfg]; exact HZ.out.rep.ok.cfg)
    obtain ⟨n, hn1, hn60, hns, hnq⟩ := step_nums HOKc.out hlt
    obtain ⟨ba1, ba2, ba3, ba4⟩ := Cfg.bd HOKc.out (show k < c.many by omega)
    obtain ⟨bb1, bb2, bb3, bb4⟩ := Cfg.bd HOKc.out hlt
    obtain ⟨f1, f2, f3, f4⟩ := HOKc.out.2.2 k (by omega) hlt
    have HDIV := hid f2
    have HNS := hid hns
    have HNQ := hid hnq
    obtain ⟨Ka, hKa⟩ : ∃ K : Nat, K = (c.k k).toNat := ⟨_, rfl⟩
    obtain ⟨Kb, hKb⟩ : ∃ K : Nat, K = (c.k (k + 1)).toNat := ⟨_, rfl⟩
    obtain ⟨sa, hsa⟩ : ∃ s, s = c.s k := ⟨_, rfl⟩
    obtain ⟨sb, hsb⟩ : ∃ s, s = c.s (k + 1) := ⟨_, rfl⟩
    rw [← hKa] at a1 HA
    rw [← hKb] at b1 HB HPUT
    rw [← hsa] at a0 ba1 ba2 HNS HNQ HDIV
    rw [← hsb] at b0 bb1 bb2 HNS HNQ HDIV HPUT
    have Ka1 : 1 ≤ Ka := by omega
    have Ka2 : Ka ≤ 60 := by omega
    have Kb1 : 1 ≤ Kb := by omega
    have Kb2 : Kb ≤ 60 := by omega
    have HKa := hid hKa
    have HKb := hid hKb
    have HSA := hid hsa
    have HSB := hid hsb
    have B0 : wr.cell? ⟨gl, k * 2 + 2, none⟩ = some (i64 sb) := by rw [show k * 2 + 2 = (k + 1) * 2 by omega]; exact b0
    have B1 : wr.cell? ⟨gl, k * 2 + 3, none⟩ = some (.slice (some ⟨g2, 0, none⟩) Kb Kb) := by rw [show k * 2 + 3 = (k + 1) * 2 + 1 by omega]; exact b1
    have k1 : (k : Int) < (c.many : Int) := by omega
    have HLT := hid hlt
    have HK := hid hk
    clear ab bb hput hl1 hl2 f1 f2 f3 f4 hns hnq hKa hKb hsa hsb ba3 ba4 bb3 bb4 hlt hk
    go_upto_region 3 with fail
    go_cut [7, 8] (fun x y wx => ∃ a b : Nat, x = .pointer (some ⟨a, 0, none⟩) ∧ y = .pointer (some ⟨b, 0, none⟩) ∧ wx.heap[a]? = some (.cells #[i64 sa, .slice (some ⟨g1, 0, none⟩) Ka Ka] 94) ∧ wx.heap[b]? = some (.cells #[i64 sb, .slice (some ⟨g2, 0, none⟩) Kb Kb] 94) ∧ Below wr.heap.size wr wx)
    case first =>
      as_aux_lemma =>
      go_region
      all_goals go_wp2
      all_goals go_meet
      · obtain ⟨y1, y2, y3⟩ := two_alloc wr (.cells #[i64 sa, .slice (some ⟨g1, 0, none⟩) Ka Ka] 94) (.cells #[i64 sb, .slice (some ⟨g2, 0, none⟩) Kb Kb] 94)
        exact ⟨_, _, rfl, rfl, y1, y2, y3⟩
      · obtain ⟨y1, y2, y3⟩ := two_alloc wr (.cells #[i64 sb, .slice (some ⟨g2, 0, none⟩) Kb Kb] 94) (.cells #[i64 sa, .slice (some ⟨g1, 0, none⟩) Ka Ka] 94)
        exact ⟨_, _, rfl, rfl, y2, y1, y3⟩
    case rest =>
    as_aux_lemma =>
    obtain ⟨a, b, rfl, rfl, hab, hbb, hwx⟩ := hcut
    revert hab hbb hwx
    generalize wc = w1
    intro hab hbb hwx
    have HAB := hid hab
    have HBB := hid hbb
    have HW1 := hid hwx
    have z1 := hwx.size
    have B2 : w1.cell? ⟨b, 0, none⟩ = some (i64 sb) := cell_of_blk hbb 0
    have B3 : w1.cell? ⟨b, 1, none⟩ = some (.slice (some ⟨g2, 0, none⟩) Kb Kb) := cell_of_blk hbb 1
    have zb : b < w1.heap.size := blk_lt hbb
    have za : a < w1.heap.size := blk_lt hab
    have HBG := hid (fun (w : World) => zbegin_any sb t g2 Kb Kb w bb1 (by omega) t0 (by omega))
    obtain ⟨fr, hfr⟩ : ∃ f, f = t - t % sb := ⟨_, rfl⟩
    rw [← hfr] at HBG
    have r0 : 0 ≤ t % sb := Int.emod_nonneg _ (by omega)
    have r1 : t % sb < sb := Int.emod_lt_of_pos _ (by omega)
    have r2 : t % sb ≤ t := by
      have e1 := Int.mul_ediv_add_emod t sb
      have e2 : 0 ≤ sb * (t / sb) := Int.mul_nonneg (by omega) (Int.ediv_nonneg t0 (by omega))
      omega
    have fr0 : 0 ≤ fr := by omega
    have fr1 : fr ≤ 2147483647 := by omega
    have HFR := hid hfr
    clear a0 a1 b0 b1 B0 B1 c0 hab hbb hwx hfr r0 r1 r2
    go_wp2_with fail
    refine (HBG.out _).mono ?_
    rintro e w2 ⟨rfl, hb2⟩
    have hz2 := hb2.size
    have HAB2 := hid (blk_later hb2 za HAB.out)
    have HBB2 := hid (blk_later hb2 zb HBB.out)
    have A2 : w2.cell? ⟨a, 0, none⟩ = some (i64 sa) := cell_of_blk HAB2.out 0
    have A3 : w2.cell? ⟨a, 1, none⟩ = some (.slice (some ⟨g1, 0, none⟩) Ka Ka) := cell_of_blk HAB2.out 1
    have B4 : w2.cell? ⟨b, 0, none⟩ = some (i64 sb) := cell_of_blk HBB2.out 0
    have zb2 : b < w2.heap.size := blk_lt HBB2.out
    have za2 : a < w2.heap.size := blk_lt HAB2.out
    have HW2 := hid (HW1.out.trans (hb2.mono z1))
    have HA2 := hid (blk_later HW2.out (blk_lt HA.out) HA.out)
    clear hb2 B2 B3
    go_wp2_with fail
    refine (zpoints_any HSO sa fr (fr + sb - 1) g1 Ka Ka (slotsL c k l1 Ka) w2 (by omega) (slotsL_len _ _ _ _) HA2.out).mono ?_
    rintro e w3 ⟨v3, pts, rfl, hb3, hp3, hs3, ho3⟩
    have hz3 := hb3.size
    have HPF := hid (pts_facts HZ.out.rep.ok HL1.out (by rw [HZ.out.cfg]; exact HK.out) (fr := fr) (un := fr + sb - 1) (pts := pts) (by rw [HZ.out.cfg, ← HKa.out]; exact hp3) hs3)
    have HST := hid (stretch_pts HZ.out.rep.ok HZ.out.rep.al HL1.out (by rw [HZ.out.cfg]; exact HK.out) (fr := fr) (n := n) (pts := pts) (by rw [HZ.out.cfg, ← HSA.out, HFR.out]; exact begin_mod HDIV.out) (by rw [HZ.out.cfg, ← HKa.out, ← HSA.out, HNS.out]; exact hp3) hs3)
    rw [HZ.out.cfg] at HST
    have HRW := hid (rowAt_of ho3)
    have hpl : pts.length ≤ 60 := by
      rw [hp3.length_eq]
      refine Nat.le_trans (ptsK_len _ _ _) ?_
      rw [slotsL_len]; exact Ka2
    obtain ⟨a3, c3, rfl, _⟩ := rowAt_of ho3
    have HW3 := hid (HW2.out.trans (hb3.mono (by omega)))
    have HBB3 := hid (blk_later hb3 zb2 HBB2.out)
    have A4 : w3.cell? ⟨a, 0, none⟩ = some (i64 sa) := cell_later hb3 A2
    have B5 : w3.cell? ⟨b, 0, none⟩ = some (i64 sb) := cell_later hb3 B4
    have B6 : w3.cell? ⟨b, 1, none⟩ = some (.slice (some ⟨g2, 0, none⟩) Kb Kb) := cell_of_blk HBB3.out 1
    have P1 : w3.cell? ⟨p, 1, none⟩ = some (.iface (methT c.m) (.agg #[])) := by rw [← HZ.out.cfg]; exact cell_later HW3.out HV.out.c1
    have P2 : w3.cell? ⟨p, 2, none⟩ = some (i64 c.f) := by rw [← HZ.out.cfg]; exact cell_later HW3.out HV.out.c2
    have zp3 : p < w3.heap.size := by omega
    have za3 : a < w3.heap.size := by omega
    have zb3 : b < w3.heap.size := by omega
    have HNE := hid (show pts ≠ [] from fun e => by
      obtain ⟨l, q, hl, hq, hq1⟩ := HZ.out.has
      rw [HL1.out] at hl
      cases hl
      rw [← HSA.out] at hq1
      have hbg := begin_begin (t := t) ba1 bb1 HDIV.out
      have x0 : 0 ≤ (t - t % sa) % sb := Int.emod_nonneg _ (by omega)
      have x1 : (t - t % sa) % sb < sb := Int.emod_lt_of_pos _ (by omega)
      have hin : q ∈ pts := (HPF.out.2 q).2 ⟨hq, by
        unfold strB
        simp only [Bool.and_eq_true, decide_eq_true_eq]
        have := HFR.out
        omega⟩
      rw [e] at hin
      cases hin)
    clear hp3 hs3 ho3 hb3 A2 A3 B4
    have hall : sb / sa = (n : Int) := by
      have h1 := HNQ.out
      have h2 : 0 ≤ sb / sa := Int.ediv_nonneg (by omega) (by omega)
      omega
    obtain ⟨mm1, mm6, ff0, ff1, _⟩ := HOKc.out.1
    obtain ⟨y, hy⟩ : ∃ y, y = c.f * (n : Int) := ⟨_, rfl⟩
    have hy0 : 0 ≤ y := by rw [hy]; exact Int.mul_nonneg ff0 (by omega)
    have hy1 : y ≤ 6000 := by
      rw [hy]
      have := Int.mul_le_mul ff1 (show (n : Int) ≤ 60 by omega) (by omega) (by omega)
      omega
    have hyw : IntKind.i64.wrap (c.f * (n : Int)) = y := by rw [← hy]; exact IntWalk.i64_in _ (by omega)
    obtain ⟨f', rfl⟩ : ∃ f', f = f' + 1 := ⟨f - 1, by have h1 := HZ.out.hi; have h2 := HLT.out; omega⟩
    have HGF := hid (show G = if (pts.map (·.2)).length = 0 ∨ 100 * ((pts.map (·.2)).length : Int) < y then d' else goesF f' (d'.put (k + 1) (setL c (k + 1) (fr, makesI c.m (pts.map (·.2))) l2)) (k + 1) fr by
      rw [← HZ.out.eq, goes_next (n := n) (fr := fr) (by rw [HZ.out.cfg]; exact HLT.out) HL1.out HL2.out (by rw [HZ.out.cfg, ← HSA.out, ← HSB.out, begin_begin ba1 bb1 HDIV.out]; exact HFR.out) (by rw [HZ.out.cfg, ← HSA.out, ← HSB.out]; exact HNQ.out), HZ.out.cfg, ← HST.out, ← hy])
    rw [List.length_map] at HGF
    have HY := hid hy
    clear hy
    by_cases g2' : 100 * (pts.length : Int) < y
    · have HE := hid (show d' = G by rw [HGF.out, if_pos (.inr g2')])
      have HFN := hid (show ZRep w3 In p G ∧ Fr In w w3 from ⟨by rw [← HE.out]; exact HZ.out.rep.fr (Fr.below (In := fun _ => False) HW3.out) (fun _ _ x => x), HZ.out.fr.trans (Fr.below (In := fun _ => False) HW3.out) (fun _ h => h.elim)⟩)
      go_wp2
      exact bodyPost_ret (v := .tuple #[]) (by simp [results, Tryz.results91, go_sem]) rfl ⟨rfl, HFN.out⟩
    have HGG := hid (show G = goesF f' (d'.put (k + 1) (setL c (k + 1) (fr, makesI c.m (pts.map (·.2))) l2)) (k + 1) fr by
      rw [HGF.out, if_neg]
      rintro (h | h)
      · exact HNE.out (List.length_eq_zero_iff.1 h)
      · exact g2' h)
    have HVI := hid (show ∀ v ∈ pts.map (·.2), VIn v from fun v hv => by
      obtain ⟨q, hq, rfl⟩ := List.mem_map.1 hv
      have := (HZ.out.rep.ok.pts k l1 HL1.out).1 q ((HPF.out.2 q).1 hq).1
      exact ⟨this.2.2.1, this.2.2.2⟩)
    have HVL := hid (fun (w : World) (hr : RowAt w (.slice a3 pts.length c3) pts) => zvalues_any (.slice a3 pts.length c3) pts w hr (by omega))
    have HRWD := hid (HRW.out.later ((Below.refl _ w3).drew))
    have HNV := hid (show pts.map (·.2) ≠ [] from fun e => HNE.out (List.map_eq_nil_iff.1 e))
    obtain ⟨V, hVd⟩ : ∃ V, V = pts.map (·.2) := ⟨_, rfl⟩
    rw [← hVd] at HVI HVL HNV HGG
    have hVl : V.length ≤ 60 := by rw [hVd, List.length_map]; exact hpl
    have HB3 := hid (blk_later HW3.out (blk_lt HB.out) HB.out)
    have HWR := hid (fun (x : Int) (w : World) (hg : w.heap[g2]? = some (.cells (slotBlk (slotsL c (k + 1) l2 Kb)) 116)) => zwrite_any sb fr x g2 Kb Kb (slotsL c (k + 1) l2 Kb) w bb1 (by omega) fr0 (by omega) Kb1 (by omega) (slotsL_len _ _ _ _) hg)
    clear hVd
    have hm6 : c.m = 1 ∨ c.m = 2 ∨ c.m = 3 ∨ c.m = 4 ∨ c.m = 5 ∨ c.m = 6 := by omega
    have HEND := hid (show ∀ wx : World, Fr (fun j => j = g2) w3 wx → wx.heap[g2]? = some (.cells (slotBlk ((slotsL c (k + 1) l2 Kb).set (fr / sb % (Kb : Int)).toNat (some (fr - fr % sb, makesI c.m V)))) 116) → ZG w wx In p c t G (k + 1) f' (d'.put (k + 1) (setL c (k + 1) (fr, makesI c.m V) l2)) from fun wx hf hb => by
      have hfr : fr % sb = 0 := by rw [HFR.out]; exact begin_mod (by simp)
      have hmi := makesI_in (m := c.m) HVI.out HNV.out
      have hq : PtIn (fr, makesI c.m V) := ⟨fr0, fr1, hmi.1, hmi.2⟩
      have hso : (slotOf c (k + 1) (fr, makesI c.m V).1).toNat = (fr / sb % (Kb : Int)).toNat := by
        unfold slotOf
        rw [HSB.out, HKb.out, Int.toNat_of_nonneg (by have := (Cfg.bd HOKc.out HLT.out).2.2.1; omega)]
      have hrep := HPUT.out w3 wx (fr, makesI c.m V) HW3.out hq hfr hf (by rw [hso]; rw [hfr, Int.sub_zero] at hb; exact hb)
      have hdc : (d'.put (k + 1) (setL c (k + 1) (fr, makesI c.m V) l2)).c = c := HZ.out.cfg
      refine ⟨hrep, hdc, HLT.out, by have := HZ.out.hi; omega, ?_, ?_, ?_⟩
      · rw [← HSB.out, ← HFR.out]; exact HGG.out.symm
      · refine ⟨setL c (k + 1) (fr, makesI c.m V) l2, (fr, makesI c.m V), ?_, ?_, ?_⟩
        · unfold RDb.put
          rw [List.getElem?_set_self (by obtain ⟨x, _⟩ := List.getElem?_eq_some_iff.1 HL2.out; exact x)]
        · unfold setL; simp
        · rw [← HSB.out]; exact HFR.out
      · refine (HZ.out.fr.trans (Fr.below (In := fun _ => False) HW3.out) (fun _ h => h.elim)).trans hf (fun x e => ?_)
        have e' : x = g2 := e
        subst e'
        exact .inl HIN2.out)
    obtain ⟨M, hM⟩ : ∃ M, M = c.m := ⟨_, rfl⟩
    rw [← hM] at hm6 HEND P1
    have zk : (k : Int) + 1 < 4 := by omega
    clear hM mm1 mm6 HGF HGG
    go_upto_region 8 with fail
    clear g2' hall hyw
    refine wp_region_held_drew (S := (fun w' => w'.cell? ⟨b, 0, none⟩ = some (i64 sb) ∧ w'.cell? ⟨b, 1, none⟩ = some (.slice (some ⟨g2, 0, none⟩) Kb Kb) ∧ w'.cell? ⟨p, 1, none⟩ = some (.iface (methT M) (.agg #[])))) (by kernel_rfl) ?_ (fun hHeld => ?_)
    · go_keep
    refine tkI (i := 0) (oi := ⟨some 64, .load 94 (.tmp 8), 94, _, #[], none⟩) ?_
    try simp only [Act.put, tkA, tkB, tkC]
    refine tkI (i := 1) (oi := ⟨some 65, .move (.tmp 9), 3, _, #[], none⟩) ?_
    try simp only [Act.put, tkA, tkB, tkC]
    refine tkI (i := 2) (oi := ⟨some 66, .move (.tmp 0), 50, _, #[], none⟩) ?_
    try simp only [Act.put, tkA, tkB, tkC]
    refine tkI (i := 3) (oi := ⟨some 67, .nilCheck (.tmp 66), 0, _, #[⟨2, .data⟩], none⟩) ?_
    try simp only [Act.put, tkA, tkB, tkC]
    refine tkI (i := 4) (oi := ⟨some 68, .fieldAddr 89 (.tmp 67) 1, 0, _, #[⟨3, .data⟩], none⟩) ?_
    try simp only [Act.put, tkA, tkB, tkC]
    refine tkI (i := 5) (oi := ⟨some 69, .load 84 (.tmp 68), 84, _, #[⟨4, .data⟩], none⟩) ?_
    try simp only [Act.put, tkA, tkB, tkC]
    refine tkI (i := 6) (oi := ⟨some 70, .move (.tmp 10), 41, _, #[], none⟩) ?_
    try simp only [Act.put, tkA, tkB, tkC]
    refine tkI (i := 8) (oi := ⟨some 72, .nilCheck (.tmp 69), 84, _, #[⟨5, .data⟩], none⟩) ?_
    try simp only [Act.put, tkA, tkB, tkC]
    refine tkI (i := 9) (oi := ⟨some 73, .move (.tmp 69), 84, _, #[⟨5, .data⟩, ⟨8, .data⟩], none⟩) ?_
    try simp only [Act.put, tkA, tkB, tkC]
    refine wpAnyH_ready (rs := [7]) (by kernel_rfl) (by simp) ?_
    refine AllReadyH.cons rfl (fun K hK => ?_) AllReadyH.nil
    go_simp
    go_wp2_with (go_at_call 104; refine (HVL.out _ HRWD.out).mono ?_; rintro e w4 ⟨v4, rfl, hb4, ho4⟩)
    refine hK.out _ _ ?_ (fun hHeld => ?_)
    · exact ⟨cell_later hb4 (by simp [*]), cell_later hb4 (by simp [*]), cell_later hb4 (by simp [*])⟩
    clear hK K
    have HB34 := hid (show Below w3.heap.size w3 w4 from ((Below.refl _ w3).drew).trans hb4)
    obtain ⟨gV, cV, rfl, hrJ, hcV⟩ : ∃ gV cV, v4 = .slice (some ⟨gV, 0, none⟩) V.length cV ∧ RowJ w4 gV V ∧ V.length ≤ cV := by
      obtain ⟨_, ⟨_, h0⟩ | ⟨g, cap, cur, hv, _, hblk, hcap, _, _, htk⟩⟩ := ho4
      · exact absurd (List.length_eq_zero_iff.1 h0) HNV.out
      · refine ⟨g, cap, hv, ⟨blk_lt hblk, fun j x hj => ?_⟩, hcap⟩
        have hjl : j < V.length := by obtain ⟨y, _⟩ := List.getElem?_eq_some_iff.1 hj; exact y
        have h1 : (cur.toList.take (V.length * 1))[j]? = some (i64 x) := by rw [htk, List.getElem?_map, hj]; rfl
        rw [List.getElem?_take_of_lt (by omega)] at h1
        rw [cell_of_blk hblk, ← Array.getElem?_toList]
        exact h1
    have HRJ := hid hrJ
    have HG4 := hid (blk_later HB34.out (blk_lt HB3.out) HB3.out)
    have hz34 := HB34.out.size
    have hbg : b ≠ g2 := fun e => by
      have h1 := HBB3.out
      rw [e, HB3.out] at h1
      simp at h1
    have hVl' : V.length ≤ 1000 := by omega
    clear hrJ ho4 hb4
    refine wpAnyH_ready (rs := [10]) (by kernel_rfl) (by simp) ?_
    refine AllReadyH.cons rfl (fun K hK => ?_) AllReadyH.nil
    rcases hm6 with rfl | rfl | rfl | rfl | rfl | rfl
    · as_aux_lemma =>
      rw [show methT 1 = 139 from rfl] at *
      have hmm := zmeth_1
      go_simp
      clear hmm
      go_wp2_with (go_at_call 141; refine (zof_1 gV cV V _ HRJ.out hVl' HVI.out HNV.out).mono ?_; rintro e w5 ⟨rfl, hb5⟩)
      refine hK.out _ _ ?_ (fun hHeld => ?_)
      · exact ⟨cell_later hb5 hHeld.1, cell_later hb5 hHeld.2.1, cell_later hb5 hHeld.2.2⟩
      clear hK K
      have HB5 := hid (HB34.out.trans (hb5.mono hz34))
      have HG5 := hid (blk_later hb5 (blk_lt HG4.out) HG4.out)
      clear hb5
      refine wpAnyH_ready (rs := [11]) (by kernel_rfl) (by simp) ?_
      refine AllReadyH.cons rfl (fun K hK => ?_) AllReadyH.nil
      go_simp
      go_wp2_with (go_at_call 90; refine (HWR.out (makesI 1 V) _ HG5.out).mono ?_; rintro e w6 ⟨rfl, hf6, hw6⟩)
      refine hK.out _ _ ?_ (fun hHeld => ?_)
      · exact ⟨hf6.cellZ (by show ¬ b = g2; exact hbg) hHeld.1, hf6.cellZ (by show ¬ b = g2; exact hbg) hHeld.2.1, hf6.cellZ (by show ¬ p = g2; exact fun e => hg2p e.symm) hHeld.2.2⟩
      clear hK K
      have HE6 := hid (HEND.out w6 ((Fr.below HB5.out).trans hf6 fun _ h => .inl h) hw6)
      clear hf6 hw6
      refine wpAnyH_done (by kernel_rfl) ?_ _
      go_wp2
      go_roundw
      case rel => first | exact ⟨k + 1, f', _, by go_num, HE6.out⟩ | ((repeat apply Exists.intro); exact ⟨⟨k + 1, f', _, by go_num, HE6.out⟩, rfl⟩)
      case measure => simp [intOf]; have := HLT.out; omega
    · as_aux_lemma =>
      rw [show methT 2 = 140 from rfl] at *
      have hmm := zmeth_2
      go_simp
      clear hmm
      go_wp2_with (go_at_call 144; refine (zof_2 gV cV V _ HRJ.out hVl' HVI.out).mono ?_; rintro e w5 ⟨rfl, hb5⟩)
      refine hK.out _ _ ?_ (fun hHeld => ?_)
      · exact ⟨cell_later hb5 hHeld.1, cell_later hb5 hHeld.2.1, cell_later hb5 hHeld.2.2⟩
      clear hK K
      have HB5 := hid (HB34.out.trans (hb5.mono hz34))
      have HG5 := hid (blk_later hb5 (blk_lt HG4.out) HG4.out)
      clear hb5
      refine wpAnyH_ready (rs := [11]) (by kernel_rfl) (by simp) ?_
      refine AllReadyH.cons rfl (fun K hK => ?_) AllReadyH.nil
      go_simp
      go_wp2_with (go_at_call 90; refine (HWR.out (makesI 2 V) _ HG5.out).mono ?_; rintro e w6 ⟨rfl, hf6, hw6⟩)
      refine hK.out _ _ ?_ (fun hHeld => ?_)
      · exact ⟨hf6.cellZ (by show ¬ b = g2; exact hbg) hHeld.1, hf6.cellZ (by show ¬ b = g2; exact hbg) hHeld.2.1, hf6.cellZ (by show ¬ p = g2; exact fun e => hg2p e.symm) hHeld.2.2⟩
      clear hK K
      have HE6 := hid (HEND.out w6 ((Fr.below HB5.out).trans hf6 fun _ h => .inl h) hw6)
      clear hf6 hw6
      refine wpAnyH_done (by kernel_rfl) ?_ _
      go_wp2
      go_roundw
      case rel => first | exact ⟨k + 1, f', _, by go_num, HE6.out⟩ | ((repeat apply Exists.intro); exact ⟨⟨k + 1, f', _, by go_num, HE6.out⟩, rfl⟩)
      case measure => simp [intOf]; have := HLT.out; omega
    · as_aux_lemma =>
      rw [show methT 3 = 141 from rfl] at *
      have hmm := zmeth_3
      go_simp
      clear hmm
      go_wp2_with (go_at_call 145; refine (zof_3 gV cV V _ HRJ.out hVl' HNV.out).mono ?_; rintro e w5 ⟨rfl, hb5⟩)
      refine hK.out _ _ ?_ (fun hHeld => ?_)
      · exact ⟨cell_later hb5 hHeld.1, cell_later hb5 hHeld.2.1, cell_later hb5 hHeld.2.2⟩
      clear hK K
      have HB5 := hid (HB34.out.trans (hb5.mono hz34))
      have HG5 := hid (blk_later hb5 (blk_lt HG4.out) HG4.out)
      clear hb5
      refine wpAnyH_ready (rs := [11]) (by kernel_rfl) (by simp) ?_
      refine AllReadyH.cons rfl (fun K hK => ?_) AllReadyH.nil
      go_simp
      go_wp2_with (go_at_call 90; refine (HWR.out (makesI 3 V) _ HG5.out).mono ?_; rintro e w6 ⟨rfl, hf6, hw6⟩)
      refine hK.out _ _ ?_ (fun hHeld => ?_)
      · exact ⟨hf6.cellZ (by show ¬ b = g2; exact hbg) hHeld.1, hf6.cellZ (by show ¬ b = g2; exact hbg) hHeld.2.1, hf6.cellZ (by show ¬ p = g2; exact fun e => hg2p e.symm) hHeld.2.2⟩
      clear hK K
      have HE6 := hid (HEND.out w6 ((Fr.below HB5.out).trans hf6 fun _ h => .inl h) hw6)
      clear hf6 hw6
      refine wpAnyH_done (by kernel_rfl) ?_ _
      go_wp2
      go_roundw
      case rel => first | exact ⟨k + 1, f', _, by go_num, HE6.out⟩ | ((repeat apply Exists.intro); exact ⟨⟨k + 1, f', _, by go_num, HE6.out⟩, rfl⟩)
      case measure => simp [intOf]; have := HLT.out; omega
    · as_aux_lemma =>
      rw [show methT 4 = 142 from rfl] at *
      have hmm := zmeth_4
      go_simp
      clear hmm
      go_wp2_with (go_at_call 146; refine (zof_4 gV cV V _ HRJ.out hVl' HVI.out HNV.out hcV).mono ?_; rintro e w5 ⟨rfl, hb5⟩)
      refine hK.out _ _ ?_ (fun hHeld => ?_)
      · exact ⟨cell_later hb5 hHeld.1, cell_later hb5 hHeld.2.1, cell_later hb5 hHeld.2.2⟩
      clear hK K
      have HB5 := hid (HB34.out.trans (hb5.mono hz34))
      have HG5 := hid (blk_later hb5 (blk_lt HG4.out) HG4.out)
      clear hb5
      refine wpAnyH_ready (rs := [11]) (by kernel_rfl) (by simp) ?_
      refine AllReadyH.cons rfl (fun K hK => ?_) AllReadyH.nil
      go_simp
      go_wp2_with (go_at_call 90; refine (HWR.out (makesI 4 V) _ HG5.out).mono ?_; rintro e w6 ⟨rfl, hf6, hw6⟩)
      refine hK.out _ _ ?_ (fun hHeld => ?_)
      · exact ⟨hf6.cellZ (by show ¬ b = g2; exact hbg) hHeld.1, hf6.cellZ (by show ¬ b = g2; exact hbg) hHeld.2.1, hf6.cellZ (by show ¬ p = g2; exact fun e => hg2p e.symm) hHeld.2.2⟩
      clear hK K
      have HE6 := hid (HEND.out w6 ((Fr.below HB5.out).trans hf6 fun _ h => .inl h) hw6)
      clear hf6 hw6
      refine wpAnyH_done (by kernel_rfl) ?_ _
      go_wp2
      go_roundw
      case rel => first | exact ⟨k + 1, f', _, by go_num, HE6.out⟩ | ((repeat apply Exists.intro); exact ⟨⟨k + 1, f', _, by go_num, HE6.out⟩, rfl⟩)
      case measure => simp [intOf]; have := HLT.out; omega
    · as_aux_lemma =>
      rw [show methT 5 = 143 from rfl] at *
      have hmm := zmeth_5
      go_simp
      clear hmm
      go_wp2_with (go_at_call 149; refine (zof_5 gV cV V _ HRJ.out hVl' HVI.out HNV.out hcV).mono ?_; rintro e w5 ⟨rfl, hb5⟩)
      refine hK.out _ _ ?_ (fun hHeld => ?_)
      · exact ⟨cell_later hb5 hHeld.1, cell_later hb5 hHeld.2.1, cell_later hb5 hHeld.2.2⟩
      clear hK K
      have HB5 := hid (HB34.out.trans (hb5.mono hz34))
      have HG5 := hid (blk_later hb5 (blk_lt HG4.out) HG4.out)
      clear hb5
      refine wpAnyH_ready (rs := [11]) (by kernel_rfl) (by simp) ?_
      refine AllReadyH.cons rfl (fun K hK => ?_) AllReadyH.nil
      go_simp
      go_wp2_with (go_at_call 90; refine (HWR.out (makesI 5 V) _ HG5.out).mono ?_; rintro e w6 ⟨rfl, hf6, hw6⟩)
      refine hK.out _ _ ?_ (fun hHeld => ?_)
      · exact ⟨hf6.cellZ (by show ¬ b = g2; exact hbg) hHeld.1, hf6.cellZ (by show ¬ b = g2; exact hbg) hHeld.2.1, hf6.cellZ (by show ¬ p = g2; exact fun e => hg2p e.symm) hHeld.2.2⟩
      clear hK K
      have HE6 := hid (HEND.out w6 ((Fr.below HB5.out).trans hf6 fun _ h => .inl h) hw6)
      clear hf6 hw6
      refine wpAnyH_done (by kernel_rfl) ?_ _
      go_wp2
      go_roundw
      case rel => first | exact ⟨k + 1, f', _, by go_num, HE6.out⟩ | ((repeat apply Exists.intro); exact ⟨⟨k + 1, f', _, by go_num, HE6.out⟩, rfl⟩)
      case measure => simp [intOf]; have := HLT.out; omega
    · as_aux_lemma =>
      rw [show methT 6 = 144 from rfl] at *
      have hmm := zmeth_6
      go_simp
      clear hmm
      go_wp2_with (go_at_call 151; refine (zof_6 gV cV V _ HRJ.out hVl' HVI.out HNV.out hcV).mono ?_; rintro e w5 ⟨rfl, hb5⟩)
      refine hK.out _ _ ?_ (fun hHeld => ?_)
      · exact ⟨cell_later hb5 hHeld.1, cell_later hb5 hHeld.2.1, cell_later hb5 hHeld.2.2⟩
      clear hK K
      have HB5 := hid (HB34.out.trans (hb5.mono hz34))
      have HG5 := hid (blk_later hb5 (blk_lt HG4.out) HG4.out)
      clear hb5
      refine wpAnyH_ready (rs := [11]) (by kernel_rfl) (by simp) ?_
      refine AllReadyH.cons rfl (fun K hK => ?_) AllReadyH.nil
      go_simp
      go_wp2_with (go_at_call 90; refine (HWR.out (makesI 6 V) _ HG5.out).mono ?_; rintro e w6 ⟨rfl, hf6, hw6⟩)
      refine hK.out _ _ ?_ (fun hHeld => ?_)
      · exact ⟨hf6.cellZ (by show ¬ b = g2; exact hbg) hHeld.1, hf6.cellZ (by show ¬ b = g2; exact hbg) hHeld.2.1, hf6.cellZ (by show ¬ p = g2; exact fun e => hg2p e.symm) hHeld.2.2⟩
      clear hK K
      have HE6 := hid (HEND.out w6 ((Fr.below HB5.out).trans hf6 fun _ h => .inl h) hw6)
      clear hf6 hw6
      refine wpAnyH_done (by kernel_rfl) ?_ _
      go_wp2
      go_roundw
      case rel => first | exact ⟨k + 1, f', _, by go_num, HE6.out⟩ | ((repeat apply Exists.intro); exact ⟨⟨k + 1, f', _, by go_num, HE6.out⟩, rfl⟩)
      case measure => simp [intOf]; have := HLT.out; omega
end Go.Proofs.YthbbfjfekchdiaaGreat
