import Derived.Test.YthbbfjfekchdiaaGreatXRSets
namespace Go.Proofs.YthbbfjfekchdiaaGreat
open Go.RowKit
set_option linter.unusedSimpArgs false

theorem Tryz.infoInt : (Tryz.prog.info? 3).map (fun i => (i.zero, i.size, i.bytes)) = some (some (.int .i64 0), 1, 8) := by kernel_rfl

/-- the loop of 'goes': what stands at a round's head -/
structure GI (w wr : World) (sa ka sb kb : Int) (v' : Value) (o : List Int) : Prop where
  old : Below w.heap.size w wr
  ab : wr.heap[w.heap.size]? = some (.cells #[i64 sa, i64 ka] 37)
  bb : wr.heap[w.heap.size + 1]? = some (.cells #[i64 sb, i64 kb] 37)
  own : wr.ownsRow (w.heap.size + 2) 3 1 v' o.length (o.map i64)
theorem gi_start (w : World) (sa ka sb kb : Int) : GI w ((w.alloc (.cells #[i64 sa, i64 ka] 37)).alloc (.cells #[i64 sb, i64 kb] 37)) sa ka sb kb (.slice none 0 0) [] where
  old := ((Below.refl _ w).alloc (Nat.le_refl _) _).alloc (by simp) _
  ab := blk_alloc (blk_new w _)
  bb := by
    have h := blk_new (w.alloc (.cells #[i64 sa, i64 ka] 37)) (.cells #[i64 sb, i64 kb] 37)
    have e : (w.alloc (.cells #[i64 sa, i64 ka] 37)).heap.size = w.heap.size + 1 := by simp
    rw [e] at h; exact h
  own := World.ownsRow_nil _ _ _ _
theorem gi_later {w wr wx : World} {sa ka sb kb : Int} {v' : Value} {o : List Int} (h : GI w wr sa ka sb kb v' o) (hb : Below wr.heap.size wr wx) : GI w wx sa ka sb kb v' o :=
  ⟨h.old.trans (hb.mono h.old.size), blk_later hb (blk_lt h.ab) h.ab, blk_later hb (blk_lt h.bb) h.bb, owns_below h.own hb⟩
theorem gi_app {w wr w3 : World} {sa ka sb kb : Int} {v' : Value} {o : List Int} {q : Int} {O : Obj} {g cap : Nat} (h : GI w wr sa ka sb kb v' o)
    (hown : w3.ownsRow (w.heap.size + 2) 3 1 (.slice (some ⟨g, 0, none⟩) (o.length + 1) cap) (o.length + 1) (o.map i64 ++ [i64 q])) (hgrow : (wr.alloc O).grownBy w3 v'.ownBlock) :
    GI w w3 sa ka sb kb (.slice (some ⟨g, 0, none⟩) (o.length + 1) cap) (o ++ [q]) := by
  have hz := blk_lt h.bb
  have far : ∀ j, j < w.heap.size + 2 → w3.heap[j]? = wr.heap[j]? := by
    intro j hj
    rw [hgrow.block j (by simp; omega) (owns_not h.own hj), Below.heap_alloc wr O j (by omega)]
  refine ⟨?_, (far _ (by omega)).trans h.ab, (far _ (by omega)).trans h.bb, ?_⟩
  · refine Below.grown (h.old.alloc (by omega) O) hgrow (by simp; omega) fun k hk => ?_
    have := (h.own.lt k hk).1
    omega
  · rw [List.map_append, List.length_append]
    exact hown

theorem goesF_last {f : Nat} {d : RDb} {i : Nat} {t : Int} (h : d.c.many ≤ i + 1) : goesF f d i t = d := by
  cases f with
  | zero => rfl
  | succ f => rw [goesF, if_pos h]

set_option maxHeartbeats 1000000 in
theorem goes_last (f p i : Nat) (t : Int) (d : RDb) (In : Nat → Prop) (w : World) (hrep : RRep w In p d) (hd : d.Ok) (hi : i < d.c.many) (hl : d.c.many ≤ i + 1) :
    Calls Tryz.prog 93 #[.pointer (some ⟨p, 0, none⟩), i64 i, i64 t] w fun e w' => e = .returned (.tuple #[]) ∧ RRep w' (Up In w.heap.size) p (goesF f d i t) ∧ (goesF f d i t).Ok ∧ (goesF f d i t).c = d.c ∧ Fr In w w' := by
  have h4 := d.c.many_le
  have HF := hid (show RRep w (Up In w.heap.size) p (goesF f d i t) ∧ (goesF f d i t).Ok ∧ (goesF f d i t).c = d.c ∧ Fr In w w by
    rw [goesF_last hl]; exact ⟨hrep.weak fun k hk => .inl hk, hd, rfl, Fr.refl _ _⟩)
  obtain ⟨ip, gl, vs, hp, _⟩ := hrep
  have x10 : w.cell? ⟨p, 10, none⟩ = some (.slice (some ⟨gl, 0, none⟩) d.c.many d.c.many) := cell_of_blk hp 10
  have hpz : p < w.heap.size := blk_lt hp
  clear hp ip hd
  go_enter Tryz.func93, Tryz.ntmps93
  go_wp2
  exact bodyPost_ret (v := .tuple #[]) (by simp [results, Tryz.results93, go_sem]) rfl ⟨rfl, HF.out⟩

/-- the numbers of two archives, one behind the other -/
theorem step_nums {c : Cfg} (h : c.Ok) {i : Nat} (hi : i + 1 < c.many) : ∃ n : Nat, 1 ≤ n ∧ n ≤ 60 ∧ (n : Int) * c.s i = c.s (i + 1) ∧ (c.s (i + 1) / c.s i).toNat = n := by
  have hb := (bdB_all (c.ok_iff.1 h).2.2.2.2.1) i (by omega)
  have hb1 := (bdB_all (c.ok_iff.1 h).2.2.2.2.1) (i + 1) (by omega)
  have hf := h.2.2 i (by have := c.many_le; omega) hi
  obtain ⟨f1, f2, _, f4⟩ := hf
  have hs : 0 < c.s i := by have := hb.1; omega
  have e : c.s (i + 1) / c.s i * c.s i = c.s (i + 1) := Int.ediv_mul_cancel (Int.dvd_of_emod_eq_zero f2)
  have q0 : 0 ≤ c.s (i + 1) / c.s i := Int.ediv_nonneg (by have := hb1.1; omega) (by omega)
  have q1 : 1 ≤ c.s (i + 1) / c.s i := by
    rcases Int.lt_or_eq_of_le q0 with h | h
    · omega
    · rw [← h] at e; have := hb1.1; omega
  refine ⟨(c.s (i + 1) / c.s i).toNat, by omega, by have := hb.2.2.2; omega, ?_, rfl⟩
  rw [Int.toNat_of_nonneg q0]
  exact e
end Go.Proofs.YthbbfjfekchdiaaGreat
namespace Go.Proofs.YthbbfjfekchdiaaGreat
open Go.RowKit
set_option linter.unusedSimpArgs false

def GoesSaid (f : Nat) : Prop := ∀ (p i : Nat) (t : Int) (d : RDb) (In : Nat → Prop) (w : World), RRep w In p d → d.Ok → i < d.c.many → d.c.many ≤ i + f → 0 ≤ t → t ≤ 2147483647 →
    Calls Tryz.prog 93 #[.pointer (some ⟨p, 0, none⟩), i64 i, i64 t] w fun e w' => e = .returned (.tuple #[]) ∧ RRep w' (Up In w.heap.size) p (goesF f d i t) ∧ (goesF f d i t).Ok ∧ (goesF f d i t).c = d.c ∧ Fr In w w'

set_option maxHeartbeats 4000000 in
theorem goes_step (f : Nat) (IH : GoesSaid f) (p i : Nat) (t : Int) (d : RDb) (In : Nat → Prop) (w : World) (hrep : RRep w In p d) (hd : d.Ok) (hi : i + 1 < d.c.many) (hf : d.c.many ≤ i + (f + 1)) (ht0 : 0 ≤ t) (ht1 : t ≤ 2147483647) :
    Calls Tryz.prog 93 #[.pointer (some ⟨p, 0, none⟩), i64 i, i64 t] w fun e w' => e = .returned (.tuple #[]) ∧ RRep w' (Up In w.heap.size) p (goesF (f + 1) d i t) ∧ (goesF (f + 1) d i t).Ok ∧ (goesF (f + 1) d i t).c = d.c ∧ Fr In w w' := by
  have h4 := d.c.many_le
  have HD := hid hd
  have HREP := hid hrep
  obtain ⟨n, hn1, hn60, hns, hnq⟩ := step_nums hd.cfg hi
  obtain ⟨l, hl⟩ : ∃ l, d.L[i]? = some l := ⟨_, List.getElem?_eq_getElem (by rw [hd.len]; omega)⟩
  obtain ⟨l2, hl2⟩ : ∃ l2, d.L[i + 1]? = some l2 := ⟨_, List.getElem?_eq_getElem (by rw [hd.len]; omega)⟩
  have hba := (bdB_all (d.c.ok_iff.1 hd.cfg).2.2.2.2.1) i (by omega)
  have hbb := (bdB_all (d.c.ok_iff.1 hd.cfg).2.2.2.2.1) (i + 1) (by omega)
  have hmf := hd.cfg.1
  have HPT := hid (hd.pts i l hl)
  have hlen : l.length ≤ 60 := (hd.pts i l hl).2
  obtain ⟨ip, gl, vs, hp, hg, hs, ig, hr⟩ := hrep
  obtain ⟨vi, hvi, hown0, _⟩ := hr i l hl
  obtain ⟨y0, y1⟩ := cfg_cell hp i (by omega)
  obtain ⟨y2, y3⟩ := cfg_cell hp (i + 1) (by omega)
  have x8 : w.cell? ⟨p, 8, none⟩ = some (i64 d.c.m) := cell_of_blk hp 8
  have x9 : w.cell? ⟨p, 9, none⟩ = some (i64 d.c.f) := cell_of_blk hp 9
  have x10 : w.cell? ⟨p, 10, none⟩ = some (.slice (some ⟨gl, 0, none⟩) d.c.many d.c.many) := cell_of_blk hp 10
  have xi : w.cell? ⟨gl, i, none⟩ = some vi := (cell_of_blk hg i).trans hvi
  have HROW := hid (rowAt_of hown0)
  have hpz : p < w.heap.size := blk_lt hp
  have hgz : gl < w.heap.size := blk_lt hg
  obtain ⟨q0, hi0, hz0, hz1, hz2⟩ := info_parts Tryz.infoInt
  have HI0 := hid (And.intro hi0 (And.intro hz0 (And.intro hz1 hz2)))
  obtain ⟨j, hj⟩ : ∃ j, j = i + 1 := ⟨_, rfl⟩
  rw [← hj] at y2 y3 hns hnq hbb hl2 hi
  obtain ⟨sa, hsa⟩ : ∃ s, s = d.c.s i := ⟨_, rfl⟩
  obtain ⟨ka, hka⟩ : ∃ k, k = d.c.k i := ⟨_, rfl⟩
  obtain ⟨sb, hsb⟩ : ∃ s, s = d.c.s j := ⟨_, rfl⟩
  obtain ⟨kb, hkb⟩ : ∃ k, k = d.c.k j := ⟨_, rfl⟩
  have ba : 1 ≤ sa ∧ sa ≤ 86400 := by rw [hsa]; exact ⟨hba.1, hba.2.1⟩
  have bb : 1 ≤ sb ∧ sb ≤ 86400 := by rw [hsb]; exact ⟨hbb.1, hbb.2.1⟩
  rw [← hsa] at y0 hns
  rw [← hka] at y1
  rw [← hsb] at y2 hns
  rw [← hkb] at y3
  obtain ⟨fr, hfr⟩ : ∃ fr, fr = t - t % sb := ⟨_, rfl⟩
  have r0 : 0 ≤ t % sb := Int.emod_nonneg _ (by omega)
  have r1 : t % sb ≤ t := by
    have e1 := Int.mul_ediv_add_emod t sb
    have e2 : 0 ≤ sb * (t / sb) := Int.mul_nonneg (by omega) (Int.ediv_nonneg ht0 (by omega))
    omega
  have HM := hid (show t.tmod sb = t % sb from IntWalk.rem_in _ _ ht0)
  have HGF := hid (show goesF (f + 1) d i t = (if (valsTo d.c i l fr n).length = 0 ∨ 100 * ((valsTo d.c i l fr n).length : Int) < d.c.f * n then d else goesF f (d.put j (setL d.c j (fr, makesI d.c.m (valsTo d.c i l fr n)) l2)) j fr) by
    rw [← hsb] at hnq
    rw [goesF, if_neg (by omega)]
    simp only [← hj, ← hsb, ← hfr, hnq, hl, hl2, Option.getD_some])
  have HJ := hid hj
  have HFU := hid hf
  have HL2 := hid hl2
  have HSA := hid hsa
  have HNS := hid hns
  have hmf' : 1 ≤ d.c.m ∧ d.c.m ≤ 6 ∧ 0 ≤ d.c.f ∧ d.c.f ≤ 100 := ⟨hmf.1, hmf.2.1, hmf.2.2.1, hmf.2.2.2.1⟩
  obtain ⟨mm1, mm6, ff0, ff1⟩ := hmf'
  have hji : (i : Int) + 1 = (j : Int) := by omega
  have hjm : (j : Int) < (d.c.many : Int) := by omega
  have hj4 : (j : Int) < 4 := by omega
  have hj0 : (0 : Int) ≤ (j : Int) := by omega
  have hi4 : (i : Int) < 4 := by omega
  have hi0' : (0 : Int) ≤ (i : Int) := by omega
  have him : (i : Int) < (d.c.many : Int) := by omega
  have hfr0 : 0 ≤ fr := by omega
  have hfr1 : fr ≤ 2147483647 := by omega
  have HFR := hid hfr
  have hfrr : t - t % sb = fr := hfr.symm
  have hmj : decide (d.c.many ≤ j) = false := decide_eq_false (by omega)
  obtain ⟨ba1, ba2⟩ := ba
  obtain ⟨bb1, bb2⟩ := bb
  clear hp hg hs ip ig hr hvi hown0 hba hbb hd hi0 hz0 hz1 hz2 hsa hka hsb hkb hns hnq hl hl2 hmf hj hfr hi hf
  go_enter Tryz.func93, Tryz.ntmps93
  go_wp2
  go_loopw [9, 10, 11] (fun v' n' t' wr => ∃ (k : Nat) (x : Int), k ≤ n ∧ n' = i64 k ∧ t' = i64 (fr + x) ∧ Hid (x = (k : Int) * sa) ∧ GI w wr sa ka sb kb v' (valsTo d.c i l fr k)) (fun _ n' _ _ => n - (intOf n').toNat)
  case atStart => exact ⟨0, 0, by omega, rfl, by simp, (by simp : (0 : Int) = ((0 : Nat) : Int) * sa), gi_start w sa ka sb kb⟩
  case round =>
    clear y0 y1 y2 y3
    obtain ⟨k, x, hk, rfl, rfl, HX, I⟩ := hrel
    have HI := hid I
    have z10 : wr.cell? ⟨p, 10, none⟩ = some (.slice (some ⟨gl, 0, none⟩) d.c.many d.c.many) := cell_later I.old x10
    have zi : wr.cell? ⟨gl, i, none⟩ = some vi := cell_later I.old xi
    have za : wr.cell? ⟨w.heap.size, 0, none⟩ = some (i64 sa) := cell_of_blk I.ab 0
    have zb : wr.cell? ⟨w.heap.size + 1, 0, none⟩ = some (i64 sb) := cell_of_blk I.bb 0
    have hzr : w.heap.size + 1 < wr.heap.size := blk_lt I.bb
    have hzr0 : w.heap.size < wr.heap.size := by omega
    clear I
    by_cases hlt : k < n
    case neg =>
      have ekn : k = n := by omega
      subst ekn
      have hxs : x = sb := by rw [HX.out]; exact HNS.out
      subst hxs
      obtain ⟨vl, hvl⟩ : ∃ vl, vl = valsTo d.c i l fr k := ⟨_, rfl⟩
      rw [← hvl] at HI HGF
      have hvlen : vl.length ≤ k := by rw [hvl]; exact valsTo_len d.c i l fr k
      have HVI := hid (show ∀ v ∈ vl, VIn v by rw [hvl]; exact valsTo_in HPT.out.1)
      obtain ⟨a9, c9, rfl⟩ : ∃ a c, u9 = .slice a vl.length c := by
        obtain ⟨_, ⟨h, h0⟩ | ⟨g, cap, cur, h, _⟩⟩ := HI.out.own
        · exact ⟨none, 0, by rw [h, h0]⟩
        · exact ⟨_, _, h⟩
      obtain ⟨y, hy⟩ : ∃ y, y = d.c.f * (k : Int) := ⟨_, rfl⟩
      have hy0 : 0 ≤ y := by rw [hy]; exact Int.mul_nonneg ff0 (by omega)
      have hy1 : y ≤ 6000 := by
        rw [hy]
        have := Int.mul_le_mul ff1 (show (k : Int) ≤ 60 by omega) (by omega) (by omega)
        omega
      rw [← hy] at HGF
      have HY := hid (show d.c.f * (k : Int) = y from hy.symm)
      have z8 : wr.cell? ⟨p, 8, none⟩ = some (i64 d.c.m) := cell_later HI.out.old x8
      have z9 : wr.cell? ⟨p, 9, none⟩ = some (i64 d.c.f) := cell_later HI.out.old x9
      have hzp : p < wr.heap.size := by omega
      have HBK := hid (show goesF (f + 1) d i t = d → RRep wr (Up In w.heap.size) p (goesF (f + 1) d i t) ∧ (goesF (f + 1) d i t).Ok ∧ (goesF (f + 1) d i t).c = d.c ∧ Fr In w wr from fun e => by
        rw [e]; exact ⟨(HREP.out.later HI.out.old).weak fun q hq => .inl hq, HD.out, rfl, Fr.below HI.out.old⟩)
      clear hvl hy zi za
      by_cases g1 : vl.length = 0
      · have g1' : ((vl.length : Int) == 0) = true := by rw [beq_iff_eq]; omega
        have HF := hid (HBK.out (by rw [HGF.out, if_pos (.inl g1)]))
        clear g1
        go_wp2
        exact bodyPost_ret (v := .tuple #[]) (by simp [results, Tryz.results93, go_sem]) rfl ⟨rfl, HF.out⟩
      have g1' : ((vl.length : Int) == 0) = false := beq_eq_false_iff_ne.2 (by omega)
      have hyw : IntKind.i64.wrap (d.c.f * (k : Int)) = y := by rw [HY.out]; exact IntWalk.i64_in _ (by omega)
      by_cases g2 : 100 * (vl.length : Int) < y
      · have HF := hid (HBK.out (by rw [HGF.out, if_pos (.inr g2)]))
        go_wp2
        exact bodyPost_ret (v := .tuple #[]) (by simp [results, Tryz.results93, go_sem]) rfl ⟨rfl, HF.out⟩
      have HNE := hid (show vl ≠ [] from fun e => g1 (by rw [e]; rfl))
      obtain ⟨g, cap, cur, hv9, hgb, hgk, htk, _⟩ := owns_block HI.out.own (by omega)
      have hcap : a9 = some ⟨g, 0, none⟩ ∧ c9 = cap := by
        simp only [Value.slice.injEq] at hv9
        exact ⟨hv9.1, hv9.2.2⟩
      obtain ⟨rfl, rfl⟩ := hcap
      have HCEL := hid (show ∀ (q : Nat) (v : Int), vl[q]? = some v → wr.cell? ⟨g, q, none⟩ = some (i64 v) from fun q v hq => by
        have hlt2 : q < vl.length := by
          obtain ⟨x, _⟩ := List.getElem?_eq_some_iff.1 hq
          exact x
        have e1 : (vl.map i64)[q]? = some (i64 v) := by rw [List.getElem?_map, hq]; rfl
        rw [cell_of_blk hgk, ← e1, ← htk, List.getElem?_take_of_lt (by omega)]
        simp)
      have HGO := hid (show goesF (f + 1) d i t = goesF f (d.put j (setL d.c j (fr, makesI d.c.m vl) l2)) j fr by
        rw [HGF.out, if_neg (by rintro (h | h); exact g1 h; exact g2 h)])
      have hmvin := makesI_in (m := d.c.m) HVI.out HNE.out
      have HMV := hid hmvin
      clear hmvin hv9 hgb hgk htk
      go_wp2_with fail
      refine (makes_ref d.c.m g vl.length c9 vl _ mm1 mm6 rfl (by omega) (by omega) HVI.out HCEL.out).mono ?_
      rintro e w4 ⟨rfl, hw4⟩
      subst hw4
      obtain ⟨mv, hmv⟩ : ∃ mv, mv = makesI d.c.m vl := ⟨_, rfl⟩
      rw [← hmv] at HMV HGO
      rw [← hmv]
      clear hmv
      go_wp2_with fail
      refine (sets_ref p j fr mv d l2 In _ (HREP.out.later HI.out.old) HD.out HL2.out hfr0 hfr1).mono ?_
      rintro e w5 ⟨rfl, hrep5, hfr5⟩
      have hok5 := put_ok HD.out HL2.out (p := (fr, mv)) ⟨hfr0, hfr1, HMV.out.1, HMV.out.2⟩
      have H5 := hid (And.intro hrep5 (And.intro hfr5 hok5))
      clear hrep5 hfr5 hok5
      go_wp2_with fail
      refine (IH p j fr _ _ _ H5.out.1 H5.out.2.2 ?_ ?_ hfr0 hfr1).mono ?_
      · show j < d.c.many
        omega
      · show d.c.many ≤ j + f
        have h1 := HJ.out
        have h2 := HFU.out
        omega
      rintro e w6 ⟨rfl, hrep6, hok6, hc6, hfr6⟩
      have HF := hid (show RRep w6 (Up In w.heap.size) p (goesF (f + 1) d i t) ∧ (goesF (f + 1) d i t).Ok ∧ (goesF (f + 1) d i t).c = d.c ∧ Fr In w w6 by
        rw [HGO.out]
        have hz5 := H5.out.2.1.size
        refine ⟨hrep6.weak ?_, hok6, hc6, ((Fr.below HI.out.old).trans H5.out.2.1 (fun x hx => .inl hx)).trans hfr6 ?_⟩
        · rintro x ((hx | hx) | hx)
          · exact .inl hx
          · exact .inr (by omega)
          · exact .inr (by omega)
        · rintro x (hx | hx)
          · exact .inl hx
          · exact .inr (by omega))
      clear hrep6 hok6 hc6 hfr6
      go_wp2
      go_end0
      exact ⟨rfl, HF.out⟩
    have hx0 : 0 ≤ x := by rw [HX.out]; exact Int.mul_nonneg (by omega) (by omega)
    have HX1 := hid (show x + sa = ((k + 1 : Nat) : Int) * sa by rw [HX.out, Int.natCast_add, Int.add_mul]; omega)
    have hx1 : x + sa ≤ sb := by
      rw [HX1.out, ← HNS.out]
      exact Int.mul_le_mul_of_nonneg_right (by omega) (by omega)
    have HV := hid (valsTo_succ d.c i l fr k)
    have HTX := hid (show fr + (k : Int) * d.c.s i = fr + x by rw [HX.out, HSA.out])
    have hvl : (valsTo d.c i l fr k).length ≤ 60 := Nat.le_trans (valsTo_len d.c i l fr k) (by omega)
    go_wp2_with fail
    refine (has_ref p gl i d.c.many (fr + x) l vi _ z10 (by omega) zi (HROW.out.later HI.out.old) (by omega)).mono ?_
    rintro e w1 ⟨rfl, hb1⟩
    have HI1 := hid (gi_later HI.out hb1)
    have ua : w1.cell? ⟨w.heap.size, 0, none⟩ = some (i64 sa) := cell_of_blk HI1.out.ab 0
    have hz1 : w.heap.size + 1 < w1.heap.size := blk_lt HI1.out.bb
    have hz10 : w.heap.size < w1.heap.size := by omega
    clear hb1
    cases hh : hasL (fr + x) l with
    | none =>
      have HG := hid (fun (o : Obj) => gi_later (show GI w w1 sa ka sb kb u9 (valsTo d.c i l fr (k + 1)) by rw [HV.out, HTX.out, hh]; simpa using HI1.out) ((Below.refl _ w1).alloc (Nat.le_refl _) o))
      have hp0 : hasP (fr + x) l = (0, 0) := by unfold hasP; rw [hh]; rfl
      rw [hp0]
      clear hp0 hh
      go_wp2
      go_roundw
      case rel => first | exact ⟨k + 1, x + sa, by omega, by go_num, by go_num, HX1.out, HG.out _⟩ | ((repeat apply Exists.intro); exact ⟨⟨k + 1, x + sa, by omega, by go_num, by go_num, HX1.out, HG.out _⟩, rfl⟩)
      case measure => simp [intOf]; omega
    | some q =>
      have hp0 : hasP (fr + x) l = q := by unfold hasP; rw [hh]; rfl
      have HV2 := hid (show valsTo d.c i l fr (k + 1) = valsTo d.c i l fr k ++ [q.2] by rw [HV.out, HTX.out, hh]; rfl)
      rw [hp0]
      clear hp0 hh
      go_wp2_with (at_builtin; refine wpList_append_lies _ rfl (.tmp 65) (.tmp 68) 24 rfl (w.heap.size + 2) 3 q0 _ 1 8 Tryz.underlying24 HI0.out.1 HI0.out.2.1 HI0.out.2.2.1 HI0.out.2.2.2 rfl (by decide) u9 _ _ rfl ((HI1.out.own.alloc _).alloc _) ⟨w1.heap.size + 1, 0, none⟩ 1 1 [i64 q.2] rfl rfl ?hn (by simp [Value.oneCell']) (by decide) ?_ ?_ ?_ (w1.heap.size + 1 + 1) (by simp) ?_)
      case hn =>
        have e : (w1.alloc (.cells #[i64 q.1, i64 q.2] 48)).heap.size = w1.heap.size + 1 := by simp
        have h := heap_alloc_new (w1.alloc (.cells #[i64 q.1, i64 q.2] 48)) (.cells #[i64 q.2] 3)
        rw [e] at h
        exact World.news_of_block h
      · unfold maxLen; omega
      · omega
      · simp; omega
      intro g cap w3 hown3 hgrow hat hlt3
      have HG := hid (show GI w w3 sa ka sb kb (.slice (some ⟨g, 0, none⟩) ((valsTo d.c i l fr k).length + 1) cap) (valsTo d.c i l fr (k + 1)) by rw [HV2.out]; exact gi_app (gi_later HI1.out ((Below.refl _ w1).alloc (Nat.le_refl _) _)) hown3 hgrow)
      have u3 : w3.cell? ⟨w.heap.size, 0, none⟩ = some (i64 sa) := cell_of_blk HG.out.ab 0
      have hz3 : w.heap.size < w3.heap.size := blk_lt HG.out.ab
      clear hown3 hgrow hat hlt3
      go_wp2
      go_roundw
      case rel => first | exact ⟨k + 1, x + sa, by omega, by go_num, by go_num, HX1.out, HG.out⟩ | ((repeat apply Exists.intro); exact ⟨⟨k + 1, x + sa, by omega, by go_num, by go_num, HX1.out, HG.out⟩, rfl⟩)
      case measure => simp [intOf]; omega

theorem goes_all : ∀ f, GoesSaid f
  | 0 => fun p i t d In w _ _ h1 h2 _ _ => absurd h1 (by omega)
  | f + 1 => fun p i t d In w hrep hd hi hf ht0 ht1 => by
    by_cases hl : d.c.many ≤ i + 1
    · exact goes_last (f + 1) p i t d In w hrep hd hi hl
    · exact goes_step f (goes_all f) p i t d In w hrep hd (by omega) (by omega) ht0 ht1
end Go.Proofs.YthbbfjfekchdiaaGreat
namespace Go.Proofs.YthbbfjfekchdiaaGreat
open Go.RowKit
set_option linter.unusedSimpArgs false

/-- a point is written -/
def writesR (d : RDb) (now : Int) (q : Pt) : RDb :=
  match firstO d.c now q.1 with
  | none => d
  | some i => goesF d.c.many (d.put i (setL d.c i (q.1 - q.1 % d.c.s i, q.2) ((d.L[i]?).getD []))) i (q.1 - q.1 % d.c.s i)

theorem firstO_lt {c : Cfg} {now t : Int} {i : Nat} (h : firstO c now t = some i) : i < c.many ∧ covB c i now t = true := by
  have key : ∀ (n j : Nat), firstFrom c now t j n = some i → i < j + n ∧ covB c i now t = true := by
    intro n
    induction n with
    | zero => intro j h; simp [firstFrom] at h
    | succ n ih =>
      intro j h
      rw [firstFrom] at h
      split at h
      · simp at h; subst h; exact ⟨by omega, by assumption⟩
      · have := ih (j + 1) h; exact ⟨by omega, this.2⟩
  have := key c.many 0 h
  exact ⟨by omega, this.2⟩

theorem RRep.arc {w : World} {In : Nat → Prop} {p : Nat} {d : RDb} (h : RRep w In p d) (hd : d.Ok) : RArc w p d.c := by
  obtain ⟨gl, vs, hp, _⟩ := h.mem
  exact ⟨hd.cfg, gl, hp⟩

set_option maxHeartbeats 1000000 in
theorem writes_none (p : Nat) (now : Int) (q : Pt) (d : RDb) (In : Nat → Prop) (w : World) (hrep : RRep w In p d) (hd : d.Ok) (hq : PtIn q) (n0 : 0 ≤ now) (n1 : now ≤ 2147483647) (hf : firstO d.c now q.1 = none) :
    Calls Tryz.prog 69 #[.pointer (some ⟨p, 0, none⟩), i64 now, .agg #[i64 q.1, i64 q.2]] w fun e w' => e = .returned (.tuple #[]) ∧ RRep w' (Up In w.heap.size) p (writesR d now q) ∧ (writesR d now q).Ok ∧ (writesR d now q).c = d.c ∧ Fr In w w' := by
  have HFI := hid (show firstI d.c now q.1 = -1 by unfold firstI; rw [hf])
  have HW := hid (show writesR d now q = d by unfold writesR; rw [hf])
  have HREP := hid hrep
  have HD := hid hd
  obtain ⟨q0, q1, _, _⟩ := hq
  have hal := fun (o : Obj) => (Below.refl w.heap.size w).alloc (Nat.le_refl _) o
  have HAL := hid hal
  clear hrep hd hf hal
  go_enter Tryz.func69, Tryz.ntmps69
  go_wp2_with fail
  refine (first_ref p d.c now q.1 _ ((HREP.out.later (HAL.out _)).arc HD.out) n0 n1 q0 q1).mono ?_
  rintro e w1 ⟨rfl, hb1⟩
  rw [HFI.out]
  have HF := hid (show RRep w1 (Up In w.heap.size) p (writesR d now q) ∧ (writesR d now q).Ok ∧ (writesR d now q).c = d.c ∧ Fr In w w1 by
    rw [HW.out]
    have hb := (HAL.out _).trans (hb1.mono (HAL.out _).size)
    exact ⟨(HREP.out.later hb).weak fun k hk => .inl hk, HD.out, rfl, Fr.below hb⟩)
  clear hb1
  go_wp2
  exact bodyPost_ret (v := .tuple #[]) (by simp [results, Tryz.results69, go_sem]) rfl ⟨rfl, HF.out⟩

set_option maxHeartbeats 2000000 in
theorem writes_some (p i : Nat) (now : Int) (q : Pt) (d : RDb) (In : Nat → Prop) (w : World) (hrep : RRep w In p d) (hd : d.Ok) (hq : PtIn q) (n0 : 0 ≤ now) (n1 : now ≤ 2147483647) (hf : firstO d.c now q.1 = some i) :
    Calls Tryz.prog 69 #[.pointer (some ⟨p, 0, none⟩), i64 now, .agg #[i64 q.1, i64 q.2]] w fun e w' => e = .returned (.tuple #[]) ∧ RRep w' (Up In w.heap.size) p (writesR d now q) ∧ (writesR d now q).Ok ∧ (writesR d now q).c = d.c ∧ Fr In w w' := by
  have h4 := d.c.many_le
  obtain ⟨hin, _⟩ := firstO_lt hf
  obtain ⟨l, hl⟩ : ∃ l, d.L[i]? = some l := ⟨_, List.getElem?_eq_getElem (by rw [hd.len]; omega)⟩
  have hbd := (bdB_all (d.c.ok_iff.1 hd.cfg).2.2.2.2.1) i hin
  have HFI := hid (show firstI d.c now q.1 = i by unfold firstI; rw [hf])
  obtain ⟨s, hs⟩ : ∃ s, s = d.c.s i := ⟨_, rfl⟩
  have b1 : 1 ≤ s := by rw [hs]; exact hbd.1
  have b2 : s ≤ 86400 := by rw [hs]; exact hbd.2.1
  obtain ⟨q0, q1, q2, q3⟩ := hq
  obtain ⟨t, ht⟩ : ∃ t, t = q.1 - q.1 % s := ⟨_, rfl⟩
  have r0 : 0 ≤ q.1 % s := Int.emod_nonneg _ (by omega)
  have r1 : q.1 % s ≤ q.1 := by
    have e1 := Int.mul_ediv_add_emod q.1 s
    have e2 : 0 ≤ s * (q.1 / s) := Int.mul_nonneg (by omega) (Int.ediv_nonneg q0 (by omega))
    omega
  have ht0 : 0 ≤ t := by omega
  have ht1 : t ≤ 2147483647 := by omega
  have HW := hid (show writesR d now q = goesF d.c.many (d.put i (setL d.c i (t, q.2) l)) i t by unfold writesR; rw [hf]; simp only [← hs, ← ht, hl, Option.getD_some])
  have HREP := hid hrep
  have HD := hid hd
  have HL := hid hl
  have HAL := hid (fun (o : Obj) => (Below.refl w.heap.size w).alloc (Nat.le_refl _) o)
  have HS := hid hs
  have htt : q.1 - q.1 % s = t := ht.symm
  have i0 : (0 : Int) ≤ (i : Int) := by omega
  have i4 : (i : Int) < 4 := by omega
  have nz : ¬ s = 0 := by omega
  have mm : q.1.tmod s = q.1 % s := IntWalk.rem_in _ _ q0
  clear hrep hd hf hl hbd hs ht
  go_enter Tryz.func69, Tryz.ntmps69
  go_wp2_with fail
  refine (first_ref p d.c now q.1 _ ((HREP.out.later (HAL.out _)).arc HD.out) n0 n1 q0 q1).mono ?_
  rintro e w1 ⟨rfl, hb1⟩
  rw [HFI.out]
  have HB := hid (show Below w.heap.size w w1 from (HAL.out _).trans (hb1.mono (HAL.out _).size))
  have c0 : w1.cell? ⟨w.heap.size, 0, none⟩ = some (i64 q.1) := cell_later hb1 (by simp)
  have c1 : w1.cell? ⟨w.heap.size, 1, none⟩ = some (i64 q.2) := cell_later hb1 (by simp)
  have hz1 : w.heap.size < w1.heap.size := by have := hb1.size; simp at this; omega
  obtain ⟨gl, vs, hp, _⟩ := (HREP.out.later HB.out).mem
  obtain ⟨y0, _⟩ := cfg_cell hp i (by omega)
  rw [← HS.out] at y0
  have hpz : p < w1.heap.size := blk_lt hp
  clear hb1 hp
  go_wp2_with fail
  go_quiet (fail)
  go_wp2_with fail
  refine (sets_ref p i t q.2 d l In _ ?_ HD.out HL.out ht0 ht1).mono ?_
  · exact (HREP.out.later HB.out).later (below_drewN (Below.refl _ _) _)
  rintro e w2 ⟨rfl, hrep2, hfr2⟩
  have hok2 := put_ok HD.out HL.out (p := (t, q.2)) ⟨ht0, ht1, q2, q3⟩
  have hz2 : w1.heap.size ≤ w2.heap.size := hfr2.size
  have H2 := hid (show RRep w2 (Up In w1.heap.size) p (d.put i (setL d.c i (t, q.2) l)) ∧ Fr In w1 w2 ∧ (d.put i (setL d.c i (t, q.2) l)).Ok from ⟨hrep2, ⟨hfr2.os, hfr2.tape, hfr2.output, hfr2.size, hfr2.block⟩, hok2⟩)
  clear hrep2 hfr2 hok2
  go_wp2_with fail
  refine (goes_all d.c.many p i t _ _ _ H2.out.1 H2.out.2.2 hin (by show d.c.many ≤ i + d.c.many; omega) ht0 ht1).mono ?_
  rintro e w3 ⟨rfl, hrep3, hok3, hc3, hfr3⟩
  have HF := hid (show RRep w3 (Up In w.heap.size) p (writesR d now q) ∧ (writesR d now q).Ok ∧ (writesR d now q).c = d.c ∧ Fr In w w3 by
    rw [HW.out]
    refine ⟨hrep3.weak ?_, hok3, hc3, ((Fr.below HB.out).trans H2.out.2.1 (fun x hx => .inl hx)).trans hfr3 ?_⟩
    · rintro x ((hx | hx) | hx)
      · exact .inl hx
      · exact .inr (by omega)
      · exact .inr (by omega)
    · rintro x (hx | hx)
      · exact .inl hx
      · exact .inr (by omega))
  clear hrep3 hok3 hc3 hfr3
  go_wp2
  go_end0
  exact ⟨rfl, HF.out⟩

/-- the document's write of one point -/
theorem writes_ref (p : Nat) (now : Int) (q : Pt) (d : RDb) (In : Nat → Prop) (w : World) (hrep : RRep w In p d) (hd : d.Ok) (hq : PtIn q) (n0 : 0 ≤ now) (n1 : now ≤ 2147483647) :
    Calls Tryz.prog 69 #[.pointer (some ⟨p, 0, none⟩), i64 now, .agg #[i64 q.1, i64 q.2]] w fun e w' => e = .returned (.tuple #[]) ∧ RRep w' (Up In w.heap.size) p (writesR d now q) ∧ (writesR d now q).Ok ∧ (writesR d now q).c = d.c ∧ Fr In w w' := by
  cases hf : firstO d.c now q.1 with
  | none => exact writes_none p now q d In w hrep hd hq n0 n1 hf
  | some i => exact writes_some p i now q d In w hrep hd hq n0 n1 hf
end Go.Proofs.YthbbfjfekchdiaaGreat
