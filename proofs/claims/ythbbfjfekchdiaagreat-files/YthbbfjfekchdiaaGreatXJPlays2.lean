import Derived.Test.YthbbfjfekchdiaaGreatXHKeepsB
import Derived.Test.YthbbfjfekchdiaaGreatXJOps
import Derived.Test.YthbbfjfekchdiaaGreatXJApart
import Derived.Deep.MidRow
namespace Go.Proofs.YthbbfjfekchdiaaGreat
open Go.RowKit
set_option linter.unusedSimpArgs false
def AllRow3 (w : World) (M g N : Nat) : Prop := ∃ cur xs, w.heap[g]? = some (.cells cur 43) ∧ cur.toList.take (N * 17) = xs ∧ OpRow3 w M N xs ∧ g < M
theorem AllRow3.below {w w' : World} {M g N : Nat} (h : AllRow3 w M g N) (hb : Below M w w') : AllRow3 w' M g N := by
  obtain ⟨cur, xs, a, b, d, e⟩ := h
  exact ⟨cur, xs, (hb.block g e).trans a, b, d.below hb, e⟩
theorem AllRow3.at {w : World} {M g N : Nat} (h : AllRow3 w M g N) (k : Nat) (hk : k < N) : ∃ l, OpIn3 w M l ∧ ∀ i, i < 17 → w.cell? ⟨g, k * 17 + i, none⟩ = l[i]? := by
  obtain ⟨cur, xs, a, b, d, _⟩ := h
  obtain ⟨l, hl, r⟩ := d.2 k hk
  refine ⟨l, hl, fun i hi => ?_⟩
  rw [cell_of_blk a, ← r i hi, ← b, List.getElem?_take_of_lt (by omega)]
  simp
theorem allrow3_of {w : World} {base N : Nat} {v : Value} {xs : List Value} (h : w.ownsRow base 43 17 v N xs) (hN : 0 < N) (hr : OpRow3 w w.heap.size N xs) : ∃ g cap, v = .slice (some ⟨g, 0, none⟩) N cap ∧ AllRow3 w w.heap.size g N := by
  obtain ⟨g, cap, cur, hv, _, hg, ht, _⟩ := owns_block h hN
  exact ⟨g, cap, hv, cur, xs, hg, ht, hr, blk_lt hg⟩
structure PI3 (R : Rep) (wA wr : World) (B k : Nat) (ds : List RDb) (bs is ps : List Value) : Prop where
  inv : ∃ tag, HInv R wr B tag ds bs is ps
  len : ds.length ≤ k
  lenb : bs.length ≤ 4 * k
  leni : is.length ≤ 4 * k
  lenp : ps.length ≤ 4 * k
  ap : Ap bs
  old : Below B wA wr
theorem pi3_start (R : Rep) (w : World) : PI3 R (w.alloc (.cells #[.slice none 0 0, .slice none 0 0, .slice none 0 0, .slice none 0 0] 35)) (w.alloc (.cells #[.slice none 0 0, .slice none 0 0, .slice none 0 0, .slice none 0 0] 35)) w.heap.size 0 [] [] [] [] where
  inv := (pi2_start R w).inv
  len := Nat.le_refl _
  lenb := Nat.le_refl _
  leni := Nat.le_refl _
  lenp := Nat.le_refl _
  ap := Ap.nil
  old := Below.refl _ _
theorem PI3.lt {R : Rep} {wA wr : World} {B k : Nat} {ds : List RDb} {bs is ps : List Value} (h : PI3 R wA wr B k ds bs is ps) : B < wr.heap.size := by
  obtain ⟨tag, hI⟩ := h.inv
  exact hI.lt
theorem pi3_skip {R : Rep} (H : ProgOk R) {wA wr : World} {B k : Nat} {ds : List RDb} {bs is ps : List Value} (h : PI3 R wA wr B k ds bs is ps) (o : Obj) : PI3 R wA (wr.alloc o) B (k + 1) ds bs is ps where
  inv := by
    obtain ⟨tag, hI⟩ := h.inv
    exact ⟨tag, hI.below H ((Below.refl _ _).alloc (Nat.le_refl _) _)⟩
  len := by have := h.len; omega
  lenb := by have := h.lenb; omega
  leni := by have := h.leni; omega
  lenp := by have := h.lenp; omega
  ap := h.ap
  old := h.old.alloc (by have := h.lt; omega) o
theorem pi3_step {R : Rep} (H : ProgOk R) {wA wr w' : World} {B k : Nat} {ds : List RDb} {bs is ps : List Value} (h : PI3 R wA wr B k ds bs is ps) {o : Obj} (hl : Left3 R (wr.alloc o) w' B ds bs is ps) : ∃ ds' bs' is' ps', PI3 R wA w' B (k + 1) ds' bs' is' ps' := by
  obtain ⟨⟨tag', ds', bs', is', ps', hI, h1, h2, h3, h4, h5⟩, hB⟩ := hl
  have s := pi3_skip H h o
  exact ⟨ds', bs', is', ps', ⟨tag', hI⟩, by have := h.len; omega, by have := h.lenb; omega, by have := h.leni; omega, by have := h.lenp; omega, h5 h.ap, s.old.trans hB⟩
theorem pi3_later {R : Rep} (H : ProgOk R) {wA wr w' : World} {B k : Nat} {ds : List RDb} {bs is ps : List Value} (h : PI3 R wA wr B k ds bs is ps) (hb : Below wr.heap.size wr w') : PI3 R wA w' B k ds bs is ps where
  inv := by
    obtain ⟨tag, hI⟩ := h.inv
    exact ⟨tag, hI.below H hb⟩
  len := h.len
  lenb := h.lenb
  leni := h.leni
  lenp := h.lenp
  ap := h.ap
  old := h.old.trans (hb.mono (by have := h.lt; omega))
theorem wpList_append_script3 (wF : World) {ops : Array Oper} {rest : List Oper} {o : Oper} {a : Act} {Q : Exit → Act → World → Prop} (hgd : o.guard = none) (s x : Operand)
    (ho : o.op = .call { callee := .builtin .append, args := #[s, x], argTypes := #[22, 22] }) (i : TypeInfo) {z : Value} (hi : Tryz.prog.info? 43 = some i) (hz : i.zero = some z)
    (hs1 : i.size = 17) (hb1 : i.bytes = 160) (w : World) (gF : Nat) (xs : List Value) (hs : a.eval s = .slice (some ⟨gF, 0, none⟩) 8 8) (hbF : Below w.heap.size w wF)
    (hown : wF.ownsRow w.heap.size 43 17 (.slice (some ⟨gF, 0, none⟩) 8 8) 8 xs) (hrow : OpRow3 wF gF 8 xs) (ad : Addr) (m sc N : Nat) (hN : N = 8 + m) (news : List Value) (hx : a.eval x = .slice (some ad) m sc)
    (hr : OpRow3 w w.heap.size m news) (hnews : ∀ j u, news[j]? = some u → w.cell? (ad.add j) = some u) (hsz : m * 160 ≤ 140737488351232) (hzc : z.cells.size = 17)
    (h : ∀ g cap wA, (Below w.heap.size w wA ∧ AllRow3 wA wA.heap.size g N) → wpList Tryz.prog ops Q rest (a.put o.dst (.slice (some ⟨g, 0, none⟩) N cap)) wA) : wpList Tryz.prog ops Q (o :: rest) a wF := by
  subst hN
  have hzF := hbF.size
  refine wpList_append_own wF hgd s x _ ho w.heap.size 43 i z 17 160 Tryz.underlying22 hi hz hs1 hb1 hzc (by decide) _ 8 xs hs hown ad m sc news hx hr.1 (fun j u hj => cell_later hbF (hnews j u hj)) hr.one (by unfold maxLen; omega) (by omega) hbF.size ?_
  intro v' wA hown' hgrow _
  have hbA : Below w.heap.size w wA := Below.grown hbF hgrow hbF.size fun k hk => (hown.lt k hk).1
  have hgF := hown.lt gF rfl
  have hbg : Below gF wF wA := ⟨hgrow.os, hgrow.tape, hgrow.output, hgrow.size, fun k hk => hgrow.block k (by omega) (by simp [Value.ownBlock]; omega)⟩
  have r8 : OpRow3 wA wA.heap.size 8 xs := (hrow.below hbg).mono (by have := hgrow.size; omega)
  obtain ⟨g, cap, hv, hall⟩ := allrow3_of hown' (by omega) (r8.append ((hr.below (hbA)).mono hbA.size))
  rw [hv]
  exact h g cap wA ⟨hbA, hall⟩
set_option maxRecDepth 100000 in
set_option maxHeartbeats 4000000 in
theorem plays3_nil {R : Rep} (H2 : ProgOk2 R) (HTY : ProgTy R) (p : Nat) (pl : List Int) (w : World) (hc : ∀ (i : Nat) (x : Int), pl[i]? = some x → w.cell? ⟨p, i, none⟩ = some (i64 x)) (hpl100 : pl.length ≤ 100) (hpk : ∀ k ∈ pl, 1 ≤ k ∧ k ≤ 10) :
    Calls Tryz.prog 8 #[.slice none 0 0, .slice (some ⟨p, 0, none⟩) pl.length pl.length] w fun e w' => e = .returned (.bool true) ∧ Below w.heap.size w w' := by
  have H := H2.base
  obtain ⟨i0, hi, hz0, hz1, hz2⟩ := info_parts Tryz.infoOps
  have HI0 := hid (And.intro hi (And.intro hz0 (And.intro hz1 hz2)))
  have HPL := hid hc
  have HPK := hid hpk
  clear hi hz0 hz1 hz2 hc hpk
  go_enter Tryz.func8, Tryz.ntmps8
  go_wp2_with fail
  refine (first3_any _).mono ?_
  rintro e wA ⟨g, xs, rfl, hbA, hown, hrow⟩
  have HA := hid hbA
  have HR := hid (show AllRow3 wA wA.heap.size g 8 by
    have hgl := hown.lt g rfl
    obtain ⟨g', cap', hv, a⟩ := allrow3_of hown (by decide) (hrow.mono (by omega))
    cases hv
    exact a)
  have hzA := hbA.size
  clear hbA hown hrow
  go_wp2_with (at_builtin; refine wpList_append_nil2 _ rfl (.tmp 13) (.tmp 14) 22 rfl 43 i0 Tryz.underlying22 HI0.out.1 _ 8 8 rfl rfl (Nat.le_refl _) ?_)
  go_loopw [7] (fun i wr => ∃ (k : Nat) (ds : List RDb) (bs is ps : List Value), k ≤ 8 ∧ i = i64 k ∧ PI3 R (wA.alloc (.cells #[.slice none 0 0, .slice none 0 0, .slice none 0 0, .slice none 0 0] 35)) wr wA.heap.size k ds bs is ps) (fun i _ => 8 - (intOf i).toNat)
  case atStart => exact ⟨0, [], [], [], [], by omega, rfl, pi3_start R wA⟩
  case round =>
    obtain ⟨k, ds, bs, is, ps, hk, rfl, I⟩ := hrel
    have HI := hid I
    have hz : wA.heap.size < wr.heap.size := I.lt
    clear I
    have HBA := hid (show Below wA.heap.size wA wr from ((Below.refl wA.heap.size wA).alloc (Nat.le_refl _) _).trans HI.out.old)
    by_cases hlt : k < 8
    case neg =>
      obtain ⟨tag, hI⟩ := HI.out.inv
      have HII := hid hI
      have HAPP := hid HI.out.ap
      have hlb : bs.length ≤ 1000000000000000 := by have := HI.out.lenb; omega
      clear hI
      go_wp2_with (go_at_call 13; refine (apart_any wA.heap.size _ tag ds bs is ps HII.out HAPP.out hlb).mono ?_; rintro e w' ⟨rfl, hbw⟩)
      have HBW := hid hbw
      clear hbw
      go_wp2
      go_ret
      exact ⟨rfl, HA.out.trans ((HBA.out.trans HBW.out).mono hzA)⟩
    have hkb : k < 1000000000000 := by omega
    generalize hM : (144115188075855872 : Int) = M
    have hbig : (k : Int) < M := by omega
    clear hM
    obtain ⟨l, hl, hq⟩ := (HR.out.below HBA.out).at k hlt
    obtain ⟨kd, oa, ob, od, oe, c, la, ln, lc, ss, hLO, rfl⟩ := hl
    have HLO := hid hLO
    have HG := hid (show wr.rangeAt g (k * 17) [i64 kd, i64 oa, i64 ob, i64 od, i64 oe, i64 c.s0, i64 c.k0, i64 c.s1, i64 c.k1, i64 c.s2, i64 c.k2, i64 c.s3, i64 c.k3, i64 c.m, i64 c.f, .slice la ln lc, .string ss] from fun j v hv => by
      have hj : j < 17 := by
        have := List.getElem?_eq_some_iff.1 hv
        obtain ⟨h, _⟩ := this
        simpa using h
      exact (hq j hj).trans hv)
    have HPC := hid (fun (o : Obj) (i : Nat) (x : Int) (hx : pl[i]? = some x) => cell_later ((Below.refl _ wr).alloc (Nat.le_refl _) o) (play_cell2 HA.out HI.out.old (HPL.out i x hx)))
    clear hq hLO
    go_wp2_with (refine wpList_load_mid (by rfl) 43 (.tmp 30) (by rfl) g (k * 17) (by rfl) _ _ HG.out Tryz.underlying43 (by rfl) (by kernel_rfl) ?_)
    refine (among2_any p pl _ _ (HPC.out _) hpl100).mono ?_
    rintro e w' ⟨rfl, rfl⟩
    by_cases hin : kd ∈ pl
    case neg =>
      have hd : decide (kd ∈ pl) = false := decide_eq_false hin
      clear hin
      rw [hd]
      clear hd
      go_wp2
      go_roundw
      case rel => first | exact ⟨k + 1, ds, bs, is, ps, by omega, by go_num, pi3_skip H HI.out _⟩ | ((repeat apply Exists.intro); exact ⟨⟨k + 1, ds, bs, is, ps, by omega, by go_num, pi3_skip H HI.out _⟩, rfl⟩)
      case measure => simp [intOf]; omega
    have hd : decide (kd ∈ pl) = true := decide_eq_true hin
    have HK := hid (HPK.out kd hin)
    clear hin
    rw [hd]
    clear hd
    go_wp2_with fail
    obtain ⟨tag, hI⟩ := HI.out.inv
    refine (step3_any H2 HTY kd oa ob od oe c la ln lc ss wA.heap.size _ tag ds bs is ps HK.out.1 HK.out.2 (hI.below H ((Below.refl _ wr).alloc (Nat.le_refl _) _)) (by have := HI.out.len; omega) (by have := HI.out.lenb; omega) (by have := HI.out.leni; omega) (by have := HI.out.lenp; omega) (HLO.out.below (((Below.refl _ wr).alloc (Nat.le_refl _) _).mono (by omega)))).mono ?_
    rintro e w1 ⟨rfl, hl1⟩
    obtain ⟨ds', bs', is', ps', hP⟩ := pi3_step H HI.out hl1
    have HS := hid hP
    have hz1 : wA.heap.size < w1.heap.size := hP.lt
    obtain ⟨tag1, hI1⟩ := hP.inv
    have HI1 := hid hI1
    obtain ⟨v, prs, bv, iv, pv, hB, _, _, _, k1, k2, k3⟩ := hI1.mem
    have HBB := hid hB
    have HB1 := hid k1.book
    have HB2 := hid k2.book
    have HB3 := hid k3.book
    clear hl1 hP hI hI1 hB k1 k2 k3
    go_wp2_with fail
    refine (looks_any wA.heap.size v bv iv pv bs' is' ps' _ HBB.out HB1.out HB2.out HB3.out (by have := HS.out.lenb; omega) (by have := HS.out.leni; omega) (by have := HS.out.lenp; omega)).mono ?_
    rintro e w2 ⟨rfl, hb2⟩
    have HS2 := hid (pi3_later H HS.out hb2)
    clear hb2
    go_wp2
    go_roundw
    case rel => first | exact ⟨k + 1, ds', bs', is', ps', by omega, by go_num, HS2.out⟩ | ((repeat apply Exists.intro); exact ⟨⟨k + 1, ds', bs', is', ps', by omega, by go_num, HS2.out⟩, rfl⟩)
    case measure => simp [intOf]; omega
end Go.Proofs.YthbbfjfekchdiaaGreat
namespace Go.Proofs.YthbbfjfekchdiaaGreat
open Go.RowKit
set_option linter.unusedSimpArgs false
set_option maxRecDepth 100000 in
set_option maxHeartbeats 4000000 in
theorem plays3_some {R : Rep} (H2 : ProgOk2 R) (HTY : ProgTy R) (p : Nat) (pl : List Int) (ad : Addr) (m sc : Nat) (news : List Value) (w : World) (hsz : m * 160 ≤ 140737488351232) (hrow0 : OpRow3 w w.heap.size m news) (hnews : ∀ j u, news[j]? = some u → w.cell? (ad.add j) = some u) (hc : ∀ (i : Nat) (x : Int), pl[i]? = some x → w.cell? ⟨p, i, none⟩ = some (i64 x)) (hpl100 : pl.length ≤ 100) (hpk : ∀ k ∈ pl, 1 ≤ k ∧ k ≤ 10) :
    Calls Tryz.prog 8 #[.slice (some ad) m sc, .slice (some ⟨p, 0, none⟩) pl.length pl.length] w fun e w' => e = .returned (.bool true) ∧ Below w.heap.size w w' := by
  have H := H2.base
  obtain ⟨i0, hi, hz0, hz1, hz2⟩ := info_parts Tryz.infoOps
  have HI0 := hid (And.intro hi (And.intro hz0 (And.intro hz1 hz2)))
  have HPL := hid hc
  have HPK := hid hpk
  have HN0 := hid hrow0
  have HN1 := hid hnews
  clear hi hz0 hz1 hz2 hc hpk hrow0 hnews
  go_enter Tryz.func8, Tryz.ntmps8
  go_wp2_with fail
  refine (first3_any _).mono ?_
  rintro e wF ⟨gF, xs, rfl, hbF, hown, hrow⟩
  have HF := hid hbF
  have HO := hid hown
  have HX := hid hrow
  obtain ⟨N, hN⟩ : ∃ N, N = 8 + m := ⟨_, rfl⟩
  have hN8 : N ≤ 900000000000 := by omega
  have HNN := hid hN
  clear hbF hown hrow hN
  go_wp2_with (at_builtin; refine wpList_append_script3 wF (by rfl) (.tmp 13) (.tmp 14) (by rfl) i0 HI0.out.1 HI0.out.2.1 HI0.out.2.2.1 HI0.out.2.2.2 w gF xs (by rfl) HF.out HO.out HX.out ad m sc N HNN.out news (by rfl) HN0.out HN1.out hsz (by rfl) ?_)
  intro g cap wA hbA hall
  have HA := hid hbA
  have HR := hid hall
  have hzA := hbA.size
  clear hbA hall hsz
  go_wp2_with fail
  go_loopw [7] (fun i wr => ∃ (k : Nat) (ds : List RDb) (bs is ps : List Value), k ≤ N ∧ i = i64 k ∧ PI3 R (wA.alloc (.cells #[.slice none 0 0, .slice none 0 0, .slice none 0 0, .slice none 0 0] 35)) wr wA.heap.size k ds bs is ps) (fun i _ => N - (intOf i).toNat)
  case atStart => exact ⟨0, [], [], [], [], by omega, rfl, pi3_start R wA⟩
  case round =>
    obtain ⟨k, ds, bs, is, ps, hk, rfl, I⟩ := hrel
    have HI := hid I
    have hz : wA.heap.size < wr.heap.size := I.lt
    clear I
    have HBA := hid (show Below wA.heap.size wA wr from ((Below.refl wA.heap.size wA).alloc (Nat.le_refl _) _).trans HI.out.old)
    by_cases hlt : k < N
    case neg =>
      obtain ⟨tag, hI⟩ := HI.out.inv
      have HII := hid hI
      have HAPP := hid HI.out.ap
      have hlb : bs.length ≤ 1000000000000000 := by have := HI.out.lenb; omega
      clear hI
      go_wp2_with (go_at_call 13; refine (apart_any wA.heap.size _ tag ds bs is ps HII.out HAPP.out hlb).mono ?_; rintro e w' ⟨rfl, hbw⟩)
      have HBW := hid hbw
      clear hbw
      go_wp2
      go_ret
      exact ⟨rfl, HA.out.trans ((HBA.out.trans HBW.out).mono hzA)⟩
    have hkb : k < 1000000000000 := by omega
    generalize hM : (144115188075855872 : Int) = M
    have hbig : (k : Int) < M := by omega
    clear hM
    obtain ⟨l, hl, hq⟩ := (HR.out.below HBA.out).at k hlt
    obtain ⟨kd, oa, ob, od, oe, c, la, ln, lc, ss, hLO, rfl⟩ := hl
    have HLO := hid hLO
    have HG := hid (show wr.rangeAt g (k * 17) [i64 kd, i64 oa, i64 ob, i64 od, i64 oe, i64 c.s0, i64 c.k0, i64 c.s1, i64 c.k1, i64 c.s2, i64 c.k2, i64 c.s3, i64 c.k3, i64 c.m, i64 c.f, .slice la ln lc, .string ss] from fun j v hv => by
      have hj : j < 17 := by
        have := List.getElem?_eq_some_iff.1 hv
        obtain ⟨h, _⟩ := this
        simpa using h
      exact (hq j hj).trans hv)
    have HPC := hid (fun (o : Obj) (i : Nat) (x : Int) (hx : pl[i]? = some x) => cell_later ((Below.refl _ wr).alloc (Nat.le_refl _) o) (play_cell2 HA.out HI.out.old (HPL.out i x hx)))
    clear hq hLO
    go_wp2_with (refine wpList_load_mid (by rfl) 43 (.tmp 30) (by rfl) g (k * 17) (by rfl) _ _ HG.out Tryz.underlying43 (by rfl) (by kernel_rfl) ?_)
    refine (among2_any p pl _ _ (HPC.out _) hpl100).mono ?_
    rintro e w' ⟨rfl, rfl⟩
    by_cases hin : kd ∈ pl
    case neg =>
      have hd : decide (kd ∈ pl) = false := decide_eq_false hin
      clear hin
      rw [hd]
      clear hd
      go_wp2
      go_roundw
      case rel => first | exact ⟨k + 1, ds, bs, is, ps, by omega, by go_num, pi3_skip H HI.out _⟩ | ((repeat apply Exists.intro); exact ⟨⟨k + 1, ds, bs, is, ps, by omega, by go_num, pi3_skip H HI.out _⟩, rfl⟩)
      case measure => simp [intOf]; omega
    have hd : decide (kd ∈ pl) = true := decide_eq_true hin
    have HK := hid (HPK.out kd hin)
    clear hin
    rw [hd]
    clear hd
    go_wp2_with fail
    obtain ⟨tag, hI⟩ := HI.out.inv
    refine (step3_any H2 HTY kd oa ob od oe c la ln lc ss wA.heap.size _ tag ds bs is ps HK.out.1 HK.out.2 (hI.below H ((Below.refl _ wr).alloc (Nat.le_refl _) _)) (by have := HI.out.len; omega) (by have := HI.out.lenb; omega) (by have := HI.out.leni; omega) (by have := HI.out.lenp; omega) (HLO.out.below (((Below.refl _ wr).alloc (Nat.le_refl _) _).mono (by omega)))).mono ?_
    rintro e w1 ⟨rfl, hl1⟩
    obtain ⟨ds', bs', is', ps', hP⟩ := pi3_step H HI.out hl1
    have HS := hid hP
    have hz1 : wA.heap.size < w1.heap.size := hP.lt
    obtain ⟨tag1, hI1⟩ := hP.inv
    have HI1 := hid hI1
    obtain ⟨v, prs, bv, iv, pv, hB, _, _, _, k1, k2, k3⟩ := hI1.mem
    have HBB := hid hB
    have HB1 := hid k1.book
    have HB2 := hid k2.book
    have HB3 := hid k3.book
    clear hl1 hP hI hI1 hB k1 k2 k3
    go_wp2_with fail
    refine (looks_any wA.heap.size v bv iv pv bs' is' ps' _ HBB.out HB1.out HB2.out HB3.out (by have := HS.out.lenb; omega) (by have := HS.out.leni; omega) (by have := HS.out.lenp; omega)).mono ?_
    rintro e w2 ⟨rfl, hb2⟩
    have HS2 := hid (pi3_later H HS.out hb2)
    clear hb2
    go_wp2
    go_roundw
    case rel => first | exact ⟨k + 1, ds', bs', is', ps', by omega, by go_num, HS2.out⟩ | ((repeat apply Exists.intro); exact ⟨⟨k + 1, ds', bs', is', ps', by omega, by go_num, HS2.out⟩, rfl⟩)
    case measure => simp [intOf]; omega
end Go.Proofs.YthbbfjfekchdiaaGreat
