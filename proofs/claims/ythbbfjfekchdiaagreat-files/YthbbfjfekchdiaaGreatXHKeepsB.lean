import Derived.Test.YthbbfjfekchdiaaGreatXHAmong
import Derived.Test.YthbbfjfekchdiaaGreatXHLooks
import Derived.Deep.MidRow
import Derived.Deep.DeepCutAuto
namespace Go.Proofs.YthbbfjfekchdiaaGreat
open Go.RowKit
set_option linter.unusedSimpArgs false
def AllRow2 (w : World) (M g N : Nat) : Prop := ∃ cur xs, w.heap[g]? = some (.cells cur 43) ∧ cur.toList.take (N * 17) = xs ∧ OpRow2 w M N xs ∧ g < M
theorem AllRow2.below {w w' : World} {M g N : Nat} (h : AllRow2 w M g N) (hb : Below M w w') : AllRow2 w' M g N := by
  obtain ⟨cur, xs, a, b, d, e⟩ := h
  exact ⟨cur, xs, (hb.block g e).trans a, b, d.below hb, e⟩
theorem AllRow2.at {w : World} {M g N : Nat} (h : AllRow2 w M g N) (k : Nat) (hk : k < N) : ∃ l, OpIn w M l ∧ ∀ i, i < 17 → w.cell? ⟨g, k * 17 + i, none⟩ = l[i]? := by
  obtain ⟨cur, xs, a, b, d, _⟩ := h
  obtain ⟨l, hl, r⟩ := d.2 k hk
  refine ⟨l, hl, fun i hi => ?_⟩
  rw [cell_of_blk a, ← r i hi, ← b, List.getElem?_take_of_lt (by omega)]
  simp
structure PI2 (R : Rep) (wA wr : World) (B k : Nat) (ds : List RDb) (ps : List Value) : Prop where
  inv : ∃ tag, HInv R wr B tag ds [] [] ps
  len : ds.length ≤ k
  lenp : ps.length ≤ 4 * k
  old : Below B wA wr
theorem pi2_start (R : Rep) (w : World) : PI2 R (w.alloc (.cells #[.slice none 0 0, .slice none 0 0, .slice none 0 0, .slice none 0 0] 35)) (w.alloc (.cells #[.slice none 0 0, .slice none 0 0, .slice none 0 0, .slice none 0 0] 35)) w.heap.size 0 [] [] where
  inv := ⟨fun k => if k = w.heap.size then .world else .arg, ⟨⟨_, [], _, _, _, blk_new w _, World.ownsRow_nil _ _ _ _, fun k hk => by simp [Value.ownBlock] at hk, fun j d hd => by simp at hd, Bk.nil _ _ _ _ _ _ _, Bk.nil _ _ _ _ _ _ _, Bk.nil _ _ _ _ _ _ _⟩, if_pos rfl, fun k hk => if_neg (by omega)⟩⟩
  len := Nat.le_refl _
  lenp := Nat.le_refl _
  old := Below.refl _ _
theorem PI2.lt {R : Rep} {wA wr : World} {B k : Nat} {ds : List RDb} {ps : List Value} (h : PI2 R wA wr B k ds ps) : B < wr.heap.size := by
  obtain ⟨tag, hI⟩ := h.inv
  exact hI.lt
theorem play_cell2 {w wA wr : World} {p o : Nat} {v : Value} {O : Obj} (hA : Below w.heap.size w wA) (hr : Below wA.heap.size (wA.alloc O) wr) (h : w.cell? ⟨p, o, none⟩ = some v) : wr.cell? ⟨p, o, none⟩ = some v := by
  have hp : p < w.heap.size := World.block_lt_of_cell? _ _ h
  have := hA.size
  rw [hr.cell (p := ⟨p, o, none⟩) (by show p < wA.heap.size; omega)]
  exact cell_later ((Below.refl wA.heap.size wA).alloc (Nat.le_refl _) O) (cell_later hA h)
end Go.Proofs.YthbbfjfekchdiaaGreat
namespace Go.Proofs.YthbbfjfekchdiaaGreat
open Go.RowKit
set_option linter.unusedSimpArgs false
theorem markTo_one (a : Value) (xs : List Value) {i n : Nat} (h : xs.length = n * 1) (hi : i < n) : (markTo [a] xs i).set i a = markTo [a] xs (i + 1) := by
  unfold markTo
  have hl : (marks [a] i).length = i * 1 := marks_length _ _
  obtain ⟨x, rest, hd⟩ : ∃ x rest, xs.drop (i * 1) = x :: rest := by
    have : 1 ≤ (xs.drop (i * 1)).length := by rw [List.length_drop]; omega
    match h : xs.drop (i * 1) with
    | [] => rw [h] at this; simp at this
    | x :: rest => exact ⟨x, rest, rfl⟩
  have hd2 : xs.drop ((i + 1) * 1) = rest := by
    rw [show (i + 1) * 1 = i * 1 + 1 by omega, ← List.drop_drop, hd]; rfl
  show (marks [a] i ++ xs.drop (i * 1)).set i a = marks [a] (i + 1) ++ xs.drop ((i + 1) * 1)
  rw [hd, hd2, List.set_append_right _ _ (by omega), hl, show i - i * 1 = 0 by omega, marks_add, marks_one, List.append_assoc]
  rfl
structure KJ (F : Value → Array Value) (te tr B base : Nat) (w wr : World) (vl pv0 pv : Value) (es : List Value) (rows : List (Value × Nat)) (mc : List Value) : Prop where
  blk : wr.heap[B]? = some (.cells (F pv) 35)
  own : wr.ownsRow (B + 1) tr 1 pv es.length es
  rows : ∀ r ∈ rows, wr.ownsRow base te 1 r.1 r.2 (marks mc r.2)
  fr : Fr (fun k => k = B ∨ pv0.ownBlock = some k ∨ vl.ownBlock = some k) w wr
  pvb : ∀ k, pv.ownBlock = some k → pv0.ownBlock = some k ∨ w.heap.size ≤ k
  vlb : ∀ k, vl.ownBlock = some k → k < w.heap.size
  pvl : vl.ownBlock = none ∨ vl.ownBlock ≠ pv.ownBlock
theorem KJ.alloc {F : Value → Array Value} {te tr B base : Nat} {w wr : World} {vl pv0 pv : Value} {es : List Value} {rows : List (Value × Nat)} {mc : List Value} (h : KJ F te tr B base w wr vl pv0 pv es rows mc) (O : Obj) : KJ F te tr B base w (wr.alloc O) vl pv0 pv es rows mc :=
  ⟨blk_alloc h.blk, h.own.alloc O, fun r hr => (h.rows r hr).alloc O, h.fr.alloc O, h.pvb, h.vlb, h.pvl⟩
theorem KJ.mark {F : Value → Array Value} {te tr B base : Nat} {w wr w' : World} {vl pv0 pv : Value} {es : List Value} {rows : List (Value × Nat)} {mc : List Value} (h : KJ F te tr B base w wr vl pv0 pv es rows mc) (hne : te ≠ tr) (hnw : te ≠ 35) {v' : Value} {n' : Nat}
    (hn : ∀ r ∈ rows, r.2 ≤ n') (ho : w'.ownsRow base te 1 v' n' (marks mc n')) (hg : wr.grownBy w' vl.ownBlock) (hm : ∀ b u k, k ≤ n' → wr.ownsRow b te 1 u k (marks mc k) → w'.ownsRow b te 1 u k (marks mc k)) {kl : Nat} {xl : List Value} (hvl : wr.ownsRow base te 1 vl kl xl) :
    KJ F te tr B base w w' vl pv0 pv es (rows ++ [(v', n')]) mc := by
  refine ⟨?_, ?_, ?_, ?_, h.pvb, h.vlb, h.pvl⟩
  · exact (hg.block B (blk_lt h.blk) (fun e => owns_blk hvl h.blk hnw e.symm)).trans h.blk
  · exact h.own.kept hg (owns_type h.own hvl (fun e => hne e.symm))
  · intro r hr
    rw [List.mem_append] at hr
    rcases hr with hr | hr
    · exact hm _ _ _ (hn r hr) (h.rows r hr)
    · simp at hr; subst hr; exact ho
  · exact h.fr.grown' hg fun k hk => .inl (.inr (.inr hk))
theorem KJ.book {F : Value → Array Value} {te tr B base ci : Nat} {w wr w' : World} {vl pv0 pv : Value} {es : List Value} {rows : List (Value × Nat)} {mc : List Value} (h : KJ F te tr B base w wr vl pv0 pv es rows mc) (hne : te ≠ tr) (hnw : te ≠ 35) (hF : ∀ u v, (F u).setIfInBounds ci v = F v) {O : Obj} {g cap : Nat} {u : Value}
    (ho : w'.ownsRow (B + 1) tr 1 (.slice (some ⟨g, 0, none⟩) (es.length + 1) cap) (es.length + 1) (es ++ [u])) (hg : (wr.alloc O).grownBy w' pv.ownBlock) (hat : pv.ownBlock = some g ∨ g = wr.heap.size + 1) :
    KJ F te tr B base w (w'.setCell ⟨B, ci, none⟩ (.slice (some ⟨g, 0, none⟩) (es.length + 1) cap)) vl pv0 (.slice (some ⟨g, 0, none⟩) (es.length + 1) cap) (es ++ [u]) rows mc := by
  have ha := h.alloc O
  have hz : w.heap.size ≤ wr.heap.size := h.fr.size
  have hb' : w'.heap[B]? = some (.cells (F pv) 35) := (hg.block B (blk_lt ha.blk) (owns_not h.own (by omega))).trans ha.blk
  refine ⟨?_, ?_, ?_, ?_, ?_, h.vlb, ?_⟩
  · have := blk_setCell hb' ci (.slice (some ⟨g, 0, none⟩) (es.length + 1) cap)
    rw [hF] at this
    exact this
  · rw [List.length_append]
    exact ownsRow_setCell_below ho (by simp) _
  · intro r hr
    have h1 := (ha.rows r hr).kept hg (owns_type (ha.rows r hr) ha.own hne)
    exact owns_set_far h1 (owns_blk h1 hb' hnw) _ _
  · refine Fr.set (h.fr.alloc O |>.grown' hg fun k hk => ?_) (.inl (.inl rfl)) ci _
    rcases h.pvb k hk with x | x
    · exact .inl (.inr (.inl x))
    · exact .inr x
  · intro k hk
    simp only [Value.ownBlock, Option.some.injEq] at hk
    subst hk
    rcases hat with x | x
    · exact h.pvb _ x
    · exact .inr (by omega)
  · rcases hat with x | x
    · rcases h.pvl with y | y
      · exact .inl y
      · exact .inr (by rw [x] at y; exact y)
    · refine .inr fun e => ?_
      have := h.vlb g (by rw [e]; rfl)
      omega
theorem Tryz.infoBRow : (Tryz.prog.info? 57).map (fun i => (i.zero, i.size, i.bytes)) = some (some (.slice none 0 0), 1, 24) := by kernel_rfl
theorem Tryz.infoBOne : (Tryz.prog.info? 5).map (fun i => (i.zero, i.size, i.bytes)) = some (some (.int .u8 0), 1, 1) := by kernel_rfl
theorem Tryz.infoIRow : (Tryz.prog.info? 24).map (fun i => (i.zero, i.size, i.bytes)) = some (some (.slice none 0 0), 1, 24) := by kernel_rfl
theorem Tryz.infoIOne : (Tryz.prog.info? 3).map (fun i => (i.zero, i.size, i.bytes)) = some (some (.int .i64 0), 1, 8) := by kernel_rfl
theorem mkB_one (n : Nat) : ∀ u ∈ mkB n, u.oneCell' = true := by intro u hu; simp [mkB] at hu; subst hu; rfl
set_option maxRecDepth 4000 in
set_option maxHeartbeats 4000000 in
theorem keepsBytes_any (B base : Nat) (c0 c1 c2 pv vl : Value) (es xs : List Value) (n : Nat) (w : World) (hB : w.heap[B]? = some (.cells #[c0, pv, c1, c2] 35)) (hpv : w.ownsRow (B + 1) 57 1 pv es.length es)
    (hvl : w.ownsRow base 5 1 vl n xs) (hn : n ≤ 1000000) (hes : (es.length + 4) * 24 ≤ 140737488355328) (hbase : base ≤ w.heap.size) :
    Calls Tryz.prog 33 #[.pointer (some ⟨B, 1, none⟩), vl] w fun e w' => e = .returned (.tuple #[]) ∧ ∃ pv' v1 v2 v3, KJ (fun x => #[c0, x, c1, c2]) 5 57 B base w w' vl pv pv' ((((es ++ [vl]) ++ [v1]) ++ [v2]) ++ [v3]) [(vl, n), (v1, n + 1), (v2, n + 2), (v3, n + 3)] (mkB es.length) := by
  have HB := hid hB
  have HPV := hid hpv
  have HVL := hid hvl
  obtain ⟨ap, cp, rfl⟩ := slice_form hpv
  obtain ⟨al, cl, rfl⟩ := slice_form hvl
  have b3 : w.cell? ⟨B, 1, none⟩ = some (.slice ap es.length cp) := cell_of_blk hB 1
  have hBz : B < w.heap.size := blk_lt hB
  clear hB hpv hvl
  obtain ⟨mv, hmv⟩ : ∃ x : Int, x = 200 + (es.length : Int) / 4 % 50 := ⟨_, rfl⟩
  have HMK := hid (show mkB es.length = [.int .u8 mv] by rw [hmv]; rfl)
  have HMV := hid hmv
  clear hmv
  go_enter Tryz.func33, Tryz.ntmps33
  go_wp2_with fail
  refine (mark_any es.length w (by omega)).mono ?_
  rintro e w1 ⟨rfl, hw1⟩
  have hw1 := hw1.symm
  subst hw1
  rw [← HMV.out]
  go_wp2
  go_loopw [5] (fun i' wr => ∃ i : Nat, i ≤ n ∧ i' = i64 i ∧ wr.ownsRow base 5 1 (.slice al n cl) n (markTo (mkB es.length) xs i) ∧ Fr (fun k => (Value.slice al n cl).ownBlock = some k) w wr) (fun i' _ => n - (intOf i').toNat)
  case atStart => exact ⟨0, by omega, rfl, by rw [markTo_zero]; exact HVL.out, Fr.refl _ _⟩
  case round =>
    obtain ⟨i, hi, rfl, ho, hf⟩ := hrel
    have HO := hid ho
    have HF := hid hf
    clear ho hf
    by_cases hlt : i < n
    · obtain ⟨g, c', cur, hv, hgb, hblk, hc, hm', hs, ht⟩ : ∃ g cap cur, Value.slice al n cl = .slice (some ⟨g, 0, none⟩) n cap ∧ base ≤ g ∧ wr.heap[g]? = some (.cells cur 5) ∧ n ≤ cap ∧ cap ≤ maxLen ∧ cur.size = cap * 1 ∧ cur.toList.take (n * 1) = markTo (mkB es.length) xs i := by
        obtain ⟨_, ⟨_, h0⟩ | h⟩ := HO.out
        · omega
        · exact h
      simp only [Value.slice.injEq, true_and] at hv
      obtain ⟨rfl, rfl⟩ := hv
      have hgz : g < wr.heap.size := blk_lt hblk
      obtain ⟨x0, hx0⟩ : ∃ x, wr.cell? ⟨g, i, none⟩ = some x := ⟨_, by rw [cell_of_blk hblk, Array.getElem?_eq_getElem (by omega)]⟩
      have f0 : wr.frozen? ⟨g, i, none⟩ = false := frozen_of_blk hblk _
      have i0 : (0 : Int) ≤ (i : Int) := by omega
      have i1 : (i : Int) < (n : Int) := by omega
      have HL := hid (show xs.length = n * 1 from HVL.out.1)
      clear hblk hc hm' hs ht
      have HN := hid (show (wr.setCell ⟨g, i, none⟩ (.int .u8 mv)).ownsRow base 5 1 (.slice (some ⟨g, 0, none⟩) n cl) n (markTo (mkB es.length) xs (i + 1)) ∧ Fr (fun k => (Value.slice (some ⟨g, 0, none⟩) n cl).ownBlock = some k) w (wr.setCell ⟨g, i, none⟩ (.int .u8 mv)) by
        refine ⟨?_, HF.out.set (.inl rfl) _ _⟩
        have h := owns_setCell HO.out (g := g) rfl i (.int .u8 mv)
        rw [HMK.out] at h ⊢
        rw [markTo_one _ xs HL.out hlt] at h
        exact h)
      go_wp2
      exact ⟨⟨i + 1, by omega, by go_num, HN.out⟩, by simp [intOf]; omega⟩
    · have ei : i = n := by omega
      subst ei
      have HK0 := hid (show KJ (fun x => #[c0, x, c1, c2]) 5 57 B base w wr (.slice al i cl) (.slice ap es.length cp) (.slice ap es.length cp) es [(.slice al i cl, i)] (mkB es.length) from by
        have hne := owns_blk HVL.out HB.out (by decide)
        refine ⟨(HF.out.block B hBz hne).trans HB.out, owns_far HPV.out fun b hb hlt => HF.out.block b hlt ?_, ?_, HF.out.weak fun k _ h => .inr (.inr h), fun k h => .inl h, fun k hk => (HVL.out.lt k hk).2, owns_type HVL.out HPV.out (by decide)⟩
        · rcases owns_type HVL.out HPV.out (by decide) with y | y
          · rw [y]; simp
          · rw [← hb]; exact y
        · intro r hr
          simp at hr
          subst hr
          have h := HO.out
          rw [markTo_end (mkB es.length) xs HVL.out.1] at h
          exact h)
      have hwr : w.heap.size ≤ wr.heap.size := HF.out.size
      clear HO HF HVL hlt hi
      obtain ⟨q9, hi0, hz0, hz1', hz2'⟩ := info_parts Tryz.infoBOne
      have HI0 := hid (And.intro hi0 (And.intro hz0 (And.intro hz1' hz2')))
      obtain ⟨p9, pi0, pz0, pz1', pz2'⟩ := info_parts Tryz.infoBRow
      have PI0 := hid (And.intro pi0 (And.intro pz0 (And.intro pz1' pz2')))
      clear hi0 hz0 hz1' hz2' pi0 pz0 pz1' pz2'
      go_wp2_with (at_builtin; refine wpList_append_mark _ (by rfl) (.tmp 25) (.tmp 27) 57 (by rfl) base 5 q9 _ 1 1 Tryz.underlying57 HI0.out.1 HI0.out.2.1 HI0.out.2.2.1 HI0.out.2.2.2 rfl (by decide) (mkB es.length) rfl (mkB_one _) (.slice al i cl) i (by rfl) ((HK0.out.alloc _).rows (_, i) (by simp)) ⟨wr.heap.size, 0, none⟩ 1 1 (by rfl) (by rw [HMK.out]; exact World.news_of_block (blk_new wr _)) (by decide) ?_ ?_ ?_ ?_)
      · unfold maxLen; omega
      · omega
      · simp; omega
      intro v1 w1 ho1 hg1 hm1
      have HK1 := hid ((HK0.out.alloc _).mark (by decide) (by decide) (by intro r hr; simp at hr; subst hr; simp) ho1 hg1 hm1 ((HK0.out.alloc _).rows (_, i) (by simp)))
      obtain ⟨a1, d1, rfl⟩ := slice_form ho1
      have hz1 : w.heap.size ≤ w1.heap.size := HK1.out.fr.size
      clear ho1 hg1 hm1 HK0
      go_wp2_with (at_builtin; refine wpList_append_mark _ (by rfl) (.tmp 29) (.tmp 32) 57 (by rfl) base 5 q9 _ 1 1 Tryz.underlying57 HI0.out.1 HI0.out.2.1 HI0.out.2.2.1 HI0.out.2.2.2 rfl (by decide) (mkB es.length) rfl (mkB_one _) (.slice al i cl) i (by rfl) ((HK1.out.alloc _).rows (_, i) (by simp)) ⟨w1.heap.size, 0, none⟩ 2 2 (by rfl) (by rw [HMK.out]; exact World.news_of_block (blk_new w1 _)) (by decide) ?_ ?_ ?_ ?_)
      · unfold maxLen; omega
      · omega
      · simp; omega
      intro v2 w2 ho2 hg2 hm2
      have HK2 := hid ((HK1.out.alloc _).mark (by decide) (by decide) (by intro r hr; simp at hr; rcases hr with rfl | rfl <;> simp) ho2 hg2 hm2 ((HK1.out.alloc _).rows (_, i) (by simp)))
      obtain ⟨a2, d2, rfl⟩ := slice_form ho2
      have hz2 : w.heap.size ≤ w2.heap.size := HK2.out.fr.size
      clear ho2 hg2 hm2 HK1
      go_wp2_with (at_builtin; refine wpList_append_mark _ (by rfl) (.tmp 34) (.tmp 38) 57 (by rfl) base 5 q9 _ 1 1 Tryz.underlying57 HI0.out.1 HI0.out.2.1 HI0.out.2.2.1 HI0.out.2.2.2 rfl (by decide) (mkB es.length) rfl (mkB_one _) (.slice al i cl) i (by rfl) ((HK2.out.alloc _).rows (_, i) (by simp)) ⟨w2.heap.size, 0, none⟩ 3 3 (by rfl) (by rw [HMK.out]; exact World.news_of_block (blk_new w2 _)) (by decide) ?_ ?_ ?_ ?_)
      · unfold maxLen; omega
      · omega
      · simp; omega
      intro v3 w3 ho3 hg3 hm3
      have HK3 := hid ((HK2.out.alloc _).mark (by decide) (by decide) (by intro r hr; simp at hr; rcases hr with rfl | rfl | rfl <;> simp) ho3 hg3 hm3 ((HK2.out.alloc _).rows (_, i) (by simp)))
      obtain ⟨a3, d3, rfl⟩ := slice_form ho3
      have hz3 : w.heap.size ≤ w3.heap.size := HK3.out.fr.size
      clear ho3 hg3 hm3 HK2
      have b0 : w3.cell? ⟨B, 1, none⟩ = some (.slice ap es.length cp) := cell_of_blk HK3.out.blk 1
      have e0 : w3.frozen? ⟨B, 1, none⟩ = false := frozen_of_blk HK3.out.blk 1
      have hB0 : B < w3.heap.size := blk_lt HK3.out.blk
      go_wp2_with (at_builtin; refine wpList_append_lies _ (by rfl) (.tmp 44) (.tmp 46) 29 (by rfl) (B + 1) 57 p9 _ 1 24 Tryz.underlying29 PI0.out.1 PI0.out.2.1 PI0.out.2.2.1 PI0.out.2.2.2 rfl (by decide) (.slice ap es.length cp) es.length es (by rfl) (HK3.out.own.alloc _) ⟨w3.heap.size, 0, none⟩ 1 1 [.slice al i cl] (by rfl) rfl (World.news_of_block (blk_new w3 _)) (by simp [Value.oneCell']) (by decide) ?_ ?_ ?_ (w3.heap.size + 1) (by simp) ?_)
      · unfold maxLen; omega
      · omega
      · simp; omega
      intro g0 cap0 t0 ho hg hat hlt'
      obtain ⟨es0, hes0⟩ : ∃ l, l = es ++ [.slice al i cl] := ⟨_, rfl⟩
      have HL0 := hid (HK3.out.book (ci := 1) (u := .slice al i cl) (by decide) (by decide) (fun _ _ => rfl) ho hg hat)
      rw [← hes0] at HL0
      have HE0 := hid hes0
      have hl0 : es0.length ≤ es.length + 1 := by rw [hes0]; simp
      have q0 : t0.cell? ⟨B, 1, none⟩ = some (.slice ap es.length cp) := cell_of_blk ((hg.block B (by simp; omega) (owns_not HK3.out.own (by omega))).trans (blk_alloc HK3.out.blk)) 1
      have r0 : t0.frozen? ⟨B, 1, none⟩ = false := frozen_of_blk ((hg.block B (by simp; omega) (owns_not HK3.out.own (by omega))).trans (blk_alloc HK3.out.blk)) 1
      have hB0' : B < t0.heap.size := World.block_lt_of_cell? _ _ q0
      clear ho hg hat hlt' b0 e0 hes0
      go_upto_region 9 with fail
      generalize hw0 : t0.setCell ⟨B, 1, none⟩ (.slice (some ⟨g0, 0, none⟩) (es.length + 1) cap0) = x0 at HL0 ⊢
      clear hw0 q0 r0 hB0' HK3
      have b1 : x0.cell? ⟨B, 1, none⟩ = some (.slice (some ⟨g0, 0, none⟩) (es.length + 1) cap0) := cell_of_blk HL0.out.blk 1
      have e1 : x0.frozen? ⟨B, 1, none⟩ = false := frozen_of_blk HL0.out.blk 1
      have hB1 : B < x0.heap.size := blk_lt HL0.out.blk
      go_wp2_with (at_builtin; refine wpList_append_lies _ (by rfl) (.tmp 54) (.tmp 56) 29 (by rfl) (B + 1) 57 p9 _ 1 24 Tryz.underlying29 PI0.out.1 PI0.out.2.1 PI0.out.2.2.1 PI0.out.2.2.2 rfl (by decide) (.slice (some ⟨g0, 0, none⟩) (es.length + 1) cap0) es0.length es0 (by rfl) (HL0.out.own.alloc _) ⟨x0.heap.size, 0, none⟩ 1 1 [.slice a1 (i + 1) d1] (by rfl) rfl (World.news_of_block (blk_new x0 _)) (by simp [Value.oneCell']) (by decide) ?_ ?_ ?_ (x0.heap.size + 1) (by simp) ?_)
      · unfold maxLen; omega
      · omega
      · simp; omega
      intro g1 cap1 t1 ho hg hat hlt'
      obtain ⟨es1, hes1⟩ : ∃ l, l = es0 ++ [.slice a1 (i + 1) d1] := ⟨_, rfl⟩
      have HL1 := hid (HL0.out.book (ci := 1) (u := .slice a1 (i + 1) d1) (by decide) (by decide) (fun _ _ => rfl) ho hg hat)
      rw [← hes1] at HL1
      have HE1 := hid hes1
      have hl1 : es1.length ≤ es0.length + 1 := by rw [hes1]; simp
      have q1 : t1.cell? ⟨B, 1, none⟩ = some (.slice (some ⟨g0, 0, none⟩) (es.length + 1) cap0) := cell_of_blk ((hg.block B (by simp; omega) (owns_not HL0.out.own (by omega))).trans (blk_alloc HL0.out.blk)) 1
      have r1 : t1.frozen? ⟨B, 1, none⟩ = false := frozen_of_blk ((hg.block B (by simp; omega) (owns_not HL0.out.own (by omega))).trans (blk_alloc HL0.out.blk)) 1
      have hB1' : B < t1.heap.size := World.block_lt_of_cell? _ _ q1
      clear ho hg hat hlt' b1 e1 hes1
      go_upto_region 10 with fail
      generalize hw1 : t1.setCell ⟨B, 1, none⟩ (.slice (some ⟨g1, 0, none⟩) (es0.length + 1) cap1) = x1 at HL1 ⊢
      clear hw1 q1 r1 hB1' HL0
      have b2 : x1.cell? ⟨B, 1, none⟩ = some (.slice (some ⟨g1, 0, none⟩) (es0.length + 1) cap1) := cell_of_blk HL1.out.blk 1
      have e2 : x1.frozen? ⟨B, 1, none⟩ = false := frozen_of_blk HL1.out.blk 1
      have hB2 : B < x1.heap.size := blk_lt HL1.out.blk
      go_wp2_with (at_builtin; refine wpList_append_lies _ (by rfl) (.tmp 64) (.tmp 66) 29 (by rfl) (B + 1) 57 p9 _ 1 24 Tryz.underlying29 PI0.out.1 PI0.out.2.1 PI0.out.2.2.1 PI0.out.2.2.2 rfl (by decide) (.slice (some ⟨g1, 0, none⟩) (es0.length + 1) cap1) es1.length es1 (by rfl) (HL1.out.own.alloc _) ⟨x1.heap.size, 0, none⟩ 1 1 [.slice a2 (i + 2) d2] (by rfl) rfl (World.news_of_block (blk_new x1 _)) (by simp [Value.oneCell']) (by decide) ?_ ?_ ?_ (x1.heap.size + 1) (by simp) ?_)
      · unfold maxLen; omega
      · omega
      · simp; omega
      intro g2 cap2 t2 ho hg hat hlt'
      obtain ⟨es2, hes2⟩ : ∃ l, l = es1 ++ [.slice a2 (i + 2) d2] := ⟨_, rfl⟩
      have HL2 := hid (HL1.out.book (ci := 1) (u := .slice a2 (i + 2) d2) (by decide) (by decide) (fun _ _ => rfl) ho hg hat)
      rw [← hes2] at HL2
      have HE2 := hid hes2
      have hl2 : es2.length ≤ es1.length + 1 := by rw [hes2]; simp
      have q2 : t2.cell? ⟨B, 1, none⟩ = some (.slice (some ⟨g1, 0, none⟩) (es0.length + 1) cap1) := cell_of_blk ((hg.block B (by simp; omega) (owns_not HL1.out.own (by omega))).trans (blk_alloc HL1.out.blk)) 1
      have r2 : t2.frozen? ⟨B, 1, none⟩ = false := frozen_of_blk ((hg.block B (by simp; omega) (owns_not HL1.out.own (by omega))).trans (blk_alloc HL1.out.blk)) 1
      have hB2' : B < t2.heap.size := World.block_lt_of_cell? _ _ q2
      clear ho hg hat hlt' b2 e2 hes2
      go_upto_region 11 with fail
      generalize hw2 : t2.setCell ⟨B, 1, none⟩ (.slice (some ⟨g2, 0, none⟩) (es1.length + 1) cap2) = x2 at HL2 ⊢
      clear hw2 q2 r2 hB2' HL1
      have b3 : x2.cell? ⟨B, 1, none⟩ = some (.slice (some ⟨g2, 0, none⟩) (es1.length + 1) cap2) := cell_of_blk HL2.out.blk 1
      have e3 : x2.frozen? ⟨B, 1, none⟩ = false := frozen_of_blk HL2.out.blk 1
      have hB3 : B < x2.heap.size := blk_lt HL2.out.blk
      go_wp2_with (at_builtin; refine wpList_append_lies _ (by rfl) (.tmp 74) (.tmp 76) 29 (by rfl) (B + 1) 57 p9 _ 1 24 Tryz.underlying29 PI0.out.1 PI0.out.2.1 PI0.out.2.2.1 PI0.out.2.2.2 rfl (by decide) (.slice (some ⟨g2, 0, none⟩) (es1.length + 1) cap2) es2.length es2 (by rfl) (HL2.out.own.alloc _) ⟨x2.heap.size, 0, none⟩ 1 1 [.slice a3 (i + 3) d3] (by rfl) rfl (World.news_of_block (blk_new x2 _)) (by simp [Value.oneCell']) (by decide) ?_ ?_ ?_ (x2.heap.size + 1) (by simp) ?_)
      · unfold maxLen; omega
      · omega
      · simp; omega
      intro g3 cap3 t3 ho hg hat hlt'
      obtain ⟨es3, hes3⟩ : ∃ l, l = es2 ++ [.slice a3 (i + 3) d3] := ⟨_, rfl⟩
      have HL3 := hid (HL2.out.book (ci := 1) (u := .slice a3 (i + 3) d3) (by decide) (by decide) (fun _ _ => rfl) ho hg hat)
      rw [← hes3] at HL3
      have HE3 := hid hes3
      have hl3 : es3.length ≤ es2.length + 1 := by rw [hes3]; simp
      have q3 : t3.cell? ⟨B, 1, none⟩ = some (.slice (some ⟨g2, 0, none⟩) (es1.length + 1) cap2) := cell_of_blk ((hg.block B (by simp; omega) (owns_not HL2.out.own (by omega))).trans (blk_alloc HL2.out.blk)) 1
      have r3 : t3.frozen? ⟨B, 1, none⟩ = false := frozen_of_blk ((hg.block B (by simp; omega) (owns_not HL2.out.own (by omega))).trans (blk_alloc HL2.out.blk)) 1
      have hB3' : B < t3.heap.size := World.block_lt_of_cell? _ _ q3
      clear ho hg hat hlt' b3 e3 hes3
      go_wp2
      go_end0
      refine ⟨rfl, .slice (some ⟨g3, 0, none⟩) (es2.length + 1) cap3, .slice a1 (i + 1) d1, .slice a2 (i + 2) d2, .slice a3 (i + 3) d3, ?_⟩
      rw [← HE0.out, ← HE1.out, ← HE2.out, ← HE3.out]
      exact HL3.out
theorem mkI_one (n : Nat) : ∀ u ∈ mkI n, u.oneCell' = true := by intro u hu; simp [mkI] at hu; subst hu; rfl
set_option maxRecDepth 4000 in
set_option maxHeartbeats 4000000 in
theorem keepsInts_any (B base : Nat) (c0 c1 c2 pv vl : Value) (es xs : List Value) (n : Nat) (w : World) (hB : w.heap[B]? = some (.cells #[c0, c1, pv, c2] 35)) (hpv : w.ownsRow (B + 1) 24 1 pv es.length es)
    (hvl : w.ownsRow base 3 1 vl n xs) (hn : n ≤ 1000000) (hes : (es.length + 4) * 24 ≤ 140737488355328) (hbase : base ≤ w.heap.size) :
    Calls Tryz.prog 72 #[.pointer (some ⟨B, 1, none⟩), vl] w fun e w' => e = .returned (.tuple #[]) ∧ ∃ pv' v1 v2 v3, KJ (fun x => #[c0, c1, x, c2]) 3 24 B base w w' vl pv pv' ((((es ++ [vl]) ++ [v1]) ++ [v2]) ++ [v3]) [(vl, n), (v1, n + 1), (v2, n + 2), (v3, n + 3)] (mkI es.length) := by
  have HB := hid hB
  have HPV := hid hpv
  have HVL := hid hvl
  obtain ⟨ap, cp, rfl⟩ := slice_form hpv
  obtain ⟨al, cl, rfl⟩ := slice_form hvl
  have b3 : w.cell? ⟨B, 2, none⟩ = some (.slice ap es.length cp) := cell_of_blk hB 2
  have hBz : B < w.heap.size := blk_lt hB
  clear hB hpv hvl
  obtain ⟨mv, hmv⟩ : ∃ x : Int, x = -1000 - (es.length : Int) / 4 := ⟨_, rfl⟩
  have HMK := hid (show mkI es.length = [i64 mv] by rw [hmv]; rfl)
  have HMV := hid hmv
  clear hmv
  go_enter Tryz.func72, Tryz.ntmps72
  go_wp2
  rw [← HMV.out]
  go_loopw [5] (fun i' wr => ∃ i : Nat, i ≤ n ∧ i' = i64 i ∧ wr.ownsRow base 3 1 (.slice al n cl) n (markTo (mkI es.length) xs i) ∧ Fr (fun k => (Value.slice al n cl).ownBlock = some k) w wr) (fun i' _ => n - (intOf i').toNat)
  case atStart => exact ⟨0, by omega, rfl, by rw [markTo_zero]; exact HVL.out, Fr.refl _ _⟩
  case round =>
    obtain ⟨i, hi, rfl, ho, hf⟩ := hrel
    have HO := hid ho
    have HF := hid hf
    clear ho hf
    by_cases hlt : i < n
    · obtain ⟨g, c', cur, hv, hgb, hblk, hc, hm', hs, ht⟩ : ∃ g cap cur, Value.slice al n cl = .slice (some ⟨g, 0, none⟩) n cap ∧ base ≤ g ∧ wr.heap[g]? = some (.cells cur 3) ∧ n ≤ cap ∧ cap ≤ maxLen ∧ cur.size = cap * 1 ∧ cur.toList.take (n * 1) = markTo (mkI es.length) xs i := by
        obtain ⟨_, ⟨_, h0⟩ | h⟩ := HO.out
        · omega
        · exact h
      simp only [Value.slice.injEq, true_and] at hv
      obtain ⟨rfl, rfl⟩ := hv
      have hgz : g < wr.heap.size := blk_lt hblk
      obtain ⟨x0, hx0⟩ : ∃ x, wr.cell? ⟨g, i, none⟩ = some x := ⟨_, by rw [cell_of_blk hblk, Array.getElem?_eq_getElem (by omega)]⟩
      have f0 : wr.frozen? ⟨g, i, none⟩ = false := frozen_of_blk hblk _
      have i0 : (0 : Int) ≤ (i : Int) := by omega
      have i1 : (i : Int) < (n : Int) := by omega
      have HL := hid (show xs.length = n * 1 from HVL.out.1)
      clear hblk hc hm' hs ht
      have HN := hid (show (wr.setCell ⟨g, i, none⟩ (i64 mv)).ownsRow base 3 1 (.slice (some ⟨g, 0, none⟩) n cl) n (markTo (mkI es.length) xs (i + 1)) ∧ Fr (fun k => (Value.slice (some ⟨g, 0, none⟩) n cl).ownBlock = some k) w (wr.setCell ⟨g, i, none⟩ (i64 mv)) by
        refine ⟨?_, HF.out.set (.inl rfl) _ _⟩
        have h := owns_setCell HO.out (g := g) rfl i (i64 mv)
        rw [HMK.out] at h ⊢
        rw [markTo_one _ xs HL.out hlt] at h
        exact h)
      go_wp2
      exact ⟨⟨i + 1, by omega, by go_num, HN.out⟩, by simp [intOf]; omega⟩
    · have ei : i = n := by omega
      subst ei
      have HK0 := hid (show KJ (fun x => #[c0, c1, x, c2]) 3 24 B base w wr (.slice al i cl) (.slice ap es.length cp) (.slice ap es.length cp) es [(.slice al i cl, i)] (mkI es.length) from by
        have hne := owns_blk HVL.out HB.out (by decide)
        refine ⟨(HF.out.block B hBz hne).trans HB.out, owns_far HPV.out fun b hb hlt => HF.out.block b hlt ?_, ?_, HF.out.weak fun k _ h => .inr (.inr h), fun k h => .inl h, fun k hk => (HVL.out.lt k hk).2, owns_type HVL.out HPV.out (by decide)⟩
        · rcases owns_type HVL.out HPV.out (by decide) with y | y
          · rw [y]; simp
          · rw [← hb]; exact y
        · intro r hr
          simp at hr
          subst hr
          have h := HO.out
          rw [markTo_end (mkI es.length) xs HVL.out.1] at h
          exact h)
      have hwr : w.heap.size ≤ wr.heap.size := HF.out.size
      clear HO HF HVL hlt hi
      obtain ⟨q9, hi0, hz0, hz1', hz2'⟩ := info_parts Tryz.infoIOne
      have HI0 := hid (And.intro hi0 (And.intro hz0 (And.intro hz1' hz2')))
      obtain ⟨p9, pi0, pz0, pz1', pz2'⟩ := info_parts Tryz.infoIRow
      have PI0 := hid (And.intro pi0 (And.intro pz0 (And.intro pz1' pz2')))
      clear hi0 hz0 hz1' hz2' pi0 pz0 pz1' pz2'
      go_wp2_with (at_builtin; refine wpList_append_mark _ (by rfl) (.tmp 26) (.tmp 28) 24 (by rfl) base 3 q9 _ 1 8 Tryz.underlying24 HI0.out.1 HI0.out.2.1 HI0.out.2.2.1 HI0.out.2.2.2 rfl (by decide) (mkI es.length) rfl (mkI_one _) (.slice al i cl) i (by rfl) ((HK0.out.alloc _).rows (_, i) (by simp)) ⟨wr.heap.size, 0, none⟩ 1 1 (by rfl) (by rw [HMK.out]; exact World.news_of_block (blk_new wr _)) (by decide) ?_ ?_ ?_ ?_)
      · unfold maxLen; omega
      · omega
      · simp; omega
      intro v1 w1 ho1 hg1 hm1
      have HK1 := hid ((HK0.out.alloc _).mark (by decide) (by decide) (by intro r hr; simp at hr; subst hr; simp) ho1 hg1 hm1 ((HK0.out.alloc _).rows (_, i) (by simp)))
      obtain ⟨a1, d1, rfl⟩ := slice_form ho1
      have hz1 : w.heap.size ≤ w1.heap.size := HK1.out.fr.size
      clear ho1 hg1 hm1 HK0
      go_wp2_with (at_builtin; refine wpList_append_mark _ (by rfl) (.tmp 30) (.tmp 33) 24 (by rfl) base 3 q9 _ 1 8 Tryz.underlying24 HI0.out.1 HI0.out.2.1 HI0.out.2.2.1 HI0.out.2.2.2 rfl (by decide) (mkI es.length) rfl (mkI_one _) (.slice al i cl) i (by rfl) ((HK1.out.alloc _).rows (_, i) (by simp)) ⟨w1.heap.size, 0, none⟩ 2 2 (by rfl) (by rw [HMK.out]; exact World.news_of_block (blk_new w1 _)) (by decide) ?_ ?_ ?_ ?_)
      · unfold maxLen; omega
      · omega
      · simp; omega
      intro v2 w2 ho2 hg2 hm2
      have HK2 := hid ((HK1.out.alloc _).mark (by decide) (by decide) (by intro r hr; simp at hr; rcases hr with rfl | rfl <;> simp) ho2 hg2 hm2 ((HK1.out.alloc _).rows (_, i) (by simp)))
      obtain ⟨a2, d2, rfl⟩ := slice_form ho2
      have hz2 : w.heap.size ≤ w2.heap.size := HK2.out.fr.size
      clear ho2 hg2 hm2 HK1
      go_wp2_with (at_builtin; refine wpList_append_mark _ (by rfl) (.tmp 35) (.tmp 39) 24 (by rfl) base 3 q9 _ 1 8 Tryz.underlying24 HI0.out.1 HI0.out.2.1 HI0.out.2.2.1 HI0.out.2.2.2 rfl (by decide) (mkI es.length) rfl (mkI_one _) (.slice al i cl) i (by rfl) ((HK2.out.alloc _).rows (_, i) (by simp)) ⟨w2.heap.size, 0, none⟩ 3 3 (by rfl) (by rw [HMK.out]; exact World.news_of_block (blk_new w2 _)) (by decide) ?_ ?_ ?_ ?_)
      · unfold maxLen; omega
      · omega
      · simp; omega
      intro v3 w3 ho3 hg3 hm3
      have HK3 := hid ((HK2.out.alloc _).mark (by decide) (by decide) (by intro r hr; simp at hr; rcases hr with rfl | rfl | rfl <;> simp) ho3 hg3 hm3 ((HK2.out.alloc _).rows (_, i) (by simp)))
      obtain ⟨a3, d3, rfl⟩ := slice_form ho3
      have hz3 : w.heap.size ≤ w3.heap.size := HK3.out.fr.size
      clear ho3 hg3 hm3 HK2
      have b0 : w3.cell? ⟨B, 2, none⟩ = some (.slice ap es.length cp) := cell_of_blk HK3.out.blk 2
      have e0 : w3.frozen? ⟨B, 2, none⟩ = false := frozen_of_blk HK3.out.blk 2
      have hB0 : B < w3.heap.size := blk_lt HK3.out.blk
      go_wp2_with (at_builtin; refine wpList_append_lies _ (by rfl) (.tmp 45) (.tmp 47) 30 (by rfl) (B + 1) 24 p9 _ 1 24 Tryz.underlying30 PI0.out.1 PI0.out.2.1 PI0.out.2.2.1 PI0.out.2.2.2 rfl (by decide) (.slice ap es.length cp) es.length es (by rfl) (HK3.out.own.alloc _) ⟨w3.heap.size, 0, none⟩ 1 1 [.slice al i cl] (by rfl) rfl (World.news_of_block (blk_new w3 _)) (by simp [Value.oneCell']) (by decide) ?_ ?_ ?_ (w3.heap.size + 1) (by simp) ?_)
      · unfold maxLen; omega
      · omega
      · simp; omega
      intro g0 cap0 t0 ho hg hat hlt'
      obtain ⟨es0, hes0⟩ : ∃ l, l = es ++ [.slice al i cl] := ⟨_, rfl⟩
      have HL0 := hid (HK3.out.book (ci := 2) (u := .slice al i cl) (by decide) (by decide) (fun _ _ => rfl) ho hg hat)
      rw [← hes0] at HL0
      have HE0 := hid hes0
      have hl0 : es0.length ≤ es.length + 1 := by rw [hes0]; simp
      have q0 : t0.cell? ⟨B, 2, none⟩ = some (.slice ap es.length cp) := cell_of_blk ((hg.block B (by simp; omega) (owns_not HK3.out.own (by omega))).trans (blk_alloc HK3.out.blk)) 2
      have r0 : t0.frozen? ⟨B, 2, none⟩ = false := frozen_of_blk ((hg.block B (by simp; omega) (owns_not HK3.out.own (by omega))).trans (blk_alloc HK3.out.blk)) 2
      have hB0' : B < t0.heap.size := World.block_lt_of_cell? _ _ q0
      clear ho hg hat hlt' b0 e0 hes0
      go_upto_region 9 with fail
      generalize hw0 : t0.setCell ⟨B, 2, none⟩ (.slice (some ⟨g0, 0, none⟩) (es.length + 1) cap0) = x0 at HL0 ⊢
      clear hw0 q0 r0 hB0' HK3
      have b1 : x0.cell? ⟨B, 2, none⟩ = some (.slice (some ⟨g0, 0, none⟩) (es.length + 1) cap0) := cell_of_blk HL0.out.blk 2
      have e1 : x0.frozen? ⟨B, 2, none⟩ = false := frozen_of_blk HL0.out.blk 2
      have hB1 : B < x0.heap.size := blk_lt HL0.out.blk
      go_wp2_with (at_builtin; refine wpList_append_lies _ (by rfl) (.tmp 55) (.tmp 57) 30 (by rfl) (B + 1) 24 p9 _ 1 24 Tryz.underlying30 PI0.out.1 PI0.out.2.1 PI0.out.2.2.1 PI0.out.2.2.2 rfl (by decide) (.slice (some ⟨g0, 0, none⟩) (es.length + 1) cap0) es0.length es0 (by rfl) (HL0.out.own.alloc _) ⟨x0.heap.size, 0, none⟩ 1 1 [.slice a1 (i + 1) d1] (by rfl) rfl (World.news_of_block (blk_new x0 _)) (by simp [Value.oneCell']) (by decide) ?_ ?_ ?_ (x0.heap.size + 1) (by simp) ?_)
      · unfold maxLen; omega
      · omega
      · simp; omega
      intro g1 cap1 t1 ho hg hat hlt'
      obtain ⟨es1, hes1⟩ : ∃ l, l = es0 ++ [.slice a1 (i + 1) d1] := ⟨_, rfl⟩
      have HL1 := hid (HL0.out.book (ci := 2) (u := .slice a1 (i + 1) d1) (by decide) (by decide) (fun _ _ => rfl) ho hg hat)
      rw [← hes1] at HL1
      have HE1 := hid hes1
      have hl1 : es1.length ≤ es0.length + 1 := by rw [hes1]; simp
      have q1 : t1.cell? ⟨B, 2, none⟩ = some (.slice (some ⟨g0, 0, none⟩) (es.length + 1) cap0) := cell_of_blk ((hg.block B (by simp; omega) (owns_not HL0.out.own (by omega))).trans (blk_alloc HL0.out.blk)) 2
      have r1 : t1.frozen? ⟨B, 2, none⟩ = false := frozen_of_blk ((hg.block B (by simp; omega) (owns_not HL0.out.own (by omega))).trans (blk_alloc HL0.out.blk)) 2
      have hB1' : B < t1.heap.size := World.block_lt_of_cell? _ _ q1
      clear ho hg hat hlt' b1 e1 hes1
      go_upto_region 10 with fail
      generalize hw1 : t1.setCell ⟨B, 2, none⟩ (.slice (some ⟨g1, 0, none⟩) (es0.length + 1) cap1) = x1 at HL1 ⊢
      clear hw1 q1 r1 hB1' HL0
      have b2 : x1.cell? ⟨B, 2, none⟩ = some (.slice (some ⟨g1, 0, none⟩) (es0.length + 1) cap1) := cell_of_blk HL1.out.blk 2
      have e2 : x1.frozen? ⟨B, 2, none⟩ = false := frozen_of_blk HL1.out.blk 2
      have hB2 : B < x1.heap.size := blk_lt HL1.out.blk
      go_wp2_with (at_builtin; refine wpList_append_lies _ (by rfl) (.tmp 65) (.tmp 67) 30 (by rfl) (B + 1) 24 p9 _ 1 24 Tryz.underlying30 PI0.out.1 PI0.out.2.1 PI0.out.2.2.1 PI0.out.2.2.2 rfl (by decide) (.slice (some ⟨g1, 0, none⟩) (es0.length + 1) cap1) es1.length es1 (by rfl) (HL1.out.own.alloc _) ⟨x1.heap.size, 0, none⟩ 1 1 [.slice a2 (i + 2) d2] (by rfl) rfl (World.news_of_block (blk_new x1 _)) (by simp [Value.oneCell']) (by decide) ?_ ?_ ?_ (x1.heap.size + 1) (by simp) ?_)
      · unfold maxLen; omega
      · omega
      · simp; omega
      intro g2 cap2 t2 ho hg hat hlt'
      obtain ⟨es2, hes2⟩ : ∃ l, l = es1 ++ [.slice a2 (i + 2) d2] := ⟨_, rfl⟩
      have HL2 := hid (HL1.out.book (ci := 2) (u := .slice a2 (i + 2) d2) (by decide) (by decide) (fun _ _ => rfl) ho hg hat)
      rw [← hes2] at HL2
      have HE2 := hid hes2
      have hl2 : es2.length ≤ es1.length + 1 := by rw [hes2]; simp
      have q2 : t2.cell? ⟨B, 2, none⟩ = some (.slice (some ⟨g1, 0, none⟩) (es0.length + 1) cap1) := cell_of_blk ((hg.block B (by simp; omega) (owns_not HL1.out.own (by omega))).trans (blk_alloc HL1.out.blk)) 2
      have r2 : t2.frozen? ⟨B, 2, none⟩ = false := frozen_of_blk ((hg.block B (by simp; omega) (owns_not HL1.out.own (by omega))).trans (blk_alloc HL1.out.blk)) 2
      have hB2' : B < t2.heap.size := World.block_lt_of_cell? _ _ q2
      clear ho hg hat hlt' b2 e2 hes2
      go_upto_region 11 with fail
      generalize hw2 : t2.setCell ⟨B, 2, none⟩ (.slice (some ⟨g2, 0, none⟩) (es1.length + 1) cap2) = x2 at HL2 ⊢
      clear hw2 q2 r2 hB2' HL1
      have b3 : x2.cell? ⟨B, 2, none⟩ = some (.slice (some ⟨g2, 0, none⟩) (es1.length + 1) cap2) := cell_of_blk HL2.out.blk 2
      have e3 : x2.frozen? ⟨B, 2, none⟩ = false := frozen_of_blk HL2.out.blk 2
      have hB3 : B < x2.heap.size := blk_lt HL2.out.blk
      go_wp2_with (at_builtin; refine wpList_append_lies _ (by rfl) (.tmp 75) (.tmp 77) 30 (by rfl) (B + 1) 24 p9 _ 1 24 Tryz.underlying30 PI0.out.1 PI0.out.2.1 PI0.out.2.2.1 PI0.out.2.2.2 rfl (by decide) (.slice (some ⟨g2, 0, none⟩) (es1.length + 1) cap2) es2.length es2 (by rfl) (HL2.out.own.alloc _) ⟨x2.heap.size, 0, none⟩ 1 1 [.slice a3 (i + 3) d3] (by rfl) rfl (World.news_of_block (blk_new x2 _)) (by simp [Value.oneCell']) (by decide) ?_ ?_ ?_ (x2.heap.size + 1) (by simp) ?_)
      · unfold maxLen; omega
      · omega
      · simp; omega
      intro g3 cap3 t3 ho hg hat hlt'
      obtain ⟨es3, hes3⟩ : ∃ l, l = es2 ++ [.slice a3 (i + 3) d3] := ⟨_, rfl⟩
      have HL3 := hid (HL2.out.book (ci := 2) (u := .slice a3 (i + 3) d3) (by decide) (by decide) (fun _ _ => rfl) ho hg hat)
      rw [← hes3] at HL3
      have HE3 := hid hes3
      have hl3 : es3.length ≤ es2.length + 1 := by rw [hes3]; simp
      have q3 : t3.cell? ⟨B, 2, none⟩ = some (.slice (some ⟨g2, 0, none⟩) (es1.length + 1) cap2) := cell_of_blk ((hg.block B (by simp; omega) (owns_not HL2.out.own (by omega))).trans (blk_alloc HL2.out.blk)) 2
      have r3 : t3.frozen? ⟨B, 2, none⟩ = false := frozen_of_blk ((hg.block B (by simp; omega) (owns_not HL2.out.own (by omega))).trans (blk_alloc HL2.out.blk)) 2
      have hB3' : B < t3.heap.size := World.block_lt_of_cell? _ _ q3
      clear ho hg hat hlt' b3 e3 hes3
      go_wp2
      go_end0
      refine ⟨rfl, .slice (some ⟨g3, 0, none⟩) (es2.length + 1) cap3, .slice a1 (i + 1) d1, .slice a2 (i + 2) d2, .slice a3 (i + 3) d3, ?_⟩
      rw [← HE0.out, ← HE1.out, ← HE2.out, ← HE3.out]
      exact HL3.out
end Go.Proofs.YthbbfjfekchdiaaGreat
