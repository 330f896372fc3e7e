import Derived.Test.YthbbfjfekchdiaaGreatXHLooks
namespace Go.Proofs.YthbbfjfekchdiaaGreat
open Go.RowKit
abbrev Tag := Option (Option (Option Nat))
abbrev Tag.arg : Tag := none
abbrev Tag.world : Tag := some none
abbrev Tag.list : Tag := some (some none)
abbrev Tag.db (j : Nat) : Tag := some (some (some j))
def At (tag : Nat → Tag) (v : Value) (t : Tag) : Prop := ∀ k, v.ownBlock = some k → tag k = t
def tagUp (tag : Nat → Tag) (n : Nat) (f : Nat → Tag) : Nat → Tag := fun k => if k < n then tag k else f k
theorem tagUp_lt {tag : Nat → Tag} {n : Nat} {f : Nat → Tag} {k : Nat} (h : k < n) : tagUp tag n f k = tag k := if_pos h
theorem tagUp_ge {tag : Nat → Tag} {n : Nat} {f : Nat → Tag} {k : Nat} (h : n ≤ k) : tagUp tag n f k = f k := if_neg (by omega)
def EnOk (w : World) (tag : Nat → Tag) (te size : Nat) (mk : Nat → List Value) (es : List Value) : Prop :=
  ∀ (i : Nat) (u : Value), es[i]? = some u → ∃ n, w.ownsRow 0 te size u n (marks (mk i) n) ∧ At tag u .list
structure Bk (w : World) (B : Nat) (tag : Nat → Tag) (tr te size : Nat) (mk : Nat → List Value) (v : Value) (es : List Value) : Prop where
  row : w.ownsRow (B + 1) tr 1 v es.length es
  tagv : At tag v .world
  one : EnOk w tag te size mk es
  four : es.length % 4 = 0
theorem EnOk.fr {w w' : World} {tag tag' : Nat → Tag} {te size : Nat} {mk : Nat → List Value} {es : List Value} (h : EnOk w tag te size mk es) {Out : Nat → Prop} (hf : Fr Out w w') (hs : ∀ k, k < w.heap.size → tag k = .list → ¬ Out k) (ht : ∀ k, k < w.heap.size → tag' k = tag k) : EnOk w' tag' te size mk es := by
  intro i u hu
  obtain ⟨n, ho, ha⟩ := h i u hu
  refine ⟨n, owns_far ho fun b hb hlt => hf.block b hlt (hs b hlt (ha b hb)), fun k hk => ?_⟩
  rw [ht k (ho.lt k hk).2]
  exact ha k hk
theorem Bk.fr {w w' : World} {B : Nat} {tag tag' : Nat → Tag} {tr te size : Nat} {mk : Nat → List Value} {v : Value} {es : List Value} (h : Bk w B tag tr te size mk v es) {Out : Nat → Prop} (hf : Fr Out w w') (hs : ∀ k, k < w.heap.size → tag k = .list → ¬ Out k) (hv : ∀ k, v.ownBlock = some k → ¬ Out k) (ht : ∀ k, k < w.heap.size → tag' k = tag k) : Bk w' B tag' tr te size mk v es :=
  ⟨owns_far h.row fun b hb hlt => hf.block b hlt (hv b hb), fun k hk => (ht k (h.row.lt k hk).2).trans (h.tagv k hk), h.one.fr hf hs ht, h.four⟩
theorem Bk.nil (w : World) (B : Nat) (tag : Nat → Tag) (tr te size : Nat) (mk : Nat → List Value) : Bk w B tag tr te size mk (.slice none 0 0) [] :=
  ⟨World.ownsRow_nil _ _ _ _, fun k hk => by simp [Value.ownBlock] at hk, fun i u hu => by simp at hu, rfl⟩
theorem Bk.book {w : World} {B : Nat} {tag : Nat → Tag} {tr te size : Nat} {mk : Nat → List Value} {v : Value} {es : List Value} (h : Bk w B tag tr te size mk v es) : BookRow w tr te size mk v es :=
  ⟨owns_base h.row (Nat.zero_le _), fun i u hu => by obtain ⟨n, x, _⟩ := h.one i u hu; exact ⟨n, x⟩⟩
def PrOk (R : Rep) (w : World) (tag : Nat → Tag) (ds : List RDb) (prs : List Value) : Prop :=
  ∀ (j : Nat) (d : RDb), ds[j]? = some d → ∃ pd pr, prs[2 * j]? = some (.pointer (some ⟨pd, 0, none⟩)) ∧ prs[2 * j + 1]? = some (.pointer (some ⟨pr, 0, none⟩)) ∧ Both R w (fun k => tag k = .db j) pd pr d
theorem PrOk.fr {R : Rep} (H : ProgOk R) {w w' : World} {tag tag' : Nat → Tag} {ds : List RDb} {prs : List Value} (h : PrOk R w tag ds prs) {Out : Nat → Prop} (hf : Fr Out w w') (hs : ∀ k j, k < w.heap.size → tag k = .db j → ¬ Out k) (ht : ∀ k, k < w.heap.size → tag' k = tag k) : PrOk R w' tag' ds prs := by
  intro j d hd
  obtain ⟨pd, pr, a, b, hb⟩ := h j d hd
  refine ⟨pd, pr, a, b, ?_⟩
  have h2 : Both R w (fun k => tag' k = .db j) pd pr d := hb.weak fun k hk hk2 => (ht k hk).trans hk2
  exact h2.fr H hf fun k hk hk2 => hs k j hk ((ht k hk).symm.trans hk2)
structure HInv (R : Rep) (w : World) (B : Nat) (tag : Nat → Tag) (ds : List RDb) (bs is ps : List Value) : Prop where
  mem : ∃ v prs bv iv pv, w.heap[B]? = some (.cells #[v, bv, iv, pv] 35) ∧ w.ownsRow (B + 1) 53 2 v ds.length prs ∧ At tag v .world ∧ PrOk R w tag ds prs ∧
    Bk w B tag 57 5 1 mkB bv bs ∧ Bk w B tag 24 3 1 mkI iv is ∧ Bk w B tag 41 48 2 mkP pv ps
  tagB : tag B = .world
  low : ∀ k, k < B → tag k = .arg
theorem HInv.lt {R : Rep} {w : World} {B : Nat} {tag : Nat → Tag} {ds : List RDb} {bs is ps : List Value} (h : HInv R w B tag ds bs is ps) : B < w.heap.size := by
  obtain ⟨v, prs, bv, iv, pv, hB, _⟩ := h.mem
  exact blk_lt hB
theorem HInv.below {R : Rep} (H : ProgOk R) {w w' : World} {B : Nat} {tag : Nat → Tag} {ds : List RDb} {bs is ps : List Value} (h : HInv R w B tag ds bs is ps) (hb : Below w.heap.size w w') : HInv R w' B tag ds bs is ps := by
  obtain ⟨v, prs, bv, iv, pv, hB, hv, tv, hp, k1, k2, k3⟩ := h.mem
  have hf : Fr (fun _ => False) w w' := Fr.below hb
  exact ⟨⟨v, prs, bv, iv, pv, blk_later hb (blk_lt hB) hB, owns_below hv hb, tv, hp.fr H hf (fun _ _ _ _ x => x) (fun _ _ => rfl), k1.fr hf (fun _ _ _ x => x) (fun _ _ x => x) (fun _ _ => rfl), k2.fr hf (fun _ _ _ x => x) (fun _ _ x => x) (fun _ _ => rfl), k3.fr hf (fun _ _ _ x => x) (fun _ _ x => x) (fun _ _ => rfl)⟩, h.tagB, h.low⟩
def Left2 (R : Rep) (w w' : World) (B : Nat) (ds : List RDb) (bs is ps : List Value) : Prop :=
  (∃ tag' ds' ps', HInv R w' B tag' ds' bs is ps' ∧ ds'.length ≤ ds.length + 1 ∧ ps'.length ≤ ps.length + 4) ∧ Below B w w'
theorem left2_same {R : Rep} (H : ProgOk R) {w w' : World} {B : Nat} {tag : Nat → Tag} {ds : List RDb} {bs is ps : List Value} (h : HInv R w B tag ds bs is ps) (hb : Below w.heap.size w w') : Left2 R w w' B ds bs is ps :=
  ⟨⟨tag, ds, ps, h.below H hb, by omega, by omega⟩, hb.mono (by have := h.lt; omega)⟩
theorem HInv.retag {R : Rep} (H : ProgOk R) {w w' : World} {B : Nat} {tag : Nat → Tag} {ds : List RDb} {bs is ps : List Value} (h : HInv R w B tag ds bs is ps) (hb : Below w.heap.size w w') (f : Nat → Tag) : HInv R w' B (tagUp tag w.heap.size f) ds bs is ps := by
  have hz := h.lt
  obtain ⟨v, prs, bv, iv, pv, hB, hv, tv, hp, k1, k2, k3⟩ := h.mem
  have hf : Fr (fun _ => False) w w' := Fr.below hb
  have ht : ∀ k, k < w.heap.size → tagUp tag w.heap.size f k = tag k := fun k hk => tagUp_lt hk
  refine ⟨⟨v, prs, bv, iv, pv, blk_later hb (blk_lt hB) hB, owns_below hv hb, fun k hk => (ht k (hv.lt k hk).2).trans (tv k hk), hp.fr H hf (fun _ _ _ _ x => x) ht, k1.fr hf (fun _ _ _ x => x) (fun _ _ x => x) ht, k2.fr hf (fun _ _ _ x => x) (fun _ _ x => x) ht, k3.fr hf (fun _ _ _ x => x) (fun _ _ x => x) ht⟩, ?_, ?_⟩
  · rw [ht B hz]; exact h.tagB
  · intro k hk; rw [ht k (by omega)]; exact h.low k hk
theorem below_of_fr {w w' : World} {Out : Nat → Prop} {B : Nat} (hf : Fr Out w w') (hB : B ≤ w.heap.size) (ho : ∀ k, k < B → ¬ Out k) : Below B w w' :=
  ⟨hf.os, hf.tape, hf.output, hf.size, fun k hk => hf.block k (by omega) (ho k hk)⟩
theorem HInv.upd {R : Rep} (H : ProgOk R) {w w' : World} {B : Nat} {tag : Nat → Tag} {ds : List RDb} {bs is ps : List Value} (h : HInv R w B tag ds bs is ps) {j : Nat} {d' : RDb} {pd pr : Nat} (hj : j < ds.length)
    (hat : ∀ v prs bv iv pv, w.heap[B]? = some (.cells #[v, bv, iv, pv] 35) → w.ownsRow (B + 1) 53 2 v ds.length prs → prs[2 * j]? = some (.pointer (some ⟨pd, 0, none⟩)) ∧ prs[2 * j + 1]? = some (.pointer (some ⟨pr, 0, none⟩)))
    (hb : Both R w' (Up (fun k => tag k = .db j) w.heap.size) pd pr d') (hf : Fr (fun k => tag k = .db j) w w') : Left2 R w w' B ds bs is ps := by
  have hz := h.lt
  obtain ⟨v, prs, bv, iv, pv, hB, hv, tv, hp, k1, k2, k3⟩ := h.mem
  obtain ⟨ha1, ha2⟩ := hat v prs bv iv pv hB hv
  have ht : ∀ k, k < w.heap.size → tagUp tag w.heap.size (fun _ => .db j) k = tag k := fun k hk => tagUp_lt hk
  have hl : ∀ k, k < w.heap.size → tag k = .list → ¬ tag k = .db j := fun k _ h1 h2 => by rw [h1] at h2; cases h2
  have hw : ∀ u : Value, At tag u .world → ∀ k, u.ownBlock = some k → ¬ tag k = .db j := fun u hu k hk h2 => by rw [hu k hk] at h2; cases h2
  refine ⟨⟨tagUp tag w.heap.size (fun _ => .db j), ds.set j d', ps, ⟨⟨v, prs, bv, iv, pv, ?_, ?_, ?_, ?_, ?_, ?_, ?_⟩, ?_, ?_⟩, by rw [List.length_set]; omega, by omega⟩, ?_⟩
  · exact (hf.block B hz (by rw [h.tagB]; intro x; cases x)).trans hB
  · rw [List.length_set]
    exact owns_far hv fun b hb' hlt => hf.block b hlt (hw v tv b hb')
  · exact fun k hk => (ht k (hv.lt k hk).2).trans (tv k hk)
  · intro i d hd
    by_cases e : i = j
    · subst e
      rw [List.getElem?_set_self hj] at hd
      simp only [Option.some.injEq] at hd
      subst hd
      refine ⟨pd, pr, ha1, ha2, hb.weak fun k _ hk => ?_⟩
      rcases hk with hk | hk
      · by_cases x : k < w.heap.size
        · exact (ht k x).trans hk
        · exact tagUp_ge (by omega)
      · exact tagUp_ge hk
    · rw [List.getElem?_set_ne (fun x => e x.symm)] at hd
      obtain ⟨pd', pr', a, b, hb'⟩ := hp i d hd
      refine ⟨pd', pr', a, b, ?_⟩
      have h2 : Both R w (fun k => tagUp tag w.heap.size (fun _ => .db j) k = .db i) pd' pr' d := hb'.weak fun k hk hk2 => (ht k hk).trans hk2
      refine h2.fr H hf fun k hk hk2 hk3 => ?_
      rw [ht k hk, hk3] at hk2
      simp at hk2; exact e hk2.symm
  · exact k1.fr hf hl (hw _ k1.tagv) ht
  · exact k2.fr hf hl (hw _ k2.tagv) ht
  · exact k3.fr hf hl (hw _ k3.tagv) ht
  · rw [ht B hz]; exact h.tagB
  · intro k hk; rw [ht k (by omega)]; exact h.low k hk
  · exact below_of_fr hf (by omega) fun k hk x => by rw [h.low k hk] at x; cases x
end Go.Proofs.YthbbfjfekchdiaaGreat
namespace Go.Proofs.YthbbfjfekchdiaaGreat
open Go.RowKit
theorem mkP_four {n r : Nat} (h : n % 4 = 0) (hr : r < 4) : mkP (n + r) = mkP n := by
  unfold mkP
  rw [show ((n + r : Nat) : Int) / 4 = (n : Int) / 4 by omega]
theorem HInv.fet {R : Rep} (H : ProgOk R) {w w1 w' : World} {B : Nat} {tag : Nat → Tag} {ds : List RDb} {bs is ps : List Value} (h : HInv R w B tag ds bs is ps) (hb1 : Below w.heap.size w w1) {v bv iv pv vl pv' v1 v2 v3 m0 : Value} {n : Nat}
    (hB0 : w.heap[B]? = some (.cells #[v, bv, iv, pv] 35))
    (K : KI B w.heap.size v bv iv w1 w' vl pv pv' ((((ps ++ [vl]) ++ [v1]) ++ [v2]) ++ [v3]) [(vl, n), (v1, n + 1), (v2, n + 2), (v3, n + 3)] (mkP ps.length) m0) : Left2 R w w' B ds bs is ps := by
  have hz := h.lt
  obtain ⟨v_, prs, bv_, iv_, pv_, hB, hv, tv, hp, k1, k2, k3⟩ := h.mem
  rw [hB0] at hB
  simp only [Option.some.injEq, Obj.cells.injEq, Array.mk.injEq, List.cons.injEq, and_true] at hB
  obtain ⟨rfl, rfl, rfl, rfl⟩ := hB
  have hf : Fr (fun k => k = B ∨ pv.ownBlock = some k) w w' := by
    have f1 : Fr (fun k => k = B ∨ pv.ownBlock = some k) w w1 := Fr.below hb1
    refine (f1.trans K.fr fun k hk => ?_)
    rcases hk with hk | hk | hk
    · exact .inl (.inl hk)
    · exact .inl (.inr hk)
    · refine .inr ?_
      have := (K.rows (vl, n) (by simp)).lt k hk
      exact this.1
  have hw : ∀ k, (k = B ∨ pv.ownBlock = some k) → tag k = .world := by
    rintro k (rfl | hk)
    · exact h.tagB
    · exact k3.tagv k hk
  obtain ⟨tag', htag⟩ : ∃ t : Nat → Tag, t = tagUp tag w.heap.size (fun k => if pv'.ownBlock = some k then .world else .list) := ⟨_, rfl⟩
  have ht : ∀ k, k < w.heap.size → tag' k = tag k := fun k hk => by rw [htag]; exact tagUp_lt hk
  have hl : ∀ k, k < w.heap.size → tag k = .list → ¬ (k = B ∨ pv.ownBlock = some k) := fun k _ h1 h2 => by rw [hw k h2] at h1; cases h1
  have hd : ∀ k j, k < w.heap.size → tag k = .db j → ¬ (k = B ∨ pv.ownBlock = some k) := fun k j _ h1 h2 => by rw [hw k h2] at h1; cases h1
  have new : ∀ r ∈ [(vl, n), (v1, n + 1), (v2, n + 2), (v3, n + 3)], At tag' r.1 .list := by
    intro r hr k hk
    have ho := K.rows r hr
    have hge := (ho.lt k hk).1
    rw [htag, tagUp_ge hge, if_neg]
    intro e
    rcases owns_type ho K.own (by decide) with x | x
    · rw [x] at hk; cases hk
    · exact x (by rw [hk, e])
  have hne : ∀ (u : Value) (e s m : Nat) (xs : List Value), w.ownsRow (B + 1) e s u m xs → e ≠ 41 → ∀ k, u.ownBlock = some k → ¬ (k = B ∨ pv.ownBlock = some k) := by
    intro u e s m xs ho he k hk hx
    rcases hx with rfl | hx
    · exact owns_not ho (by omega) hk.symm
    · rcases owns_type ho k3.row he with x | x
      · rw [x] at hk; cases hk
      · exact x (by rw [hk, hx])
  refine ⟨⟨tag', ds, (((ps ++ [vl]) ++ [v1]) ++ [v2]) ++ [v3], ⟨⟨v, prs, bv, iv, pv', K.blk, ?_, ?_, ?_, ?_, ?_, ?_⟩, ?_, ?_⟩, by omega, by simp⟩, ?_⟩
  · exact owns_far hv fun b hb hlt => hf.block b hlt (hne v _ _ _ _ hv (by decide) b hb)
  · exact fun k hk => (ht k (hv.lt k hk).2).trans (tv k hk)
  · exact hp.fr H hf hd ht
  · exact k1.fr hf hl (hne _ _ _ _ _ k1.row (by decide)) ht
  · exact k2.fr hf hl (hne _ _ _ _ _ k2.row (by decide)) ht
  · refine ⟨K.own, ?_, ?_, ?_⟩
    · intro k hk
      by_cases x : k < w.heap.size
      · rw [ht k x]
        rcases K.pvb k hk with y | y
        · exact k3.tagv k y
        · have := hb1.size; omega
      · rw [htag, tagUp_ge (by omega), if_pos hk]
    · have old := k3.one.fr hf hl ht
      intro i u hu
      by_cases h0 : i < ps.length
      · rw [List.getElem?_append_left (by simp; omega), List.getElem?_append_left (by simp; omega), List.getElem?_append_left (by simp; omega), List.getElem?_append_left h0] at hu
        exact old i u hu
      · have e4 : ((((ps ++ [vl]) ++ [v1]) ++ [v2]) ++ [v3]) = ps ++ [vl, v1, v2, v3] := by simp
        rw [e4, List.getElem?_append_right (by omega)] at hu
        obtain ⟨r, hr⟩ : ∃ r, i = ps.length + r := ⟨i - ps.length, by omega⟩
        subst hr
        rw [Nat.add_sub_cancel_left] at hu
        have hr4 : r < 4 := by obtain ⟨x, _⟩ := List.getElem?_eq_some_iff.1 hu; simpa using x
        rw [mkP_four k3.four hr4]
        have h4 : r = 0 ∨ r = 1 ∨ r = 2 ∨ r = 3 := by omega
        rcases h4 with rfl | rfl | rfl | rfl
        · simp at hu; subst hu
          exact ⟨n, owns_base (K.rows (vl, n) (by simp)) (Nat.zero_le _), new (vl, n) (by simp)⟩
        · simp at hu; subst hu
          exact ⟨n + 1, owns_base (K.rows (v1, n + 1) (by simp)) (Nat.zero_le _), new (v1, n + 1) (by simp)⟩
        · simp at hu; subst hu
          exact ⟨n + 2, owns_base (K.rows (v2, n + 2) (by simp)) (Nat.zero_le _), new (v2, n + 2) (by simp)⟩
        · simp at hu; subst hu
          exact ⟨n + 3, owns_base (K.rows (v3, n + 3) (by simp)) (Nat.zero_le _), new (v3, n + 3) (by simp)⟩
    · have := k3.four
      simp; omega
  · rw [ht B hz]; exact h.tagB
  · intro k hk; rw [ht k (by omega)]; exact h.low k hk
  · exact below_of_fr hf (by omega) fun k hk x => by have := hw k x; rw [h.low k hk] at this; cases this
theorem HInv.one {R : Rep} (H : ProgOk R) {w w1 w3 : World} {B : Nat} {tag : Nat → Tag} {ds : List RDb} {bs is ps : List Value} (h : HInv R w B tag ds bs is ps) {d : RDb} {pd pr n0 g cap : Nat} {O : Obj} {v bv iv pv : Value} {prs : List Value}
    (hB : w.heap[B]? = some (.cells #[v, bv, iv, pv] 35)) (hv : w.ownsRow (B + 1) 53 2 v ds.length prs)
    (h0 : ∀ k, n0 ≤ k → k < w.heap.size → tag k = .db ds.length) (hb : Both R w (fun k => n0 ≤ k) pd pr d) (he : w1 = w.alloc O)
    (hown : w3.ownsRow (B + 1) 53 2 (.slice (some ⟨g, 0, none⟩) (ds.length + 1) cap) (ds.length + 1) (prs ++ [.pointer (some ⟨pd, 0, none⟩), .pointer (some ⟨pr, 0, none⟩)])) (hgrow : w1.grownBy w3 v.ownBlock) (hat : v.ownBlock = some g ∨ w.heap.size < g) :
    HInv R (w3.setCell ⟨B, 0, none⟩ (.slice (some ⟨g, 0, none⟩) (ds.length + 1) cap)) B (tagUp tag w.heap.size (fun _ => .world)) (ds ++ [d]) bs is ps ∧ Below B w (w3.setCell ⟨B, 0, none⟩ (.slice (some ⟨g, 0, none⟩) (ds.length + 1) cap)) := by
  subst he
  have hz := h.lt
  obtain ⟨v_, prs_, bv_, iv_, pv_, hB', hv', tv, hp, k1, k2, k3⟩ := h.mem
  have hBB := hB
  rw [hB] at hB'
  simp only [Option.some.injEq, Obj.cells.injEq, Array.mk.injEq, List.cons.injEq, and_true] at hB'
  obtain ⟨rfl, rfl, rfl, rfl⟩ := hB'
  have hprs : prs_ = prs := by
    obtain ⟨l1, ⟨x1, y1⟩ | ⟨g1, cap1, cur1, e1, _, b1, _, _, _, t1⟩⟩ := hv
    · obtain ⟨l2, _⟩ := hv'
      rw [y1] at l1 l2
      rw [List.length_eq_zero_iff.1 (by omega : prs_.length = 0), List.length_eq_zero_iff.1 (by omega : prs.length = 0)]
    · obtain ⟨l2, ⟨x2, y2⟩ | ⟨g2, cap2, cur2, e2, _, b2, _, _, _, t2⟩⟩ := hv'
      · rw [e1] at x2; cases x2
      · rw [e1] at e2
        simp only [Value.slice.injEq, Option.some.injEq, Addr.mk.injEq, and_true, true_and] at e2
        obtain ⟨rfl, rfl⟩ := e2
        rw [b1] at b2
        simp only [Option.some.injEq, Obj.cells.injEq, and_true] at b2
        subst b2
        rw [← t1, ← t2]
  subst hprs
  have hf3 : Fr (fun k => k = B ∨ v.ownBlock = some k) w w3 := ((Fr.refl _ w).alloc O).grown' hgrow fun k hk => .inl (.inr hk)
  have hf : Fr (fun k => k = B ∨ v.ownBlock = some k) w (w3.setCell ⟨B, 0, none⟩ (.slice (some ⟨g, 0, none⟩) (ds.length + 1) cap)) := hf3.set (.inl (.inl rfl)) 0 _
  have hB3 : w3.heap[B]? = some (.cells #[v, bv, iv, pv] 35) := (hgrow.block B (by simp; omega) (owns_not hv (by omega))).trans (blk_alloc hBB)
  have hw : ∀ k, (k = B ∨ v.ownBlock = some k) → tag k = .world := by
    rintro k (rfl | hk)
    · exact h.tagB
    · exact tv k hk
  have ht : ∀ k, k < w.heap.size → tagUp tag w.heap.size (fun _ => .world) k = tag k := fun k hk => tagUp_lt hk
  have hl : ∀ k, k < w.heap.size → tag k = .list → ¬ (k = B ∨ v.ownBlock = some k) := fun k _ h1 h2 => by rw [hw k h2] at h1; cases h1
  have hd : ∀ k j, k < w.heap.size → tag k = .db j → ¬ (k = B ∨ v.ownBlock = some k) := fun k j _ h1 h2 => by rw [hw k h2] at h1; cases h1
  have hne : ∀ (u : Value) (e s m : Nat) (xs : List Value), w.ownsRow (B + 1) e s u m xs → e ≠ 53 → ∀ k, u.ownBlock = some k → ¬ (k = B ∨ v.ownBlock = some k) := by
    intro u e s m xs ho he k hk hx
    rcases hx with rfl | hx
    · exact owns_not ho (by omega) hk.symm
    · rcases owns_type ho hv he with x | x
      · rw [x] at hk; cases hk
      · exact x (by rw [hk, hx])
  refine ⟨⟨⟨.slice (some ⟨g, 0, none⟩) (ds.length + 1) cap, prs_ ++ [.pointer (some ⟨pd, 0, none⟩), .pointer (some ⟨pr, 0, none⟩)], bv, iv, pv, blk_setCell hB3 0 _, ?_, ?_, ?_, ?_, ?_, ?_⟩, ?_, ?_⟩, ?_⟩
  · rw [List.length_append]
    exact ownsRow_setCell_below hown (by simp) _
  · intro k hk
    simp only [Value.ownBlock, Option.some.injEq] at hk
    subst hk
    rcases hat with x | x
    · rw [ht g (hv.lt g x).2]; exact tv g x
    · exact tagUp_ge (by omega)
  · intro j d' hj
    have hlen : prs_.length = ds.length * 2 := hv.1
    by_cases e : j < ds.length
    · rw [List.getElem?_append_left e] at hj
      obtain ⟨pd', pr', a, b, hb'⟩ := (hp.fr H hf hd ht) j d' hj
      refine ⟨pd', pr', ?_, ?_, hb'⟩
      · rw [List.getElem?_append_left (by omega)]; exact a
      · rw [List.getElem?_append_left (by omega)]; exact b
    · have ej : j = ds.length := by
        obtain ⟨x, _⟩ := List.getElem?_eq_some_iff.1 hj
        simp at x; omega
      subst ej
      rw [List.getElem?_append_right (Nat.le_refl _)] at hj
      simp at hj
      subst hj
      refine ⟨pd, pr, ?_, ?_, ?_⟩
      · rw [List.getElem?_append_right (by omega), hlen, show 2 * ds.length - ds.length * 2 = 0 by omega]; rfl
      · rw [List.getElem?_append_right (by omega), hlen, show 2 * ds.length + 1 - ds.length * 2 = 1 by omega]; rfl
      · have h2 : Both R w (fun k => tagUp tag w.heap.size (fun _ => .world) k = .db ds.length) pd pr d := hb.weak fun k hk hk2 => (ht k hk).trans (h0 k hk2 hk)
        exact h2.fr H hf fun k hk hk2 => hd k _ hk ((ht k hk).symm.trans hk2)
  · exact k1.fr hf hl (hne _ _ _ _ _ k1.row (by decide)) ht
  · exact k2.fr hf hl (hne _ _ _ _ _ k2.row (by decide)) ht
  · exact k3.fr hf hl (hne _ _ _ _ _ k3.row (by decide)) ht
  · rw [ht B hz]; exact h.tagB
  · intro k hk; rw [ht k (by omega)]; exact h.low k hk
  · exact below_of_fr hf (by omega) fun k hk x => by have := hw k x; rw [h.low k hk] at this; cases this
end Go.Proofs.YthbbfjfekchdiaaGreat
namespace Go.Proofs.YthbbfjfekchdiaaGreat
open Go.RowKit
set_option linter.unusedSimpArgs false
theorem Tryz.infoPairs : (Tryz.prog.info? 53).map (fun i => (i.zero, i.size, i.bytes)) = some (some (.agg #[.pointer none, .pointer none]), 2, 16) := by kernel_rfl
set_option maxHeartbeats 1000000 in
theorem one2_no (B : Nat) (w : World) :
    Calls Tryz.prog 22 #[.pointer (some ⟨B, 0, none⟩), .pointer none, .pointer none] w fun e w' => e = .returned (.bool true) ∧ Below w.heap.size w w' := by
  go_enter Tryz.func22, Tryz.ntmps22
  go_wp2
  go_ret
  exact ⟨rfl, Below.refl _ _⟩
set_option maxHeartbeats 2000000 in
theorem one2_yes {R : Rep} (H : ProgOk R) (B pd pr n0 : Nat) (d : RDb) (w : World) (tag : Nat → Tag) (ds : List RDb) (bs is ps : List Value) (hI : HInv R w B tag ds bs is ps) (h0 : ∀ k, n0 ≤ k → k < w.heap.size → tag k = .db ds.length) (hb : Both R w (fun k => n0 ≤ k) pd pr d) (hn : ds.length ≤ 1000000000000) :
    Calls Tryz.prog 22 #[.pointer (some ⟨B, 0, none⟩), .pointer (some ⟨pd, 0, none⟩), .pointer (some ⟨pr, 0, none⟩)] w fun e w' => e = .returned (.bool true) ∧ (∃ tag', HInv R w' B tag' (ds ++ [d]) bs is ps) ∧ Below B w w' := by
  obtain ⟨v, prs, bv, iv, pv, hB, hv, tv, hp, k1, k2, k3⟩ := hI.mem
  obtain ⟨i0, hi, hz0, hz1, hz2⟩ := info_parts Tryz.infoPairs
  have HI0 := hid (And.intro hi (And.intro hz0 (And.intro hz1 hz2)))
  have d0 : w.cell? ⟨B, 0, none⟩ = some v := cell_of_blk hB 0
  have f0 : w.frozen? ⟨B, 0, none⟩ = false := frozen_of_blk hB 0
  have hz := blk_lt hB
  have HS := hid (fun (w3 : World) (g cap : Nat) (O : Obj) h1 h2 h3 => HInv.one H (w1 := w.alloc O) (w3 := w3) (g := g) (cap := cap) (O := O) hI hB hv h0 hb rfl h1 h2 h3)
  have HD := hid (show some B ≠ v.ownBlock from owns_not hv (by omega))
  have HO := hid hv
  have HB := hid hB
  clear hi hz0 hz1 hz2 hI h0 hb hv hB tv hp k1 k2 k3
  go_enter Tryz.func22, Tryz.ntmps22
  go_wp2_with (at_builtin; refine wpList_append_lies _ rfl (.tmp 18) (.tmp 22) 28 rfl (B + 1) 53 i0 _ 2 16 Tryz.underlying28 HI0.out.1 HI0.out.2.1 HI0.out.2.2.1 HI0.out.2.2.2 rfl (by decide) v ds.length prs rfl (HO.out.alloc _) ⟨w.heap.size, 0, none⟩ 1 1 [.pointer (some ⟨pd, 0, none⟩), .pointer (some ⟨pr, 0, none⟩)] rfl rfl (World.news_of_block (heap_alloc_new w _)) (by simp [Value.oneCell']) (by decide) ?_ ?_ ?_ (w.heap.size + 1) (by simp) ?_)
  · unfold maxLen; omega
  · omega
  · simp; omega
  intro g cap w3 hown3 hgrow hat hlt3
  have blk3 := (hgrow.block B (by simp; omega) HD.out).trans (blk_alloc HB.out)
  have d3 : w3.cell? ⟨B, 0, none⟩ = some v := cell_of_blk blk3 0
  have f3 : w3.frozen? ⟨B, 0, none⟩ = false := frozen_of_blk blk3 0
  have hz3 : B < w3.heap.size := blk_lt blk3
  have HR := hid (HS.out w3 g cap _ hown3 hgrow (hat.elim .inl fun e => .inr (by omega)))
  clear hown3 hgrow hat hlt3 blk3
  go_wp2
  go_ret
  exact ⟨rfl, ⟨_, HR.out.1⟩, HR.out.2⟩
end Go.Proofs.YthbbfjfekchdiaaGreat
