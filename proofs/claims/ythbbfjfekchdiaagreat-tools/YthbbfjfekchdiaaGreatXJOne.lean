import Derived.Test.YthbbfjfekchdiaaGreatXZValues
import Derived.Test.YthbbfjfekchdiaaGreatXZDiff
import Derived.Test.YthbbfjfekchdiaaGreatXZResize
import Derived.Test.YthbbfjfekchdiaaGreatXHPick
import Derived.Test.YthbbfjfekchdiaaGreatXHKeepsB
namespace Go.Proofs.YthbbfjfekchdiaaGreat
open Go.RowKit
def LdPost (R : Rep) (w : World) (b : List Int) (e : Ending) (w' : World) : Prop :=
  Below w.heap.size w w' ∧ (loadL b = none → e = .returned (.tuple #[.pointer none, i64 5])) ∧ ∀ d, loadL b = some d → ∃ p, e = .returned (.tuple #[.pointer (some ⟨p, 0, none⟩), i64 0]) ∧ R w' (fun k => w.heap.size ≤ k) p d
def RzPost (R : Rep) (w : World) (d : RDb) (now : Int) (c : Cfg) (e : Ending) (w' : World) : Prop :=
  Below w.heap.size w w' ∧ (resizeErr now c ≠ 0 → e = .returned (.tuple #[.pointer none, i64 (resizeErr now c)])) ∧
    (resizeErr now c = 0 → ∃ q, e = .returned (.tuple #[.pointer (some ⟨q, 0, none⟩), i64 0]) ∧ R w' (fun k => w.heap.size ≤ k) q (resizeR d now c))
structure ProgOk2 (R : Rep) : Prop where
  base : ProgOk R
  al : ∀ {w : World} {In : Nat → Prop} {p : Nat} {d : RDb}, R w In p d → d.Ok ∧ d.Al
  save : ∀ (p : Nat) (d : RDb) (In : Nat → Prop) (w : World), R w In p d → Calls Tryz.prog 31 #[.pointer (some ⟨p, 0, none⟩)] w fun e w' => ∃ v, e = .returned v ∧ SvI w w' v (saveL d)
  load : ∀ (v : Value) (b : List Int) (w : World), RowB w v b → ByteL b → OutB (fun k => w.heap.size ≤ k) v → Calls Tryz.prog 25 #[v] w fun e w' => LdPost R w b e w'
  resize : ∀ (p : Nat) (now : Int) (c : Cfg) (d : RDb) (In : Nat → Prop) (w : World), R w In p d → Calls Tryz.prog 35 #[.pointer (some ⟨p, 0, none⟩), i64 now, .agg #[i64 c.s0, i64 c.k0, i64 c.s1, i64 c.k1, i64 c.s2, i64 c.k2, i64 c.s3, i64 c.k3, i64 c.m, i64 c.f]] w fun e w' => RzPost R w d now c e w'
  diff : ∀ (p q : Nat) (d o : RDb) (In Jn : Nat → Prop) (w : World), R w In p d → R w Jn q o → Calls Tryz.prog 70 #[.pointer (some ⟨p, 0, none⟩), .pointer (some ⟨q, 0, none⟩)] w fun e w' => ∃ v, e = .returned (.tuple #[v, i64 (diffErr d o)]) ∧ DfI w w' v (diffN d o) ∧ (diffErr d o ≠ 0 → v = .slice none 0 0)
end Go.Proofs.YthbbfjfekchdiaaGreat
namespace Go.Proofs.YthbbfjfekchdiaaGreat
open Go.RowKit
def Ap (bs : List Value) : Prop := ∀ (i j : Nat) (u v : Value) (k : Nat), bs[i]? = some u → bs[j]? = some v → u.ownBlock = some k → v.ownBlock = some k → i / 4 = j / 4
theorem Ap.nil : Ap [] := fun i j u v k h => by simp at h
def Left3 (R : Rep) (w w' : World) (B : Nat) (ds : List RDb) (bs is ps : List Value) : Prop :=
  (∃ tag' ds' bs' is' ps', HInv R w' B tag' ds' bs' is' ps' ∧ ds'.length ≤ ds.length + 1 ∧ bs'.length ≤ bs.length + 4 ∧ is'.length ≤ is.length + 4 ∧ ps'.length ≤ ps.length + 4 ∧ (Ap bs → Ap bs')) ∧ Below B w w'
theorem Left2.three {R : Rep} {w w' : World} {B : Nat} {ds : List RDb} {bs is ps : List Value} (h : Left2 R w w' B ds bs is ps) : Left3 R w w' B ds bs is ps := by
  obtain ⟨⟨tag', ds', ps', a, b, c⟩, d⟩ := h
  exact ⟨⟨tag', ds', bs, is, ps', a, b, by omega, by omega, c, id⟩, d⟩
structure AskPost3 (R : Rep) (w w' : World) (B : Nat) (tag : Nat → Tag) (ds : List RDb) (bs is ps : List Value) : Prop where
  left : Left3 R w w' B ds bs is ps
  arg : ∀ k, k < w.heap.size → tag k = .arg → w'.heap[k]? = w.heap[k]?
theorem AskPost.three {R : Rep} {w w' : World} {B : Nat} {tag : Nat → Tag} {ds : List RDb} {bs is ps : List Value} {g : Nat} (h : AskPost R w w' B tag ds bs is ps g) : AskPost3 R w w' B tag ds bs is ps :=
  ⟨h.left.three, h.arg⟩
theorem owns_cells {w : World} {base e size n : Nat} {v : Value} {xs : List Value} (h : w.ownsRow base e size v n xs) {k : Nat} (hk : v.ownBlock = some k) : ∃ cs, w.heap[k]? = some (.cells cs e) := by
  obtain ⟨_, ⟨h, _⟩ | ⟨g, cap, cur, hv, _, hblk, _⟩⟩ := h
  · rw [h] at hk; cases hk
  · rw [hv] at hk
    cases hk
    exact ⟨cur, hblk⟩
theorem mkB_four {n r : Nat} (h : n % 4 = 0) (hr : r < 4) : mkB (n + r) = mkB n := by
  unfold mkB
  rw [show ((n + r : Nat) : Int) / 4 = (n : Int) / 4 by omega]
theorem mkI_four {n r : Nat} (h : n % 4 = 0) (hr : r < 4) : mkI (n + r) = mkI n := by
  unfold mkI
  rw [show ((n + r : Nat) : Int) / 4 = (n : Int) / 4 by omega]
theorem Ap.four {w : World} {te : Nat} {tag : Nat → Tag} {bs : List Value} {vl v1 v2 v3 : Value} {mk : Nat → List Value} (h : Ap bs) (h4 : bs.length % 4 = 0) (old : EnOk w tag te 1 mk bs) (new : ∀ u ∈ [vl, v1, v2, v3], ∀ k, u.ownBlock = some k → w.heap.size ≤ k) : Ap ((((bs ++ [vl]) ++ [v1]) ++ [v2]) ++ [v3]) := by
  have e4 : ((((bs ++ [vl]) ++ [v1]) ++ [v2]) ++ [v3]) = bs ++ [vl, v1, v2, v3] := by simp
  rw [e4]
  have key : ∀ (i : Nat) (u : Value) (k : Nat), (bs ++ [vl, v1, v2, v3])[i]? = some u → u.ownBlock = some k → (i < bs.length ∧ bs[i]? = some u ∧ k < w.heap.size) ∨ (bs.length ≤ i ∧ i < bs.length + 4 ∧ w.heap.size ≤ k) := by
    intro i u k hi hk
    by_cases x : i < bs.length
    · rw [List.getElem?_append_left x] at hi
      obtain ⟨m, ho, _⟩ := old i u hi
      exact .inl ⟨x, hi, (ho.lt k hk).2⟩
    · rw [List.getElem?_append_right (by omega)] at hi
      have hm : u ∈ [vl, v1, v2, v3] := List.mem_iff_getElem?.2 ⟨_, hi⟩
      have hlt : i - bs.length < 4 := by obtain ⟨y, _⟩ := List.getElem?_eq_some_iff.1 hi; simpa using y
      exact .inr ⟨by omega, by omega, new u hm k hk⟩
  intro i j u v k hi hj hu hv
  rcases key i u k hi hu with ⟨a1, a2, a3⟩ | ⟨a1, a2, a3⟩ <;> rcases key j v k hj hv with ⟨b1, b2, b3⟩ | ⟨b1, b2, b3⟩
  · exact h i j u v k a2 b2 hu hv
  · omega
  · omega
  · omega
theorem HInv.fetB {R : Rep} (H : ProgOk R) {w w1 w' : World} {B : Nat} {tag : Nat → Tag} {ds : List RDb} {bs is ps : List Value} (h : HInv R w B tag ds bs is ps) (hb1 : Below w.heap.size w w1) {v bv iv pv vl bv' v1 v2 v3 : Value} {n : Nat} (f : Nat → Tag)
    (hB0 : w.heap[B]? = some (.cells #[v, bv, iv, pv] 35))
    (K : KJ (fun x => #[v, x, iv, pv]) 5 57 B w.heap.size w1 w' vl bv bv' ((((bs ++ [vl]) ++ [v1]) ++ [v2]) ++ [v3]) [(vl, n), (v1, n + 1), (v2, n + 2), (v3, n + 3)] (mkB bs.length)) :
    ∃ tag' : Nat → Tag, (∀ k, k < w.heap.size → tag' k = tag k) ∧ (∀ k, w.heap.size ≤ k → bv'.ownBlock ≠ some k → (¬ ∃ cs, w'.heap[k]? = some (.cells cs 5)) → tag' k = f k) ∧ HInv R w' B tag' ds ((((bs ++ [vl]) ++ [v1]) ++ [v2]) ++ [v3]) is ps ∧ Below B w w' ∧ (Ap bs → Ap ((((bs ++ [vl]) ++ [v1]) ++ [v2]) ++ [v3])) ∧ Fr (fun k => k = B ∨ bv.ownBlock = some k) w w' := by
  have hz := h.lt
  obtain ⟨v_, prs, bv_, iv_, pv_, hB, hv, tv, hp, k1, k2, k3⟩ := h.mem
  rw [hB0] at hB
  simp only [Option.some.injEq, Obj.cells.injEq, Array.mk.injEq, List.cons.injEq, and_true] at hB
  obtain ⟨rfl, rfl, rfl, rfl⟩ := hB
  have hf : Fr (fun k => k = B ∨ bv.ownBlock = some k) w w' := by
    have f1 : Fr (fun k => k = B ∨ bv.ownBlock = some k) w w1 := Fr.below hb1
    refine (f1.trans K.fr fun k hk => ?_)
    rcases hk with hk | hk | hk
    · exact .inl (.inl hk)
    · exact .inl (.inr hk)
    · refine .inr ?_
      have := (K.rows (vl, n) (by simp)).lt k hk
      exact this.1
  have hw : ∀ k, (k = B ∨ bv.ownBlock = some k) → tag k = .world := by
    rintro k (rfl | hk)
    · exact h.tagB
    · exact k1.tagv k hk
  obtain ⟨tag', ht, htw, htl, hto⟩ : ∃ t : Nat → Tag, (∀ k, k < w.heap.size → t k = tag k) ∧ (∀ k, w.heap.size ≤ k → bv'.ownBlock = some k → t k = .world) ∧ (∀ k, w.heap.size ≤ k → bv'.ownBlock ≠ some k → (∃ cs, w'.heap[k]? = some (.cells cs 5)) → t k = .list) ∧ (∀ k, w.heap.size ≤ k → bv'.ownBlock ≠ some k → (¬ ∃ cs, w'.heap[k]? = some (.cells cs 5)) → t k = f k) :=
    ⟨tagUp tag w.heap.size fun k => @ite _ (bv'.ownBlock = some k) (Classical.propDecidable _) .world (@ite _ (∃ cs, w'.heap[k]? = some (.cells cs 5)) (Classical.propDecidable _) .list (f k)), fun k hk => tagUp_lt hk, fun k hk h1 => (tagUp_ge hk).trans (if_pos h1), fun k hk h1 h2 => (tagUp_ge hk).trans ((if_neg h1).trans (if_pos h2)), fun k hk h1 h2 => (tagUp_ge hk).trans ((if_neg h1).trans (if_neg h2))⟩
  refine ⟨tag', ht, hto, ?_⟩
  have hl : ∀ k, k < w.heap.size → tag k = .list → ¬ (k = B ∨ bv.ownBlock = some k) := fun k _ h1 h2 => by rw [hw k h2] at h1; cases h1
  have hd : ∀ k j, k < w.heap.size → tag k = .db j → ¬ (k = B ∨ bv.ownBlock = some k) := fun k j _ h1 h2 => by rw [hw k h2] at h1; cases h1
  have new : ∀ r ∈ [(vl, n), (v1, n + 1), (v2, n + 2), (v3, n + 3)], At tag' r.1 .list := by
    intro r hr k hk
    have ho := K.rows r hr
    have hge := (ho.lt k hk).1
    refine htl k hge (fun e => ?_) (owns_cells ho hk)
    rcases owns_type ho K.own (by decide) with x | x
    · rw [x] at hk; cases hk
    · exact x (by rw [hk, e])
  have hne : ∀ (u : Value) (e s m : Nat) (xs : List Value), w.ownsRow (B + 1) e s u m xs → e ≠ 57 → ∀ k, u.ownBlock = some k → ¬ (k = B ∨ bv.ownBlock = some k) := by
    intro u e s m xs ho he k hk hx
    rcases hx with rfl | hx
    · exact owns_not ho (by omega) hk.symm
    · rcases owns_type ho k1.row he with x | x
      · rw [x] at hk; cases hk
      · exact x (by rw [hk, hx])
  refine ⟨⟨⟨v, prs, bv', iv, pv, K.blk, ?_, ?_, ?_, ?bk, ?_, ?_⟩, ?_, ?_⟩, ?_, ?ap, hf⟩
  · exact owns_far hv fun b hb hlt => hf.block b hlt (hne v _ _ _ _ hv (by decide) b hb)
  · exact fun k hk => (ht k (hv.lt k hk).2).trans (tv k hk)
  · exact hp.fr H hf hd ht
  case bk =>
    refine ⟨K.own, ?_, ?_, ?_⟩
    · intro k hk
      by_cases x : k < w.heap.size
      · rw [ht k x]
        rcases K.pvb k hk with y | y
        · exact k1.tagv k y
        · have := hb1.size; omega
      · exact htw k (by omega) hk
    · have old := k1.one.fr hf hl ht
      intro i u hu
      by_cases h0 : i < bs.length
      · rw [List.getElem?_append_left (by simp; omega), List.getElem?_append_left (by simp; omega), List.getElem?_append_left (by simp; omega), List.getElem?_append_left h0] at hu
        exact old i u hu
      · have e4 : ((((bs ++ [vl]) ++ [v1]) ++ [v2]) ++ [v3]) = bs ++ [vl, v1, v2, v3] := by simp
        rw [e4, List.getElem?_append_right (by omega)] at hu
        obtain ⟨r, hr⟩ : ∃ r, i = bs.length + r := ⟨i - bs.length, by omega⟩
        subst hr
        rw [Nat.add_sub_cancel_left] at hu
        have hr4 : r < 4 := by obtain ⟨x, _⟩ := List.getElem?_eq_some_iff.1 hu; simpa using x
        rw [mkB_four k1.four hr4]
        have h4 : r = 0 ∨ r = 1 ∨ r = 2 ∨ r = 3 := by omega
        rcases h4 with rfl | rfl | rfl | rfl
        · simp at hu; subst hu
          exact ⟨n, owns_base (K.rows (vl, n) (by simp)) (Nat.zero_le _), new (vl, n) (by simp)⟩
        · simp at hu; subst hu
          exact ⟨n + 1, owns_base (K.rows (v1, n + 1) (by simp)) (Nat.zero_le _), new (v1, n + 1) (by simp)⟩
        · simp at hu; subst hu
          exact ⟨n + 2, owns_base (K.rows (v2, n + 2) (by simp)) (Nat.zero_le _), new (v2, n + 2) (by simp)⟩
        · simp at hu; subst hu
          exact ⟨n + 3, owns_base (K.rows (v3, n + 3) (by simp)) (Nat.zero_le _), new (v3, n + 3) (by simp)⟩
    · have := k1.four
      simp; omega
  · exact k2.fr hf hl (hne _ _ _ _ _ k2.row (by decide)) ht
  · exact k3.fr hf hl (hne _ _ _ _ _ k3.row (by decide)) ht
  · rw [ht B hz]; exact h.tagB
  · intro k hk; rw [ht k (by omega)]; exact h.low k hk
  · exact below_of_fr hf (by omega) fun k hk x => by have := hw k x; rw [h.low k hk] at this; cases this
  case ap =>
    intro ha
    refine ha.four k1.four k1.one fun u hu k hk => ?_
    simp only [List.mem_cons, List.not_mem_nil, or_false] at hu
    rcases hu with rfl | rfl | rfl | rfl
    · exact ((K.rows (u, n) (by simp)).lt k hk).1
    · exact ((K.rows (u, n + 1) (by simp)).lt k hk).1
    · exact ((K.rows (u, n + 2) (by simp)).lt k hk).1
    · exact ((K.rows (u, n + 3) (by simp)).lt k hk).1
theorem HInv.fetI {R : Rep} (H : ProgOk R) {w w1 w' : World} {B : Nat} {tag : Nat → Tag} {ds : List RDb} {bs is ps : List Value} (h : HInv R w B tag ds bs is ps) (hb1 : Below w.heap.size w w1) {v bv iv pv vl iv' v1 v2 v3 : Value} {n : Nat} (f : Nat → Tag)
    (hB0 : w.heap[B]? = some (.cells #[v, bv, iv, pv] 35))
    (K : KJ (fun x => #[v, bv, x, pv]) 3 24 B w.heap.size w1 w' vl iv iv' ((((is ++ [vl]) ++ [v1]) ++ [v2]) ++ [v3]) [(vl, n), (v1, n + 1), (v2, n + 2), (v3, n + 3)] (mkI is.length)) :
    ∃ tag' : Nat → Tag, (∀ k, k < w.heap.size → tag' k = tag k) ∧ (∀ k, w.heap.size ≤ k → iv'.ownBlock ≠ some k → (¬ ∃ cs, w'.heap[k]? = some (.cells cs 3)) → tag' k = f k) ∧ HInv R w' B tag' ds bs ((((is ++ [vl]) ++ [v1]) ++ [v2]) ++ [v3]) ps ∧ Below B w w'  ∧ Fr (fun k => k = B ∨ iv.ownBlock = some k) w w' := by
  have hz := h.lt
  obtain ⟨v_, prs, bv_, iv_, pv_, hB, hv, tv, hp, k1, k2, k3⟩ := h.mem
  rw [hB0] at hB
  simp only [Option.some.injEq, Obj.cells.injEq, Array.mk.injEq, List.cons.injEq, and_true] at hB
  obtain ⟨rfl, rfl, rfl, rfl⟩ := hB
  have hf : Fr (fun k => k = B ∨ iv.ownBlock = some k) w w' := by
    have f1 : Fr (fun k => k = B ∨ iv.ownBlock = some k) w w1 := Fr.below hb1
    refine (f1.trans K.fr fun k hk => ?_)
    rcases hk with hk | hk | hk
    · exact .inl (.inl hk)
    · exact .inl (.inr hk)
    · refine .inr ?_
      have := (K.rows (vl, n) (by simp)).lt k hk
      exact this.1
  have hw : ∀ k, (k = B ∨ iv.ownBlock = some k) → tag k = .world := by
    rintro k (rfl | hk)
    · exact h.tagB
    · exact k2.tagv k hk
  obtain ⟨tag', ht, htw, htl, hto⟩ : ∃ t : Nat → Tag, (∀ k, k < w.heap.size → t k = tag k) ∧ (∀ k, w.heap.size ≤ k → iv'.ownBlock = some k → t k = .world) ∧ (∀ k, w.heap.size ≤ k → iv'.ownBlock ≠ some k → (∃ cs, w'.heap[k]? = some (.cells cs 3)) → t k = .list) ∧ (∀ k, w.heap.size ≤ k → iv'.ownBlock ≠ some k → (¬ ∃ cs, w'.heap[k]? = some (.cells cs 3)) → t k = f k) :=
    ⟨tagUp tag w.heap.size fun k => @ite _ (iv'.ownBlock = some k) (Classical.propDecidable _) .world (@ite _ (∃ cs, w'.heap[k]? = some (.cells cs 3)) (Classical.propDecidable _) .list (f k)), fun k hk => tagUp_lt hk, fun k hk h1 => (tagUp_ge hk).trans (if_pos h1), fun k hk h1 h2 => (tagUp_ge hk).trans ((if_neg h1).trans (if_pos h2)), fun k hk h1 h2 => (tagUp_ge hk).trans ((if_neg h1).trans (if_neg h2))⟩
  refine ⟨tag', ht, hto, ?_⟩
  have hl : ∀ k, k < w.heap.size → tag k = .list → ¬ (k = B ∨ iv.ownBlock = some k) := fun k _ h1 h2 => by rw [hw k h2] at h1; cases h1
  have hd : ∀ k j, k < w.heap.size → tag k = .db j → ¬ (k = B ∨ iv.ownBlock = some k) := fun k j _ h1 h2 => by rw [hw k h2] at h1; cases h1
  have new : ∀ r ∈ [(vl, n), (v1, n + 1), (v2, n + 2), (v3, n + 3)], At tag' r.1 .list := by
    intro r hr k hk
    have ho := K.rows r hr
    have hge := (ho.lt k hk).1
    refine htl k hge (fun e => ?_) (owns_cells ho hk)
    rcases owns_type ho K.own (by decide) with x | x
    · rw [x] at hk; cases hk
    · exact x (by rw [hk, e])
  have hne : ∀ (u : Value) (e s m : Nat) (xs : List Value), w.ownsRow (B + 1) e s u m xs → e ≠ 24 → ∀ k, u.ownBlock = some k → ¬ (k = B ∨ iv.ownBlock = some k) := by
    intro u e s m xs ho he k hk hx
    rcases hx with rfl | hx
    · exact owns_not ho (by omega) hk.symm
    · rcases owns_type ho k2.row he with x | x
      · rw [x] at hk; cases hk
      · exact x (by rw [hk, hx])
  refine ⟨⟨⟨v, prs, bv, iv', pv, K.blk, ?_, ?_, ?_, ?_, ?bk, ?_⟩, ?_, ?_⟩, ?_, hf⟩
  · exact owns_far hv fun b hb hlt => hf.block b hlt (hne v _ _ _ _ hv (by decide) b hb)
  · exact fun k hk => (ht k (hv.lt k hk).2).trans (tv k hk)
  · exact hp.fr H hf hd ht
  case bk =>
    refine ⟨K.own, ?_, ?_, ?_⟩
    · intro k hk
      by_cases x : k < w.heap.size
      · rw [ht k x]
        rcases K.pvb k hk with y | y
        · exact k2.tagv k y
        · have := hb1.size; omega
      · exact htw k (by omega) hk
    · have old := k2.one.fr hf hl ht
      intro i u hu
      by_cases h0 : i < is.length
      · rw [List.getElem?_append_left (by simp; omega), List.getElem?_append_left (by simp; omega), List.getElem?_append_left (by simp; omega), List.getElem?_append_left h0] at hu
        exact old i u hu
      · have e4 : ((((is ++ [vl]) ++ [v1]) ++ [v2]) ++ [v3]) = is ++ [vl, v1, v2, v3] := by simp
        rw [e4, List.getElem?_append_right (by omega)] at hu
        obtain ⟨r, hr⟩ : ∃ r, i = is.length + r := ⟨i - is.length, by omega⟩
        subst hr
        rw [Nat.add_sub_cancel_left] at hu
        have hr4 : r < 4 := by obtain ⟨x, _⟩ := List.getElem?_eq_some_iff.1 hu; simpa using x
        rw [mkI_four k2.four hr4]
        have h4 : r = 0 ∨ r = 1 ∨ r = 2 ∨ r = 3 := by omega
        rcases h4 with rfl | rfl | rfl | rfl
        · simp at hu; subst hu
          exact ⟨n, owns_base (K.rows (vl, n) (by simp)) (Nat.zero_le _), new (vl, n) (by simp)⟩
        · simp at hu; subst hu
          exact ⟨n + 1, owns_base (K.rows (v1, n + 1) (by simp)) (Nat.zero_le _), new (v1, n + 1) (by simp)⟩
        · simp at hu; subst hu
          exact ⟨n + 2, owns_base (K.rows (v2, n + 2) (by simp)) (Nat.zero_le _), new (v2, n + 2) (by simp)⟩
        · simp at hu; subst hu
          exact ⟨n + 3, owns_base (K.rows (v3, n + 3) (by simp)) (Nat.zero_le _), new (v3, n + 3) (by simp)⟩
    · have := k2.four
      simp; omega
  · exact k1.fr hf hl (hne _ _ _ _ _ k1.row (by decide)) ht
  · exact k3.fr hf hl (hne _ _ _ _ _ k3.row (by decide)) ht
  · rw [ht B hz]; exact h.tagB
  · intro k hk; rw [ht k (by omega)]; exact h.low k hk
  · exact below_of_fr hf (by omega) fun k hk x => by have := hw k x; rw [h.low k hk] at this; cases this
end Go.Proofs.YthbbfjfekchdiaaGreat
namespace Go.Proofs.YthbbfjfekchdiaaGreat
open Go.RowKit
set_option linter.unusedSimpArgs false
theorem HInv.oneG {R : Rep} (H : ProgOk R) {w w1 w3 : World} {B : Nat} {tag : Nat → Tag} {ds : List RDb} {bs is ps : List Value} (h : HInv R w B tag ds bs is ps) {d : RDb} {In : Nat → Prop} {pd pr g cap : Nat} {O : Obj} {v bv iv pv : Value} {prs : List Value}
    (hB : w.heap[B]? = some (.cells #[v, bv, iv, pv] 35)) (hv : w.ownsRow (B + 1) 53 2 v ds.length prs)
    (h0 : ∀ k, In k → k < w.heap.size → tag k = .db ds.length) (hb : Both R w In pd pr d) (he : w1 = w.alloc O)
    (hown : w3.ownsRow (B + 1) 53 2 (.slice (some ⟨g, 0, none⟩) (ds.length + 1) cap) (ds.length + 1) (prs ++ [.pointer (some ⟨pd, 0, none⟩), .pointer (some ⟨pr, 0, none⟩)])) (hgrow : w1.grownBy w3 v.ownBlock) (hat : v.ownBlock = some g ∨ w.heap.size < g) :
    HInv R (w3.setCell ⟨B, 0, none⟩ (.slice (some ⟨g, 0, none⟩) (ds.length + 1) cap)) B (tagUp tag w.heap.size (fun _ => .world)) (ds ++ [d]) bs is ps ∧ Below B w (w3.setCell ⟨B, 0, none⟩ (.slice (some ⟨g, 0, none⟩) (ds.length + 1) cap)) ∧ ∀ k, k < w.heap.size → tag k = .arg → (w3.setCell ⟨B, 0, none⟩ (.slice (some ⟨g, 0, none⟩) (ds.length + 1) cap)).heap[k]? = w.heap[k]? := by
  subst he
  have hz := h.lt
  obtain ⟨v_, prs_, bv_, iv_, pv_, hB', hv', tv, hp, k1, k2, k3⟩ := h.mem
  have hBB := hB
  rw [hB] at hB'
  simp only [Option.some.injEq, Obj.cells.injEq, Array.mk.injEq, List.cons.injEq, and_true] at hB'
  obtain ⟨rfl, rfl, rfl, rfl⟩ := hB'
  have hprs : prs_ = prs := by
    obtain ⟨l1, ⟨x1, y1⟩ | ⟨g1, cap1, cur1, e1, _, b1, _, _, _, t1⟩⟩ := hv
    · obtain ⟨l2, _⟩ := hv'
      rw [y1] at l1 l2
      rw [List.length_eq_zero_iff.1 (by omega : prs_.length = 0), List.length_eq_zero_iff.1 (by omega : prs.length = 0)]
    · obtain ⟨l2, ⟨x2, y2⟩ | ⟨g2, cap2, cur2, e2, _, b2, _, _, _, t2⟩⟩ := hv'
      · rw [e1] at x2; cases x2
      · rw [e1] at e2
        simp only [Value.slice.injEq, Option.some.injEq, Addr.mk.injEq, and_true, true_and] at e2
        obtain ⟨rfl, rfl⟩ := e2
        rw [b1] at b2
        simp only [Option.some.injEq, Obj.cells.injEq, and_true] at b2
        subst b2
        rw [← t1, ← t2]
  subst hprs
  have hf3 : Fr (fun k => k = B ∨ v.ownBlock = some k) w w3 := ((Fr.refl _ w).alloc O).grown' hgrow fun k hk => .inl (.inr hk)
  have hf : Fr (fun k => k = B ∨ v.ownBlock = some k) w (w3.setCell ⟨B, 0, none⟩ (.slice (some ⟨g, 0, none⟩) (ds.length + 1) cap)) := hf3.set (.inl (.inl rfl)) 0 _
  have hB3 : w3.heap[B]? = some (.cells #[v, bv, iv, pv] 35) := (hgrow.block B (by simp; omega) (owns_not hv (by omega))).trans (blk_alloc hBB)
  have hw : ∀ k, (k = B ∨ v.ownBlock = some k) → tag k = .world := by
    rintro k (rfl | hk)
    · exact h.tagB
    · exact tv k hk
  have ht : ∀ k, k < w.heap.size → tagUp tag w.heap.size (fun _ => .world) k = tag k := fun k hk => tagUp_lt hk
  have hl : ∀ k, k < w.heap.size → tag k = .list → ¬ (k = B ∨ v.ownBlock = some k) := fun k _ h1 h2 => by rw [hw k h2] at h1; cases h1
  have hd : ∀ k j, k < w.heap.size → tag k = .db j → ¬ (k = B ∨ v.ownBlock = some k) := fun k j _ h1 h2 => by rw [hw k h2] at h1; cases h1
  have hne : ∀ (u : Value) (e s m : Nat) (xs : List Value), w.ownsRow (B + 1) e s u m xs → e ≠ 53 → ∀ k, u.ownBlock = some k → ¬ (k = B ∨ v.ownBlock = some k) := by
    intro u e s m xs ho he k hk hx
    rcases hx with rfl | hx
    · exact owns_not ho (by omega) hk.symm
    · rcases owns_type ho hv he with x | x
      · rw [x] at hk; cases hk
      · exact x (by rw [hk, hx])
  refine ⟨⟨⟨.slice (some ⟨g, 0, none⟩) (ds.length + 1) cap, prs_ ++ [.pointer (some ⟨pd, 0, none⟩), .pointer (some ⟨pr, 0, none⟩)], bv, iv, pv, blk_setCell hB3 0 _, ?_, ?_, ?_, ?_, ?_, ?_⟩, ?_, ?_⟩, ?_, fun k hk ha => hf.block k hk fun x => by rw [hw k x] at ha; cases ha⟩
  · rw [List.length_append]
    exact ownsRow_setCell_below hown (by simp) _
  · intro k hk
    simp only [Value.ownBlock, Option.some.injEq] at hk
    subst hk
    rcases hat with x | x
    · rw [ht g (hv.lt g x).2]; exact tv g x
    · exact tagUp_ge (by omega)
  · intro j d' hj
    have hlen : prs_.length = ds.length * 2 := hv.1
    by_cases e : j < ds.length
    · rw [List.getElem?_append_left e] at hj
      obtain ⟨pd', pr', a, b, hb'⟩ := (hp.fr H hf hd ht) j d' hj
      refine ⟨pd', pr', ?_, ?_, hb'⟩
      · rw [List.getElem?_append_left (by omega)]; exact a
      · rw [List.getElem?_append_left (by omega)]; exact b
    · have ej : j = ds.length := by
        obtain ⟨x, _⟩ := List.getElem?_eq_some_iff.1 hj
        simp at x; omega
      subst ej
      rw [List.getElem?_append_right (Nat.le_refl _)] at hj
      simp at hj
      subst hj
      refine ⟨pd, pr, ?_, ?_, ?_⟩
      · rw [List.getElem?_append_right (by omega), hlen, show 2 * ds.length - ds.length * 2 = 0 by omega]; rfl
      · rw [List.getElem?_append_right (by omega), hlen, show 2 * ds.length + 1 - ds.length * 2 = 1 by omega]; rfl
      · have h2 : Both R w (fun k => tagUp tag w.heap.size (fun _ => .world) k = .db ds.length) pd pr d := hb.weak fun k hk hk2 => (ht k hk).trans (h0 k hk2 hk)
        exact h2.fr H hf fun k hk hk2 => hd k _ hk ((ht k hk).symm.trans hk2)
  · exact k1.fr hf hl (hne _ _ _ _ _ k1.row (by decide)) ht
  · exact k2.fr hf hl (hne _ _ _ _ _ k2.row (by decide)) ht
  · exact k3.fr hf hl (hne _ _ _ _ _ k3.row (by decide)) ht
  · rw [ht B hz]; exact h.tagB
  · intro k hk; rw [ht k (by omega)]; exact h.low k hk
  · exact below_of_fr hf (by omega) fun k hk x => by have := hw k x; rw [h.low k hk] at this; cases this
set_option maxHeartbeats 2000000 in
theorem one3_yes {R : Rep} (H : ProgOk R) (B pd pr : Nat) (In : Nat → Prop) (d : RDb) (w : World) (tag : Nat → Tag) (ds : List RDb) (bs is ps : List Value) (hI : HInv R w B tag ds bs is ps) (h0 : ∀ k, In k → k < w.heap.size → tag k = .db ds.length) (hb : Both R w In pd pr d) (hn : ds.length ≤ 1000000000000) :
    Calls Tryz.prog 22 #[.pointer (some ⟨B, 0, none⟩), .pointer (some ⟨pd, 0, none⟩), .pointer (some ⟨pr, 0, none⟩)] w fun e w' => e = .returned (.bool true) ∧ (∃ tag', HInv R w' B tag' (ds ++ [d]) bs is ps) ∧ Below B w w' ∧ ∀ k, k < w.heap.size → tag k = .arg → w'.heap[k]? = w.heap[k]? := by
  obtain ⟨v, prs, bv, iv, pv, hB, hv, tv, hp, k1, k2, k3⟩ := hI.mem
  obtain ⟨i0, hi, hz0, hz1, hz2⟩ := info_parts Tryz.infoPairs
  have HI0 := hid (And.intro hi (And.intro hz0 (And.intro hz1 hz2)))
  have d0 : w.cell? ⟨B, 0, none⟩ = some v := cell_of_blk hB 0
  have f0 : w.frozen? ⟨B, 0, none⟩ = false := frozen_of_blk hB 0
  have hz := blk_lt hB
  have HS := hid (fun (w3 : World) (g cap : Nat) (O : Obj) h1 h2 h3 => HInv.oneG H (w1 := w.alloc O) (w3 := w3) (g := g) (cap := cap) (O := O) hI hB hv h0 hb rfl h1 h2 h3)
  have HD := hid (show some B ≠ v.ownBlock from owns_not hv (by omega))
  have HO := hid hv
  have HB := hid hB
  clear hi hz0 hz1 hz2 hI h0 hb hv hB tv hp k1 k2 k3
  go_enter Tryz.func22, Tryz.ntmps22
  go_wp2_with (at_builtin; refine wpList_append_lies _ rfl (.tmp 18) (.tmp 22) 28 rfl (B + 1) 53 i0 _ 2 16 Tryz.underlying28 HI0.out.1 HI0.out.2.1 HI0.out.2.2.1 HI0.out.2.2.2 rfl (by decide) v ds.length prs rfl (HO.out.alloc _) ⟨w.heap.size, 0, none⟩ 1 1 [.pointer (some ⟨pd, 0, none⟩), .pointer (some ⟨pr, 0, none⟩)] rfl rfl (World.news_of_block (heap_alloc_new w _)) (by simp [Value.oneCell']) (by decide) ?_ ?_ ?_ (w.heap.size + 1) (by simp) ?_)
  · unfold maxLen; omega
  · omega
  · simp; omega
  intro g cap w3 hown3 hgrow hat hlt3
  have blk3 := (hgrow.block B (by simp; omega) HD.out).trans (blk_alloc HB.out)
  have d3 : w3.cell? ⟨B, 0, none⟩ = some v := cell_of_blk blk3 0
  have f3 : w3.frozen? ⟨B, 0, none⟩ = false := frozen_of_blk blk3 0
  have hz3 : B < w3.heap.size := blk_lt blk3
  have HR := hid (HS.out w3 g cap _ hown3 hgrow (hat.elim .inl fun e => .inr (by omega)))
  clear hown3 hgrow hat hlt3 blk3
  go_wp2
  go_ret
  exact ⟨rfl, ⟨_, HR.out.1⟩, HR.out.2⟩
end Go.Proofs.YthbbfjfekchdiaaGreat
