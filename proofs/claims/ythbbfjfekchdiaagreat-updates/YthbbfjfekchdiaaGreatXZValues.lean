import Derived.Test.YthbbfjfekchdiaaGreatXRSorted
import Derived.Test.YthbbfjfekchdiaaGreatXZPoints
import Derived.Test.YthbbfjfekchdiaaGreatXRWrites
/-
  The order of points: strictly by their stamps, and by that alone.
-/
namespace Go.Proofs.YthbbfjfekchdiaaGreat

abbrev Inc (l : List Pt) : Prop := l.Pairwise fun a b => a.1 < b.1

theorem pw_mono {α : Type} {R S : α → α → Prop} {l : List α} (h : ∀ a b, a ∈ l → b ∈ l → R a b → S a b) (hp : l.Pairwise R) : l.Pairwise S := by
  rw [List.pairwise_iff_getElem] at *
  intro i j hi hj hij
  exact h _ _ (List.getElem_mem hi) (List.getElem_mem hj) (hp i j hi hj hij)
theorem pw_both {α : Type} {R S U : α → α → Prop} {l : List α} (h : ∀ a b, R a b → S a b → U a b) (hp : l.Pairwise R) (hq : l.Pairwise S) : l.Pairwise U := by
  rw [List.pairwise_iff_getElem] at *
  intro i j hi hj hij
  exact h _ _ (hp i j hi hj hij) (hq i j hi hj hij)

theorem insPt_eq (out : List Pt) (x : Pt) : insPt out x = (out.takeWhile fun q => decide (q.1 < x.1)) ++ (x :: out.dropWhile fun q => decide (q.1 < x.1)) := by
  have key : ∀ (o a b : List Pt), a ++ b = o → (o.take a.length ++ [x]) ++ o.drop a.length = a ++ (x :: b) := by
    intro o a b h
    subst h
    rw [List.take_left, List.drop_left]
    simp
  exact key out _ _ (List.takeWhile_append_dropWhile (p := fun q : Pt => decide (q.1 < x.1)) (l := out))
theorem dropWhile_ge {x : Int} : ∀ {out : List Pt}, Inc out → (∀ q ∈ out, q.1 ≠ x) → ∀ q ∈ out.dropWhile (fun q => decide (q.1 < x)), x < q.1
  | [], _, _, q, hq => by simp at hq
  | a :: out, hi, hne, q, hq => by
    obtain ⟨h1, h2⟩ := List.pairwise_cons.1 hi
    by_cases ha : a.1 < x
    · rw [List.dropWhile_cons_of_pos (by simpa using ha)] at hq
      exact dropWhile_ge h2 (fun q hq => hne q (by simp [hq])) q hq
    · rw [List.dropWhile_cons_of_neg (by simpa using ha)] at hq
      have hx : x < a.1 := by
        have := hne a (by simp)
        omega
      rcases List.mem_cons.1 hq with rfl | hq
      · exact hx
      · have := h1 q hq
        omega
theorem takeWhile_lt {x : Int} : ∀ {out : List Pt}, ∀ q ∈ out.takeWhile (fun q => decide (q.1 < x)), q.1 < x
  | [], q, hq => by simp at hq
  | a :: out, q, hq => by
    by_cases ha : a.1 < x
    · rw [List.takeWhile_cons_of_pos (by simpa using ha)] at hq
      rcases List.mem_cons.1 hq with rfl | hq
      · exact ha
      · exact takeWhile_lt q hq
    · rw [List.takeWhile_cons_of_neg (by simpa using ha)] at hq
      simp at hq
theorem insPt_inc {out : List Pt} {x : Pt} (hi : Inc out) (hne : ∀ q ∈ out, q.1 ≠ x.1) : Inc (insPt out x) := by
  rw [insPt_eq]
  refine List.pairwise_append.2 ⟨hi.sublist (List.takeWhile_sublist _), ?_, ?_⟩
  · refine List.pairwise_cons.2 ⟨fun q hq => dropWhile_ge hi hne q hq, hi.sublist (List.dropWhile_sublist _)⟩
  · intro a ha b hb
    have h1 := takeWhile_lt a ha
    rcases List.mem_cons.1 hb with rfl | hb
    · exact h1
    · have := dropWhile_ge hi hne b hb
      omega
theorem sortedTo_inc {l : List Pt} (h : (l.map (·.1)).Nodup) : ∀ k, k ≤ l.length → Inc (sortedTo l k) := by
  intro k
  induction k with
  | zero => intro _; simp [sortedTo]
  | succ k ih =>
    intro hk
    obtain ⟨q, hq⟩ : ∃ q, l[k]? = some q := ⟨_, List.getElem?_eq_getElem (by omega)⟩
    rw [sortedTo_succ hq]
    refine insPt_inc (ih (by omega)) fun p hp e => ?_
    rw [sortedTo_mem k (by omega)] at hp
    obtain ⟨j, hj⟩ := List.mem_iff_getElem?.1 hp
    rw [List.getElem?_take] at hj
    split at hj
    · rename_i hjk
      have h1 : (l.map (·.1))[j]? = some p.1 := by rw [List.getElem?_map, hj]; rfl
      have h2 : (l.map (·.1))[k]? = some q.1 := by rw [List.getElem?_map, hq]; rfl
      have hjl : j < (l.map (·.1)).length := by rw [List.length_map]; omega
      have := (List.getElem?_inj (i := j) (j := k) hjl h).1 (by rw [h1, h2, e])
      omega
    · cases hj
theorem sortedL_inc {l : List Pt} (h : (l.map (·.1)).Nodup) : Inc (sortedL l) := sortedTo_inc h _ (Nat.le_refl _)
/-- slots apart, stamps apart -/
theorem stamps_nodup {c : Cfg} {i : Nat} {l : List Pt} (h : (l.map fun q => slotOf c i q.1).Nodup) : (l.map (·.1)).Nodup := by
  have e : (l.map fun q => slotOf c i q.1) = (l.map (·.1)).map (slotOf c i) := by rw [List.map_map]; rfl
  rw [e] at h
  exact pw_mono (fun a b _ _ hab e => hab (by rw [e])) (List.pairwise_map.1 h)
/-- two lists in strict order with the same points are one -/
theorem inc_unique : ∀ {a b : List Pt}, Inc a → Inc b → (∀ q, q ∈ a ↔ q ∈ b) → a = b
  | [], [], _, _, _ => rfl
  | [], y :: b, _, _, h => by have := (h y).2 (by simp); simp at this
  | x :: a, [], _, _, h => by have := (h x).1 (by simp); simp at this
  | x :: a, y :: b, ha, hb, h => by
    obtain ⟨a1, a2⟩ := List.pairwise_cons.1 ha
    obtain ⟨b1, b2⟩ := List.pairwise_cons.1 hb
    have exy : x = y := by
      rcases List.mem_cons.1 ((h x).1 (by simp)) with e | hx
      · exact e
      · rcases List.mem_cons.1 ((h y).2 (by simp)) with e | hy
        · exact e.symm
        · have := b1 x hx
          have := a1 y hy
          omega
    subst exy
    have : a = b := inc_unique a2 b2 fun q => by
      constructor
      · intro hq
        rcases List.mem_cons.1 ((h q).1 (by simp [hq])) with e | hq'
        · have := a1 q hq
          rw [e] at this
          omega
        · exact hq'
      · intro hq
        rcases List.mem_cons.1 ((h q).2 (by simp [hq])) with e | hq'
        · have := b1 q hq
          rw [e] at this
          omega
        · exact hq'
    rw [this]
end Go.Proofs.YthbbfjfekchdiaaGreat
/-
  The slots' points, sorted, are what the document asks: of a fetch, and of a stretch.
-/
namespace Go.Proofs.YthbbfjfekchdiaaGreat

theorem slotAt_some {c : Cfg} {i : Nat} {l : List Pt} {j : Nat} {q : Pt} (h : slotAt c i l j = some q) : q ∈ l ∧ slotOf c i q.1 = (j : Int) := by
  unfold slotAt at h
  exact ⟨List.mem_of_find?_eq_some h, by simpa using List.find?_some h⟩
theorem slotAt_mem {c : Cfg} {i : Nat} {l : List Pt} {q : Pt} (hn : (l.map fun q => slotOf c i q.1).Nodup) (hq : q ∈ l) {j : Nat} (hj : slotOf c i q.1 = (j : Int)) : slotAt c i l j = some q := by
  cases h : slotAt c i l j with
  | none =>
    unfold slotAt at h
    rw [List.find?_eq_none] at h
    have := h q hq
    simp [hj] at this
  | some q' =>
    obtain ⟨hq', hj'⟩ := slotAt_some h
    have e : q' = q := by
      obtain ⟨a, ha⟩ := List.mem_iff_getElem?.1 hq
      obtain ⟨b, hb⟩ := List.mem_iff_getElem?.1 hq'
      have key : a = b := by
        obtain ⟨a1, a2⟩ := List.getElem?_eq_some_iff.1 ha
        obtain ⟨b1, b2⟩ := List.getElem?_eq_some_iff.1 hb
        refine (List.getElem_inj (h₀ := by simpa using a1) (h₁ := by simpa using b1) hn).1 ?_
        rw [List.getElem_map, List.getElem_map, a2, b2, hj, hj']
      subst key
      rw [ha] at hb
      exact (Option.some.inj hb).symm
    rw [e]

theorem slots_mem {c : Cfg} {i : Nat} {l : List Pt} (hb : c.Bd i) (hn : (l.map fun q => slotOf c i q.1).Nodup) {fr un : Int} {q : Pt} : q ∈ ptsK fr un (slotsL c i l (c.k i).toNat) ↔ q ∈ l ∧ strB fr un q = true := by
  unfold ptsK slotsL
  rw [List.mem_filter, List.mem_filterMap]
  constructor
  · rintro ⟨⟨o, ho, rfl⟩, hs⟩
    obtain ⟨j, _, hj⟩ := List.mem_map.1 ho
    exact ⟨(slotAt_some hj).1, hs⟩
  · rintro ⟨hq, hs⟩
    refine ⟨⟨some q, ?_, rfl⟩, hs⟩
    have hsl := slotOf_bd hb q.1
    refine List.mem_map.2 ⟨(slotOf c i q.1).toNat, List.mem_range.2 (by omega), slotAt_mem hn hq (by omega)⟩
theorem slots_nodup {c : Cfg} {i : Nat} {l : List Pt} {k : Nat} {fr un : Int} : ((ptsK fr un (slotsL c i l k)).map (·.1)).Nodup := by
  unfold List.Nodup
  rw [List.pairwise_map]
  unfold ptsK slotsL
  refine List.Pairwise.sublist List.filter_sublist ?_
  rw [List.pairwise_filterMap, List.pairwise_map]
  refine pw_mono ?_ List.pairwise_lt_range
  intro a b _ _ hab q hq q' hq' e
  have h1 := (slotAt_some hq).2
  have h2 := (slotAt_some hq').2
  rw [e, h2] at h1
  omega

/-- what is read of an archive: in order, and just these -/
theorem pts_facts {d : RDb} (hd : d.Ok) {i : Nat} {l : List Pt} (hl : d.L[i]? = some l) (hi : i < d.c.many) {fr un : Int} {pts : List Pt} (hp : pts.Perm (ptsK fr un (slotsL d.c i l (d.c.k i).toNat))) (hs : pts.Pairwise fun a b => a.1 ≤ b.1) :
    Inc pts ∧ ∀ q, q ∈ pts ↔ q ∈ l ∧ strB fr un q = true := by
  have hn : (pts.map (·.1)).Nodup := (List.Perm.nodup_iff (hp.map _)).2 slots_nodup
  refine ⟨?_, fun q => hp.mem_iff.trans (slots_mem (Cfg.bd hd.cfg hi) (hd.apart i l hl))⟩
  unfold List.Nodup at hn
  rw [List.pairwise_map] at hn
  exact pw_both (fun _ _ h1 h2 => by omega) hs hn

theorem fetch_pts {d : RDb} (hd : d.Ok) {i : Nat} {l : List Pt} (hl : d.L[i]? = some l) (hi : i < d.c.many) {now fr un : Int} {pts : List Pt}
    (hp : pts.Perm (ptsK (max fr (now - d.c.s i * d.c.k i + 1)) (min un now) (slotsL d.c i l (d.c.k i).toNat))) (hs : pts.Pairwise fun a b => a.1 ≤ b.1) : pts = (sortedL l).filter (fetchB d.c i now fr un) := by
  obtain ⟨h1, h2⟩ := pts_facts hd hl hi hp hs
  refine inc_unique h1 ((sortedL_inc (stamps_nodup (hd.apart i l hl))).sublist List.filter_sublist) fun q => ?_
  rw [h2 q, List.mem_filter, sortedL_mem]
  refine and_congr_right fun _ => ?_
  unfold strB fetchB covB
  simp only [Bool.and_eq_true, decide_eq_true_eq]
  omega

theorem stretch_pts {d : RDb} (hd : d.Ok) (ha : d.Al) {i : Nat} {l : List Pt} (hl : d.L[i]? = some l) (hi : i < d.c.many) {fr : Int} {n : Nat} (hfr : fr % d.c.s i = 0) {pts : List Pt}
    (hp : pts.Perm (ptsK fr (fr + (n : Int) * d.c.s i - 1) (slotsL d.c i l (d.c.k i).toNat))) (hs : pts.Pairwise fun a b => a.1 ≤ b.1) : pts.map (·.2) = valsTo d.c i l fr n := by
  obtain ⟨h1, h2⟩ := pts_facts hd hl hi hp hs
  have hb := Cfg.bd hd.cfg hi
  have hs1 : 1 ≤ d.c.s i := hb.1
  have e : pts = (List.range n).filterMap fun j : Nat => hasL (fr + (j : Int) * d.c.s i) l := by
    have hmem : ∀ (j : Nat) (q : Pt), hasL (fr + (j : Int) * d.c.s i) l = some q → q ∈ l ∧ q.1 = fr + (j : Int) * d.c.s i := fun j q h => ⟨hasL_mem h, by unfold hasL at h; simpa using List.find?_some h⟩
    refine inc_unique h1 ?_ fun q => ?_
    · rw [Inc, List.pairwise_filterMap]
      refine pw_mono ?_ List.pairwise_lt_range
      intro a b _ _ hab q hq q' hq'
      rw [(hmem a q hq).2, (hmem b q' hq').2]
      have : (a : Int) * d.c.s i + d.c.s i ≤ (b : Int) * d.c.s i := by
        have h3 : ((a : Int) + 1) * d.c.s i ≤ (b : Int) * d.c.s i := Int.mul_le_mul_of_nonneg_right (by omega) (by omega)
        rw [Int.add_mul, Int.one_mul] at h3
        exact h3
      omega
    · rw [h2 q, List.mem_filterMap]
      constructor
      · rintro ⟨hq, hst⟩
        unfold strB at hst
        simp only [Bool.and_eq_true, decide_eq_true_eq] at hst
        have hal := ha i l hl q hq
        have hdv : (q.1 - fr) % d.c.s i = 0 := by rw [Int.sub_emod, hal, hfr]; simp
        have hmu : d.c.s i * ((q.1 - fr) / d.c.s i) = q.1 - fr := by
          have := Int.mul_ediv_add_emod (q.1 - fr) (d.c.s i)
          omega
        obtain ⟨j, hj⟩ : ∃ j : Nat, (j : Int) = (q.1 - fr) / d.c.s i := ⟨((q.1 - fr) / d.c.s i).toNat, by
          have := Int.ediv_nonneg (show 0 ≤ q.1 - fr by omega) (show 0 ≤ d.c.s i by omega)
          omega⟩
        rw [← hj] at hmu
        have hc : d.c.s i * (j : Int) = (j : Int) * d.c.s i := Int.mul_comm _ _
        have hjn : j < n := by
          rcases Nat.lt_or_ge j n with h | h
          · exact h
          · have h3 : (n : Int) * d.c.s i ≤ (j : Int) * d.c.s i := Int.mul_le_mul_of_nonneg_right (by omega) (by omega)
            omega
        refine ⟨j, List.mem_range.2 hjn, ?_⟩
        have hx : fr + (j : Int) * d.c.s i = q.1 := by omega
        rw [hx]
        cases h : hasL q.1 l with
        | none =>
          unfold hasL at h
          rw [List.find?_eq_none] at h
          have := h q hq
          simp at this
        | some q' =>
          have hq' : q' ∈ l ∧ q'.1 = q.1 := ⟨hasL_mem h, by unfold hasL at h; simpa using List.find?_some h⟩
          have hsl := slotOf_bd hb q.1
          have r1 := slotAt_mem (hd.apart i l hl) hq (j := (slotOf d.c i q.1).toNat) (by omega)
          have r2 := slotAt_mem (hd.apart i l hl) hq'.1 (j := (slotOf d.c i q.1).toNat) (by rw [hq'.2]; omega)
          rw [r1] at r2
          exact r2.symm
      · rintro ⟨j, hj, hh⟩
        obtain ⟨hq, hq1⟩ := hmem j q hh
        refine ⟨hq, ?_⟩
        unfold strB
        simp only [Bool.and_eq_true, decide_eq_true_eq]
        have hjn := List.mem_range.1 hj
        have h0 : 0 ≤ (j : Int) * d.c.s i := Int.mul_nonneg (by omega) (by omega)
        have h3 : ((j : Int) + 1) * d.c.s i ≤ (n : Int) * d.c.s i := Int.mul_le_mul_of_nonneg_right (by omega) (by omega)
        rw [Int.add_mul, Int.one_mul] at h3
        omega
  rw [e, List.map_filterMap]
  rfl

/-- the stretch of a coarser step around a stamp -/
theorem begin_begin {t s S : Int} (hs : 1 ≤ s) (hS : 1 ≤ S) (hd : S % s = 0) : (t - t % s) - (t - t % s) % S = t - t % S := by
  have hx : t % S % s = t % s := Int.emod_emod_of_dvd t (Int.dvd_of_emod_eq_zero hd)
  have r0 : 0 ≤ t % S := Int.emod_nonneg _ (by omega)
  have r1 : t % S < S := Int.emod_lt_of_pos _ (by omega)
  have q0 : 0 ≤ t % S % s := Int.emod_nonneg _ (by omega)
  have q1 : t % S % s ≤ t % S := by
    have h3 := Int.mul_ediv_add_emod (t % S) s
    have h4 : 0 ≤ s * (t % S / s) := Int.mul_nonneg (by omega) (Int.ediv_nonneg r0 (by omega))
    omega
  have h1 : (t - t % s) % S = t % S - t % s := by
    have e : t - t % s = (t % S - t % s) + S * (t / S) := by have := Int.mul_ediv_add_emod t S; omega
    rw [e, Int.add_mul_emod_self_left]
    exact Int.emod_eq_of_lt (by omega) (by omega)
  omega
theorem begin_mod {t s S : Int} (hd : S % s = 0) : (t - t % S) % s = 0 := by
  have h1 : t - t % S = S * (t / S) := by have := Int.mul_ediv_add_emod t S; omega
  rw [h1, Int.mul_emod, hd]
  simp

/-- a slot of archive i is written -/
theorem ZRep.put {w w' : World} {In : Nat → Prop} {p : Nat} {d : RDb} (h : ZRep w In p d) {i g : Nat} {l : List Pt} {q : Pt} (hl : d.L[i]? = some l) (hq : PtIn q) (hal : q.1 % d.c.s i = 0)
    (hg : w.heap[g]? = some (.cells (slotBlk (slotsL d.c i l (d.c.k i).toNat)) 116)) (hgi : ∀ gl cap cur, w.heap[p]? = some (.cells #[.slice (some ⟨gl, 0, none⟩) d.c.many cap, .iface (methT d.c.m) (.agg #[]), i64 d.c.f] 89) → w.heap[gl]? = some (.cells cur 94) → cur[i * 2 + 1]? = some (.slice (some ⟨g, 0, none⟩) (d.c.k i).toNat (d.c.k i).toNat))
    (hf : Fr (fun j => j = g) w w') (hw : w'.heap[g]? = some (.cells (slotBlk ((slotsL d.c i l (d.c.k i).toNat).set (slotOf d.c i q.1).toNat (some q))) 116)) : ZRep w' In p (d.put i (setL d.c i q l)) := by
  have hi : i < d.c.many := by
    obtain ⟨x, _⟩ := List.getElem?_eq_some_iff.1 hl
    rw [← h.ok.len]; exact x
  have hb := Cfg.bd h.ok.cfg hi
  have hsl := slotOf_bd hb q.1
  obtain ⟨gl, cap, cur, gs, a, b, c, e, f, gi, r⟩ := h.mem
  have hgi' := hgi gl cap cur b c
  obtain ⟨x, hx⟩ : ∃ x, gs[i]? = some x := ⟨_, List.getElem?_eq_getElem (by omega)⟩
  have hxg : x = g := by
    have := (r i x l hx hl).2.1
    rw [hgi'] at this
    simp at this
    exact this.symm
  subst hxg
  have hpg : ¬ p = x := fun e => by rw [e, hg] at b; simp at b
  have hlg : ¬ gl = x := fun e => by rw [e, hg] at c; simp at c
  refine ⟨put_ok h.ok hl hq, put_al h.al hl hal, h.inp, gl, cap, cur, gs, a, (hf.block p (blk_lt b) hpg).trans b, (hf.block gl (blk_lt c) hlg).trans c, e, f, gi, fun j y l' hy hl' => ?_⟩
  rcases put_at hl' with ⟨rfl, rfl⟩ | ⟨hne, hl2⟩
  · have hyx : y = x := by rw [hx] at hy; exact (Option.some.inj hy).symm
    subst hyx
    obtain ⟨r1, r2, _⟩ := r j y l hx hl
    refine ⟨r1, r2, ?_⟩
    show w'.heap[y]? = some (.cells (slotBlk (slotsL d.c j (setL d.c j q l) (d.c.k j).toNat)) 116)
    rw [slotsL_set (n := (slotOf d.c j q.1).toNat) (by omega)]
    exact hw
  · obtain ⟨r1, r2, r3⟩ := r j y l' hy hl2
    refine ⟨r1, r2, (hf.block y (blk_lt r3) fun e => ?_).trans r3⟩
    have e' : y = x := e
    subst e'
    obtain ⟨j1, j2⟩ := List.getElem?_eq_some_iff.1 hy
    obtain ⟨i1, i2⟩ := List.getElem?_eq_some_iff.1 hx
    exact hne ((List.getElem_inj (h₀ := j1) (h₁ := i1) f).1 (j2.trans i2.symm))
end Go.Proofs.YthbbfjfekchdiaaGreat
/-
  The program: the values of points.
-/
namespace Go.Proofs.YthbbfjfekchdiaaGreat
open Go.RowKit
set_option linter.unusedSimpArgs false

theorem wpList_append_int (w : World) {ops : Array Oper} {rest : List Oper} {o : Oper} {a : Act} {Q : Exit → Act → World → Prop} (hgd : o.guard = none) (s x : Operand)
    (ho : o.op = .call { callee := .builtin .append, args := #[s, x], argTypes := #[24, 24] }) (base : Nat) (v xv : Value) (os : List Int) (q : Int) (hs : a.eval s = v) (hx : a.eval x = xv) (tgt : List Int) (htgt : Hid (tgt = os ++ [q]))
    (hown : w.ownsRow base 3 1 v os.length (os.map i64)) (b c : Nat) (hsv : xv = .slice (some ⟨b, 0, none⟩) 1 c) (hsrc : w.cell? ⟨b, 0, none⟩ = some (i64 q)) (hlen : os.length ≤ 1000) (hbase : base ≤ w.heap.size)
    (h : ∀ v' w', w'.ownsRow base 3 1 v' tgt.length (tgt.map i64) → w.grownBy w' v.ownBlock → wpList Tryz.prog ops Q rest (a.put o.dst v') w') : wpList Tryz.prog ops Q (o :: rest) a w := by
  have htgt := htgt.out
  subst htgt
  subst hsv
  obtain ⟨q0, hi0, hz0, hz1, hz2⟩ := info_parts Tryz.infoInt
  refine wpList_append_own w hgd s x _ ho base 3 q0 _ 1 8 Tryz.underlying24 hi0 hz0 hz1 hz2 rfl (by decide) v os.length (os.map i64) hs hown ⟨b, 0, none⟩ 1 c [i64 q] hx rfl ?_ ?_ (by unfold maxLen; omega) (by omega) hbase ?_
  · intro j u hj
    have hj0 : j = 0 := by obtain ⟨y, _⟩ := List.getElem?_eq_some_iff.1 hj; simp at y; exact y
    subst hj0
    simp at hj
    subst hj
    rw [show (⟨b, 0, none⟩ : Addr).add 0 = ⟨b, 0, none⟩ from rfl]
    exact hsrc
  · intro u hu
    simp at hu
    subst hu
    rfl
  · intro v' w' ho' hg' _
    refine h v' w' ?_ hg'
    rw [List.map_append, List.length_append]
    exact ho'

set_option maxHeartbeats 4000000 in
theorem zvalues_any (v : Value) (pts : List Pt) (w : World) (hr : RowAt w v pts) (hl : pts.length ≤ 1000) :
    Calls Tryz.prog 104 #[v] w fun e w' => ∃ v', e = .returned v' ∧ Below w.heap.size w w' ∧ w'.ownsRow w.heap.size 3 1 v' (pts.map (·.2)).length ((pts.map (·.2)).map i64) := by
  have HR := hid hr
  obtain ⟨a, cap, rfl, _⟩ := hr
  go_enter Tryz.func104, Tryz.ntmps104
  go_wp2
  go_loopw [3, 8] (fun v' i wr => ∃ m : Nat, m ≤ pts.length ∧ i = i64 m ∧ wr.ownsRow w.heap.size 3 1 v' ((pts.take m).map (·.2)).length (((pts.take m).map (·.2)).map i64) ∧ Below w.heap.size w wr) (fun _ i _ => pts.length - (intOf i).toNat)
  case atStart => exact ⟨0, by omega, rfl, World.ownsRow_nil _ _ _ _, Below.refl _ _⟩
  case round =>
    obtain ⟨m, hm, rfl, ho, hb⟩ := hrel
    have HO := hid ho
    have HB := hid hb
    have hzr := hb.size
    obtain ⟨os, hos⟩ : ∃ os, os = (pts.take m).map (·.2) := ⟨_, rfl⟩
    rw [← hos] at HO
    have hol : os.length ≤ 1000 := by
      rw [hos, List.length_map]
      have := List.length_take_le m pts
      omega
    have HOS := hid hos
    obtain ⟨a', c', hv', hrow⟩ := HR.out.later hb
    simp only [Value.slice.injEq, true_and] at hv'
    obtain ⟨rfl, rfl⟩ := hv'
    have HROW := hid hrow
    clear ho hb hos hrow
    obtain ⟨a3, c3, rfl⟩ : ∃ a c, u3 = .slice a os.length c := by
      obtain ⟨_, ⟨h, h0⟩ | ⟨g, cap, cur, h, _⟩⟩ := HO.out
      · exact ⟨none, 0, by rw [h, h0]⟩
      · exact ⟨_, _, h⟩
    by_cases hlt : m < pts.length
    rotate_left
    · have HOS2 := hid (show os = pts.map (·.2) by rw [HOS.out, List.take_of_length_le (by omega)])
      go_wp2
      go_ret
      exact ⟨_, rfl, HB.out, by rw [← HOS2.out]; exact HO.out⟩
    obtain ⟨q, hq⟩ : ∃ q, pts[m]? = some q := ⟨_, List.getElem?_eq_getElem hlt⟩
    obtain ⟨b, rfl, hbz, x0, x1⟩ := HROW.out m q hq
    have HN := hid (show (pts.take (m + 1)).map (·.2) = os ++ [q.2] by rw [List.take_add_one, hq, List.map_append, HOS.out]; rfl)
    obtain ⟨qt, qv⟩ := q
    dsimp only at x0 x1 HN
    obtain ⟨tg, htg⟩ : ∃ t, t = os ++ [qv] := ⟨_, rfl⟩
    rw [← htg] at HN
    have HTG := hid htg
    have m0 : (0 : Int) ≤ (m : Int) := by omega
    have m1 : (m : Int) < (pts.length : Int) := by omega
    clear hq htg
    go_wp2_with (at_builtin; go_must (refine wpList_append_int _ (by rfl) (.tmp 12) (.tmp 15) (by rfl) w.heap.size _ _ os qv (by rfl) (by rfl) tg HTG ((HO.out.alloc _).alloc _) (wr.heap.size + 1) 1 (by rfl) (by simp) hol (by simp; omega) ?_))
    intro v' w' hown hgrow
    have HOW := hid hown
    have HBW := hid (show Below w.heap.size w w' from Below.grown ((HB.out.alloc hzr _).alloc (by simp; omega) _) hgrow (by simp; omega) (fun j hj => (HO.out.lt j hj).1))
    clear hown hgrow
    go_wp2
    go_roundw
    case rel => first | exact ⟨m + 1, by omega, by go_num, by rw [HN.out]; exact HOW.out, HBW.out⟩ | ((repeat apply Exists.intro); exact ⟨⟨m + 1, by omega, by go_num, by rw [HN.out]; exact HOW.out, HBW.out⟩, rfl⟩)
    case measure => simp [intOf]; omega
end Go.Proofs.YthbbfjfekchdiaaGreat
