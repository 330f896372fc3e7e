import Derived.Test.YthbbfjfekchdiaaGreatXRFetch
import Derived.Test.YthbbfjfekchdiaaGreatXZPoints
import Derived.Test.YthbbfjfekchdiaaGreatXRWrites
import Derived.Test.YthbbfjfekchdiaaGreatXZNum
import Derived.Test.YthbbfjfekchdiaaGreatXTk
import Derived.Test.YthbbfjfekchdiaaGreatXZFirst
import Derived.Deep.QuietTactic
import Derived.BigQuiet
import Derived.Deep.MidRow
import Derived.Deep.RegionHeld3
namespace Go.Proofs.YthbbfjfekchdiaaGreat
abbrev Inc (l : List Pt) : Prop := l.Pairwise fun a b => a.1 < b.1
theorem pw_mono {α : Type} {R S : α → α → Prop} {l : List α} (h : ∀ a b, a ∈ l → b ∈ l → R a b → S a b) (hp : l.Pairwise R) : l.Pairwise S := by
  rw [List.pairwise_iff_getElem] at *
  intro i j hi hj hij
  exact h _ _ (List.getElem_mem hi) (List.getElem_mem hj) (hp i j hi hj hij)
theorem pw_both {α : Type} {R S U : α → α → Prop} {l : List α} (h : ∀ a b, R a b → S a b → U a b) (hp : l.Pairwise R) (hq : l.Pairwise S) : l.Pairwise U := by
  rw [List.pairwise_iff_getElem] at *
  intro i j hi hj hij
  exact h _ _ (hp i j hi hj hij) (hq i j hi hj hij)
theorem insPt_eq (out : List Pt) (x : Pt) : insPt out x = (out.takeWhile fun q => decide (q.1 < x.1)) ++ (x :: out.dropWhile fun q => decide (q.1 < x.1)) := by
  have key : ∀ (o a b : List Pt), a ++ b = o → (o.take a.length ++ [x]) ++ o.drop a.length = a ++ (x :: b) := by
    intro o a b h
    subst h
    rw [List.take_left, List.drop_left]
    simp
  exact key out _ _ (List.takeWhile_append_dropWhile (p := fun q : Pt => decide (q.1 < x.1)) (l := out))
theorem dropWhile_ge {x : Int} : ∀ {out : List Pt}, Inc out → (∀ q ∈ out, q.1 ≠ x) → ∀ q ∈ out.dropWhile (fun q => decide (q.1 < x)), x < q.1
  | [], _, _, q, hq => by simp at hq
  | a :: out, hi, hne, q, hq => by
    obtain ⟨h1, h2⟩ := List.pairwise_cons.1 hi
    by_cases ha : a.1 < x
    · rw [List.dropWhile_cons_of_pos (by simpa using ha)] at hq
      exact dropWhile_ge h2 (fun q hq => hne q (by simp [hq])) q hq
    · rw [List.dropWhile_cons_of_neg (by simpa using ha)] at hq
      have hx : x < a.1 := by
        have := hne a (by simp)
        omega
      rcases List.mem_cons.1 hq with rfl | hq
      · exact hx
      · have := h1 q hq
        omega
theorem takeWhile_lt {x : Int} : ∀ {out : List Pt}, ∀ q ∈ out.takeWhile (fun q => decide (q.1 < x)), q.1 < x
  | [], q, hq => by simp at hq
  | a :: out, q, hq => by
    by_cases ha : a.1 < x
    · rw [List.takeWhile_cons_of_pos (by simpa using ha)] at hq
      rcases List.mem_cons.1 hq with rfl | hq
      · exact ha
      · exact takeWhile_lt q hq
    · rw [List.takeWhile_cons_of_neg (by simpa using ha)] at hq
      simp at hq
theorem insPt_inc {out : List Pt} {x : Pt} (hi : Inc out) (hne : ∀ q ∈ out, q.1 ≠ x.1) : Inc (insPt out x) := by
  rw [insPt_eq]
  refine List.pairwise_append.2 ⟨hi.sublist (List.takeWhile_sublist _), ?_, ?_⟩
  · refine List.pairwise_cons.2 ⟨fun q hq => dropWhile_ge hi hne q hq, hi.sublist (List.dropWhile_sublist _)⟩
  · intro a ha b hb
    have h1 := takeWhile_lt a ha
    rcases List.mem_cons.1 hb with rfl | hb
    · exact h1
    · have := dropWhile_ge hi hne b hb
      omega
theorem sortedTo_inc {l : List Pt} (h : (l.map (·.1)).Nodup) : ∀ k, k ≤ l.length → Inc (sortedTo l k) := by
  intro k
  induction k with
  | zero => intro _; simp [sortedTo]
  | succ k ih =>
    intro hk
    obtain ⟨q, hq⟩ : ∃ q, l[k]? = some q := ⟨_, List.getElem?_eq_getElem (by omega)⟩
    rw [sortedTo_succ hq]
    refine insPt_inc (ih (by omega)) fun p hp e => ?_
    rw [sortedTo_mem k (by omega)] at hp
    obtain ⟨j, hj⟩ := List.mem_iff_getElem?.1 hp
    rw [List.getElem?_take] at hj
    split at hj
    · rename_i hjk
      have h1 : (l.map (·.1))[j]? = some p.1 := by rw [List.getElem?_map, hj]; rfl
      have h2 : (l.map (·.1))[k]? = some q.1 := by rw [List.getElem?_map, hq]; rfl
      have hjl : j < (l.map (·.1)).length := by rw [List.length_map]; omega
      have := (List.getElem?_inj (i := j) (j := k) hjl h).1 (by rw [h1, h2, e])
      omega
    · cases hj
theorem sortedL_inc {l : List Pt} (h : (l.map (·.1)).Nodup) : Inc (sortedL l) := sortedTo_inc h _ (Nat.le_refl _)
theorem stamps_nodup {c : Cfg} {i : Nat} {l : List Pt} (h : (l.map fun q => slotOf c i q.1).Nodup) : (l.map (·.1)).Nodup := by
  have e : (l.map fun q => slotOf c i q.1) = (l.map (·.1)).map (slotOf c i) := by rw [List.map_map]; rfl
  rw [e] at h
  exact pw_mono (fun a b _ _ hab e => hab (by rw [e])) (List.pairwise_map.1 h)
theorem inc_unique : ∀ {a b : List Pt}, Inc a → Inc b → (∀ q, q ∈ a ↔ q ∈ b) → a = b
  | [], [], _, _, _ => rfl
  | [], y :: b, _, _, h => by have := (h y).2 (by simp); simp at this
  | x :: a, [], _, _, h => by have := (h x).1 (by simp); simp at this
  | x :: a, y :: b, ha, hb, h => by
    obtain ⟨a1, a2⟩ := List.pairwise_cons.1 ha
    obtain ⟨b1, b2⟩ := List.pairwise_cons.1 hb
    have exy : x = y := by
      rcases List.mem_cons.1 ((h x).1 (by simp)) with e | hx
      · exact e
      · rcases List.mem_cons.1 ((h y).2 (by simp)) with e | hy
        · exact e.symm
        · have := b1 x hx
          have := a1 y hy
          omega
    subst exy
    have : a = b := inc_unique a2 b2 fun q => by
      constructor
      · intro hq
        rcases List.mem_cons.1 ((h q).1 (by simp [hq])) with e | hq'
        · have := a1 q hq
          rw [e] at this
          omega
        · exact hq'
      · intro hq
        rcases List.mem_cons.1 ((h q).2 (by simp [hq])) with e | hq'
        · have := b1 q hq
          rw [e] at this
          omega
        · exact hq'
    rw [this]
end Go.Proofs.YthbbfjfekchdiaaGreat
namespace Go.Proofs.YthbbfjfekchdiaaGreat
theorem slotAt_some {c : Cfg} {i : Nat} {l : List Pt} {j : Nat} {q : Pt} (h : slotAt c i l j = some q) : q ∈ l ∧ slotOf c i q.1 = (j : Int) := by
  unfold slotAt at h
  exact ⟨List.mem_of_find?_eq_some h, by simpa using List.find?_some h⟩
theorem slotAt_mem {c : Cfg} {i : Nat} {l : List Pt} {q : Pt} (hn : (l.map fun q => slotOf c i q.1).Nodup) (hq : q ∈ l) {j : Nat} (hj : slotOf c i q.1 = (j : Int)) : slotAt c i l j = some q := by
  cases h : slotAt c i l j with
  | none =>
    unfold slotAt at h
    rw [List.find?_eq_none] at h
    have := h q hq
    simp [hj] at this
  | some q' =>
    obtain ⟨hq', hj'⟩ := slotAt_some h
    have e : q' = q := by
      obtain ⟨a, ha⟩ := List.mem_iff_getElem?.1 hq
      obtain ⟨b, hb⟩ := List.mem_iff_getElem?.1 hq'
      have key : a = b := by
        obtain ⟨a1, a2⟩ := List.getElem?_eq_some_iff.1 ha
        obtain ⟨b1, b2⟩ := List.getElem?_eq_some_iff.1 hb
        refine (List.getElem_inj (h₀ := by simpa using a1) (h₁ := by simpa using b1) hn).1 ?_
        rw [List.getElem_map, List.getElem_map, a2, b2, hj, hj']
      subst key
      rw [ha] at hb
      exact (Option.some.inj hb).symm
    rw [e]
theorem slots_mem {c : Cfg} {i : Nat} {l : List Pt} (hb : c.Bd i) (hn : (l.map fun q => slotOf c i q.1).Nodup) {fr un : Int} {q : Pt} : q ∈ ptsK fr un (slotsL c i l (c.k i).toNat) ↔ q ∈ l ∧ strB fr un q = true := by
  unfold ptsK slotsL
  rw [List.mem_filter, List.mem_filterMap]
  constructor
  · rintro ⟨⟨o, ho, rfl⟩, hs⟩
    obtain ⟨j, _, hj⟩ := List.mem_map.1 ho
    exact ⟨(slotAt_some hj).1, hs⟩
  · rintro ⟨hq, hs⟩
    refine ⟨⟨some q, ?_, rfl⟩, hs⟩
    have hsl := slotOf_bd hb q.1
    refine List.mem_map.2 ⟨(slotOf c i q.1).toNat, List.mem_range.2 (by omega), slotAt_mem hn hq (by omega)⟩
theorem slots_nodup {c : Cfg} {i : Nat} {l : List Pt} {k : Nat} {fr un : Int} : ((ptsK fr un (slotsL c i l k)).map (·.1)).Nodup := by
  unfold List.Nodup
  rw [List.pairwise_map]
  unfold ptsK slotsL
  refine List.Pairwise.sublist List.filter_sublist ?_
  rw [List.pairwise_filterMap, List.pairwise_map]
  refine pw_mono ?_ List.pairwise_lt_range
  intro a b _ _ hab q hq q' hq' e
  have h1 := (slotAt_some hq).2
  have h2 := (slotAt_some hq').2
  rw [e, h2] at h1
  omega
theorem pts_facts {d : RDb} (hd : d.Ok) {i : Nat} {l : List Pt} (hl : d.L[i]? = some l) (hi : i < d.c.many) {fr un : Int} {pts : List Pt} (hp : pts.Perm (ptsK fr un (slotsL d.c i l (d.c.k i).toNat))) (hs : pts.Pairwise fun a b => a.1 ≤ b.1) :
    Inc pts ∧ ∀ q, q ∈ pts ↔ q ∈ l ∧ strB fr un q = true := by
  have hn : (pts.map (·.1)).Nodup := (List.Perm.nodup_iff (hp.map _)).2 slots_nodup
  refine ⟨?_, fun q => hp.mem_iff.trans (slots_mem (Cfg.bd hd.cfg hi) (hd.apart i l hl))⟩
  unfold List.Nodup at hn
  rw [List.pairwise_map] at hn
  exact pw_both (fun _ _ h1 h2 => by omega) hs hn
theorem fetch_pts {d : RDb} (hd : d.Ok) {i : Nat} {l : List Pt} (hl : d.L[i]? = some l) (hi : i < d.c.many) {now fr un : Int} {pts : List Pt}
    (hp : pts.Perm (ptsK (max fr (now - d.c.s i * d.c.k i + 1)) (min un now) (slotsL d.c i l (d.c.k i).toNat))) (hs : pts.Pairwise fun a b => a.1 ≤ b.1) : pts = (sortedL l).filter (fetchB d.c i now fr un) := by
  obtain ⟨h1, h2⟩ := pts_facts hd hl hi hp hs
  refine inc_unique h1 ((sortedL_inc (stamps_nodup (hd.apart i l hl))).sublist List.filter_sublist) fun q => ?_
  rw [h2 q, List.mem_filter, sortedL_mem]
  refine and_congr_right fun _ => ?_
  unfold strB fetchB covB
  simp only [Bool.and_eq_true, decide_eq_true_eq]
  omega
theorem stretch_pts {d : RDb} (hd : d.Ok) (ha : d.Al) {i : Nat} {l : List Pt} (hl : d.L[i]? = some l) (hi : i < d.c.many) {fr : Int} {n : Nat} (hfr : fr % d.c.s i = 0) {pts : List Pt}
    (hp : pts.Perm (ptsK fr (fr + (n : Int) * d.c.s i - 1) (slotsL d.c i l (d.c.k i).toNat))) (hs : pts.Pairwise fun a b => a.1 ≤ b.1) : pts.map (·.2) = valsTo d.c i l fr n := by
  obtain ⟨h1, h2⟩ := pts_facts hd hl hi hp hs
  have hb := Cfg.bd hd.cfg hi
  have hs1 : 1 ≤ d.c.s i := hb.1
  have e : pts = (List.range n).filterMap fun j : Nat => hasL (fr + (j : Int) * d.c.s i) l := by
    have hmem : ∀ (j : Nat) (q : Pt), hasL (fr + (j : Int) * d.c.s i) l = some q → q ∈ l ∧ q.1 = fr + (j : Int) * d.c.s i := fun j q h => ⟨hasL_mem h, by unfold hasL at h; simpa using List.find?_some h⟩
    refine inc_unique h1 ?_ fun q => ?_
    · rw [Inc, List.pairwise_filterMap]
      refine pw_mono ?_ List.pairwise_lt_range
      intro a b _ _ hab q hq q' hq'
      rw [(hmem a q hq).2, (hmem b q' hq').2]
      have : (a : Int) * d.c.s i + d.c.s i ≤ (b : Int) * d.c.s i := by
        have h3 : ((a : Int) + 1) * d.c.s i ≤ (b : Int) * d.c.s i := Int.mul_le_mul_of_nonneg_right (by omega) (by omega)
        rw [Int.add_mul, Int.one_mul] at h3
        exact h3
      omega
    · rw [h2 q, List.mem_filterMap]
      constructor
      · rintro ⟨hq, hst⟩
        unfold strB at hst
        simp only [Bool.and_eq_true, decide_eq_true_eq] at hst
        have hal := ha i l hl q hq
        have hdv : (q.1 - fr) % d.c.s i = 0 := by rw [Int.sub_emod, hal, hfr]; simp
        have hmu : d.c.s i * ((q.1 - fr) / d.c.s i) = q.1 - fr := by
          have := Int.mul_ediv_add_emod (q.1 - fr) (d.c.s i)
          omega
        obtain ⟨j, hj⟩ : ∃ j : Nat, (j : Int) = (q.1 - fr) / d.c.s i := ⟨((q.1 - fr) / d.c.s i).toNat, by
          have := Int.ediv_nonneg (show 0 ≤ q.1 - fr by omega) (show 0 ≤ d.c.s i by omega)
          omega⟩
        rw [← hj] at hmu
        have hc : d.c.s i * (j : Int) = (j : Int) * d.c.s i := Int.mul_comm _ _
        have hjn : j < n := by
          rcases Nat.lt_or_ge j n with h | h
          · exact h
          · have h3 : (n : Int) * d.c.s i ≤ (j : Int) * d.c.s i := Int.mul_le_mul_of_nonneg_right (by omega) (by omega)
            omega
        refine ⟨j, List.mem_range.2 hjn, ?_⟩
        have hx : fr + (j : Int) * d.c.s i = q.1 := by omega
        rw [hx]
        cases h : hasL q.1 l with
        | none =>
          unfold hasL at h
          rw [List.find?_eq_none] at h
          have := h q hq
          simp at this
        | some q' =>
          have hq' : q' ∈ l ∧ q'.1 = q.1 := ⟨hasL_mem h, by unfold hasL at h; simpa using List.find?_some h⟩
          have hsl := slotOf_bd hb q.1
          have r1 := slotAt_mem (hd.apart i l hl) hq (j := (slotOf d.c i q.1).toNat) (by omega)
          have r2 := slotAt_mem (hd.apart i l hl) hq'.1 (j := (slotOf d.c i q.1).toNat) (by rw [hq'.2]; omega)
          rw [r1] at r2
          exact r2.symm
      · rintro ⟨j, hj, hh⟩
        obtain ⟨hq, hq1⟩ := hmem j q hh
        refine ⟨hq, ?_⟩
        unfold strB
        simp only [Bool.and_eq_true, decide_eq_true_eq]
        have hjn := List.mem_range.1 hj
        have h0 : 0 ≤ (j : Int) * d.c.s i := Int.mul_nonneg (by omega) (by omega)
        have h3 : ((j : Int) + 1) * d.c.s i ≤ (n : Int) * d.c.s i := Int.mul_le_mul_of_nonneg_right (by omega) (by omega)
        rw [Int.add_mul, Int.one_mul] at h3
        omega
  rw [e, List.map_filterMap]
  rfl
theorem begin_begin {t s S : Int} (hs : 1 ≤ s) (hS : 1 ≤ S) (hd : S % s = 0) : (t - t % s) - (t - t % s) % S = t - t % S := by
  have hx : t % S % s = t % s := Int.emod_emod_of_dvd t (Int.dvd_of_emod_eq_zero hd)
  have r0 : 0 ≤ t % S := Int.emod_nonneg _ (by omega)
  have r1 : t % S < S := Int.emod_lt_of_pos _ (by omega)
  have q0 : 0 ≤ t % S % s := Int.emod_nonneg _ (by omega)
  have q1 : t % S % s ≤ t % S := by
    have h3 := Int.mul_ediv_add_emod (t % S) s
    have h4 : 0 ≤ s * (t % S / s) := Int.mul_nonneg (by omega) (Int.ediv_nonneg r0 (by omega))
    omega
  have h1 : (t - t % s) % S = t % S - t % s := by
    have e : t - t % s = (t % S - t % s) + S * (t / S) := by have := Int.mul_ediv_add_emod t S; omega
    rw [e, Int.add_mul_emod_self_left]
    exact Int.emod_eq_of_lt (by omega) (by omega)
  omega
theorem begin_mod {t s S : Int} (hd : S % s = 0) : (t - t % S) % s = 0 := by
  have h1 : t - t % S = S * (t / S) := by have := Int.mul_ediv_add_emod t S; omega
  rw [h1, Int.mul_emod, hd]
  simp
theorem ZRep.put {w w' : World} {In : Nat → Prop} {p : Nat} {d : RDb} (h : ZRep w In p d) {i g : Nat} {l : List Pt} {q : Pt} (hl : d.L[i]? = some l) (hq : PtIn q) (hal : q.1 % d.c.s i = 0)
    (hg : w.heap[g]? = some (.cells (slotBlk (slotsL d.c i l (d.c.k i).toNat)) 116)) (hgi : ∀ gl cap cur, w.heap[p]? = some (.cells #[.slice (some ⟨gl, 0, none⟩) d.c.many cap, .iface (methT d.c.m) (.agg #[]), i64 d.c.f] 89) → w.heap[gl]? = some (.cells cur 94) → cur[i * 2 + 1]? = some (.slice (some ⟨g, 0, none⟩) (d.c.k i).toNat (d.c.k i).toNat))
    (hf : Fr (fun j => j = g) w w') (hw : w'.heap[g]? = some (.cells (slotBlk ((slotsL d.c i l (d.c.k i).toNat).set (slotOf d.c i q.1).toNat (some q))) 116)) : ZRep w' In p (d.put i (setL d.c i q l)) := by
  have hi : i < d.c.many := by
    obtain ⟨x, _⟩ := List.getElem?_eq_some_iff.1 hl
    rw [← h.ok.len]; exact x
  have hb := Cfg.bd h.ok.cfg hi
  have hsl := slotOf_bd hb q.1
  obtain ⟨gl, cap, cur, gs, a, b, c, e, f, gi, r⟩ := h.mem
  have hgi' := hgi gl cap cur b c
  obtain ⟨x, hx⟩ : ∃ x, gs[i]? = some x := ⟨_, List.getElem?_eq_getElem (by omega)⟩
  have hxg : x = g := by
    have := (r i x l hx hl).2.1
    rw [hgi'] at this
    simp at this
    exact this.symm
  subst hxg
  have hpg : ¬ p = x := fun e => by rw [e, hg] at b; simp at b
  have hlg : ¬ gl = x := fun e => by rw [e, hg] at c; simp at c
  refine ⟨put_ok h.ok hl hq, put_al h.al hl hal, h.inp, gl, cap, cur, gs, a, (hf.block p (blk_lt b) hpg).trans b, (hf.block gl (blk_lt c) hlg).trans c, e, f, gi, fun j y l' hy hl' => ?_⟩
  rcases put_at hl' with ⟨rfl, rfl⟩ | ⟨hne, hl2⟩
  · have hyx : y = x := by rw [hx] at hy; exact (Option.some.inj hy).symm
    subst hyx
    obtain ⟨r1, r2, _⟩ := r j y l hx hl
    refine ⟨r1, r2, ?_⟩
    show w'.heap[y]? = some (.cells (slotBlk (slotsL d.c j (setL d.c j q l) (d.c.k j).toNat)) 116)
    rw [slotsL_set (n := (slotOf d.c j q.1).toNat) (by omega)]
    exact hw
  · obtain ⟨r1, r2, r3⟩ := r j y l' hy hl2
    refine ⟨r1, r2, (hf.block y (blk_lt r3) fun e => ?_).trans r3⟩
    have e' : y = x := e
    subst e'
    obtain ⟨j1, j2⟩ := List.getElem?_eq_some_iff.1 hy
    obtain ⟨i1, i2⟩ := List.getElem?_eq_some_iff.1 hx
    exact hne ((List.getElem_inj (h₀ := j1) (h₁ := i1) f).1 (j2.trans i2.symm))
end Go.Proofs.YthbbfjfekchdiaaGreat
namespace Go.Proofs.YthbbfjfekchdiaaGreat
def optPt : Option Pt → Pt
  | some q => q
  | none => (4294967295, 0)
def slotBytes (o : Option Pt) : List Int := numL (optPt o).1 4 ++ numL (optPt o).2 8
theorem slotBytes_len (o : Option Pt) : (slotBytes o).length = 12 := by
  unfold slotBytes; rw [List.length_append, numL_len, numL_len]
def SlotIn (c : Cfg) (i k : Nat) : Option Pt → Prop
  | some q => PtIn q ∧ q.1 % c.s i = 0 ∧ slotOf c i q.1 = (k : Int)
  | none => True
def slotRead (c : Cfg) (i k : Nat) (t v : Int) : Option (Option Pt) :=
  if t = 4294967295 ∧ v = 0 then some none
  else if t ≤ 2147483647 ∧ t % c.s i = 0 ∧ slotOf c i t = (k : Int) ∧ -1000000000 ≤ v ∧ v ≤ 1000000000 then some (some (t, v)) else none
def slotsRead (c : Cfg) (i : Nat) : Nat → Nat → List Int → Option (List (Option Pt) × List Int)
  | _, 0, b => some ([], b)
  | k, n + 1, b =>
    match slotRead c i k (readU (b.take 4)) (readN ((b.drop 4).take 8)) with
    | none => none
    | some o => (slotsRead c i (k + 1) n (b.drop 12)).map fun r => (o :: r.1, r.2)
theorem slotRead_some {c : Cfg} {i k : Nat} {o : Option Pt} (h : SlotIn c i k o) : slotRead c i k (readU (numL (optPt o).1 4)) (readN (numL (optPt o).2 8)) = some o := by
  have e4 : (256 : Int) ^ 4 = 4294967296 := by decide
  cases o with
  | none =>
    simp only [optPt]
    rw [readU_num, readN_num (by decide) (by decide), e4]
    unfold slotRead
    rw [if_pos ⟨by decide, rfl⟩]
  | some q =>
    obtain ⟨⟨h1, h2, h3, h4⟩, h5, h6⟩ := h
    simp only [optPt]
    rw [readU_num, readN_num (by omega) (by omega), e4, Int.emod_eq_of_lt h1 (by omega)]
    unfold slotRead
    rw [if_neg (by omega), if_pos ⟨h2, h5, h6, h3, h4⟩]
theorem slotRead_in {c : Cfg} {i k : Nat} {t v : Int} {o : Option Pt} (ht : 0 ≤ t) (h : slotRead c i k t v = some o) : SlotIn c i k o ∧ (t, v) = optPt o := by
  unfold slotRead at h
  split at h
  · rename_i hx
    simp at h
    subst h
    exact ⟨trivial, by rw [hx.1, hx.2]; rfl⟩
  · split at h
    · rename_i hx
      simp at h
      subst h
      exact ⟨⟨⟨ht, hx.1, hx.2.2.2.1, hx.2.2.2.2⟩, hx.2.1, hx.2.2.1⟩, rfl⟩
    · cases h
theorem slotsRead_save {c : Cfg} {i : Nat} : ∀ (L : List (Option Pt)) (k : Nat) (r : List Int), (∀ (j : Nat) (o : Option Pt), L[j]? = some o → SlotIn c i (k + j) o) → slotsRead c i k L.length (L.flatMap slotBytes ++ r) = some (L, r)
  | [], _, _, _ => rfl
  | o :: L, k, r, h => by
    have h0 : SlotIn c i k o := h 0 o rfl
    have e : (o :: L).flatMap slotBytes ++ r = slotBytes o ++ (L.flatMap slotBytes ++ r) := by rw [List.flatMap_cons, List.append_assoc]
    rw [e, List.length_cons, slotsRead]
    have ho : slotBytes o = numL (optPt o).1 4 ++ numL (optPt o).2 8 := rfl
    have d12 : (slotBytes o ++ (L.flatMap slotBytes ++ r)).drop 12 = L.flatMap slotBytes ++ r := by
      rw [List.drop_append_of_le_length (by rw [slotBytes_len]; exact Nat.le_refl _), List.drop_of_length_le (by rw [slotBytes_len]; exact Nat.le_refl _)]
      rfl
    have t4 : (slotBytes o ++ (L.flatMap slotBytes ++ r)).take 4 = numL (optPt o).1 4 := by
      rw [ho, List.append_assoc, List.take_append_of_le_length (by rw [numL_len]; exact Nat.le_refl _), List.take_of_length_le (by rw [numL_len]; exact Nat.le_refl _)]
    have t8 : ((slotBytes o ++ (L.flatMap slotBytes ++ r)).drop 4).take 8 = numL (optPt o).2 8 := by
      rw [ho, List.append_assoc, List.drop_append_of_le_length (by rw [numL_len]; exact Nat.le_refl _), List.drop_of_length_le (l := numL _ 4) (by rw [numL_len]; exact Nat.le_refl _), List.nil_append, List.take_append_of_le_length (by rw [numL_len]; exact Nat.le_refl _), List.take_of_length_le (by rw [numL_len]; exact Nat.le_refl _)]
    rw [t4, t8, slotRead_some h0, d12]
    simp only
    rw [slotsRead_save L (k + 1) r fun j o' hj => by
      have := h (j + 1) o' (by simpa using hj)
      rw [show k + 1 + j = k + (j + 1) by omega]
      exact this]
    rfl
theorem slotsRead_back {c : Cfg} {i : Nat} : ∀ (n k : Nat) (b : List Int) (L : List (Option Pt)) (r : List Int), ByteL b → 12 * n ≤ b.length → slotsRead c i k n b = some (L, r) → L.length = n ∧ (∀ (j : Nat) (o : Option Pt), L[j]? = some o → SlotIn c i (k + j) o) ∧ b = L.flatMap slotBytes ++ r
  | 0, _, b, L, r, _, _, h => by
    rw [slotsRead] at h
    cases h
    exact ⟨rfl, fun j o hj => by simp at hj, rfl⟩
  | n + 1, k, b, L, r, hb, hl, h => by
    rw [slotsRead] at h
    cases ho : slotRead c i k (readU (b.take 4)) (readN ((b.drop 4).take 8)) with
    | none => rw [ho] at h; cases h
    | some o =>
      rw [ho] at h
      simp only at h
      cases hr : slotsRead c i (k + 1) n (b.drop 12) with
      | none => rw [hr] at h; cases h
      | some z =>
        rw [hr] at h
        simp only [Option.map_some, Option.some.injEq, Prod.mk.injEq] at h
        obtain ⟨rfl, rfl⟩ := h
        have hb4 : ByteL (b.take 4) := fun x hx => hb x (List.mem_of_mem_take hx)
        have hb8 : ByteL ((b.drop 4).take 8) := fun x hx => hb x (List.mem_of_mem_drop (List.mem_of_mem_take hx))
        have hb12 : ByteL (b.drop 12) := fun x hx => hb x (List.mem_of_mem_drop hx)
        have l4 : (b.take 4).length = 4 := by rw [List.length_take]; omega
        have l8 : ((b.drop 4).take 8).length = 8 := by rw [List.length_take, List.length_drop]; omega
        obtain ⟨r1, r2, r3⟩ := slotsRead_back n (k + 1) (b.drop 12) z.1 z.2 hb12 (by rw [List.length_drop]; omega) hr
        obtain ⟨i1, i2⟩ := slotRead_in (readU_bd hb4).1 ho
        have n4 := num_readU hb4
        rw [l4] at n4
        have n8 := num_readN hb8 l8
        have hs : slotBytes o = b.take 4 ++ (b.drop 4).take 8 := by
          unfold slotBytes
          rw [← i2, n4, n8]
        refine ⟨by rw [List.length_cons, r1], ?_, ?_⟩
        · intro j o' hj
          cases j with
          | zero => simp at hj; subst hj; exact i1
          | succ j =>
            have := r2 j o' (by simpa using hj)
            rw [show k + (j + 1) = k + 1 + j by omega]
            exact this
        · rw [List.flatMap_cons, List.append_assoc, ← r3, hs]
          have : b.drop 12 = (b.drop 4).drop 8 := by rw [List.drop_drop]
          rw [this, List.append_assoc, List.take_append_drop, List.take_append_drop]
end Go.Proofs.YthbbfjfekchdiaaGreat
namespace Go.Proofs.YthbbfjfekchdiaaGreat
def arcsRead (c : Cfg) : Nat → Nat → List Int → Option (List (List (Option Pt)) × List Int)
  | _, 0, b => some ([], b)
  | i, n + 1, b =>
    match slotsRead c i 0 (c.k i).toNat b with
    | none => none
    | some r => (arcsRead c (i + 1) n r.2).map fun z => (r.1 :: z.1, z.2)
def SlotsIn (c : Cfg) (i : Nat) (L : List (Option Pt)) : Prop := L.length = (c.k i).toNat ∧ ∀ (j : Nat) (o : Option Pt), L[j]? = some o → SlotIn c i j o
def bytesOf (A : List (List (Option Pt))) : List Int := A.flatMap fun L => L.flatMap slotBytes
theorem arcsRead_save {c : Cfg} : ∀ (A : List (List (Option Pt))) (i : Nat) (r : List Int), (∀ (j : Nat) (L : List (Option Pt)), A[j]? = some L → SlotsIn c (i + j) L) → arcsRead c i A.length (bytesOf A ++ r) = some (A, r)
  | [], _, _, _ => rfl
  | L :: A, i, r, h => by
    have h0 : SlotsIn c i L := h 0 L rfl
    have e : bytesOf (L :: A) ++ r = L.flatMap slotBytes ++ (bytesOf A ++ r) := by unfold bytesOf; rw [List.flatMap_cons, List.append_assoc]
    rw [e, List.length_cons, arcsRead, ← h0.1, slotsRead_save L 0 (bytesOf A ++ r) fun j o hj => by rw [Nat.zero_add]; exact h0.2 j o hj]
    simp only
    rw [arcsRead_save A (i + 1) r fun j L' hj => by
      have := h (j + 1) L' (by simpa using hj)
      rw [show i + 1 + j = i + (j + 1) by omega]
      exact this]
    rfl
def slotLen (c : Cfg) : Nat → Nat → Nat
  | _, 0 => 0
  | i, n + 1 => 12 * (c.k i).toNat + slotLen c (i + 1) n
theorem arcsRead_back {c : Cfg} : ∀ (n i : Nat) (b : List Int) (A : List (List (Option Pt))) (r : List Int), ByteL b → slotLen c i n ≤ b.length → arcsRead c i n b = some (A, r) → A.length = n ∧ (∀ (j : Nat) (L : List (Option Pt)), A[j]? = some L → SlotsIn c (i + j) L) ∧ b = bytesOf A ++ r
  | 0, _, b, A, r, _, _, h => by
    rw [arcsRead] at h
    cases h
    exact ⟨rfl, fun j L hj => by simp at hj, rfl⟩
  | n + 1, i, b, A, r, hb, hl, h => by
    rw [arcsRead] at h
    rw [slotLen] at hl
    cases hs : slotsRead c i 0 (c.k i).toNat b with
    | none => rw [hs] at h; cases h
    | some z =>
      rw [hs] at h
      simp only at h
      cases hr : arcsRead c (i + 1) n z.2 with
      | none => rw [hr] at h; cases h
      | some y =>
        rw [hr] at h
        simp only [Option.map_some, Option.some.injEq, Prod.mk.injEq] at h
        obtain ⟨rfl, rfl⟩ := h
        obtain ⟨s1, s2, s3⟩ := slotsRead_back (c.k i).toNat 0 b z.1 z.2 hb (by omega) hs
        have hzb : ByteL z.2 := fun x hx => hb x (by rw [s3]; simp [hx])
        have hlen : (z.1.flatMap slotBytes).length = 12 * (c.k i).toNat := by
          rw [← s1]
          clear s1 s2 s3 hs hr hl
          generalize z.1 = L
          induction L with
          | nil => rfl
          | cons a L ih => rw [List.flatMap_cons, List.length_append, ih, slotBytes_len, List.length_cons]; omega
        have hz2 : slotLen c (i + 1) n ≤ z.2.length := by
          have := congrArg List.length s3
          rw [List.length_append, hlen] at this
          omega
        obtain ⟨r1, r2, r3⟩ := arcsRead_back n (i + 1) z.2 y.1 y.2 hzb hz2 hr
        refine ⟨by rw [List.length_cons, r1], ?_, ?_⟩
        · intro j L hj
          cases j with
          | zero => simp at hj; subst hj; exact ⟨s1, fun j o ho => by have := s2 j o ho; rwa [Nat.zero_add] at this⟩
          | succ j =>
            have := r2 j L (by simpa using hj)
            rw [show i + (j + 1) = i + 1 + j by omega]
            exact this
        · rw [s3, r3]
          unfold bytesOf
          rw [List.flatMap_cons, List.append_assoc]
theorem slots_of_list {c : Cfg} {i : Nat} {l : List Pt} (hp : ∀ q ∈ l, PtIn q) (ha : ∀ q ∈ l, q.1 % c.s i = 0) : SlotsIn c i (slotsL c i l (c.k i).toNat) := by
  refine ⟨slotsL_len _ _ _ _, fun j o hj => ?_⟩
  unfold slotsL at hj
  rw [List.getElem?_map] at hj
  cases hr : (List.range (c.k i).toNat)[j]? with
  | none => rw [hr] at hj; cases hj
  | some x =>
    rw [hr] at hj
    have hx : x = j := by
      obtain ⟨y, hy⟩ := List.getElem?_eq_some_iff.1 hr
      rw [List.getElem_range] at hy
      exact hy.symm
    subst hx
    simp only [Option.map_some, Option.some.injEq] at hj
    cases o with
    | none => exact trivial
    | some q =>
      obtain ⟨h1, h2⟩ := slotAt_some hj
      exact ⟨hp q h1, ha q h1, h2⟩
def listOf (L : List (Option Pt)) : List Pt := L.filterMap id
theorem listOf_mem {L : List (Option Pt)} {q : Pt} : q ∈ listOf L ↔ ∃ j : Nat, L[j]? = some (some q) := by
  unfold listOf
  rw [List.mem_filterMap]
  constructor
  · rintro ⟨o, ho, e⟩
    obtain ⟨j, hj⟩ := List.mem_iff_getElem?.1 ho
    have e' : o = some q := e
    exact ⟨j, by rw [hj, e']⟩
  · rintro ⟨j, hj⟩
    exact ⟨some q, List.mem_of_getElem? hj, rfl⟩
theorem listOf_apart {c : Cfg} {i : Nat} {L : List (Option Pt)} (h : SlotsIn c i L) : ((listOf L).map fun q => slotOf c i q.1).Nodup := by
  unfold List.Nodup listOf
  rw [List.pairwise_map, List.pairwise_filterMap, List.pairwise_iff_getElem]
  intro a b ha hb hab q hq q' hq' e
  have h1 := h.2 a (some q) (by rw [List.getElem?_eq_getElem ha]; exact congrArg some hq)
  have h2 := h.2 b (some q') (by rw [List.getElem?_eq_getElem hb]; exact congrArg some hq')
  have h3 := h1.2.2
  have h4 := h2.2.2
  rw [e, h4] at h3
  omega
theorem slots_listOf {c : Cfg} {i : Nat} {L : List (Option Pt)} (h : SlotsIn c i L) : slotsL c i (listOf L) (c.k i).toNat = L := by
  apply List.ext_getElem?
  intro j
  unfold slotsL
  rw [List.getElem?_map]
  by_cases hj : j < (c.k i).toNat
  · rw [List.getElem?_range hj, Option.map_some]
    obtain ⟨o, ho⟩ : ∃ o, L[j]? = some o := ⟨_, List.getElem?_eq_getElem (by rw [h.1]; exact hj)⟩
    rw [ho]
    congr 1
    cases o with
    | some q => exact slotAt_mem (listOf_apart h) (listOf_mem.2 ⟨j, ho⟩) (h.2 j _ ho).2.2
    | none =>
      cases hs : slotAt c i (listOf L) j with
      | none => rfl
      | some q =>
        obtain ⟨h1, h2⟩ := slotAt_some hs
        obtain ⟨j', hj'⟩ := listOf_mem.1 h1
        have h3 := (h.2 j' _ hj').2.2
        rw [h2] at h3
        have e : j = j' := by omega
        subst e
        rw [ho] at hj'
        cases hj'
  · rw [List.getElem?_eq_none (by simpa using hj), List.getElem?_eq_none (by rw [h.1]; omega)]
    rfl
end Go.Proofs.YthbbfjfekchdiaaGreat
namespace Go.Proofs.YthbbfjfekchdiaaGreat
def arcBytes (c : Cfg) (i : Nat) : List Int := numL (c.s i) 4 ++ numL (c.k i) 4
theorem arcBytes_len (c : Cfg) (i : Nat) : (arcBytes c i).length = 8 := by unfold arcBytes; rw [List.length_append, numL_len, numL_len]
def arcsOf (d : RDb) : List (List (Option Pt)) := (List.range d.c.many).map fun i => slotsL d.c i ((d.L[i]?).getD []) (d.c.k i).toNat
def saveL (d : RDb) : List Int := [83, 85, 78, 1, d.c.m, d.c.f, (d.c.many : Int)] ++ ((List.range d.c.many).flatMap (arcBytes d.c) ++ bytesOf (arcsOf d))
def RDb.norm (d : RDb) : RDb := ⟨d.c, (arcsOf d).map listOf⟩
def sRead (b : List Int) (n i : Nat) : Int := if i < n then readU ((b.drop (7 + 8 * i)).take 4) else 0
def kRead (b : List Int) (n i : Nat) : Int := if i < n then readU ((b.drop (7 + 8 * i + 4)).take 4) else 0
def cfgRead (b : List Int) (n : Nat) : Cfg := ⟨sRead b n 0, kRead b n 0, sRead b n 1, kRead b n 1, sRead b n 2, kRead b n 2, sRead b n 3, kRead b n 3, b.getD 4 0, b.getD 5 0⟩
def loadL (b : List Int) : Option RDb :=
  if b.length < 7 ∨ b.take 4 ≠ [83, 85, 78, 1] ∨ b.getD 6 0 < 1 ∨ 4 < b.getD 6 0 ∨ b.length < 7 + 8 * (b.getD 6 0).toNat then none
  else if (cfgRead b (b.getD 6 0).toNat).err ≠ 0 ∨ (cfgRead b (b.getD 6 0).toNat).many ≠ (b.getD 6 0).toNat ∨ b.length ≠ 7 + 8 * (b.getD 6 0).toNat + slotLen (cfgRead b (b.getD 6 0).toNat) 0 (b.getD 6 0).toNat then none
  else (arcsRead (cfgRead b (b.getD 6 0).toNat) 0 (b.getD 6 0).toNat (b.drop (7 + 8 * (b.getD 6 0).toNat))).map fun z => ⟨cfgRead b (b.getD 6 0).toNat, z.1.map listOf⟩
theorem flat_drop {α : Type} {f : α → List Int} (hf : ∀ x, (f x).length = 8) : ∀ (xs : List α) (i : Nat) (x : α) (r : List Int), xs[i]? = some x → ∃ r', (xs.flatMap f ++ r).drop (8 * i) = f x ++ r'
  | [], _, _, _, h => by simp at h
  | a :: xs, 0, x, r, h => by
    simp at h
    subst h
    exact ⟨xs.flatMap f ++ r, by rw [List.flatMap_cons, List.append_assoc]; rfl⟩
  | a :: xs, i + 1, x, r, h => by
    obtain ⟨r', hr⟩ := flat_drop hf xs i x r (by simpa using h)
    refine ⟨r', ?_⟩
    rw [List.flatMap_cons, List.append_assoc, show 8 * (i + 1) = 8 + 8 * i by omega, ← List.drop_drop, List.drop_append_of_le_length (by rw [hf]; exact Nat.le_refl _), List.drop_of_length_le (l := f a) (by rw [hf]; exact Nat.le_refl _), List.nil_append]
    exact hr
theorem flat_len {α : Type} {f : α → List Int} (hf : ∀ x, (f x).length = 8) (xs : List α) : (xs.flatMap f).length = 8 * xs.length := by
  induction xs with
  | nil => rfl
  | cons a xs ih => rw [List.flatMap_cons, List.length_append, ih, hf, List.length_cons]; omega
theorem arcs_in {d : RDb} (hd : d.Ok) (ha : d.Al) : (arcsOf d).length = d.c.many ∧ ∀ (j : Nat) (L : List (Option Pt)), (arcsOf d)[j]? = some L → SlotsIn d.c (0 + j) L := by
  refine ⟨by unfold arcsOf; simp, fun j L hj => ?_⟩
  unfold arcsOf at hj
  rw [List.getElem?_map] at hj
  by_cases hjm : j < d.c.many
  · rw [List.getElem?_range hjm] at hj
    simp only [Option.map_some, Option.some.injEq] at hj
    obtain ⟨l, hl⟩ : ∃ l, d.L[j]? = some l := ⟨_, List.getElem?_eq_getElem (by rw [hd.len]; exact hjm)⟩
    rw [hl, Option.getD_some] at hj
    subst hj
    rw [Nat.zero_add]
    exact slots_of_list (hd.pts j l hl).1 (ha j l hl)
  · rw [List.getElem?_eq_none (by simpa using hjm)] at hj
    cases hj
theorem slotLen_of {c : Cfg} : ∀ (A : List (List (Option Pt))) (i : Nat), (∀ (j : Nat) (L : List (Option Pt)), A[j]? = some L → SlotsIn c (i + j) L) → (bytesOf A).length = slotLen c i A.length
  | [], _, _ => rfl
  | L :: A, i, h => by
    have h0 : SlotsIn c i L := h 0 L rfl
    have hL : ∀ M : List (Option Pt), (M.flatMap slotBytes).length = 12 * M.length := by
      intro M
      induction M with
      | nil => rfl
      | cons a M ih => rw [List.flatMap_cons, List.length_append, ih, slotBytes_len, List.length_cons]; omega
    rw [show bytesOf (L :: A) = L.flatMap slotBytes ++ bytesOf A from rfl, List.length_append, hL, h0.1, List.length_cons, slotLen, slotLen_of A (i + 1) fun j L' hj => by
      have := h (j + 1) L' (by simpa using hj)
      rw [show i + 1 + j = i + (j + 1) by omega]
      exact this]
theorem cfgRead_save {d : RDb} (hd : d.Ok) : cfgRead (saveL d) d.c.many = d.c := by
  have e4 : (256 : Int) ^ 4 = 4294967296 := by decide
  have hz : ∀ i, i < 4 → ¬ i < d.c.many → d.c.s i = 0 ∧ d.c.k i = 0 := fun i h4 hn => (hd.cfg.2.1 i h4).1 (by omega)
  have key : ∀ i, i < 4 → sRead (saveL d) d.c.many i = d.c.s i ∧ kRead (saveL d) d.c.many i = d.c.k i := by
    intro i h4
    unfold sRead kRead
    by_cases hi : i < d.c.many
    · rw [if_pos hi, if_pos hi]
      obtain ⟨b1, b2, b3, b4⟩ := Cfg.bd hd.cfg hi
      obtain ⟨r', hr⟩ := flat_drop (arcBytes_len d.c) (List.range d.c.many) i i (bytesOf (arcsOf d)) (List.getElem?_range hi)
      have hdr : (saveL d).drop (7 + 8 * i) = arcBytes d.c i ++ r' := by
        rw [← List.drop_drop]
        exact hr
      have hdr4 : (saveL d).drop (7 + 8 * i + 4) = numL (d.c.k i) 4 ++ r' := by
        rw [← List.drop_drop, hdr]
        unfold arcBytes
        rw [List.append_assoc, List.drop_append_of_le_length (by rw [numL_len]; exact Nat.le_refl _), List.drop_of_length_le (by rw [numL_len]; exact Nat.le_refl _), List.nil_append]
      have hs : (arcBytes d.c i ++ r').take 4 = numL (d.c.s i) 4 := by
        unfold arcBytes
        rw [List.append_assoc, List.take_append_of_le_length (by rw [numL_len]; exact Nat.le_refl _), List.take_of_length_le (by rw [numL_len]; exact Nat.le_refl _)]
      have hk : (numL (d.c.k i) 4 ++ r').take 4 = numL (d.c.k i) 4 := by
        rw [List.take_append_of_le_length (by rw [numL_len]; exact Nat.le_refl _), List.take_of_length_le (by rw [numL_len]; exact Nat.le_refl _)]
      rw [hdr, hdr4, hs, hk, readU_num, readU_num, e4]
      exact ⟨Int.emod_eq_of_lt (by omega) (by omega), Int.emod_eq_of_lt (by omega) (by omega)⟩
    · rw [if_neg hi, if_neg hi]
      exact ⟨(hz i h4 hi).1.symm, (hz i h4 hi).2.symm⟩
  have k0 := key 0 (by omega); have k1 := key 1 (by omega); have k2 := key 2 (by omega); have k3 := key 3 (by omega)
  have e : cfgRead (saveL d) d.c.many = ⟨d.c.s 0, d.c.k 0, d.c.s 1, d.c.k 1, d.c.s 2, d.c.k 2, d.c.s 3, d.c.k 3, d.c.m, d.c.f⟩ := by
    unfold cfgRead
    rw [k0.1, k0.2, k1.1, k1.2, k2.1, k2.2, k3.1, k3.2]
    rfl
  rw [e]
  rfl
theorem load_save {d : RDb} (hd : d.Ok) (ha : d.Al) : loadL (saveL d) = some d.norm := by
  have h4 := d.c.many_le
  have hm1 : 1 ≤ d.c.many := (d.c.ok_iff.1 hd.cfg).2.2.1
  obtain ⟨h1, h2⟩ := arcs_in hd ha
  have g6 : (saveL d).getD 6 0 = (d.c.many : Int) := rfl
  have hn : ((saveL d).getD 6 0).toNat = d.c.many := by rw [g6]; omega
  have hl : (saveL d).length = 7 + 8 * d.c.many + slotLen d.c 0 d.c.many := by
    unfold saveL
    rw [List.length_append, List.length_append, flat_len (arcBytes_len d.c), List.length_range, slotLen_of (arcsOf d) 0 h2, h1]
    simp
    omega
  have hdr : (saveL d).drop (7 + 8 * d.c.many) = bytesOf (arcsOf d) := by
    rw [← List.drop_drop]
    show ((List.range d.c.many).flatMap (arcBytes d.c) ++ bytesOf (arcsOf d)).drop (8 * d.c.many) = _
    have hfl : ((List.range d.c.many).flatMap (arcBytes d.c)).length = 8 * d.c.many := by rw [flat_len (arcBytes_len d.c), List.length_range]
    rw [List.drop_append_of_le_length (by rw [hfl]; exact Nat.le_refl _), List.drop_of_length_le (by rw [hfl]; exact Nat.le_refl _), List.nil_append]
  unfold loadL
  rw [hn, cfgRead_save hd, hdr, if_neg, if_neg]
  · have := arcsRead_save (c := d.c) (arcsOf d) 0 [] h2
    rw [List.append_nil, h1] at this
    rw [this]
    rfl
  · rintro (x | x | x)
    · exact x (d.c.err_ok hd.cfg)
    · exact x rfl
    · exact x hl
  · rintro (x | x | x | x | x)
    · omega
    · exact x rfl
    · rw [g6] at x; omega
    · rw [g6] at x; omega
    · omega
theorem norm_kept {d : RDb} (hd : d.Ok) (ha : d.Al) : d.norm.Ok ∧ d.norm.Al ∧ d.norm.c = d.c := by
  obtain ⟨h1, h2⟩ := arcs_in hd ha
  have hat : ∀ (i : Nat) (l : List Pt), d.norm.L[i]? = some l → ∃ L, SlotsIn d.c i L ∧ l = listOf L := fun i l hl => by
    have hl' : ((arcsOf d).map listOf)[i]? = some l := hl
    rw [List.getElem?_map] at hl'
    cases hx : (arcsOf d)[i]? with
    | none => rw [hx] at hl'; cases hl'
    | some L =>
      rw [hx] at hl'
      have := h2 i L hx
      rw [Nat.zero_add] at this
      exact ⟨L, this, (Option.some.inj hl').symm⟩
  refine ⟨⟨hd.cfg, by show ((arcsOf d).map listOf).length = d.c.many; rw [List.length_map]; exact h1, fun i l hl => ?_, fun i l hl => ?_⟩, fun i l hl q hq => ?_, rfl⟩
  · obtain ⟨L, hL, rfl⟩ := hat i l hl
    refine ⟨fun q hq => ?_, ?_⟩
    · obtain ⟨j, hj⟩ := listOf_mem.1 hq
      exact (hL.2 j _ hj).1
    · unfold listOf
      refine Nat.le_trans (List.length_filterMap_le _ _) ?_
      rw [hL.1]
      have hi : i < d.c.many := by
        obtain ⟨x, _⟩ := List.getElem?_eq_some_iff.1 hl
        have : d.norm.L.length = d.c.many := by show ((arcsOf d).map listOf).length = d.c.many; rw [List.length_map]; exact h1
        omega
      have := (Cfg.bd hd.cfg hi).2.2.2
      omega
  · obtain ⟨L, hL, rfl⟩ := hat i l hl
    exact listOf_apart hL
  · obtain ⟨L, hL, rfl⟩ := hat i l hl
    obtain ⟨j, hj⟩ := listOf_mem.1 hq
    exact (hL.2 j _ hj).2.1
theorem load_back {b : List Int} {d : RDb} (hb : ByteL b) (h : loadL b = some d) : d.Ok ∧ d.Al ∧ saveL d = b ∧ d.norm = d := by
  have e4 : (256 : Int) ^ 4 = 4294967296 := by decide
  unfold loadL at h
  split at h
  · cases h
  · rename_i x1
    split at h
    · cases h
    · rename_i x2
      generalize hN : (b.getD 6 0).toNat = n at h x1 x2
      generalize hC : cfgRead b n = c at h x2
      have y1 : ¬ b.length < 7 := fun y => x1 (.inl y)
      have y2 : b.take 4 = [83, 85, 78, 1] := Classical.not_not.1 fun y => x1 (.inr (.inl y))
      have y3 : ¬ b.getD 6 0 < 1 := fun y => x1 (.inr (.inr (.inl y)))
      have y4 : ¬ 4 < b.getD 6 0 := fun y => x1 (.inr (.inr (.inr (.inl y))))
      have y5 : ¬ b.length < 7 + 8 * n := fun y => x1 (.inr (.inr (.inr (.inr y))))
      have z1 : c.err = 0 := Classical.not_not.1 fun y => x2 (.inl y)
      have z2 : c.many = n := Classical.not_not.1 fun y => x2 (.inr (.inl y))
      have z3 : b.length = 7 + 8 * n + slotLen c 0 n := Classical.not_not.1 fun y => x2 (.inr (.inr y))
      have hok : c.Ok := Classical.not_not.1 fun y => by rw [c.err_no y] at z1; cases z1
      cases hA : arcsRead c 0 n (b.drop (7 + 8 * n)) with
      | none => rw [hA] at h; cases h
      | some z =>
        rw [hA] at h
        simp only [Option.map_some, Option.some.injEq] at h
        subst h
        have hbd : ByteL (b.drop (7 + 8 * n)) := fun x hx => hb x (List.mem_of_mem_drop hx)
        obtain ⟨a1, a2, a3⟩ := arcsRead_back n 0 (b.drop (7 + 8 * n)) z.1 z.2 hbd (by rw [List.length_drop]; omega) hA
        have a2' : ∀ (j : Nat) (L : List (Option Pt)), z.1[j]? = some L → SlotsIn c j L := fun j L hj => by have := a2 j L hj; rwa [Nat.zero_add] at this
        have hz2 : z.2 = [] := by
          have := congrArg List.length a3
          rw [List.length_append, List.length_drop, slotLen_of z.1 0 a2, a1] at this
          exact List.length_eq_zero_iff.1 (by omega)
        rw [hz2, List.append_nil] at a3
        have hat : ∀ (i : Nat) (l : List Pt), (z.1.map listOf)[i]? = some l → ∃ L, z.1[i]? = some L ∧ SlotsIn c i L ∧ l = listOf L := fun i l hl => by
          rw [List.getElem?_map] at hl
          cases hx : z.1[i]? with
          | none => rw [hx] at hl; cases hl
          | some L => rw [hx] at hl; exact ⟨L, rfl, a2' i L hx, (Option.some.inj hl).symm⟩
        have hOk : (RDb.mk c (z.1.map listOf)).Ok := by
          refine ⟨hok, by show (z.1.map listOf).length = c.many; rw [List.length_map, a1, z2], fun i l hl => ?_, fun i l hl => ?_⟩
          · obtain ⟨L, hx, hL, rfl⟩ := hat i l hl
            refine ⟨fun q hq => ?_, ?_⟩
            · obtain ⟨j, hj⟩ := listOf_mem.1 hq
              exact (hL.2 j _ hj).1
            · unfold listOf
              refine Nat.le_trans (List.length_filterMap_le _ _) ?_
              rw [hL.1]
              have hi : i < c.many := by
                obtain ⟨x, _⟩ := List.getElem?_eq_some_iff.1 hx
                omega
              have := (Cfg.bd hok hi).2.2.2
              omega
          · obtain ⟨L, _, hL, rfl⟩ := hat i l hl
            exact listOf_apart hL
        have hAl : (RDb.mk c (z.1.map listOf)).Al := fun i l hl q hq => by
          obtain ⟨L, _, hL, rfl⟩ := hat i l hl
          obtain ⟨j, hj⟩ := listOf_mem.1 hq
          exact (hL.2 j _ hj).2.1
        have hAr : arcsOf (RDb.mk c (z.1.map listOf)) = z.1 := by
          unfold arcsOf
          apply List.ext_getElem?
          intro j
          rw [List.getElem?_map]
          by_cases hj : j < c.many
          · rw [List.getElem?_range hj, Option.map_some]
            obtain ⟨L, hL⟩ : ∃ L, z.1[j]? = some L := ⟨_, List.getElem?_eq_getElem (by omega)⟩
            show some (slotsL c j (((z.1.map listOf)[j]?).getD []) (c.k j).toNat) = z.1[j]?
            rw [List.getElem?_map, hL, Option.map_some, Option.getD_some, slots_listOf (a2' j L hL)]
          · rw [List.getElem?_eq_none (l := List.range _) (by simpa using hj), List.getElem?_eq_none (l := z.1) (by omega)]
            rfl
        have hn4 : n ≤ 4 := by rw [← z2]; exact c.many_le
        have harc : ∀ k, k ≤ n → (List.range k).flatMap (arcBytes c) = (b.drop 7).take (8 * k) := by
          intro k
          induction k with
          | zero => intro _; simp
          | succ k ih =>
            intro hk
            rw [List.range_succ, List.flatMap_append, ih (by omega), show 8 * (k + 1) = 8 * k + 8 by omega, List.take_add]
            congr 1
            have hs : c.s k = readU ((b.drop (7 + 8 * k)).take 4) ∧ c.k k = readU ((b.drop (7 + 8 * k + 4)).take 4) := by
              have h4 : k = 0 ∨ k = 1 ∨ k = 2 ∨ k = 3 := by omega
              rw [← hC]
              rcases h4 with rfl | rfl | rfl | rfl
              all_goals (unfold cfgRead Cfg.s Cfg.k sRead kRead; simp only; rw [if_pos (by omega), if_pos (by omega)]; exact ⟨rfl, rfl⟩)
            have ba : ByteL ((b.drop (7 + 8 * k)).take 4) := fun x hx => hb x (List.mem_of_mem_drop (List.mem_of_mem_take hx))
            have bb : ByteL ((b.drop (7 + 8 * k + 4)).take 4) := fun x hx => hb x (List.mem_of_mem_drop (List.mem_of_mem_take hx))
            have la : ((b.drop (7 + 8 * k)).take 4).length = 4 := by rw [List.length_take, List.length_drop]; omega
            have lb : ((b.drop (7 + 8 * k + 4)).take 4).length = 4 := by rw [List.length_take, List.length_drop]; omega
            have na := num_readU ba
            have nb := num_readU bb
            rw [la] at na
            rw [lb] at nb
            rw [List.flatMap_cons, List.flatMap_nil, List.append_nil]
            unfold arcBytes
            rw [hs.1, hs.2, na, nb, List.drop_drop, show (8 : Nat) = 4 + 4 from rfl, List.take_add, List.drop_drop]
        refine ⟨hOk, hAl, ?_, ?_⟩
        · unfold saveL
          rw [hAr]
          show [83, 85, 78, 1, c.m, c.f, (c.many : Int)] ++ ((List.range c.many).flatMap (arcBytes c) ++ bytesOf z.1) = b
          rw [z2, harc n (Nat.le_refl _), ← a3]
          have e1 : (b.drop 7).take (8 * n) ++ b.drop (7 + 8 * n) = b.drop 7 := by rw [← List.drop_drop, List.take_append_drop]
          rw [e1]
          have hcm : c.m = b.getD 4 0 ∧ c.f = b.getD 5 0 := by rw [← hC]; exact ⟨rfl, rfl⟩
          have hn6 : (n : Int) = b.getD 6 0 := by omega
          rw [hcm.1, hcm.2, hn6]
          obtain ⟨v0, v1, v2, v3, v4, v5, v6, t, rfl⟩ : ∃ v0 v1 v2 v3 v4 v5 v6 t, b = v0 :: v1 :: v2 :: v3 :: v4 :: v5 :: v6 :: t := by
            obtain _ | ⟨v0, b⟩ := b
            · simp at y1
            obtain _ | ⟨v1, b⟩ := b
            · simp at y1
            obtain _ | ⟨v2, b⟩ := b
            · simp at y1
            obtain _ | ⟨v3, b⟩ := b
            · simp at y1
            obtain _ | ⟨v4, b⟩ := b
            · simp at y1
            obtain _ | ⟨v5, b⟩ := b
            · simp at y1
            obtain _ | ⟨v6, b⟩ := b
            · simp at y1
            exact ⟨v0, v1, v2, v3, v4, v5, v6, b, rfl⟩
          simp at y2
          obtain ⟨rfl, rfl, rfl, rfl⟩ := y2
          rfl
        · unfold RDb.norm
          rw [hAr]
end Go.Proofs.YthbbfjfekchdiaaGreat
namespace Go.Proofs.YthbbfjfekchdiaaGreat
open Go.RowKit
set_option linter.unusedSimpArgs false
attribute [local go_sem] Go.wp_at_zero Go.wp_at_succ
theorem twelve {l : List Int} (h : l.length = 12) : ∃ x0 x1 x2 x3 x4 x5 x6 x7 x8 x9 x10 x11, l = [x0, x1, x2, x3, x4, x5, x6, x7, x8, x9, x10, x11] := by
  match l, h with
  | [x0, x1, x2, x3, x4, x5, x6, x7, x8, x9, x10, x11], _ => exact ⟨x0, x1, x2, x3, x4, x5, x6, x7, x8, x9, x10, x11, rfl⟩
theorem write_at (b t cap o : Nat) (A X C : List Value) (x : Int) (n : Nat) (w : World) (ho : A.length = o) (hb : w.heap[b]? = some (.cells (A ++ (X ++ C)).toArray t)) (hx : X.length = n) (hn : n ≤ 8) :
    Calls Tryz.prog 84 #[.slice (some ⟨b, o, none⟩) n cap, i64 x] w fun e w' => e = .returned (.tuple #[]) ∧ w'.heap[b]? = some (.cells (A ++ (bs (numL x n) ++ C)).toArray t) ∧ Fr (fun k => k = b) w w' ∧ w'.heap.size = w.heap.size := by
  subst ho
  exact write_num b t cap A X C x n w hb hx hn
theorem blk_setCells {b t : Nat} : ∀ (vs A X C : List Value) (w : World), w.heap[b]? = some (.cells (A ++ (X ++ C)).toArray t) → X.length = vs.length → (w.setCells b A.length vs).heap[b]? = some (.cells (A ++ (vs ++ C)).toArray t) ∧ Fr (fun k => k = b) w (w.setCells b A.length vs) ∧ (w.setCells b A.length vs).heap.size = w.heap.size
  | [], A, X, C, w, h, hx => by
    have : X = [] := List.length_eq_zero_iff.1 (by simpa using hx)
    subst this
    exact ⟨h, Fr.refl _ _, rfl⟩
  | v :: r, A, X, C, w, h, hx => by
    obtain ⟨y, Y, rfl⟩ : ∃ y Y, X = y :: Y := by
      cases X with
      | nil => simp at hx
      | cons y Y => exact ⟨y, Y, rfl⟩
    have h1 := blk_setCell h A.length v
    have e : (A ++ (y :: Y ++ C)).toArray.setIfInBounds A.length v = ((A ++ [v]) ++ (Y ++ C)).toArray := by
      simp
    rw [e] at h1
    obtain ⟨i1, i2, i3⟩ := blk_setCells r (A ++ [v]) Y C _ h1 (by simpa using hx)
    rw [World.setCells, show A.length + 1 = (A ++ [v]).length by simp]
    refine ⟨by rw [i1]; simp, ?_, by rw [i3, size_setCell]⟩
    exact ((Fr.refl (fun k => k = b) w).setCell rfl _ _).trans i2 fun x hx => .inl hx
theorem range_blk {w : World} {b t : Nat} {A X C : List Value} (h : w.heap[b]? = some (.cells (A ++ (X ++ C)).toArray t)) : w.rangeAt b A.length X := by
  intro j v hv
  rw [cell_of_blk h, List.getElem?_toArray, List.getElem?_append_right (by omega), Nat.add_sub_cancel_left, List.getElem?_append_left (List.getElem?_eq_some_iff.1 hv).1, hv]
theorem there_blk {w : World} {b t o n : Nat} {cur : Array Value} (h : w.heap[b]? = some (.cells cur t)) (hn : o + n ≤ cur.size) : w.there b o n := by
  intro j hj
  refine ⟨?_, frozen_of_blk h _⟩
  rw [cell_of_blk h, Array.getElem?_eq_getElem (by omega)]
  rfl
theorem fr_below {w w1 w2 : World} {b : Nat} (h : Below w.heap.size w w1) (hf : Fr (fun k => k = b) w1 w2) (hb : w.heap.size ≤ b) : Below w.heap.size w w2 :=
  h.trans ⟨hf.os, hf.tape, hf.output, hf.size, fun k hk => hf.block k (Nat.lt_of_lt_of_le hk h.size) (by omega)⟩
def zB (n : Nat) : List Value := bs (List.replicate n 0)
theorem Tryz.infoBytes : (Tryz.prog.info? 118).map (·.size) = some 12 := by kernel_rfl
theorem Tryz.infoShapeB : (Tryz.prog.info? 113).map (·.size) = some 8 := by kernel_rfl
theorem three_top (w : World) (O1 O2 O3 : Obj) : (((w.alloc O1).alloc O2).alloc O3).heap[w.heap.size + 1 + 1]? = some O3 := by
  have := blk_new ((w.alloc O1).alloc O2) O3
  simpa using this
theorem three_mid (w : World) (O1 O2 O3 : Obj) : (((w.alloc O1).alloc O2).alloc O3).heap[w.heap.size + 1]? = some O2 := by
  have := blk_alloc (o' := O3) (blk_new (w.alloc O1) O2)
  simpa using this
theorem three_low (w : World) (O1 O2 O3 : Obj) : (((w.alloc O1).alloc O2).alloc O3).heap[w.heap.size]? = some O1 := by
  have := blk_alloc (o' := O3) (blk_alloc (o' := O2) (blk_new w O1))
  simpa using this
theorem three_below (w : World) (O1 O2 O3 : Obj) : Below w.heap.size w (((w.alloc O1).alloc O2).alloc O3) :=
  (((Below.refl _ w).alloc (Nat.le_refl _) O1).alloc (by simp) O2).alloc (by simp; omega) O3
theorem three_topD (w : World) (O1 O2 O3 : Obj) (n : Nat) : ((((w.alloc O1).alloc O2).drewN n).alloc O3).heap[w.heap.size + 1 + 1]? = some O3 := by
  have := blk_new (((w.alloc O1).alloc O2).drewN n) O3
  simpa using this
theorem three_midD (w : World) (O1 O2 O3 : Obj) (n : Nat) : ((((w.alloc O1).alloc O2).drewN n).alloc O3).heap[w.heap.size + 1]? = some O2 := by
  refine blk_alloc (w := ((w.alloc O1).alloc O2).drewN n) ?_
  have := blk_new (w.alloc O1) O2
  simpa using this
theorem three_belowD (w : World) (O1 O2 O3 : Obj) (n : Nat) : Below w.heap.size w ((((w.alloc O1).alloc O2).drewN n).alloc O3) :=
  (below_drewN (((Below.refl _ w).alloc (Nat.le_refl _) O1).alloc (by simp) O2) n).alloc (by simp; omega) O3
set_option maxRecDepth 4000 in
set_option maxHeartbeats 2000000 in
theorem slot_bytes_none (t v : Int) (w : World) :
    Calls Tryz.prog 58 #[.agg #[.bool false, i64 t, i64 v]] w fun e w' => e = .returned (.agg (bs (slotBytes none)).toArray) ∧ Below w.heap.size w w' := by
  go_enter Tryz.func58, Tryz.ntmps58
  go_wp2_with fail
  skip
  go_wp2_with fail
  refine (write_at (w.heap.size + 1 + 1) 118 12 0 [] (zB 4) (zB 8) 4294967295 4 _ rfl (three_top w _ _ _) rfl (by omega)).mono ?_
  rintro e w1 ⟨rfl, hb1, hf1, hs1⟩
  have HB1 := hid hb1
  have HBL := hid (fr_below (three_below w _ _ _) hf1 (by omega))
  have HR1 := hid ((hf1.block (w.heap.size + 1) (by simp) (by omega)).trans (three_mid w _ _ _))
  clear hb1 hf1 hs1
  go_wp2_with fail
  refine (write_at (w.heap.size + 1 + 1) 118 8 4 (bs (numL 4294967295 4)) (zB 8) [] 0 8 _ rfl (by simpa using HB1.out) rfl (by omega)).mono ?_
  rintro e w2 ⟨rfl, hb2, hf2, hs2⟩
  have e12 : bs (numL 4294967295 4) ++ (bs (numL 0 8) ++ []) = bs (slotBytes none) := by
    rw [List.append_nil, ← bs_app]; rfl
  rw [e12] at hb2
  have HBL2 := hid (fr_below HBL.out hf2 (by omega))
  have hR2 := (hf2.block (w.heap.size + 1) (blk_lt HR1.out) (by omega)).trans HR1.out
  obtain ⟨cs, hcs⟩ : ∃ cs, cs = bs (slotBytes none) := ⟨_, rfl⟩
  rw [← hcs] at hb2
  have HCS := hid hcs
  have hlen : cs.length = 12 := by rw [hcs, bs_len, slotBytes_len]
  have h1 : ∀ u ∈ cs, u.oneCell' = true := by rw [hcs]; exact bs_one _
  have HRG := hid (range_blk (A := []) (X := cs) (C := []) (show w2.heap[w.heap.size + 1 + 1]? = some (.cells ([] ++ (cs ++ [])).toArray 118) by simpa using hb2))
  have HSZ := hid (show (Tryz.prog.info? 118).map (·.size) = some cs.length by rw [hlen]; exact Tryz.infoBytes)
  have HTH := hid (show w2.there (w.heap.size + 1) 0 cs.toArray.size from there_blk hR2 (by simp [hlen]))
  have H1 := hid (all_oneCell_toArray h1)
  obtain ⟨hc1, hc2, hc3⟩ := blk_setCells cs [] (zB 12) [] w2 hR2 hlen.symm
  have hrs := run_loadVar_mid (P := Tryz.prog) (w2.setCells (w.heap.size + 1) 0 cs) (w.heap.size + 1) 0 118 cs _ (range_blk (A := []) (C := []) hc1) Tryz.underlying118 rfl HSZ.out
  have HRS := hid hrs
  have HBF := hid (fr_below HBL2.out hc2 (by omega))
  clear hb2 hf2 hs2 hc1 hc2 hc3 hcs h1 hlen e12 hR2 HB1 HBL HR1 HBL2 hrs
  go_wp2_with (refine wpList_load_mid (by rfl) 118 (.tmp 5) (by rfl) (w.heap.size + 1 + 1) 0 (by rfl) cs _ HRG.out Tryz.underlying118 (by rfl) HSZ.out ?_; refine wpList_store_mid (by rfl) 118 (.tmp 2) (.tmp 18) (by rfl) (w.heap.size + 1) 0 cs.toArray (by rfl) (by rfl) HTH.out (by simpa using HSZ.out) H1.out ?_)
  refine bodyPost_ret (v := .agg cs.toArray) (by simp [results, Tryz.results58, Act.put, asAddr, HRS.out]) rfl ⟨by rw [HCS.out], HBF.out⟩
set_option maxRecDepth 4000 in
set_option maxHeartbeats 2000000 in
theorem slot_bytes_some (t v : Int) (w : World) :
    Calls Tryz.prog 58 #[.agg #[.bool true, i64 t, i64 v]] w fun e w' => e = .returned (.agg (bs (slotBytes (some (t, v)))).toArray) ∧ Below w.heap.size w w' := by
  go_enter Tryz.func58, Tryz.ntmps58
  go_wp2_with fail
  go_quiet (fail)
  go_wp2_with fail
  refine (write_at (w.heap.size + 1 + 1) 118 12 0 [] (zB 4) (zB 8) t 4 _ rfl (three_topD w _ _ _ _) rfl (by omega)).mono ?_
  rintro e w1 ⟨rfl, hb1, hf1, hs1⟩
  have HB1 := hid hb1
  have HBL := hid (fr_below (three_belowD w _ _ _ _) hf1 (by omega))
  have HR1 := hid ((hf1.block (w.heap.size + 1) (by simp) (by omega)).trans (three_midD w _ _ _ _))
  clear hb1 hf1 hs1
  go_wp2_with fail
  refine (write_at (w.heap.size + 1 + 1) 118 8 4 (bs (numL t 4)) (zB 8) [] v 8 _ rfl (by simpa using HB1.out) rfl (by omega)).mono ?_
  rintro e w2 ⟨rfl, hb2, hf2, hs2⟩
  have e12 : bs (numL t 4) ++ (bs (numL v 8) ++ []) = bs (slotBytes (some (t, v))) := by
    rw [List.append_nil, ← bs_app]; rfl
  rw [e12] at hb2
  have HBL2 := hid (fr_below HBL.out hf2 (by omega))
  have hR2 := (hf2.block (w.heap.size + 1) (blk_lt HR1.out) (by omega)).trans HR1.out
  obtain ⟨cs, hcs⟩ : ∃ cs, cs = bs (slotBytes (some (t, v))) := ⟨_, rfl⟩
  rw [← hcs] at hb2
  have HCS := hid hcs
  have hlen : cs.length = 12 := by rw [hcs, bs_len, slotBytes_len]
  have h1 : ∀ u ∈ cs, u.oneCell' = true := by rw [hcs]; exact bs_one _
  have HRG := hid (range_blk (A := []) (X := cs) (C := []) (show w2.heap[w.heap.size + 1 + 1]? = some (.cells ([] ++ (cs ++ [])).toArray 118) by simpa using hb2))
  have HSZ := hid (show (Tryz.prog.info? 118).map (·.size) = some cs.length by rw [hlen]; exact Tryz.infoBytes)
  have HTH := hid (show w2.there (w.heap.size + 1) 0 cs.toArray.size from there_blk hR2 (by simp [hlen]))
  have H1 := hid (all_oneCell_toArray h1)
  obtain ⟨hc1, hc2, hc3⟩ := blk_setCells cs [] (zB 12) [] w2 hR2 hlen.symm
  have hrs := run_loadVar_mid (P := Tryz.prog) (w2.setCells (w.heap.size + 1) 0 cs) (w.heap.size + 1) 0 118 cs _ (range_blk (A := []) (C := []) hc1) Tryz.underlying118 rfl HSZ.out
  have HRS := hid hrs
  have HBF := hid (fr_below HBL2.out hc2 (by omega))
  clear hb2 hf2 hs2 hc1 hc2 hc3 hcs h1 hlen e12 hR2 HB1 HBL HR1 HBL2 hrs
  go_wp2_with (refine wpList_load_mid (by rfl) 118 (.tmp 5) (by rfl) (w.heap.size + 1 + 1) 0 (by rfl) cs _ HRG.out Tryz.underlying118 (by rfl) HSZ.out ?_; refine wpList_store_mid (by rfl) 118 (.tmp 2) (.tmp 18) (by rfl) (w.heap.size + 1) 0 cs.toArray (by rfl) (by rfl) HTH.out (by simpa using HSZ.out) H1.out ?_)
  refine bodyPost_ret (v := .agg cs.toArray) (by simp [results, Tryz.results58, Act.put, asAddr, HRS.out]) rfl ⟨by rw [HCS.out], HBF.out⟩
theorem slot_bytes_any (o : Option Pt) (w : World) :
    Calls Tryz.prog 58 #[.agg (slotCells o).toArray] w fun e w' => e = .returned (.agg (bs (slotBytes o)).toArray) ∧ Below w.heap.size w w' := by
  cases o with
  | none => exact slot_bytes_none 0 0 w
  | some q => exact slot_bytes_some q.1 q.2 w
set_option maxRecDepth 4000 in
set_option maxHeartbeats 2000000 in
theorem shape_bytes (s k : Int) (w : World) :
    Calls Tryz.prog 57 #[.agg #[i64 s, i64 k]] w fun e w' => e = .returned (.agg (bs (numL s 4 ++ numL k 4)).toArray) ∧ Below w.heap.size w w' := by
  go_enter Tryz.func57, Tryz.ntmps57
  go_wp2_with fail
  refine wp_region_held_drew (S := (fun w' => w'.cell? ⟨w.heap.size, 0, none⟩ = some (i64 s))) (by kernel_rfl) ?_ (fun hHeld => ?_)
  · exact cell_of_blk (three_low w (.cells #[i64 s, i64 k] 37) _ _) 0
  refine tkI (i := 0) (oi := ⟨some 4, .slice 113 (.tmp 3) none (some (.const (Value.int .i64 4))) none, 57, _, #[], none⟩) ?_
  try simp only [Act.put, tkA, tkB, tkC]
  refine tkI (i := 1) (oi := ⟨some 5, .fieldAddr 37 (.tmp 1) 0, 0, _, #[], none⟩) ?_
  try simp only [Act.put, tkA, tkB, tkC]
  refine tkI (i := 2) (oi := ⟨some 6, .load 3 (.tmp 5), 3, _, #[⟨1, .data⟩], none⟩) ?_
  try simp only [Act.put, tkA, tkB, tkC]
  refine wpAnyH_ready (rs := [3]) (by kernel_rfl) (by simp) ?_
  refine AllReadyH.cons rfl (fun K hK => ?_) AllReadyH.nil
  go_simp
  refine (write_at (w.heap.size + 1 + 1) 113 8 0 [] (zB 4) (zB 4) s 4 _ rfl (by exact three_top w _ _ _) rfl (by omega)).mono ?_
  rintro e w1 ⟨rfl, hb1, hf1, hs1⟩
  have HB1 := hid hb1
  have HBL := hid (fr_below (Below.drew (three_below w _ _ _)) hf1 (by omega))
  have HR1 := hid ((hf1.block (w.heap.size + 1) (by simp) (by omega)).trans (three_mid w _ _ _))
  have HA1 := hid ((hf1.block w.heap.size (by simp; omega) (by omega)).trans (three_low w _ _ _))
  clear hb1 hf1 hs1
  go_wp2_with fail
  refine hK.out _ _ ?_ (fun hHeld => ?_)
  · exact cell_of_blk HA1.out 0
  clear hK K
  refine wpAnyH_done (by kernel_rfl) ?_ _
  have hy1 : w1.cell? ⟨w.heap.size, 1, none⟩ = some (i64 k) := cell_of_blk HA1.out 1
  have hwz : w.heap.size < w1.heap.size := blk_lt HA1.out
  have hwz2 : w.heap.size + 1 + 1 < w1.heap.size := blk_lt HB1.out
  go_wp2_with fail
  refine wp_region_held_drew (S := (fun w' => w'.cell? ⟨w.heap.size, 1, none⟩ = some (i64 k))) (by kernel_rfl) ?_ (fun hHeld => ?_)
  · go_keep
  refine tkI (i := 0) (oi := ⟨some 8, .slice 113 (.tmp 3) (some (.const (Value.int .i64 4))) none none, 57, _, #[], none⟩) ?_
  try simp only [Act.put, tkA, tkB, tkC]
  refine tkI (i := 1) (oi := ⟨some 9, .fieldAddr 37 (.tmp 1) 1, 0, _, #[], none⟩) ?_
  try simp only [Act.put, tkA, tkB, tkC]
  refine tkI (i := 2) (oi := ⟨some 10, .load 3 (.tmp 9), 3, _, #[⟨1, .data⟩], none⟩) ?_
  try simp only [Act.put, tkA, tkB, tkC]
  refine wpAnyH_ready (rs := [3]) (by kernel_rfl) (by simp) ?_
  refine AllReadyH.cons rfl (fun K hK => ?_) AllReadyH.nil
  go_simp
  refine (write_at (w.heap.size + 1 + 1) 113 4 4 (bs (numL s 4)) (zB 4) [] k 4 _ rfl (by rw [List.append_nil]; exact HB1.out) rfl (by omega)).mono ?_
  rintro e w2 ⟨rfl, hb2, hf2, hs2⟩
  have e12 : bs (numL s 4) ++ (bs (numL k 4) ++ []) = bs (numL s 4 ++ numL k 4) := by
    rw [List.append_nil, ← bs_app]
  rw [e12] at hb2
  have HBL2 := hid (fr_below (Below.drew HBL.out) hf2 (by omega))
  have hR2 := (hf2.block (w.heap.size + 1) (blk_lt HR1.out) (by omega)).trans HR1.out
  have hA2 := (hf2.block w.heap.size (blk_lt HA1.out) (by omega)).trans HA1.out
  obtain ⟨cs, hcs⟩ : ∃ cs, cs = bs (numL s 4 ++ numL k 4) := ⟨_, rfl⟩
  rw [← hcs] at hb2
  have HCS := hid hcs
  have hlen : cs.length = 8 := by rw [hcs, bs_len, List.length_append, numL_len, numL_len]
  have h1 : ∀ u ∈ cs, u.oneCell' = true := by rw [hcs]; exact bs_one _
  have HRG := hid (range_blk (A := []) (X := cs) (C := []) (show w2.heap[w.heap.size + 1 + 1]? = some (.cells ([] ++ (cs ++ [])).toArray 113) by simpa using hb2))
  have HSZ := hid (show (Tryz.prog.info? 113).map (·.size) = some cs.length by rw [hlen]; exact Tryz.infoShapeB)
  have HTH := hid (show w2.there (w.heap.size + 1) 0 cs.toArray.size from there_blk hR2 (by simp [hlen]))
  have H1 := hid (all_oneCell_toArray h1)
  obtain ⟨hc1, hc2, hc3⟩ := blk_setCells cs [] (zB 8) [] w2 hR2 hlen.symm
  have hrs := run_loadVar_mid (P := Tryz.prog) (w2.setCells (w.heap.size + 1) 0 cs) (w.heap.size + 1) 0 113 cs _ (range_blk (A := []) (C := []) hc1) Tryz.underlying113 rfl HSZ.out
  have HRS := hid hrs
  have HBF := hid (fr_below HBL2.out hc2 (by omega))
  have HA2 := hid (cell_of_blk hA2 1)
  clear hb2 hf2 hs2 hc1 hc2 hc3 hcs h1 hlen e12 hR2 HB1 HBL HR1 HBL2 hrs hA2
  go_wp2_with fail
  refine hK.out _ _ ?_ (fun hHeld => ?_)
  · exact HA2.out
  clear hK K
  refine wpAnyH_done (by kernel_rfl) ?_ _
  go_wp2_with (refine wpList_load_mid (by rfl) 113 (.tmp 3) (by rfl) (w.heap.size + 1 + 1) 0 (by rfl) cs _ HRG.out Tryz.underlying113 (by rfl) HSZ.out ?_; refine wpList_store_mid (by rfl) 113 (.tmp 2) (.tmp 12) (by rfl) (w.heap.size + 1) 0 cs.toArray (by rfl) (by rfl) HTH.out (by simpa using HSZ.out) H1.out ?_)
  refine bodyPost_ret (v := .agg cs.toArray) (by simp [results, Tryz.results57, Act.put, asAddr, HRS.out]) rfl ⟨by rw [HCS.out], HBF.out⟩
end Go.Proofs.YthbbfjfekchdiaaGreat
