import Derived.Test.YthbbfjfekchdiaaXKWorks
import Derived.Test.YthbbfjfekchdiaaXKFilled
import Derived.BigQuiet
import Derived.Deep.QuietTactic
import Derived.Deep.DeepCutAuto
/-
  The order of points: strictly by their stamps, and by that alone.
-/
namespace Go.Proofs.Ythbbfjfekchdiaa

abbrev Inc (l : List Pt) : Prop := l.Pairwise fun a b => a.1 < b.1

theorem pw_mono {α : Type} {R S : α → α → Prop} {l : List α} (h : ∀ a b, a ∈ l → b ∈ l → R a b → S a b) (hp : l.Pairwise R) : l.Pairwise S := by
  rw [List.pairwise_iff_getElem] at *
  intro i j hi hj hij
  exact h _ _ (List.getElem_mem hi) (List.getElem_mem hj) (hp i j hi hj hij)
theorem pw_both {α : Type} {R S U : α → α → Prop} {l : List α} (h : ∀ a b, R a b → S a b → U a b) (hp : l.Pairwise R) (hq : l.Pairwise S) : l.Pairwise U := by
  rw [List.pairwise_iff_getElem] at *
  intro i j hi hj hij
  exact h _ _ (hp i j hi hj hij) (hq i j hi hj hij)

theorem insPt_eq (out : List Pt) (x : Pt) : insPt out x = (out.takeWhile fun q => decide (q.1 < x.1)) ++ (x :: out.dropWhile fun q => decide (q.1 < x.1)) := by
  have key : ∀ (o a b : List Pt), a ++ b = o → (o.take a.length ++ [x]) ++ o.drop a.length = a ++ (x :: b) := by
    intro o a b h
    subst h
    rw [List.take_left, List.drop_left]
    simp
  exact key out _ _ (List.takeWhile_append_dropWhile (p := fun q : Pt => decide (q.1 < x.1)) (l := out))
theorem dropWhile_ge {x : Int} : ∀ {out : List Pt}, Inc out → (∀ q ∈ out, q.1 ≠ x) → ∀ q ∈ out.dropWhile (fun q => decide (q.1 < x)), x < q.1
  | [], _, _, q, hq => by simp at hq
  | a :: out, hi, hne, q, hq => by
    obtain ⟨h1, h2⟩ := List.pairwise_cons.1 hi
    by_cases ha : a.1 < x
    · rw [List.dropWhile_cons_of_pos (by simpa using ha)] at hq
      exact dropWhile_ge h2 (fun q hq => hne q (by simp [hq])) q hq
    · rw [List.dropWhile_cons_of_neg (by simpa using ha)] at hq
      have hx : x < a.1 := by
        have := hne a (by simp)
        omega
      rcases List.mem_cons.1 hq with rfl | hq
      · exact hx
      · have := h1 q hq
        omega
theorem takeWhile_lt {x : Int} : ∀ {out : List Pt}, ∀ q ∈ out.takeWhile (fun q => decide (q.1 < x)), q.1 < x
  | [], q, hq => by simp at hq
  | a :: out, q, hq => by
    by_cases ha : a.1 < x
    · rw [List.takeWhile_cons_of_pos (by simpa using ha)] at hq
      rcases List.mem_cons.1 hq with rfl | hq
      · exact ha
      · exact takeWhile_lt q hq
    · rw [List.takeWhile_cons_of_neg (by simpa using ha)] at hq
      simp at hq
theorem insPt_inc {out : List Pt} {x : Pt} (hi : Inc out) (hne : ∀ q ∈ out, q.1 ≠ x.1) : Inc (insPt out x) := by
  rw [insPt_eq]
  refine List.pairwise_append.2 ⟨hi.sublist (List.takeWhile_sublist _), ?_, ?_⟩
  · refine List.pairwise_cons.2 ⟨fun q hq => dropWhile_ge hi hne q hq, hi.sublist (List.dropWhile_sublist _)⟩
  · intro a ha b hb
    have h1 := takeWhile_lt a ha
    rcases List.mem_cons.1 hb with rfl | hb
    · exact h1
    · have := dropWhile_ge hi hne b hb
      omega
theorem sortedTo_inc {l : List Pt} (h : (l.map (·.1)).Nodup) : ∀ k, k ≤ l.length → Inc (sortedTo l k) := by
  intro k
  induction k with
  | zero => intro _; simp [sortedTo]
  | succ k ih =>
    intro hk
    obtain ⟨q, hq⟩ : ∃ q, l[k]? = some q := ⟨_, List.getElem?_eq_getElem (by omega)⟩
    rw [sortedTo_succ hq]
    refine insPt_inc (ih (by omega)) fun p hp e => ?_
    rw [sortedTo_mem k (by omega)] at hp
    obtain ⟨j, hj⟩ := List.mem_iff_getElem?.1 hp
    rw [List.getElem?_take] at hj
    split at hj
    · rename_i hjk
      have h1 : (l.map (·.1))[j]? = some p.1 := by rw [List.getElem?_map, hj]; rfl
      have h2 : (l.map (·.1))[k]? = some q.1 := by rw [List.getElem?_map, hq]; rfl
      have hjl : j < (l.map (·.1)).length := by rw [List.length_map]; omega
      have := (List.getElem?_inj (i := j) (j := k) hjl h).1 (by rw [h1, h2, e])
      omega
    · cases hj
theorem sortedL_inc {l : List Pt} (h : (l.map (·.1)).Nodup) : Inc (sortedL l) := sortedTo_inc h _ (Nat.le_refl _)
/-- slots apart, stamps apart -/
theorem stamps_nodup {c : Cfg} {i : Nat} {l : List Pt} (h : (l.map fun q => slotOf c i q.1).Nodup) : (l.map (·.1)).Nodup := by
  have e : (l.map fun q => slotOf c i q.1) = (l.map (·.1)).map (slotOf c i) := by rw [List.map_map]; rfl
  rw [e] at h
  exact pw_mono (fun a b _ _ hab e => hab (by rw [e])) (List.pairwise_map.1 h)
/-- two lists in strict order with the same points are one -/
theorem inc_unique : ∀ {a b : List Pt}, Inc a → Inc b → (∀ q, q ∈ a ↔ q ∈ b) → a = b
  | [], [], _, _, _ => rfl
  | [], y :: b, _, _, h => by have := (h y).2 (by simp); simp at this
  | x :: a, [], _, _, h => by have := (h x).1 (by simp); simp at this
  | x :: a, y :: b, ha, hb, h => by
    obtain ⟨a1, a2⟩ := List.pairwise_cons.1 ha
    obtain ⟨b1, b2⟩ := List.pairwise_cons.1 hb
    have exy : x = y := by
      rcases List.mem_cons.1 ((h x).1 (by simp)) with e | hx
      · exact e
      · rcases List.mem_cons.1 ((h y).2 (by simp)) with e | hy
        · exact e.symm
        · have := b1 x hx
          have := a1 y hy
          omega
    subst exy
    have : a = b := inc_unique a2 b2 fun q => by
      constructor
      · intro hq
        rcases List.mem_cons.1 ((h q).1 (by simp [hq])) with e | hq'
        · have := a1 q hq
          rw [e] at this
          omega
        · exact hq'
      · intro hq
        rcases List.mem_cons.1 ((h q).2 (by simp [hq])) with e | hq'
        · have := b1 q hq
          rw [e] at this
          omega
        · exact hq'
    rw [this]
end Go.Proofs.Ythbbfjfekchdiaa
/-
  No value is beyond what can come of those that were written.
-/
namespace Go.Proofs.Ythbbfjfekchdiaa

theorem sumTo_bd {M : Int} {l : List Int} (h : ∀ v ∈ l, -M ≤ v ∧ v ≤ M) : ∀ k, k ≤ l.length → -(M * (k : Int)) ≤ sumTo l k ∧ sumTo l k ≤ M * (k : Int) := by
  intro k
  induction k with
  | zero => intro _; rw [sumTo_zero]; simp
  | succ k ih =>
    intro hk
    obtain ⟨v, hv⟩ : ∃ v, l[k]? = some v := ⟨_, List.getElem?_eq_getElem (by omega)⟩
    have h1 := ih (by omega)
    have h2 := h v (List.mem_iff_getElem?.2 ⟨k, hv⟩)
    rw [sumTo_succ hv]
    have e : M * ((k + 1 : Nat) : Int) = M * (k : Int) + M := by
      rw [show ((k + 1 : Nat) : Int) = (k : Int) + 1 from rfl, Int.mul_add, Int.mul_one]
    rw [e]
    omega
theorem outStep_bd {M m a v : Int} (ha : -M ≤ a ∧ a ≤ M) (hv : -M ≤ v ∧ v ≤ M) : -M ≤ outStep m a v ∧ outStep m a v ≤ M := by
  unfold outStep
  repeat' split
  all_goals omega
theorem outTo_bd {M m : Int} {l : List Int} (h : ∀ v ∈ l, -M ≤ v ∧ v ≤ M) (hl : l ≠ []) : ∀ k, k ≤ l.length → -M ≤ outTo m l k ∧ outTo m l k ≤ M := by
  intro k
  induction k with
  | zero =>
    intro _
    rw [outTo_zero]
    cases l with
    | nil => exact absurd rfl hl
    | cons a l => exact h a (by simp)
  | succ k ih =>
    intro hk
    obtain ⟨v, hv⟩ : ∃ v, l[k]? = some v := ⟨_, List.getElem?_eq_getElem (by omega)⟩
    rw [outTo_succ hv]
    exact outStep_bd (ih (by omega)) (h v (List.mem_iff_getElem?.2 ⟨k, hv⟩))

/-- how far a value of archive i may be -/
def mostK (c : Cfg) (i : Nat) : Int := if c.m = 2 then 1000 * (c.s i / c.s 0) else 1000
def RDb.Bv (d : RDb) : Prop := ∀ (i : Nat) (l : List Pt), d.L[i]? = some l → ∀ q ∈ l, -mostK d.c i ≤ q.2 ∧ q.2 ≤ mostK d.c i

theorem makesI_bd {c : Cfg} {i n : Nat} {l : List Int} (hne : l ≠ []) (hn : l.length ≤ n) (hq : c.m = 2 → mostK c i * (n : Int) ≤ mostK c (i + 1)) (hp : 0 ≤ mostK c i) (h : ∀ v ∈ l, -mostK c i ≤ v ∧ v ≤ mostK c i) : -mostK c (i + 1) ≤ makesI c.m l ∧ makesI c.m l ≤ mostK c (i + 1) := by
  have hl : 0 < (l.length : Int) := by
    have := List.length_pos_iff.2 hne
    omega
  unfold makesI
  by_cases m2 : c.m = 2
  · rw [if_neg (by omega), if_pos m2]
    have h1 := sumTo_bd h l.length (Nat.le_refl _)
    have h2 : mostK c i * (l.length : Int) ≤ mostK c i * (n : Int) := Int.mul_le_mul_of_nonneg_left (by omega) hp
    have h3 := hq m2
    unfold cutI
    omega
  · have e1 : mostK c (i + 1) = 1000 := by unfold mostK; rw [if_neg m2]
    have e0 : mostK c i = 1000 := by unfold mostK; rw [if_neg m2]
    rw [e0] at h
    rw [e1]
    split
    · have h1 := sumTo_bd h l.length (Nat.le_refl _)
      exact ⟨(Int.le_ediv_iff_mul_le hl).2 (by omega), Int.ediv_le_of_le_mul hl (by omega)⟩
    · try rw [if_neg m2]
      exact outTo_bd h hne l.length (Nat.le_refl _)

theorem put_bv {d : RDb} (h : d.Bv) {i : Nat} {l : List Pt} (hl : d.L[i]? = some l) {p : Pt} (hp : -mostK d.c i ≤ p.2 ∧ p.2 ≤ mostK d.c i) : (d.put i (setL d.c i p l)).Bv := by
  intro j l' hj q hq
  rcases put_at hj with ⟨rfl, rfl⟩ | ⟨_, h'⟩
  · unfold setL othersL at hq
    rcases List.mem_append.1 hq with hq | hq
    · exact h _ l hl q (List.mem_filter.1 hq).1
    · rw [List.mem_singleton.1 hq]; exact hp
  · exact h j l' h' q hq
/-- the steps are multiples of the first one's -/
theorem step_dvd {c : Cfg} (h : c.Ok) : ∀ i, i < c.many → c.s 0 ∣ c.s i
  | 0, _ => Int.dvd_refl _
  | i + 1, hi => by
    have h1 := step_dvd h i (by omega)
    have h2 := (h.2.2 i (by have := c.many_le; omega) hi).2.1
    exact Int.dvd_trans h1 (Int.dvd_of_emod_eq_zero h2)
theorem most_next {c : Cfg} (h : c.Ok) {i : Nat} (hi : i + 1 < c.many) (m2 : c.m = 2) : mostK c i * ((c.s (i + 1) / c.s i).toNat : Int) ≤ mostK c (i + 1) := by
  unfold mostK
  rw [if_pos m2, if_pos m2]
  have b0 := Cfg.bd h (show 0 < c.many by omega)
  have bi := Cfg.bd h (show i < c.many by omega)
  have bj := Cfg.bd h hi
  obtain ⟨a, ha⟩ := step_dvd h i (by omega)
  have h2 := (h.2.2 i (by have := c.many_le; omega) hi).2.1
  obtain ⟨b, hb⟩ := Int.dvd_of_emod_eq_zero h2
  have ea : c.s i / c.s 0 = a := by rw [ha]; exact Int.mul_ediv_cancel_left _ (by have := b0.1; omega)
  have eb : c.s (i + 1) / c.s i = b := by rw [hb]; exact Int.mul_ediv_cancel_left _ (by have := bi.1; omega)
  have ec : c.s (i + 1) / c.s 0 = a * b := by rw [hb, ha, Int.mul_assoc]; exact Int.mul_ediv_cancel_left _ (by have := b0.1; omega)
  have hb0 : 0 ≤ b := by rw [← eb]; exact Int.ediv_nonneg (by have := bj.1; omega) (by have := bi.1; omega)
  rw [ea, eb, ec, Int.toNat_of_nonneg hb0, Int.mul_assoc]
  exact Int.le_refl _
theorem most_pos {c : Cfg} (h : c.Ok) {i : Nat} (hi : i < c.many) : 1000 ≤ mostK c i := by
  unfold mostK
  split
  · have b0 := Cfg.bd h (show 0 < c.many by omega)
    have bi := Cfg.bd h hi
    obtain ⟨a, ha⟩ := step_dvd h i hi
    have ea : c.s i / c.s 0 = a := by rw [ha]; exact Int.mul_ediv_cancel_left _ (by have := b0.1; omega)
    rw [ea]
    have : 1 ≤ a := by
      apply Classical.byContradiction
      intro hn
      have : c.s 0 * a ≤ c.s 0 * 0 := Int.mul_le_mul_of_nonneg_left (by omega) (by have := b0.1; omega)
      have := bi.1
      omega
    omega
  · omega
theorem goesF_bv : ∀ (f : Nat) (d : RDb) (i : Nat) (t : Int), d.Ok → i < d.c.many → 0 ≤ t → t ≤ 2147483647 → d.Bv → (goesF f d i t).Bv
  | 0, d, i, t, _, _, _, _, h => h
  | f + 1, d, i, t, hd, hi, h0, h1, hB => by
    rw [goesF]
    split
    · exact hB
    · rename_i hm
      have hi1 : i + 1 < d.c.many := by omega
      have hb := Cfg.bd hd.cfg hi1
      obtain ⟨l, hl⟩ : ∃ l, d.L[i]? = some l := ⟨_, List.getElem?_eq_getElem (by rw [hd.len]; exact hi)⟩
      obtain ⟨l1, hl1⟩ : ∃ l, d.L[i + 1]? = some l := ⟨_, List.getElem?_eq_getElem (by rw [hd.len]; exact hi1)⟩
      simp only
      split
      · exact hB
      · rename_i hc
        have hfr := sub_in h0 h1 hb.1
        rw [hl] at hc
        rw [hl, hl1]
        simp only [Option.getD_some] at hc ⊢
        obtain ⟨vs, hvs⟩ : ∃ vs, vs = valsTo d.c i l (t - t % d.c.s (i + 1)) (d.c.s (i + 1) / d.c.s i).toNat := ⟨_, rfl⟩
        have hne : vs ≠ [] := fun e => hc (.inl (by rw [← hvs, e]; rfl))
        have hvin := makesI_in (m := d.c.m) (l := vs) (by rw [hvs]; exact valsTo_in (hd.pts i l hl).1) hne
        have hvb := makesI_bd (c := d.c) (i := i) (n := (d.c.s (i + 1) / d.c.s i).toNat) (l := vs) hne (by rw [hvs]; exact valsTo_len _ _ _ _ _) (most_next hd.cfg hi1) (by have := most_pos hd.cfg hi; omega) (by
          intro v hv
          rw [hvs] at hv
          unfold valsTo at hv
          obtain ⟨j, _, hj⟩ := List.mem_filterMap.1 hv
          cases hh : hasL (t - t % d.c.s (i + 1) + j * d.c.s i) l with
          | none => rw [hh] at hj; simp at hj
          | some q =>
            rw [hh] at hj
            simp only [Option.map_some, Option.some.injEq] at hj
            rw [← hj]
            exact hB i l hl q (hasL_mem hh))
        rw [← hvs]
        obtain ⟨v, hvd⟩ : ∃ v, v = makesI d.c.m vs := ⟨_, rfl⟩
        rw [← hvd] at hvin hvb ⊢
        have hok := put_ok hd hl1 (p := (t - t % d.c.s (i + 1), v)) ⟨hfr.1, hfr.2, hvin.1, hvin.2⟩
        exact goesF_bv f _ (i + 1) _ hok hi1 hfr.1 hfr.2 (put_bv hB hl1 hvb)
theorem writesR_bv {d : RDb} {now : Int} {q : Pt} (hd : d.Ok) (hq : PtIn q) (hv : -1000 ≤ q.2 ∧ q.2 ≤ 1000) (hB : d.Bv) : (writesR d now q).Bv := by
  unfold writesR
  cases hf : firstO d.c now q.1 with
  | none => exact hB
  | some i =>
    obtain ⟨hi, _⟩ := firstO_in hf
    have hb := Cfg.bd hd.cfg hi
    have hs := sub_in hq.1 hq.2.1 hb.1
    have hm := most_pos hd.cfg hi
    obtain ⟨l, hl⟩ : ∃ l, d.L[i]? = some l := ⟨_, List.getElem?_eq_getElem (by rw [hd.len]; exact hi)⟩
    simp only [hl, Option.getD_some]
    have hok := put_ok hd hl (p := (q.1 - q.1 % d.c.s i, q.2)) ⟨hs.1, hs.2, hq.2.2.1, hq.2.2.2⟩
    exact goesF_bv _ _ _ _ hok hi hs.1 hs.2 (put_bv hB hl (p := (q.1 - q.1 % d.c.s i, q.2)) ⟨by show -mostK d.c i ≤ q.2; omega, by show q.2 ≤ mostK d.c i; omega⟩)
end Go.Proofs.Ythbbfjfekchdiaa
/-
  What a fetch tells of what sundialkeep's moves have written.
-/
namespace Go.Proofs.Ythbbfjfekchdiaa

theorem updR_bv {d : RDb} {now : Int} {q : Pt} (hd : d.Ok) (hv : -1000 ≤ q.2 ∧ q.2 ≤ 1000) (hB : d.Bv) : (updR d now [q]).Bv := by
  unfold updR
  split
  · rename_i h
    unfold updErr at h
    split at h
    · simp at h
    · exact writesR_bv hd (ptErr_in (errFrom_zero [q] 0 h q (by simp))) hv hB
  · exact hB
theorem pointK_val (ba va now far : Int) : -1000 ≤ (pointK ba va now far).2 ∧ (pointK ba va now far).2 ≤ 1000 := by
  have := pickK_in va (n := 2001) (by omega)
  unfold pointK
  simp only
  omega
theorem playK_inv {c : Cfg} (hc : c.Ok) (ms : List Mv) : (playK c ms).2.Al ∧ (playK c ms).2.Bv := by
  have key : ∀ (l : List Mv) (s : Int × RDb), s.2.Ok → s.2.Al → s.2.Bv → (l.foldl (stepK c) s).2.Al ∧ (l.foldl (stepK c) s).2.Bv := by
    intro l
    induction l with
    | nil => intro s _ a b; exact ⟨a, b⟩
    | cons m l ih =>
      intro s d a b
      have hk := updR_kept (now := s.1 + pickK m.1 40) (l := [pointK m.2.1 m.2.2 (s.1 + pickK m.1 40) (farK c)]) d
      rw [List.foldl_cons]
      exact ih (stepK c s m) hk.1 (hk.2.2 a) (updR_bv d (pointK_val _ _ _ _) b)
  have hnil : ∀ (i : Nat) (l : List Pt), (RDb.new c).L[i]? = some l → l = [] := fun i l hl => (List.mem_replicate.1 (List.mem_iff_getElem?.2 ⟨i, hl⟩)).2
  refine key ms (0, RDb.new c) (new_ok' hc) (fun i l hl q hq => ?_) (fun i l hl q hq => ?_)
  · rw [hnil i l hl] at hq; simp at hq
  · rw [hnil i l hl] at hq; simp at hq
/-- what a fetch without an error tells -/
theorem serP_facts {d : RDb} (hd : d.Ok) (ha : d.Al) (hb : d.Bv) {now fr un : Int} (he : fetchErr d.c now fr un = 0) :
    Inc (serP d now fr un) ∧ ∀ q ∈ serP d now fr un, q.1 % d.c.s (fetchI d.c now fr) = 0 ∧ fr ≤ q.1 ∧ q.1 ≤ un ∧ q.1 ≤ now ∧ now - q.1 < d.c.s (fetchI d.c now fr) * d.c.k (fetchI d.c now fr) ∧ -mostK d.c (fetchI d.c now fr) ≤ q.2 ∧ q.2 ≤ mostK d.c (fetchI d.c now fr) := by
  have hm : fetchI d.c now fr < d.c.many := fetchI_lt (d.c.ok_iff.1 hd.cfg).2.2.1
  obtain ⟨l, hl⟩ : ∃ l, d.L[fetchI d.c now fr]? = some l := ⟨_, List.getElem?_eq_getElem (by rw [hd.len]; exact hm)⟩
  have e : serP d now fr un = (sortedL l).filter (fetchB d.c (fetchI d.c now fr) now fr un) := by
    unfold serP fetchL
    rw [if_pos he, List.getD_eq_getElem?_getD, hl]
    rfl
  rw [e]
  refine ⟨(sortedL_inc (stamps_nodup (hd.apart _ l hl))).sublist List.filter_sublist, fun q hq => ?_⟩
  obtain ⟨h1, h2⟩ := List.mem_filter.1 hq
  have hq' := sortedL_mem.1 h1
  unfold fetchB covB at h2
  simp only [Bool.and_eq_true, decide_eq_true_eq] at h2
  exact ⟨ha _ l hl q hq', h2.2.1, h2.2.2, h2.1.1, h2.1.2, hb _ l hl q hq'⟩
end Go.Proofs.Ythbbfjfekchdiaa
/-
  No archive covers a stamp just where the farthest does not.
-/
namespace Go.Proofs.Ythbbfjfekchdiaa

theorem farTo_le {c : Cfg} {x : Int} : ∀ k, farTo c k ≤ x ↔ 0 ≤ x ∧ ∀ j, j < k → c.s j * c.k j ≤ x
  | 0 => by simp [farTo]
  | k + 1 => by
    have ih := farTo_le (c := c) (x := x) k
    rw [farTo]
    constructor
    · intro h
      have h1 := ih.1 (by omega)
      refine ⟨h1.1, fun j hj => ?_⟩
      by_cases e : j = k
      · subst e; omega
      · exact h1.2 j (by omega)
    · rintro ⟨h0, h⟩
      have h1 := ih.2 ⟨h0, fun j hj => h j (by omega)⟩
      have h2 := h k (by omega)
      omega
theorem firstFrom_none {c : Cfg} {now t : Int} : ∀ (n i : Nat), firstFrom c now t i n = none → ∀ j, i ≤ j → j < i + n → covB c j now t = false
  | 0, i, _, j, h1, h2 => by omega
  | n + 1, i, h, j, h1, h2 => by
    rw [firstFrom] at h
    split at h
    · cases h
    · rename_i hc
      by_cases e : j = i
      · subst e; simpa using hc
      · exact firstFrom_none n (i + 1) h j (by omega) (by omega)
theorem first_far {c : Cfg} (hc : c.Ok) {now t : Int} (ht : t ≤ now) : firstI c now t < 0 ↔ farK c ≤ now - t := by
  unfold farK
  rw [farTo_le]
  constructor
  · intro h
    refine ⟨by omega, fun j hj => ?_⟩
    by_cases hm : j < c.many
    · have h1 := firstFrom_none c.many 0 (firstI_no h).1 j (by omega) (by omega)
      unfold covB at h1
      simp only [Bool.and_eq_false_iff, decide_eq_false_iff_not] at h1
      omega
    · obtain ⟨a, b⟩ := (hc.2.1 j hj).1 (by omega)
      rw [a]
      omega
  · rintro ⟨_, h⟩
    have hn : firstO c now t = none := firstO_none fun j hj => by
      have := h j (by have := c.many_le; omega)
      unfold covB
      simp only [Bool.and_eq_false_iff, decide_eq_false_iff_not]
      omega
    unfold firstI
    rw [hn]
    simp
/-- the archives ahead of the one that a fetch tells of do not cover its beginning -/
theorem fetchI_ahead {c : Cfg} {now fr : Int} (hf : fr ≤ now) {j : Nat} (hj : j < fetchI c now fr) : c.s j * c.k j ≤ now - fr := by
  have key : ∀ (n i m : Nat), firstFrom c now fr i n = some m → ∀ j, i ≤ j → j < m → covB c j now fr = false := by
    intro n
    induction n with
    | zero => intro i m h; simp [firstFrom] at h
    | succ n ih =>
      intro i m h j h1 h2
      rw [firstFrom] at h
      split at h
      · simp at h; omega
      · rename_i hc
        by_cases e : j = i
        · subst e; simpa using hc
        · exact ih (i + 1) m h j (by omega) h2
  have hcov : covB c j now fr = false := by
    unfold fetchI at hj
    cases e : firstO c now fr with
    | none =>
      rw [e] at hj
      exact firstFrom_none c.many 0 e j (by omega) (by simp at hj; omega)
    | some m =>
      rw [e] at hj
      exact key c.many 0 m e j (by omega) hj
  unfold covB at hcov
  simp only [Bool.and_eq_false_iff, decide_eq_false_iff_not] at hcov
  omega
end Go.Proofs.Ythbbfjfekchdiaa
namespace Go.Proofs.Ythbbfjfekchdiaa
open Go.RowKit
set_option linter.unusedSimpArgs false

theorem RowM.mono {w : World} {N N' : Nat} {v : Value} {ms : List Mv} (h : RowM w N v ms) (hn : N ≤ N') : RowM w N' v ms := by
  obtain ⟨a, cap, hv, r⟩ := h
  refine ⟨a, cap, hv, fun j m hj => ?_⟩
  obtain ⟨hm, b, off, ha, hN, c⟩ := r j m hj
  exact ⟨hm, b, off, ha, by omega, c⟩
theorem serP_lenK {d : RDb} (h : d.Ok) (now fr un : Int) : (serP d now fr un).length ≤ 60 := by
  unfold serP
  split
  · unfold fetchL
    refine Nat.le_trans (List.length_filter_le _ _) ?_
    rw [sortedL_length, List.getD_eq_getElem?_getD]
    cases e : d.L[fetchI d.c now fr]? with
    | none => simp
    | some l => exact (h.pts _ l e).2
  · simp
theorem farK_pos {c : Cfg} (h : c.Ok) : 1 ≤ farK c := by
  have hb := Cfg.bd h (show 0 < c.many by have := (c.ok_iff.1 h).2.2.1; omega)
  have h1 : (1 : Int) * 1 ≤ c.s 0 * c.k 0 := Int.mul_le_mul hb.1 hb.2.2.1 (by omega) (by have := hb.1; omega)
  have h2 : c.s 0 * c.k 0 ≤ farK c := by
    unfold farK
    have := ((farTo_le (c := c) (x := farTo c 4) 4).1 (Int.le_refl _)).2 0 (by omega)
    exact this
  omega

set_option maxRecDepth 4000 in
set_option maxHeartbeats 4000000 in
theorem bounded_any {R : Rep} (H : ProgOk R) (r0 r1 r2 r3 r4 r5 me fa rf ru : Int) (v : Value) (ms : List Mv) (w : World) (h0 : In64 r0) (h1 : In64 r1) (h2 : In64 r2) (h3 : In64 r3) (h4 : In64 r4) (h5 : In64 r5) (hm : In64 me) (hf : In64 fa) (hrf : In64 rf) (hru : In64 ru) (hv : RowM w w.heap.size v ms) (hlen : ms.length ≤ 9223372036854775807) :
    Calls Try.prog 4 #[.agg #[i64 r0, i64 r1, i64 r2, i64 r3, i64 r4, i64 r5], i64 me, i64 fa, v, i64 rf, i64 ru] w fun e w' => e = .returned (.bool true) ∧ Below w.heap.size w w' := by
  obtain ⟨c, hc⟩ : ∃ c, c = cfgK r0 r1 r2 r3 r4 r5 me fa := ⟨_, rfl⟩
  have HOK := hid (show c.Ok by rw [hc]; exact (cfgK_ok r0 r1 r2 r3 r4 r5 me fa).1)
  have HM3 := hid (show c.many ≤ 3 by rw [hc]; exact (cfgK_ok r0 r1 r2 r3 r4 r5 me fa).2)
  have HFI := hid (fun (w : World) (hv : RowM w w.heap.size v ms) => filled_any H r0 r1 r2 r3 r4 r5 me fa v ms c w (hid hc) h0 h1 h2 h3 h4 h5 hm hf hv hlen)
  have HRB := hid (reach_bd HOK.out)
  have HV := hid hv
  obtain ⟨av, cv, rfl, hrow⟩ := hv
  have HPK := hid (playK_in HOK.out (ms.take 10000))
  have HIV := hid (playK_inv HOK.out (ms.take 10000))
  obtain ⟨D, hD⟩ : ∃ D, D = (playK c (ms.take 10000)).2 := ⟨_, rfl⟩
  obtain ⟨pn, hpn⟩ : ∃ p, p = (playK c (ms.take 10000)).1 := ⟨_, rfl⟩
  rw [← hD, ← hpn] at HFI HPK
  rw [← hD] at HIV
  have pn0 : 0 ≤ pn := HPK.out.1
  have pn1 : pn ≤ 400000 := by
    have h1 := HPK.out.2.1
    have h2 := List.length_take_le 10000 ms
    omega
  have HFK := hid (farK_pos HOK.out)
  have HFT := hid (farTo_in HRB.out 4 (by omega))
  obtain ⟨far, hfar⟩ : ∃ f, f = farK c := ⟨_, rfl⟩
  have HFAR := hid hfar
  have ff0 : 1 ≤ far := by rw [hfar]; exact HFK.out
  have ff1 : far ≤ 10000000 := by rw [hfar]; exact HFT.out.2
  have HRE := hid (fun (w : World) => kreach_any c w HRB.out)
  rw [← hfar] at HRE
  have HPF := hid (fun (w : World) => pickK_any rf (far + far / 4 + 2) w (by omega) (by omega) hrf.1 hrf.2)
  have HPU := hid (fun (w : World) => pickK_any ru (2 * far) w (by omega) (by omega) hru.1 hru.2)
  have qf := pickK_in rf (n := far + far / 4 + 2) (by omega)
  have qu := pickK_in ru (n := 2 * far) (by omega)
  obtain ⟨q, hq⟩ : ∃ q, q = pickK rf (far + far / 4 + 2) := ⟨_, rfl⟩
  obtain ⟨u, hu⟩ : ∃ q, q = pickK ru (2 * far) := ⟨_, rfl⟩
  rw [← hq] at HPF qf
  rw [← hu] at HPU qu
  obtain ⟨q0, q1⟩ := qf
  obtain ⟨u0, u1⟩ := qu
  obtain ⟨near, hnear⟩ : ∃ n, n = c.s0 * c.k0 := ⟨_, rfl⟩
  rw [← hnear] at HRE
  have q2 : q ≤ 20000000 := by omega
  have u2 : u ≤ 20000000 := by omega
  clear h0 h1 h2 h3 h4 h5 hm hf hrow hrf hru hc hD hpn hfar hq hu hnear q1
  have m1 : IntKind.i64.wrap (far.tdiv 4) = far / 4 := IntWalk.i64_quo _ _ ⟨by omega, by omega, by omega⟩
  have m2 : IntKind.i64.wrap (far + far / 4) = far + far / 4 := IntWalk.i64_in _ ⟨by omega, by omega⟩
  have m3 : IntKind.i64.wrap (far + far / 4 + 2) = far + far / 4 + 2 := IntWalk.i64_in _ ⟨by omega, by omega⟩
  have m4 : IntKind.i64.wrap (pn - q) = pn - q := IntWalk.i64_in _ ⟨by omega, by omega⟩
  go_enter Try.func4, Try.ntmps4
  go_wp2_with fail
  refine (HFI.out _ ?_).mono ?_
  · exact (HV.out.below ((Below.refl _ w).alloc (Nat.le_refl _) _)).mono (by simp)
  rintro e w1 ⟨pd, rfl, hb1, hR1⟩
  have hz1 : w.heap.size + 1 ≤ w1.heap.size := by have := hb1.size; simp at this; exact this
  have HB1 := hid (show Below w.heap.size w w1 from ((Below.refl _ w).alloc (Nat.le_refl _) _).trans (hb1.mono (by simp)))
  have HR1 := hid (show R w1 (fun k => w.heap.size + 1 ≤ k ∧ k < w1.heap.size) pd D from H.weak (H.lim hR1) (fun k hk => ⟨by have := hk.1; simp at this; omega, hk.2⟩))
  clear hb1 hR1
  go_wp2_with fail
  refine (HRE.out _).mono ?_
  rintro e w2 ⟨rfl, hb2⟩
  have HCB2 := hid (blk_later hb2 (by simp) (blk_new w1 (.cells #[i64 c.s0, i64 c.k0, i64 c.s1, i64 c.k1, i64 c.s2, i64 c.k2, i64 c.s3, i64 c.k3, i64 c.m, i64 c.f] 29)))
  have hz2 : w1.heap.size < w2.heap.size := blk_lt HCB2.out
  have hb12 : Below w1.heap.size w1 w2 := ((Below.refl _ w1).alloc (Nat.le_refl _) _).trans (hb2.mono (by simp))
  have HB2 := hid (show Below w.heap.size w w2 from HB1.out.trans (hb12.mono (by omega)))
  have HR2 := hid (H.fr HR1.out (Fr.below (In := fun _ => False) hb12) (fun _ _ x => x))
  clear hb2 hb12
  go_upto_region 5 with fail
  go_cut [4] (fun z wx => z = i64 (max 0 (pn - q)) ∧ wx = w2)
  case first =>
    as_aux_lemma =>
    go_wp2_with fail
    refine (HPF.out _).mono ?_
    rintro e w' ⟨rfl, rfl⟩
    go_wp2
    all_goals go_meet
    · exact ⟨congrArg i64 (by omega), rfl⟩
    · exact ⟨congrArg i64 (by omega), rfl⟩
  case rest =>
  as_aux_lemma =>
  obtain ⟨rfl, hwc⟩ := hcut
  subst hwc
  obtain ⟨fr, hfr⟩ : ∃ f, f = max 0 (pn - q) := ⟨_, rfl⟩
  rw [← hfr]
  have fr0 : 0 ≤ fr := by omega
  have fr1 : fr ≤ pn := by omega
  clear hfr m4 m3 m2 m1
  go_wp2_with fail
  refine (HPU.out _).mono ?_
  rintro e w3 ⟨rfl, rfl⟩
  go_wp2_with fail
  obtain ⟨un, hun⟩ : ∃ f, f = fr + u := ⟨_, rfl⟩
  rw [← hun]
  have un0 : fr ≤ un := by omega
  have un1 : un ≤ 100000000 := by omega
  clear hun
  refine (H.fetch pd pn fr un D _ w3 HR2.out HPK.out.2.2.1).mono ?_
  rintro e w4 ⟨v4, rfl, hb4, ho4, _⟩
  have hdc : D.c = c := HPK.out.2.2.2
  have herr : fetchErr D.c pn fr un = if far ≤ pn - min un pn then 4 else 0 := by
    unfold fetchErr
    rw [if_neg (by intro h; exact h ⟨⟨by omega, by omega⟩, ⟨by omega, by omega⟩, ⟨by omega, by omega⟩, by omega⟩), if_neg (by omega), hdc, HFAR.out]
    have := first_far HOK.out (now := pn) (t := min un pn) (by omega)
    by_cases h : firstI c pn (min un pn) < 0
    · rw [if_pos h, if_pos (this.1 h)]
    · rw [if_neg h, if_neg (fun x => h (this.2 x))]
  have hlen4 := serP_lenK HPK.out.2.2.1 pn fr un
  have HSF := hid (serP_facts HPK.out.2.2.1 HIV.out.1 HIV.out.2 (now := pn) (fr := fr) (un := un))
  have hA : fetchErr D.c pn fr un = 0 → serA D pn fr un = ((fetchI c pn fr : Nat) : Int) := fun h => by unfold serA; rw [if_pos h, hdc]
  have hS : fetchErr D.c pn fr un = 0 → serS D pn fr un = c.s (fetchI c pn fr) := fun h => by unfold serS; rw [if_pos h, hdc]
  obtain ⟨er, her⟩ : ∃ e, e = fetchErr D.c pn fr un := ⟨_, rfl⟩
  obtain ⟨sA, hsA⟩ : ∃ e, e = serA D pn fr un := ⟨_, rfl⟩
  obtain ⟨sS, hsS⟩ : ∃ e, e = serS D pn fr un := ⟨_, rfl⟩
  obtain ⟨pp, hpp⟩ : ∃ e, e = serP D pn fr un := ⟨_, rfl⟩
  rw [hdc] at HSF
  rw [← her] at herr hA hS ⊢
  rw [hdc] at her
  rw [← her, ← hpp] at HSF
  rw [← hsA] at hA ⊢
  rw [← hsS] at hS ⊢
  rw [← hpp] at hlen4 ho4
  have HRW := hid (rowAt_of ho4)
  obtain ⟨a4, c4, rfl, _⟩ := rowAt_of ho4
  have HIB := hid (show fetchI c pn fr < c.many from fetchI_lt (c.ok_iff.1 HOK.out).2.2.1)
  have HAH := hid (fun (j : Nat) (hj : j < fetchI c pn fr) => fetchI_ahead (c := c) fr1 hj)
  obtain ⟨ii, hii⟩ : ∃ i, i = fetchI c pn fr := ⟨_, rfl⟩
  rw [← hii] at HSF HIB HAH hA hS
  have hi3 : ii < 3 := by have h1 := HIB.out; have h2 := HM3.out; omega
  have HBD := hid (Cfg.bd HOK.out HIB.out)
  have HB0 := hid (Cfg.bd HOK.out (show 0 < c.many by have := HIB.out; omega))
  clear hii
  have HA := hid hA
  have HSS := hid hS
  have HER := hid herr
  have hz4 := hb4.size
  have HCB4 := hid (blk_later hb4 hz2 HCB2.out)
  have HB4 := hid (show Below w.heap.size w w4 from HB2.out.trans (hb4.mono (by omega)))
  clear hA hS herr ho4 hb4 hdc her hsA hsS hpp
  go_upto_region 8 with fail
  generalize hw5 : w4.alloc (.cells #[.int .i64 sA, .int .i64 sS, .slice a4 pp.length c4] 51) = w5
  have HB45 := hid (show Below w4.heap.size w4 w5 by rw [← hw5]; exact (Below.refl _ _).alloc (Nat.le_refl _) _)
  have HTB := hid (show w5.heap[w4.heap.size]? = some (.cells #[i64 sA, i64 sS, .slice a4 pp.length c4] 51) by rw [← hw5]; exact blk_new _ _)
  have hz5 : w4.heap.size < w5.heap.size := blk_lt HTB.out
  have HCB5 := hid (blk_later HB45.out (by omega) HCB4.out)
  have HRW5 := hid (HRW.out.later HB45.out)
  have HB5 := hid (show Below w.heap.size w w5 from HB4.out.trans (HB45.out.mono (by have := HB4.out.size; omega)))
  clear hw5
  go_cut [20] (fun z wx => z = .bool (decide (far ≤ pn - min un pn)) ∧ wx = w5)
  case first =>
    as_aux_lemma =>
    go_wp2
    all_goals go_meet
    · exact ⟨congrArg Value.bool (by rw [decide_eq_decide]; omega), rfl⟩
    · exact ⟨congrArg Value.bool (by rw [decide_eq_decide]; omega), rfl⟩
  case rest =>
  as_aux_lemma =>
  obtain ⟨rfl, hwc⟩ := hcut
  have hwc := hwc.symm
  subst hwc
  by_cases old : far ≤ pn - min un pn
  · have he : er = 4 := by rw [HER.out, if_pos old]
    subst he
    have hd : decide (far ≤ pn - min un pn) = true := decide_eq_true old
    rw [hd]
    clear hd old
    go_wp2
    go_ret
    exact ⟨rfl, HB5.out⟩
  have he : er = 0 := by rw [HER.out, if_neg old]
  have hd : decide (far ≤ pn - min un pn) = false := decide_eq_false old
  rw [hd]
  subst he
  have hA := HA.out rfl
  have hS := HSS.out rfl
  subst hA
  subst hS
  have HI3 := hid hi3
  clear hd old hlen hz1 q0 u0 u1 q2 u2
  go_upto_region 11 with fail
  go_cut [103] (fun z wx => z = .bool false ∧ Below w5.heap.size w5 wx)
  case first =>
    as_aux_lemma =>
    have x0 : w5.cell? ⟨w4.heap.size, 0, none⟩ = some (i64 (ii : Int)) := cell_of_blk HTB.out 0
    have x1 : w5.cell? ⟨w4.heap.size, 1, none⟩ = some (i64 (c.s ii)) := cell_of_blk HTB.out 1
    have hz6 : w1.heap.size < w5.heap.size := blk_lt HCB5.out
    have s1 := HBD.out.1
    have h3 : ii = 0 ∨ ii = 1 ∨ ii = 2 := by omega
    rcases h3 with rfl | rfl | rfl
    · have y0 : w5.cell? ⟨w1.heap.size, 0, none⟩ = some (i64 (c.s 0)) := cell_of_blk HCB5.out 0
      generalize c.s 0 = S at x1 y0 s1
      go_quiet (fail)
      go_wp2
      go_meet
      exact ⟨congrArg Value.bool (decide_eq_false (by omega)), below_drewN (Below.refl _ _) _⟩
    · have y0 : w5.cell? ⟨w1.heap.size, 2, none⟩ = some (i64 (c.s 1)) := cell_of_blk HCB5.out 2
      generalize c.s 1 = S at x1 y0 s1
      go_quiet (fail)
      go_wp2
      go_meet
      exact ⟨congrArg Value.bool (decide_eq_false (by omega)), below_drewN (Below.refl _ _) _⟩
    · have y0 : w5.cell? ⟨w1.heap.size, 4, none⟩ = some (i64 (c.s 2)) := cell_of_blk HCB5.out 4
      generalize c.s 2 = S at x1 y0 s1
      go_quiet (fail)
      go_wp2
      go_meet
      exact ⟨congrArg Value.bool (decide_eq_false (by omega)), below_drewN (Below.refl _ _) _⟩
  case rest =>
  as_aux_lemma =>
  obtain ⟨rfl, hwc⟩ := hcut
  revert hwc
  generalize wc = w6
  intro hwc
  have HB56 := hid hwc
  have hz6 := HB56.out.size
  have HTB6 := hid (blk_later HB56.out hz5 HTB.out)
  have HCB6 := hid (blk_later HB56.out (blk_lt HCB5.out) HCB5.out)
  have HRW6 := hid (HRW5.out.later HB56.out)
  have HB6 := hid (HB5.out.trans (HB56.out.mono HB5.out.size))
  clear hwc
  go_upto_region 13 with fail
  go_cut [21] (fun z wx => z = .pointer (some ⟨w6.heap.size, 0, none⟩) ∧ Below w6.heap.size w6 wx ∧ wx.heap[w6.heap.size]? = some (.cells #[i64 (c.s ii), i64 (c.k ii)] 26))
  case first =>
    as_aux_lemma =>
    have x0 : w6.cell? ⟨w4.heap.size, 0, none⟩ = some (i64 (ii : Int)) := cell_of_blk HTB6.out 0
    have hz7 : w1.heap.size < w6.heap.size := blk_lt HCB6.out
    have hz8 : w4.heap.size < w6.heap.size := blk_lt HTB6.out
    have h3 : ii = 0 ∨ ii = 1 ∨ ii = 2 := by omega
    rcases h3 with rfl | rfl | rfl
    · have y0 : w6.cell? ⟨w1.heap.size, 0, none⟩ = some (i64 (c.s 0)) := cell_of_blk HCB6.out 0
      have y1 : w6.cell? ⟨w1.heap.size, 1, none⟩ = some (i64 (c.k 0)) := cell_of_blk HCB6.out 1
      go_wp2
      go_meet
      exact ⟨rfl, (Below.refl _ _).alloc (Nat.le_refl _) _, blk_new _ _⟩
    · have y0 : w6.cell? ⟨w1.heap.size, 2, none⟩ = some (i64 (c.s 1)) := cell_of_blk HCB6.out 2
      have y1 : w6.cell? ⟨w1.heap.size, 3, none⟩ = some (i64 (c.k 1)) := cell_of_blk HCB6.out 3
      go_wp2
      go_meet
      exact ⟨rfl, (Below.refl _ _).alloc (Nat.le_refl _) _, blk_new _ _⟩
    · have y0 : w6.cell? ⟨w1.heap.size, 4, none⟩ = some (i64 (c.s 2)) := cell_of_blk HCB6.out 4
      have y1 : w6.cell? ⟨w1.heap.size, 5, none⟩ = some (i64 (c.k 2)) := cell_of_blk HCB6.out 5
      go_wp2
      go_meet
      exact ⟨rfl, (Below.refl _ _).alloc (Nat.le_refl _) _, blk_new _ _⟩
  case rest =>
  as_aux_lemma =>
  obtain ⟨rfl, hwc, hab⟩ := hcut
  revert hwc hab
  generalize wc = w7
  intro hwc hab
  have HB67 := hid hwc
  have HAB7 := hid hab
  have hz7 := HB67.out.size
  have hz8 : w6.heap.size < w7.heap.size := blk_lt hab
  have HTB7 := hid (blk_later HB67.out (blk_lt HTB6.out) HTB6.out)
  have HCB7 := hid (blk_later HB67.out (blk_lt HCB6.out) HCB6.out)
  have HRW7 := hid (HRW6.out.later HB67.out)
  have HB7 := hid (HB6.out.trans (HB67.out.mono HB6.out.size))
  clear hwc hab
  obtain ⟨S, hS⟩ : ∃ S, S = c.s ii := ⟨_, rfl⟩
  obtain ⟨K, hK⟩ : ∃ K, K = c.k ii := ⟨_, rfl⟩
  have HBD2 := hid HBD.out
  rw [← hS, ← hK] at HAB7
  rw [← hS, ← hK] at HSF
  have HSEQ := hid hS
  have hbd := HBD.out
  unfold Cfg.Bd at hbd
  rw [← hS, ← hK] at hbd
  obtain ⟨S1, S2, K1, K2⟩ := hbd
  have P0 : 0 ≤ S * K := Int.mul_nonneg (by omega) (by omega)
  have P1 : S * K ≤ 100000000000 := by
    have h1 : S * K ≤ S * 60 := Int.mul_le_mul_of_nonneg_left (by omega) (by omega)
    omega
  have A0 : w7.cell? ⟨w6.heap.size, 0, none⟩ = some (i64 S) := cell_of_blk HAB7.out 0
  have A1 : w7.cell? ⟨w6.heap.size, 1, none⟩ = some (i64 K) := cell_of_blk HAB7.out 1
  clear hS hK
  go_upto_region 15 with fail
  clear A0 A1
  obtain ⟨P, hP⟩ : ∃ P, P = S * K := ⟨_, rfl⟩
  rw [← hP] at P0 P1 HSF ⊢
  have HPE := hid hP
  clear hP
  go_cut [137] (fun z wx => z = .bool false ∧ Below w7.heap.size w7 wx)
  case first =>
    as_aux_lemma =>
    have x0 : w7.cell? ⟨w4.heap.size, 0, none⟩ = some (i64 (ii : Int)) := cell_of_blk HTB7.out 0
    have hz9 : w1.heap.size < w7.heap.size := blk_lt HCB7.out
    have hz10 : w4.heap.size < w7.heap.size := blk_lt HTB7.out
    have h3 : ii = 0 ∨ ii = 1 ∨ ii = 2 := by omega
    rcases h3 with rfl | rfl | rfl
    · go_quiet (fail)
      go_wp2
      go_meet
      exact ⟨rfl, below_drewN (Below.refl _ _) _⟩
    · have y0 : w7.cell? ⟨w1.heap.size, 0, none⟩ = some (i64 (c.s 0)) := cell_of_blk HCB7.out 0
      have y1 : w7.cell? ⟨w1.heap.size, 1, none⟩ = some (i64 (c.k 0)) := cell_of_blk HCB7.out 1
      have ha := HAH.out 0 (by omega)
      have hb := Cfg.bd HOK.out (show 0 < c.many by have := HIB.out; omega)
      unfold Cfg.Bd at hb
      generalize c.s 0 = S' at y0 ha hb
      generalize c.k 0 = K' at y1 ha hb
      have p0 : 0 ≤ S' * K' := Int.mul_nonneg (by omega) (by omega)
      have p1 : S' * K' ≤ 100000000000 := by omega
      go_quiet (fail)
      go_wp2
      go_meet
      exact ⟨congrArg Value.bool (decide_eq_false (by omega)), below_drewN (Below.refl _ _) _⟩
    · have y0 : w7.cell? ⟨w1.heap.size, 2, none⟩ = some (i64 (c.s 1)) := cell_of_blk HCB7.out 2
      have y1 : w7.cell? ⟨w1.heap.size, 3, none⟩ = some (i64 (c.k 1)) := cell_of_blk HCB7.out 3
      have ha := HAH.out 1 (by omega)
      have hb := Cfg.bd HOK.out (show 1 < c.many by have := HIB.out; omega)
      unfold Cfg.Bd at hb
      generalize c.s 1 = S' at y0 ha hb
      generalize c.k 1 = K' at y1 ha hb
      have p0 : 0 ≤ S' * K' := Int.mul_nonneg (by omega) (by omega)
      have p1 : S' * K' ≤ 100000000000 := by omega
      go_quiet (fail)
      go_wp2
      go_meet
      exact ⟨congrArg Value.bool (decide_eq_false (by omega)), below_drewN (Below.refl _ _) _⟩
  case rest =>
  as_aux_lemma =>
  obtain ⟨rfl, hwc⟩ := hcut
  revert hwc
  generalize wc = w8
  intro hwc
  have HB78 := hid hwc
  have hz9 := HB78.out.size
  have HAB8 := hid (blk_later HB78.out hz8 HAB7.out)
  have HTB8 := hid (blk_later HB78.out (blk_lt HTB7.out) HTB7.out)
  have HCB8 := hid (blk_later HB78.out (blk_lt HCB7.out) HCB7.out)
  have HRW8 := hid (HRW7.out.later HB78.out)
  have HB8 := hid (HB7.out.trans (HB78.out.mono HB7.out.size))
  clear hwc
  have HM0 := hid (show mostK c ii = if c.m = 2 then 1000 * (S / c.s 0) else 1000 by rw [HSEQ.out]; rfl)
  have hq0 : 0 ≤ S / c.s 0 := Int.ediv_nonneg (by omega) (by have := HB0.out.1; omega)
  have hq1 : S / c.s 0 ≤ S := Int.ediv_le_self _ (by omega)
  obtain ⟨mk, hmk⟩ : ∃ m, m = mostK c ii := ⟨_, rfl⟩
  rw [← hmk] at HM0 HSF
  have HQ := hid (And.intro hq0 hq1)
  have mk0 : 0 ≤ mk := by
    rw [HM0.out]
    split <;> omega
  have mk1 : mk ≤ 1000000000 := by
    rw [HM0.out]
    split <;> omega
  clear hq0 hq1 hmk
  have y8 : w8.cell? ⟨w1.heap.size, 8, none⟩ = some (i64 c.m) := cell_of_blk HCB8.out 8
  have hzy : w1.heap.size < w8.heap.size := blk_lt HCB8.out
  go_upto_if 140 with fail
  clear y8
  go_cut [23] (fun z wx => z = i64 mk ∧ wx = w8)
  case first =>
    as_aux_lemma =>
    have hm := HM0.out
    have y0 : w8.cell? ⟨w1.heap.size, 0, none⟩ = some (i64 (c.s 0)) := cell_of_blk HCB8.out 0
    have A0 : w8.cell? ⟨w6.heap.size, 0, none⟩ = some (i64 S) := cell_of_blk HAB8.out 0
    have hzz : w6.heap.size < w8.heap.size := blk_lt HAB8.out
    have s01 := HB0.out.1
    have s02 := HB0.out.2.1
    obtain ⟨q0, q1⟩ := HQ.out
    generalize c.s 0 = S' at hm y0 s01 s02 q0 q1
    obtain ⟨Q, hQ⟩ : ∃ Q, Q = S / S' := ⟨_, rfl⟩
    have d1 : IntKind.i64.wrap (S.tdiv S') = Q := by rw [hQ]; exact IntWalk.i64_quo _ _ ⟨by omega, by omega, by omega⟩
    rw [← hQ] at hm q0 q1
    have d2 : IntKind.i64.wrap (1000 * Q) = 1000 * Q := IntWalk.i64_in _ ⟨by omega, by omega⟩
    clear hQ
    by_cases m2 : c.m = 2
    · rw [if_pos m2] at hm
      have HM := hid hm
      clear hm
      go_wp2
      go_meet
      exact ⟨congrArg i64 (by rw [HM.out]), rfl⟩
    · rw [if_neg m2] at hm
      have HM := hid hm
      clear hm
      go_wp2
      go_meet
      exact ⟨congrArg i64 (by rw [HM.out]), rfl⟩
  case rest =>
  as_aux_lemma =>
  obtain ⟨rfl, hwc⟩ := hcut
  have hwc := hwc.symm
  subst hwc
  have HZ := hid hz5
  clear HM0 HQ HAH HER HA HSS HBD2 hz2 hz4 hz5 hz6 hz7 hz8 hz9 hzy
  go_wp2
  go_loopw [24] (fun i' wr => ∃ k : Nat, k ≤ pp.length ∧ i' = i64 k ∧ Below w8.heap.size w8 wr) (fun i' _ => pp.length - (intOf i').toNat)
  case atStart => exact ⟨0, by omega, rfl, Below.refl _ _⟩
  case round =>
    as_aux_lemma =>
    obtain ⟨k, hk, rfl, hb⟩ := hrel
    have HBR := hid hb
    have hzr := hb.size
    have t2 : wr.cell? ⟨w4.heap.size, 2, none⟩ = some (.slice a4 pp.length c4) := cell_of_blk (blk_later hb (blk_lt HTB8.out) HTB8.out) 2
    have HAR := hid (blk_later hb (blk_lt HAB8.out) HAB8.out)
    have zt : w4.heap.size < wr.heap.size := by have := blk_lt HTB8.out; omega
    have za : w6.heap.size < wr.heap.size := by have := blk_lt HAB8.out; omega
    clear hb hzr
    by_cases hlt : k < pp.length
    rotate_left
    · go_wp2
      go_ret
      exact ⟨rfl, HB8.out.trans (HBR.out.mono HB8.out.size)⟩
    have A0 : wr.cell? ⟨w6.heap.size, 0, none⟩ = some (i64 S) := cell_of_blk HAR.out 0
    obtain ⟨q, hq⟩ : ∃ q, pp[k]? = some q := ⟨_, List.getElem?_eq_getElem hlt⟩
    obtain ⟨f1, f2, f3, f4, f5, f6, f7⟩ := (HSF.out trivial).2 q (List.mem_of_getElem? hq)
    obtain ⟨a', c', hv', hrow⟩ := HRW8.out.later HBR.out
    simp only [Value.slice.injEq, true_and] at hv'
    obtain ⟨rfl, rfl⟩ := hv'
    obtain ⟨b, rfl, hbz, m0, m1⟩ := hrow k q hq
    have HROW := hid hrow
    have HQK := hid hq
    obtain ⟨qt, qv⟩ := q
    dsimp only at f1 f2 f3 f4 f5 f6 f7 m0 m1
    have g1 : qt.tmod S = 0 := by rw [Int.tmod_eq_emod_of_nonneg (by omega)]; exact f1
    have g2 : ¬ qt < fr := by omega
    have g3 : ¬ un < qt := by omega
    have g4 : ¬ pn < qt := by omega
    have g5 : ¬ P ≤ pn - qt := by omega
    have g6 : ¬ mk < qv := by omega
    have g7 : ¬ qv < -mk := by omega
    have k0 : (0 : Int) ≤ (k : Int) := by omega
    have k1 : (k : Int) < (pp.length : Int) := by omega
    have S0 : S ≠ 0 := by omega
    clear hrow hq f1
    go_upto_region 26 with fail
    generalize hw9 : wr.alloc (.cells #[.int .i64 qt, .int .i64 qv] 39) = w9
    have HB9 := hid (show Below wr.heap.size wr w9 by rw [← hw9]; exact (Below.refl _ _).alloc (Nat.le_refl _) _)
    have HP9 := hid (show w9.heap[wr.heap.size]? = some (.cells #[i64 qt, i64 qv] 39) by rw [← hw9]; exact blk_new _ _)
    have P9 : w9.cell? ⟨wr.heap.size, 0, none⟩ = some (i64 qt) := cell_of_blk HP9.out 0
    have T9 : w9.cell? ⟨w4.heap.size, 2, none⟩ = some (.slice (some ⟨b, 0, none⟩) pp.length c4) := cell_later HB9.out t2
    have z9 : wr.heap.size < w9.heap.size := blk_lt HP9.out
    have HREL := hid (show Below w8.heap.size w8 w9 from HBR.out.trans (HB9.out.mono HBR.out.size))
    clear hw9 t2 A0 m0 m1 g1 g2 g3 g4 g5 g6 g7 f2 f3 f4 f5 f6 f7
    have hz8 := HBR.out.size
    rcases k with _ | j
    · go_quiet (fail)
      go_wp2
      go_roundw
      case rel => first | exact ⟨1, by omega, by go_num, below_drewN HREL.out _⟩ | ((repeat apply Exists.intro); exact ⟨⟨1, by omega, by go_num, below_drewN HREL.out _⟩, rfl⟩)
      case measure => simp [intOf]; omega
    · obtain ⟨q', hq'⟩ : ∃ q, pp[j]? = some q := ⟨_, List.getElem?_eq_getElem (by omega)⟩
      obtain ⟨b', hb', hbz', n0, n1⟩ := HROW.out j q' hq'
      cases hb'
      have hin : q'.1 < qt := by
        obtain ⟨y1, y2⟩ := List.getElem?_eq_some_iff.1 hq'
        obtain ⟨z1, z2⟩ := List.getElem?_eq_some_iff.1 HQK.out
        have := (List.pairwise_iff_getElem.1 (HSF.out trivial).1) j (j + 1) y1 z1 (by omega)
        rw [y2, z2] at this
        exact this
      have N0 : w9.cell? ⟨b, j * 2, none⟩ = some (i64 q'.1) := cell_later HB9.out n0
      generalize q'.1 = qx at N0 hin
      have hz10 : b < w9.heap.size := by omega
      have j0 : (0 : Int) ≤ (j : Int) := by omega
      have j1 : (j : Int) < (pp.length : Int) := by omega
      have hd : decide (qt ≤ qx) = false := decide_eq_false (by omega)
      clear n0 n1 hq'
      go_quiet (fail)
      go_wp2
      go_roundw
      case rel => first | exact ⟨j + 2, by omega, by go_num, below_drewN HREL.out _⟩ | ((repeat apply Exists.intro); exact ⟨⟨j + 2, by omega, by go_num, below_drewN HREL.out _⟩, rfl⟩)
      case measure => simp [intOf]; omega
end Go.Proofs.Ythbbfjfekchdiaa
