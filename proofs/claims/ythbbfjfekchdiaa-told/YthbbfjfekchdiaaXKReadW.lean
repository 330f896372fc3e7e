import Derived.Test.YthbbfjfekchdiaaXKWorks
import Derived.Test.YthbbfjfekchdiaaXKFilled
import Derived.BigQuiet
import Derived.Deep.QuietTactic
import Derived.Deep.DeepCutAuto
/-
  The order of points: strictly by their stamps, and by that alone.
-/
namespace Go.Proofs.Ythbbfjfekchdiaa

abbrev Inc (l : List Pt) : Prop := l.Pairwise fun a b => a.1 < b.1

theorem pw_mono {α : Type} {R S : α → α → Prop} {l : List α} (h : ∀ a b, a ∈ l → b ∈ l → R a b → S a b) (hp : l.Pairwise R) : l.Pairwise S := by
  rw [List.pairwise_iff_getElem] at *
  intro i j hi hj hij
  exact h _ _ (List.getElem_mem hi) (List.getElem_mem hj) (hp i j hi hj hij)
theorem pw_both {α : Type} {R S U : α → α → Prop} {l : List α} (h : ∀ a b, R a b → S a b → U a b) (hp : l.Pairwise R) (hq : l.Pairwise S) : l.Pairwise U := by
  rw [List.pairwise_iff_getElem] at *
  intro i j hi hj hij
  exact h _ _ (hp i j hi hj hij) (hq i j hi hj hij)

theorem insPt_eq (out : List Pt) (x : Pt) : insPt out x = (out.takeWhile fun q => decide (q.1 < x.1)) ++ (x :: out.dropWhile fun q => decide (q.1 < x.1)) := by
  have key : ∀ (o a b : List Pt), a ++ b = o → (o.take a.length ++ [x]) ++ o.drop a.length = a ++ (x :: b) := by
    intro o a b h
    subst h
    rw [List.take_left, List.drop_left]
    simp
  exact key out _ _ (List.takeWhile_append_dropWhile (p := fun q : Pt => decide (q.1 < x.1)) (l := out))
theorem dropWhile_ge {x : Int} : ∀ {out : List Pt}, Inc out → (∀ q ∈ out, q.1 ≠ x) → ∀ q ∈ out.dropWhile (fun q => decide (q.1 < x)), x < q.1
  | [], _, _, q, hq => by simp at hq
  | a :: out, hi, hne, q, hq => by
    obtain ⟨h1, h2⟩ := List.pairwise_cons.1 hi
    by_cases ha : a.1 < x
    · rw [List.dropWhile_cons_of_pos (by simpa using ha)] at hq
      exact dropWhile_ge h2 (fun q hq => hne q (by simp [hq])) q hq
    · rw [List.dropWhile_cons_of_neg (by simpa using ha)] at hq
      have hx : x < a.1 := by
        have := hne a (by simp)
        omega
      rcases List.mem_cons.1 hq with rfl | hq
      · exact hx
      · have := h1 q hq
        omega
theorem takeWhile_lt {x : Int} : ∀ {out : List Pt}, ∀ q ∈ out.takeWhile (fun q => decide (q.1 < x)), q.1 < x
  | [], q, hq => by simp at hq
  | a :: out, q, hq => by
    by_cases ha : a.1 < x
    · rw [List.takeWhile_cons_of_pos (by simpa using ha)] at hq
      rcases List.mem_cons.1 hq with rfl | hq
      · exact ha
      · exact takeWhile_lt q hq
    · rw [List.takeWhile_cons_of_neg (by simpa using ha)] at hq
      simp at hq
theorem insPt_inc {out : List Pt} {x : Pt} (hi : Inc out) (hne : ∀ q ∈ out, q.1 ≠ x.1) : Inc (insPt out x) := by
  rw [insPt_eq]
  refine List.pairwise_append.2 ⟨hi.sublist (List.takeWhile_sublist _), ?_, ?_⟩
  · refine List.pairwise_cons.2 ⟨fun q hq => dropWhile_ge hi hne q hq, hi.sublist (List.dropWhile_sublist _)⟩
  · intro a ha b hb
    have h1 := takeWhile_lt a ha
    rcases List.mem_cons.1 hb with rfl | hb
    · exact h1
    · have := dropWhile_ge hi hne b hb
      omega
theorem sortedTo_inc {l : List Pt} (h : (l.map (·.1)).Nodup) : ∀ k, k ≤ l.length → Inc (sortedTo l k) := by
  intro k
  induction k with
  | zero => intro _; simp [sortedTo]
  | succ k ih =>
    intro hk
    obtain ⟨q, hq⟩ : ∃ q, l[k]? = some q := ⟨_, List.getElem?_eq_getElem (by omega)⟩
    rw [sortedTo_succ hq]
    refine insPt_inc (ih (by omega)) fun p hp e => ?_
    rw [sortedTo_mem k (by omega)] at hp
    obtain ⟨j, hj⟩ := List.mem_iff_getElem?.1 hp
    rw [List.getElem?_take] at hj
    split at hj
    · rename_i hjk
      have h1 : (l.map (·.1))[j]? = some p.1 := by rw [List.getElem?_map, hj]; rfl
      have h2 : (l.map (·.1))[k]? = some q.1 := by rw [List.getElem?_map, hq]; rfl
      have hjl : j < (l.map (·.1)).length := by rw [List.length_map]; omega
      have := (List.getElem?_inj (i := j) (j := k) hjl h).1 (by rw [h1, h2, e])
      omega
    · cases hj
theorem sortedL_inc {l : List Pt} (h : (l.map (·.1)).Nodup) : Inc (sortedL l) := sortedTo_inc h _ (Nat.le_refl _)
/-- slots apart, stamps apart -/
theorem stamps_nodup {c : Cfg} {i : Nat} {l : List Pt} (h : (l.map fun q => slotOf c i q.1).Nodup) : (l.map (·.1)).Nodup := by
  have e : (l.map fun q => slotOf c i q.1) = (l.map (·.1)).map (slotOf c i) := by rw [List.map_map]; rfl
  rw [e] at h
  exact pw_mono (fun a b _ _ hab e => hab (by rw [e])) (List.pairwise_map.1 h)
/-- two lists in strict order with the same points are one -/
theorem inc_unique : ∀ {a b : List Pt}, Inc a → Inc b → (∀ q, q ∈ a ↔ q ∈ b) → a = b
  | [], [], _, _, _ => rfl
  | [], y :: b, _, _, h => by have := (h y).2 (by simp); simp at this
  | x :: a, [], _, _, h => by have := (h x).1 (by simp); simp at this
  | x :: a, y :: b, ha, hb, h => by
    obtain ⟨a1, a2⟩ := List.pairwise_cons.1 ha
    obtain ⟨b1, b2⟩ := List.pairwise_cons.1 hb
    have exy : x = y := by
      rcases List.mem_cons.1 ((h x).1 (by simp)) with e | hx
      · exact e
      · rcases List.mem_cons.1 ((h y).2 (by simp)) with e | hy
        · exact e.symm
        · have := b1 x hx
          have := a1 y hy
          omega
    subst exy
    have : a = b := inc_unique a2 b2 fun q => by
      constructor
      · intro hq
        rcases List.mem_cons.1 ((h q).1 (by simp [hq])) with e | hq'
        · have := a1 q hq
          rw [e] at this
          omega
        · exact hq'
      · intro hq
        rcases List.mem_cons.1 ((h q).2 (by simp [hq])) with e | hq'
        · have := b1 q hq
          rw [e] at this
          omega
        · exact hq'
    rw [this]
end Go.Proofs.Ythbbfjfekchdiaa
/-
  No value is beyond what can come of those that were written.
-/
namespace Go.Proofs.Ythbbfjfekchdiaa

theorem sumTo_bd {M : Int} {l : List Int} (h : ∀ v ∈ l, -M ≤ v ∧ v ≤ M) : ∀ k, k ≤ l.length → -(M * (k : Int)) ≤ sumTo l k ∧ sumTo l k ≤ M * (k : Int) := by
  intro k
  induction k with
  | zero => intro _; rw [sumTo_zero]; simp
  | succ k ih =>
    intro hk
    obtain ⟨v, hv⟩ : ∃ v, l[k]? = some v := ⟨_, List.getElem?_eq_getElem (by omega)⟩
    have h1 := ih (by omega)
    have h2 := h v (List.mem_iff_getElem?.2 ⟨k, hv⟩)
    rw [sumTo_succ hv]
    have e : M * ((k + 1 : Nat) : Int) = M * (k : Int) + M := by
      rw [show ((k + 1 : Nat) : Int) = (k : Int) + 1 from rfl, Int.mul_add, Int.mul_one]
    rw [e]
    omega
theorem outStep_bd {M m a v : Int} (ha : -M ≤ a ∧ a ≤ M) (hv : -M ≤ v ∧ v ≤ M) : -M ≤ outStep m a v ∧ outStep m a v ≤ M := by
  unfold outStep
  repeat' split
  all_goals omega
theorem outTo_bd {M m : Int} {l : List Int} (h : ∀ v ∈ l, -M ≤ v ∧ v ≤ M) (hl : l ≠ []) : ∀ k, k ≤ l.length → -M ≤ outTo m l k ∧ outTo m l k ≤ M := by
  intro k
  induction k with
  | zero =>
    intro _
    rw [outTo_zero]
    cases l with
    | nil => exact absurd rfl hl
    | cons a l => exact h a (by simp)
  | succ k ih =>
    intro hk
    obtain ⟨v, hv⟩ : ∃ v, l[k]? = some v := ⟨_, List.getElem?_eq_getElem (by omega)⟩
    rw [outTo_succ hv]
    exact outStep_bd (ih (by omega)) (h v (List.mem_iff_getElem?.2 ⟨k, hv⟩))

/-- how far a value of archive i may be -/
def mostK (c : Cfg) (i : Nat) : Int := if c.m = 2 then 1000 * (c.s i / c.s 0) else 1000
def RDb.Bv (d : RDb) : Prop := ∀ (i : Nat) (l : List Pt), d.L[i]? = some l → ∀ q ∈ l, -mostK d.c i ≤ q.2 ∧ q.2 ≤ mostK d.c i

theorem makesI_bd {c : Cfg} {i n : Nat} {l : List Int} (hne : l ≠ []) (hn : l.length ≤ n) (hq : c.m = 2 → mostK c i * (n : Int) ≤ mostK c (i + 1)) (hp : 0 ≤ mostK c i) (h : ∀ v ∈ l, -mostK c i ≤ v ∧ v ≤ mostK c i) : -mostK c (i + 1) ≤ makesI c.m l ∧ makesI c.m l ≤ mostK c (i + 1) := by
  have hl : 0 < (l.length : Int) := by
    have := List.length_pos_iff.2 hne
    omega
  unfold makesI
  by_cases m2 : c.m = 2
  · rw [if_neg (by omega), if_pos m2]
    have h1 := sumTo_bd h l.length (Nat.le_refl _)
    have h2 : mostK c i * (l.length : Int) ≤ mostK c i * (n : Int) := Int.mul_le_mul_of_nonneg_left (by omega) hp
    have h3 := hq m2
    unfold cutI
    omega
  · have e1 : mostK c (i + 1) = 1000 := by unfold mostK; rw [if_neg m2]
    have e0 : mostK c i = 1000 := by unfold mostK; rw [if_neg m2]
    rw [e0] at h
    rw [e1]
    split
    · have h1 := sumTo_bd h l.length (Nat.le_refl _)
      exact ⟨(Int.le_ediv_iff_mul_le hl).2 (by omega), Int.ediv_le_of_le_mul hl (by omega)⟩
    · try rw [if_neg m2]
      exact outTo_bd h hne l.length (Nat.le_refl _)

theorem put_bv {d : RDb} (h : d.Bv) {i : Nat} {l : List Pt} (hl : d.L[i]? = some l) {p : Pt} (hp : -mostK d.c i ≤ p.2 ∧ p.2 ≤ mostK d.c i) : (d.put i (setL d.c i p l)).Bv := by
  intro j l' hj q hq
  rcases put_at hj with ⟨rfl, rfl⟩ | ⟨_, h'⟩
  · unfold setL othersL at hq
    rcases List.mem_append.1 hq with hq | hq
    · exact h _ l hl q (List.mem_filter.1 hq).1
    · rw [List.mem_singleton.1 hq]; exact hp
  · exact h j l' h' q hq
/-- the steps are multiples of the first one's -/
theorem step_dvd {c : Cfg} (h : c.Ok) : ∀ i, i < c.many → c.s 0 ∣ c.s i
  | 0, _ => Int.dvd_refl _
  | i + 1, hi => by
    have h1 := step_dvd h i (by omega)
    have h2 := (h.2.2 i (by have := c.many_le; omega) hi).2.1
    exact Int.dvd_trans h1 (Int.dvd_of_emod_eq_zero h2)
theorem most_next {c : Cfg} (h : c.Ok) {i : Nat} (hi : i + 1 < c.many) (m2 : c.m = 2) : mostK c i * ((c.s (i + 1) / c.s i).toNat : Int) ≤ mostK c (i + 1) := by
  unfold mostK
  rw [if_pos m2, if_pos m2]
  have b0 := Cfg.bd h (show 0 < c.many by omega)
  have bi := Cfg.bd h (show i < c.many by omega)
  have bj := Cfg.bd h hi
  obtain ⟨a, ha⟩ := step_dvd h i (by omega)
  have h2 := (h.2.2 i (by have := c.many_le; omega) hi).2.1
  obtain ⟨b, hb⟩ := Int.dvd_of_emod_eq_zero h2
  have ea : c.s i / c.s 0 = a := by rw [ha]; exact Int.mul_ediv_cancel_left _ (by have := b0.1; omega)
  have eb : c.s (i + 1) / c.s i = b := by rw [hb]; exact Int.mul_ediv_cancel_left _ (by have := bi.1; omega)
  have ec : c.s (i + 1) / c.s 0 = a * b := by rw [hb, ha, Int.mul_assoc]; exact Int.mul_ediv_cancel_left _ (by have := b0.1; omega)
  have hb0 : 0 ≤ b := by rw [← eb]; exact Int.ediv_nonneg (by have := bj.1; omega) (by have := bi.1; omega)
  rw [ea, eb, ec, Int.toNat_of_nonneg hb0, Int.mul_assoc]
  exact Int.le_refl _
theorem most_pos {c : Cfg} (h : c.Ok) {i : Nat} (hi : i < c.many) : 1000 ≤ mostK c i := by
  unfold mostK
  split
  · have b0 := Cfg.bd h (show 0 < c.many by omega)
    have bi := Cfg.bd h hi
    obtain ⟨a, ha⟩ := step_dvd h i hi
    have ea : c.s i / c.s 0 = a := by rw [ha]; exact Int.mul_ediv_cancel_left _ (by have := b0.1; omega)
    rw [ea]
    have : 1 ≤ a := by
      apply Classical.byContradiction
      intro hn
      have : c.s 0 * a ≤ c.s 0 * 0 := Int.mul_le_mul_of_nonneg_left (by omega) (by have := b0.1; omega)
      have := bi.1
      omega
    omega
  · omega
theorem goesF_bv : ∀ (f : Nat) (d : RDb) (i : Nat) (t : Int), d.Ok → i < d.c.many → 0 ≤ t → t ≤ 2147483647 → d.Bv → (goesF f d i t).Bv
  | 0, d, i, t, _, _, _, _, h => h
  | f + 1, d, i, t, hd, hi, h0, h1, hB => by
    rw [goesF]
    split
    · exact hB
    · rename_i hm
      have hi1 : i + 1 < d.c.many := by omega
      have hb := Cfg.bd hd.cfg hi1
      obtain ⟨l, hl⟩ : ∃ l, d.L[i]? = some l := ⟨_, List.getElem?_eq_getElem (by rw [hd.len]; exact hi)⟩
      obtain ⟨l1, hl1⟩ : ∃ l, d.L[i + 1]? = some l := ⟨_, List.getElem?_eq_getElem (by rw [hd.len]; exact hi1)⟩
      simp only
      split
      · exact hB
      · rename_i hc
        have hfr := sub_in h0 h1 hb.1
        rw [hl] at hc
        rw [hl, hl1]
        simp only [Option.getD_some] at hc ⊢
        obtain ⟨vs, hvs⟩ : ∃ vs, vs = valsTo d.c i l (t - t % d.c.s (i + 1)) (d.c.s (i + 1) / d.c.s i).toNat := ⟨_, rfl⟩
        have hne : vs ≠ [] := fun e => hc (.inl (by rw [← hvs, e]; rfl))
        have hvin := makesI_in (m := d.c.m) (l := vs) (by rw [hvs]; exact valsTo_in (hd.pts i l hl).1) hne
        have hvb := makesI_bd (c := d.c) (i := i) (n := (d.c.s (i + 1) / d.c.s i).toNat) (l := vs) hne (by rw [hvs]; exact valsTo_len _ _ _ _ _) (most_next hd.cfg hi1) (by have := most_pos hd.cfg hi; omega) (by
          intro v hv
          rw [hvs] at hv
          unfold valsTo at hv
          obtain ⟨j, _, hj⟩ := List.mem_filterMap.1 hv
          cases hh : hasL (t - t % d.c.s (i + 1) + j * d.c.s i) l with
          | none => rw [hh] at hj; simp at hj
          | some q =>
            rw [hh] at hj
            simp only [Option.map_some, Option.some.injEq] at hj
            rw [← hj]
            exact hB i l hl q (hasL_mem hh))
        rw [← hvs]
        obtain ⟨v, hvd⟩ : ∃ v, v = makesI d.c.m vs := ⟨_, rfl⟩
        rw [← hvd] at hvin hvb ⊢
        have hok := put_ok hd hl1 (p := (t - t % d.c.s (i + 1), v)) ⟨hfr.1, hfr.2, hvin.1, hvin.2⟩
        exact goesF_bv f _ (i + 1) _ hok hi1 hfr.1 hfr.2 (put_bv hB hl1 hvb)
theorem writesR_bv {d : RDb} {now : Int} {q : Pt} (hd : d.Ok) (hq : PtIn q) (hv : -1000 ≤ q.2 ∧ q.2 ≤ 1000) (hB : d.Bv) : (writesR d now q).Bv := by
  unfold writesR
  cases hf : firstO d.c now q.1 with
  | none => exact hB
  | some i =>
    obtain ⟨hi, _⟩ := firstO_in hf
    have hb := Cfg.bd hd.cfg hi
    have hs := sub_in hq.1 hq.2.1 hb.1
    have hm := most_pos hd.cfg hi
    obtain ⟨l, hl⟩ : ∃ l, d.L[i]? = some l := ⟨_, List.getElem?_eq_getElem (by rw [hd.len]; exact hi)⟩
    simp only [hl, Option.getD_some]
    have hok := put_ok hd hl (p := (q.1 - q.1 % d.c.s i, q.2)) ⟨hs.1, hs.2, hq.2.2.1, hq.2.2.2⟩
    exact goesF_bv _ _ _ _ hok hi hs.1 hs.2 (put_bv hB hl (p := (q.1 - q.1 % d.c.s i, q.2)) ⟨by show -mostK d.c i ≤ q.2; omega, by show q.2 ≤ mostK d.c i; omega⟩)
end Go.Proofs.Ythbbfjfekchdiaa
/-
  What a fetch tells of what sundialkeep's moves have written.
-/
namespace Go.Proofs.Ythbbfjfekchdiaa

theorem updR_bv {d : RDb} {now : Int} {q : Pt} (hd : d.Ok) (hv : -1000 ≤ q.2 ∧ q.2 ≤ 1000) (hB : d.Bv) : (updR d now [q]).Bv := by
  unfold updR
  split
  · rename_i h
    unfold updErr at h
    split at h
    · simp at h
    · exact writesR_bv hd (ptErr_in (errFrom_zero [q] 0 h q (by simp))) hv hB
  · exact hB
theorem pointK_val (ba va now far : Int) : -1000 ≤ (pointK ba va now far).2 ∧ (pointK ba va now far).2 ≤ 1000 := by
  have := pickK_in va (n := 2001) (by omega)
  unfold pointK
  simp only
  omega
theorem playK_inv {c : Cfg} (hc : c.Ok) (ms : List Mv) : (playK c ms).2.Al ∧ (playK c ms).2.Bv := by
  have key : ∀ (l : List Mv) (s : Int × RDb), s.2.Ok → s.2.Al → s.2.Bv → (l.foldl (stepK c) s).2.Al ∧ (l.foldl (stepK c) s).2.Bv := by
    intro l
    induction l with
    | nil => intro s _ a b; exact ⟨a, b⟩
    | cons m l ih =>
      intro s d a b
      have hk := updR_kept (now := s.1 + pickK m.1 40) (l := [pointK m.2.1 m.2.2 (s.1 + pickK m.1 40) (farK c)]) d
      rw [List.foldl_cons]
      exact ih (stepK c s m) hk.1 (hk.2.2 a) (updR_bv d (pointK_val _ _ _ _) b)
  have hnil : ∀ (i : Nat) (l : List Pt), (RDb.new c).L[i]? = some l → l = [] := fun i l hl => (List.mem_replicate.1 (List.mem_iff_getElem?.2 ⟨i, hl⟩)).2
  refine key ms (0, RDb.new c) (new_ok' hc) (fun i l hl q hq => ?_) (fun i l hl q hq => ?_)
  · rw [hnil i l hl] at hq; simp at hq
  · rw [hnil i l hl] at hq; simp at hq
/-- what a fetch without an error tells -/
theorem serP_facts {d : RDb} (hd : d.Ok) (ha : d.Al) (hb : d.Bv) {now fr un : Int} (he : fetchErr d.c now fr un = 0) :
    Inc (serP d now fr un) ∧ ∀ q ∈ serP d now fr un, q.1 % d.c.s (fetchI d.c now fr) = 0 ∧ fr ≤ q.1 ∧ q.1 ≤ un ∧ q.1 ≤ now ∧ now - q.1 < d.c.s (fetchI d.c now fr) * d.c.k (fetchI d.c now fr) ∧ -mostK d.c (fetchI d.c now fr) ≤ q.2 ∧ q.2 ≤ mostK d.c (fetchI d.c now fr) := by
  have hm : fetchI d.c now fr < d.c.many := fetchI_lt (d.c.ok_iff.1 hd.cfg).2.2.1
  obtain ⟨l, hl⟩ : ∃ l, d.L[fetchI d.c now fr]? = some l := ⟨_, List.getElem?_eq_getElem (by rw [hd.len]; exact hm)⟩
  have e : serP d now fr un = (sortedL l).filter (fetchB d.c (fetchI d.c now fr) now fr un) := by
    unfold serP fetchL
    rw [if_pos he, List.getD_eq_getElem?_getD, hl]
    rfl
  rw [e]
  refine ⟨(sortedL_inc (stamps_nodup (hd.apart _ l hl))).sublist List.filter_sublist, fun q hq => ?_⟩
  obtain ⟨h1, h2⟩ := List.mem_filter.1 hq
  have hq' := sortedL_mem.1 h1
  unfold fetchB covB at h2
  simp only [Bool.and_eq_true, decide_eq_true_eq] at h2
  exact ⟨ha _ l hl q hq', h2.2.1, h2.2.2, h2.1.1, h2.1.2, hb _ l hl q hq'⟩
end Go.Proofs.Ythbbfjfekchdiaa
/-
  No archive covers a stamp just where the farthest does not.
-/
namespace Go.Proofs.Ythbbfjfekchdiaa

theorem farTo_le {c : Cfg} {x : Int} : ∀ k, farTo c k ≤ x ↔ 0 ≤ x ∧ ∀ j, j < k → c.s j * c.k j ≤ x
  | 0 => by simp [farTo]
  | k + 1 => by
    have ih := farTo_le (c := c) (x := x) k
    rw [farTo]
    constructor
    · intro h
      have h1 := ih.1 (by omega)
      refine ⟨h1.1, fun j hj => ?_⟩
      by_cases e : j = k
      · subst e; omega
      · exact h1.2 j (by omega)
    · rintro ⟨h0, h⟩
      have h1 := ih.2 ⟨h0, fun j hj => h j (by omega)⟩
      have h2 := h k (by omega)
      omega
theorem firstFrom_none {c : Cfg} {now t : Int} : ∀ (n i : Nat), firstFrom c now t i n = none → ∀ j, i ≤ j → j < i + n → covB c j now t = false
  | 0, i, _, j, h1, h2 => by omega
  | n + 1, i, h, j, h1, h2 => by
    rw [firstFrom] at h
    split at h
    · cases h
    · rename_i hc
      by_cases e : j = i
      · subst e; simpa using hc
      · exact firstFrom_none n (i + 1) h j (by omega) (by omega)
theorem first_far {c : Cfg} (hc : c.Ok) {now t : Int} (ht : t ≤ now) : firstI c now t < 0 ↔ farK c ≤ now - t := by
  unfold farK
  rw [farTo_le]
  constructor
  · intro h
    refine ⟨by omega, fun j hj => ?_⟩
    by_cases hm : j < c.many
    · have h1 := firstFrom_none c.many 0 (firstI_no h).1 j (by omega) (by omega)
      unfold covB at h1
      simp only [Bool.and_eq_false_iff, decide_eq_false_iff_not] at h1
      omega
    · obtain ⟨a, b⟩ := (hc.2.1 j hj).1 (by omega)
      rw [a]
      omega
  · rintro ⟨_, h⟩
    have hn : firstO c now t = none := firstO_none fun j hj => by
      have := h j (by have := c.many_le; omega)
      unfold covB
      simp only [Bool.and_eq_false_iff, decide_eq_false_iff_not]
      omega
    unfold firstI
    rw [hn]
    simp
/-- the archives ahead of the one that a fetch tells of do not cover its beginning -/
theorem fetchI_ahead {c : Cfg} {now fr : Int} (hf : fr ≤ now) {j : Nat} (hj : j < fetchI c now fr) : c.s j * c.k j ≤ now - fr := by
  have key : ∀ (n i m : Nat), firstFrom c now fr i n = some m → ∀ j, i ≤ j → j < m → covB c j now fr = false := by
    intro n
    induction n with
    | zero => intro i m h; simp [firstFrom] at h
    | succ n ih =>
      intro i m h j h1 h2
      rw [firstFrom] at h
      split at h
      · simp at h; omega
      · rename_i hc
        by_cases e : j = i
        · subst e; simpa using hc
        · exact ih (i + 1) m h j (by omega) h2
  have hcov : covB c j now fr = false := by
    unfold fetchI at hj
    cases e : firstO c now fr with
    | none =>
      rw [e] at hj
      exact firstFrom_none c.many 0 e j (by omega) (by simp at hj; omega)
    | some m =>
      rw [e] at hj
      exact key c.many 0 m e j (by omega) hj
  unfold covB at hcov
  simp only [Bool.and_eq_false_iff, decide_eq_false_iff_not] at hcov
  omega
end Go.Proofs.Ythbbfjfekchdiaa
/-
  Told's mathematics: the slots' stamps and values, held as two lists, tell the first archive's points.
-/
namespace Go.Proofs.Ythbbfjfekchdiaa

structure Tell (c : Cfg) (l : List Pt) (st vs : List Int) : Prop where
  ls : (st.length : Int) = c.k 0
  lv : (vs.length : Int) = c.k 0
  each : ∀ q ∈ l, ∃ k : Nat, slotOf c 0 q.1 = (k : Int) ∧ st[k]? = some q.1 ∧ vs[k]? = some q.2
  back : ∀ (k : Nat) (x : Int), st[k]? = some x → 0 ≤ x → ∃ y, vs[k]? = some y ∧ (x, y) ∈ l ∧ slotOf c 0 x = (k : Int)

theorem tell_new {c : Cfg} {n : Nat} (h : (n : Int) = c.k 0) : Tell c [] (List.replicate n (-1)) (List.replicate n 0) where
  ls := by simp [h]
  lv := by simp [h]
  each := fun q hq => by simp at hq
  back := fun k x hx h0 => by
    rw [List.getElem?_replicate] at hx
    split at hx
    · simp at hx; omega
    · cases hx

theorem slot_in {c : Cfg} {t : Int} (hk : 1 ≤ c.k 0) : 0 ≤ slotOf c 0 t ∧ slotOf c 0 t < c.k 0 :=
  ⟨Int.emod_nonneg _ (by omega), Int.emod_lt_of_pos _ (by omega)⟩

theorem tell_set {c : Cfg} {l : List Pt} {st vs : List Int} {t v : Int} {k : Nat} (hk : 1 ≤ c.k 0) (h : Tell c l st vs) (e : slotOf c 0 t = (k : Int)) : Tell c (setL c 0 (t, v) l) (st.set k t) (vs.set k v) where
  ls := by rw [List.length_set]; exact h.ls
  lv := by rw [List.length_set]; exact h.lv
  each := fun q hq => by
    have hin := slot_in (c := c) (t := t) hk
    have h1 := h.ls
    have h2 := h.lv
    unfold setL othersL at hq
    rcases List.mem_append.1 hq with hq | hq
    · obtain ⟨hq, hne⟩ := List.mem_filter.1 hq
      obtain ⟨k', e', a, b⟩ := h.each q hq
      have hne' : k ≠ k' := by
        rintro rfl
        simp [e, e'] at hne
      exact ⟨k', e', by rw [List.getElem?_set_ne hne']; exact a, by rw [List.getElem?_set_ne hne']; exact b⟩
    · simp at hq
      subst hq
      exact ⟨k, e, by rw [List.getElem?_set_self (by omega)], by rw [List.getElem?_set_self (by omega)]⟩
  back := fun j x hx h0 => by
    have hin := slot_in (c := c) (t := t) hk
    have h1 := h.ls
    have h2 := h.lv
    by_cases hj : k = j
    · subst hj
      rw [List.getElem?_set_self (by omega)] at hx
      simp at hx
      subst hx
      refine ⟨v, by rw [List.getElem?_set_self (by omega)], ?_, e⟩
      unfold setL
      simp
    · rw [List.getElem?_set_ne hj] at hx
      obtain ⟨y, a, b, f⟩ := h.back j x hx h0
      refine ⟨y, by rw [List.getElem?_set_ne hj]; exact a, ?_, f⟩
      unfold setL othersL
      refine List.mem_append.2 (.inl (List.mem_filter.2 ⟨b, ?_⟩))
      simp [e, f]
      omega

/-- how many of the first k slots lie between -/
def cntB (fr now : Int) (x : Int) : Bool := decide (fr ≤ x) && decide (x ≤ now)
def cntK (st : List Int) (fr now : Int) (k : Nat) : Nat := ((st.take k).filter (cntB fr now)).length
theorem cntK_succ {st : List Int} {fr now x : Int} {k : Nat} (h : st[k]? = some x) : cntK st fr now (k + 1) = cntK st fr now k + (if cntB fr now x then 1 else 0) := by
  unfold cntK
  rw [List.take_add_one, h, List.filter_append, List.length_append]
  congr 1
  simp only [Option.toList]
  cases hq : cntB fr now x <;> simp [hq]
theorem cntK_le (st : List Int) (fr now : Int) (k : Nat) : cntK st fr now k ≤ k := by
  unfold cntK
  refine Nat.le_trans (List.length_filter_le _ _) ?_
  rw [List.length_take]
  omega

theorem tell_len {c : Cfg} {l : List Pt} {st vs : List Int} {fr now : Int} (h : Tell c l st vs) (hn : (l.map fun q => slotOf c 0 q.1).Nodup) (h0 : 0 ≤ fr) :
    ((sortedL l).filter fun q => cntB fr now q.1).length = cntK st fr now st.length := by
  have hinc : Inc ((sortedL l).filter fun q => cntB fr now q.1) := (sortedL_inc (stamps_nodup hn)).sublist List.filter_sublist
  have e1 : (((sortedL l).filter fun q => cntB fr now q.1).map (·.1)).Nodup := by
    unfold List.Nodup
    rw [List.pairwise_map]
    exact pw_mono (fun a b _ _ h => by omega) hinc
  have e2 : (st.filter (cntB fr now)).Nodup := by
    have hp : st.Pairwise fun a b => 0 ≤ a → 0 ≤ b → a ≠ b := by
      rw [List.pairwise_iff_getElem]
      intro i j hi hj hij ha hb e
      obtain ⟨_, _, _, f1⟩ := h.back i _ (List.getElem?_eq_getElem hi) ha
      obtain ⟨_, _, _, f2⟩ := h.back j _ (List.getElem?_eq_getElem hj) hb
      rw [e, f2] at f1
      omega
    have hp2 := hp.sublist (List.filter_sublist (l := st) (p := cntB fr now))
    unfold List.Nodup
    refine pw_mono ?_ hp2
    intro a b ha hb hab
    have h1 := (List.mem_filter.1 ha).2
    have h2 := (List.mem_filter.1 hb).2
    unfold cntB at h1 h2
    simp at h1 h2
    exact hab (by omega) (by omega)
  have e3 : List.Perm (((sortedL l).filter fun q => cntB fr now q.1).map (·.1)) (st.filter (cntB fr now)) := by
    rw [List.perm_ext_iff_of_nodup e1 e2]
    intro x
    rw [List.mem_map, List.mem_filter]
    constructor
    · rintro ⟨q, hq, rfl⟩
      obtain ⟨hq, hc⟩ := List.mem_filter.1 hq
      obtain ⟨k, _, a, _⟩ := h.each q (sortedL_mem.1 hq)
      exact ⟨List.mem_of_getElem? a, hc⟩
    · rintro ⟨hx, hc⟩
      obtain ⟨k, hk⟩ := List.mem_iff_getElem?.1 hx
      have hc' := hc
      unfold cntB at hc'
      simp at hc'
      obtain ⟨y, _, b, _⟩ := h.back k x hk (by omega)
      exact ⟨(x, y), List.mem_filter.2 ⟨sortedL_mem.2 b, hc⟩, rfl⟩
  have := e3.length_eq
  rw [List.length_map] at this
  rw [this]
  unfold cntK
  rw [List.take_of_length_le (Nat.le_refl _)]

/-- a fetch of all that the first archive covers -/
theorem near_fetch {d : RDb} {l : List Pt} {now : Int} (hd : d.Ok) (hl : d.L[0]? = some l) (n0 : 0 ≤ now) (n1 : now ≤ 2147483647) :
    fetchErr d.c now (max 0 (now - d.c.s 0 * d.c.k 0 + 1)) now = 0 ∧ serA d now (max 0 (now - d.c.s 0 * d.c.k 0 + 1)) now = 0 ∧
    serP d now (max 0 (now - d.c.s 0 * d.c.k 0 + 1)) now = (sortedL l).filter fun q => cntB (max 0 (now - d.c.s 0 * d.c.k 0 + 1)) now q.1 := by
  have hm : 0 < d.c.many := by have := (d.c.ok_iff.1 hd.cfg).2.2.1; omega
  have hb := Cfg.bd hd.cfg hm
  have hp : 1 ≤ d.c.s 0 * d.c.k 0 := by
    have := Int.mul_le_mul hb.1 hb.2.2.1 (by omega) (by have := hb.1; omega)
    omega
  generalize hP : d.c.s 0 * d.c.k 0 = P at hp
  have hf : firstO d.c now (max 0 (now - P + 1)) = some 0 := firstO_at hm (fun j hj => by omega) (by unfold covB; rw [hP]; simp; omega)
  have hf2 : firstO d.c now now = some 0 := firstO_at hm (fun j hj => by omega) (by unfold covB; rw [hP]; simp; omega)
  have he : fetchErr d.c now (max 0 (now - P + 1)) now = 0 := by
    unfold fetchErr
    rw [if_neg (by intro h; exact h ⟨⟨by omega, by omega⟩, ⟨by omega, by omega⟩, ⟨by omega, by omega⟩, by omega⟩), if_neg (by omega), show min now now = now by omega, if_neg]
    unfold firstI
    rw [hf2]
    simp
  have hi : fetchI d.c now (max 0 (now - P + 1)) = 0 := by
    unfold fetchI
    rw [hf]
  refine ⟨he, ?_, ?_⟩
  · unfold serA
    rw [if_pos he, hi]; rfl
  · unfold serP fetchL
    rw [if_pos he, hi, List.getD_eq_getElem?_getD, hl]
    simp only [Option.getD_some]
    refine List.filter_congr fun q hq => ?_
    unfold fetchB covB cntB
    rw [hP]
    by_cases h1 : max 0 (now - P + 1) ≤ q.1 <;> by_cases h2 : q.1 ≤ now <;> simp [h1, h2] <;> omega

/-- a written point -/
theorem tell_write {d : RDb} {l : List Pt} {st vs : List Int} {now : Int} {q : Pt} (hd : d.Ok) (hl : d.L[0]? = some l) (h : Tell d.c l st vs) (hq : PtIn q) (hn : q.1 ≤ now) :
    ∃ l', (writesR d now q).L[0]? = some l' ∧
    ((now - q.1 < d.c.s 0 * d.c.k 0 ∧ Tell d.c l' (st.set (q.1 / d.c.s 0 % d.c.k 0).toNat (q.1 - q.1 % d.c.s 0)) (vs.set (q.1 / d.c.s 0 % d.c.k 0).toNat q.2)) ∨ (¬ now - q.1 < d.c.s 0 * d.c.k 0 ∧ Tell d.c l' st vs)) := by
  have hm : 0 < d.c.many := by have := (d.c.ok_iff.1 hd.cfg).2.2.1; omega
  have hb := Cfg.bd hd.cfg hm
  obtain ⟨_, _, _, e⟩ := writesR_kept (now := now) hd hq
  by_cases hc : now - q.1 < d.c.s 0 * d.c.k 0
  · have hf : firstO d.c now q.1 = some 0 := firstO_at hm (fun j hj => by omega) (by unfold covB; simp; omega)
    rw [if_pos hf, hl] at e
    refine ⟨_, e, .inl ⟨hc, ?_⟩⟩
    have hs : slotOf d.c 0 (q.1 - q.1 % d.c.s 0) = q.1 / d.c.s 0 % d.c.k 0 := by
      unfold slotOf
      congr 1
      have h1 : q.1 - q.1 % d.c.s 0 = d.c.s 0 * (q.1 / d.c.s 0) := by have := Int.mul_ediv_add_emod q.1 (d.c.s 0); omega
      rw [h1, Int.mul_ediv_cancel_left _ (by have := hb.1; omega)]
    refine tell_set hb.2.2.1 h ?_
    rw [hs]
    exact (Int.toNat_of_nonneg (Int.emod_nonneg _ (by have := hb.2.2.1; omega))).symm
  · have hf : ¬ firstO d.c now q.1 = some 0 := fun hf => by
      have := (firstO_in hf).2
      unfold covB at this
      simp at this
      exact hc this.2
    rw [if_neg hf, hl] at e
    exact ⟨l, e, .inr ⟨hc, h⟩⟩
end Go.Proofs.Ythbbfjfekchdiaa
namespace Go.Proofs.Ythbbfjfekchdiaa
open Go.RowKit
set_option linter.unusedSimpArgs false

/-- a list of numbers, at the head of a block -/
def RowI (w : World) (b : Nat) (l : List Int) : Prop := b < w.heap.size ∧ ∀ (j : Nat) (x : Int), l[j]? = some x → w.cell? ⟨b, j, none⟩ = some (i64 x)
theorem RowI.below {w w' : World} {b : Nat} {l : List Int} (h : RowI w b l) (hb : Below w.heap.size w w') : RowI w' b l :=
  ⟨Nat.lt_of_lt_of_le h.1 hb.size, fun j x hj => cell_later hb (h.2 j x hj)⟩

theorem mem_take_succ {α : Type} {l : List α} {k : Nat} {q x : α} (h : l[k]? = some q) : x ∈ l.take (k + 1) ↔ x ∈ l.take k ∨ x = q := by
  rw [List.take_add_one, h, List.mem_append]
  simp [Option.toList]

set_option maxRecDepth 4000 in
set_option maxHeartbeats 4000000 in
theorem read_any {R : Rep} (H : ProgOk R) (pd sb vb sc vc : Nat) (now near : Int) (st vs : List Int) (l : List Pt) (d : RDb) (In : Nat → Prop) (w : World) (hR : R w In pd d) (hd : d.Ok) (hl : d.L[0]? = some l) (ht : Tell d.c l st vs) (hs : RowI w sb st) (hv : RowI w vb vs) (hn : near = d.c.s 0 * d.c.k 0) (n0 : 0 ≤ now) (n1 : now ≤ 2000000000) :
    Calls Try.prog 13 #[.pointer (some ⟨pd, 0, none⟩), i64 now, i64 near, .slice (some ⟨sb, 0, none⟩) st.length sc, .slice (some ⟨vb, 0, none⟩) vs.length vc] w fun e w' => e = .returned (.bool true) ∧ Below w.heap.size w w' := by
  have hm : 0 < d.c.many := by have := (d.c.ok_iff.1 hd.cfg).2.2.1; omega
  have hb0 := Cfg.bd hd.cfg hm
  have near1 : 1 ≤ near := by
    have := Int.mul_le_mul hb0.1 hb0.2.2.1 (by omega) (by have := hb0.1; omega)
    omega
  have near2 : near ≤ 100000000 := by
    have h1 : d.c.s 0 * d.c.k 0 ≤ d.c.s 0 * 60 := Int.mul_le_mul_of_nonneg_left (by omega) (by omega)
    omega
  have hls : st.length ≤ 60 := by have := ht.ls; omega
  have hlv : vs.length = st.length := by have h1 := ht.ls; have h2 := ht.lv; omega
  have HNF := hid (near_fetch (now := now) hd hl n0 (by omega))
  rw [← hn] at HNF
  have HTL := hid (fun (fr : Int) (h : 0 ≤ fr) => tell_len (fr := fr) (now := now) ht (hd.apart 0 l hl) h)
  have HT := hid ht
  have HS := hid hs
  have HV := hid hv
  have HINC := hid (sortedL_inc (stamps_nodup (hd.apart 0 l hl)))
  have HFE := hid (fun (fr un : Int) => H.fetch pd now fr un d In w hR hd)
  rw [hlv]
  have HLV := hid hlv
  clear ht hs hv hn hR hb0 hm hlv
  go_enter Try.func13, Try.ntmps13
  go_upto_region 1 with fail
  go_cut [11] (fun z wx => z = i64 (max 0 (now - near + 1)) ∧ wx = w)
  case first =>
    as_aux_lemma =>
    go_wp2
    all_goals go_meet
    · exact ⟨congrArg i64 (by omega), rfl⟩
    · exact ⟨congrArg i64 (by omega), rfl⟩
  case rest =>
  obtain ⟨rfl, hwc⟩ := hcut
  have hwc := hwc.symm
  subst hwc
  have HCL := hid (HTL.out (max 0 (now - near + 1)) (by omega))
  obtain ⟨fr, hfr⟩ : ∃ f, f = max 0 (now - near + 1) := ⟨_, rfl⟩
  rw [← hfr] at HNF HCL ⊢
  have fr0 : 0 ≤ fr := by omega
  have fr1 : fr ≤ now := by omega
  have HFR := hid hfr
  clear hfr
  go_wp2_with fail
  refine (HFE.out _ _).mono ?_
  rintro e w1 ⟨v1, rfl, hb1, ho1, _⟩
  obtain ⟨pts, hpts⟩ : ∃ p, p = (sortedL l).filter (fun q => cntB fr now q.1) := ⟨_, rfl⟩
  rw [HNF.out.2.2, ← hpts] at ho1
  rw [HNF.out.1, HNF.out.2.1]
  rw [← hpts] at HCL
  have HRW := hid (rowAt_of ho1)
  have HPM := hid (show ∀ (k : Nat) (x y : Int), st[k]? = some x → vs[k]? = some y → fr ≤ x → x ≤ now → (x, y) ∈ pts from fun k x y hx hy h1 h2 => by
    obtain ⟨y', hy', hm, _⟩ := HT.out.back k x hx (by omega)
    rw [hy] at hy'
    cases hy'
    rw [hpts]
    exact List.mem_filter.2 ⟨sortedL_mem.2 hm, by unfold cntB; simp; omega⟩)
  have HPI := hid (show Inc pts by rw [hpts]; exact HINC.out.sublist List.filter_sublist)
  have hpl : pts.length ≤ 60 := by
    have h1 := cntK_le st fr now st.length
    rw [HCL.out]
    omega
  obtain ⟨a1, c1, rfl, _⟩ := rowAt_of ho1
  have HB1 := hid hb1
  generalize serS d now fr now = sS
  have HSW := hid (HS.out.below hb1)
  have HVW := hid (HV.out.below hb1)
  clear ho1 hb1 hpts
  go_upto_region 3 with fail
  generalize hw2 : w1.alloc (.cells #[.int .i64 0, .int .i64 sS, .slice a1 pts.length c1] 51) = w2
  have HB12 := hid (show Below w1.heap.size w1 w2 by rw [← hw2]; exact (Below.refl _ _).alloc (Nat.le_refl _) _)
  have HTB := hid (show w2.heap[w1.heap.size]? = some (.cells #[i64 0, i64 sS, .slice a1 pts.length c1] 51) by rw [← hw2]; exact blk_new _ _)
  have hz2 : w1.heap.size < w2.heap.size := blk_lt HTB.out
  have HRW2 := hid (HRW.out.later HB12.out)
  have HS2 := hid (HSW.out.below HB12.out)
  have HV2 := hid (HVW.out.below HB12.out)
  have HB2 := hid (show Below w.heap.size w w2 from HB1.out.trans (HB12.out.mono HB1.out.size))
  have x0 : w2.cell? ⟨w1.heap.size, 0, none⟩ = some (i64 0) := cell_of_blk HTB.out 0
  clear hw2
  go_wp2
  clear x0
  go_loopw [14, 15] (fun n i wr => ∃ k : Nat, k ≤ st.length ∧ i = i64 k ∧ n = i64 (cntK st fr now k : Nat) ∧ Below w2.heap.size w2 wr) (fun _ i _ => st.length - (intOf i).toNat)
  case atStart => exact ⟨0, by omega, rfl, rfl, Below.refl _ _⟩
  case round =>
    obtain ⟨k, hk, rfl, rfl, hb⟩ := hrel
    obtain ⟨wo, hwo⟩ : ∃ x, x = wr := ⟨_, rfl⟩
    subst hwo
    have HBR := hid hb
    have hzr := hb.size
    have hcl := cntK_le st fr now k
    have t2 : wo.cell? ⟨w1.heap.size, 2, none⟩ = some (.slice a1 pts.length c1) := cell_of_blk (blk_later hb hz2 HTB.out) 2
    have zt : w1.heap.size < wo.heap.size := by omega
    have HRR := hid (HRW2.out.later hb)
    have HSR := hid (HS2.out.below hb)
    have HVR := hid (HV2.out.below hb)
    clear hb
    by_cases hlt : k < st.length
    rotate_left
    · have hke : k = st.length := by omega
      subst hke
      have hcl2 := HCL.out
      have HCL2 := hid (show (pts.length : Int) = ((cntK st fr now st.length : Nat) : Int) by rw [hcl2])
      generalize cntK st fr now st.length = N at HCL2 hcl ⊢
      clear hcl2 hlt
      go_wp2
      clear t2
      go_loopw [18] (fun i wx => ∃ m : Nat, 1 ≤ m ∧ m ≤ 61 ∧ i = i64 m ∧ Below wo.heap.size wo wx) (fun i _ => 61 - (intOf i).toNat)
      case atStart => exact ⟨1, by omega, by omega, rfl, Below.refl _ _⟩
      case round =>
        obtain ⟨m, hm1, hm2, rfl, hb⟩ := hrel
        have HBX := hid hb
        have u2 : wr.cell? ⟨w1.heap.size, 2, none⟩ = some (.slice a1 pts.length c1) := cell_of_blk (blk_later hb zt (blk_later HBR.out hz2 HTB.out)) 2
        have zx : w1.heap.size < wr.heap.size := by have := hb.size; omega
        have HFIN := hid (show Below w.heap.size w wr from HB2.out.trans ((HBR.out.trans (hb.mono HBR.out.size)).mono HB2.out.size))
        obtain ⟨b1, e1, hv1, hrow⟩ := HRR.out.later hb
        simp only [Value.slice.injEq, true_and] at hv1
        obtain ⟨rfl, rfl⟩ := hv1
        have HROW := hid hrow
        clear hb hrow
        by_cases hml : m < pts.length
        rotate_left
        · go_wp2
          go_ret
          exact ⟨congrArg (fun b => Ending.returned (Value.bool b)) (beq_iff_eq.2 HCL2.out), HFIN.out⟩
        obtain ⟨j, rfl⟩ : ∃ j, m = j + 1 := ⟨m - 1, by omega⟩
        obtain ⟨q, hq⟩ : ∃ q, pts[j + 1]? = some q := ⟨_, List.getElem?_eq_getElem hml⟩
        obtain ⟨q', hq'⟩ : ∃ q, pts[j]? = some q := ⟨_, List.getElem?_eq_getElem (by omega)⟩
        obtain ⟨b, hb1, hbz, m0, _⟩ := HROW.out (j + 1) q hq
        obtain ⟨b', hb2, _, n0', _⟩ := HROW.out j q' hq'
        subst hb1
        cases hb2
        have hin : q'.1 < q.1 := by
          obtain ⟨y1, y2⟩ := List.getElem?_eq_some_iff.1 hq'
          obtain ⟨z1, z2⟩ := List.getElem?_eq_some_iff.1 hq
          have := (List.pairwise_iff_getElem.1 HPI.out) j (j + 1) y1 z1 (by omega)
          rw [y2, z2] at this
          exact this
        generalize q'.1 = qx at n0' hin
        generalize q.1 = qt at m0 hin
        have M0 : wr.cell? ⟨b, j * 2 + 2, none⟩ = some (i64 qt) := by rw [show j * 2 + 2 = (j + 1) * 2 by omega]; exact m0
        have j0 : (0 : Int) ≤ (j : Int) := by omega
        have j1 : (j : Int) < (pts.length : Int) := by omega
        have j2 : (j : Int) + 1 < (pts.length : Int) := by omega
        clear hq hq'
        go_wp2_with fail
        go_quiet (fail)
        go_wp2
        go_roundw
        case rel => first | exact ⟨j + 2, by omega, by omega, by go_num, below_drewN HBX.out _⟩ | ((repeat apply Exists.intro); exact ⟨⟨j + 2, by omega, by omega, by go_num, below_drewN HBX.out _⟩, rfl⟩)
        case measure => simp [intOf]; omega
    obtain ⟨x, hx⟩ : ∃ x, st[k]? = some x := ⟨_, List.getElem?_eq_getElem hlt⟩
    obtain ⟨y, hy⟩ : ∃ y, vs[k]? = some y := ⟨_, List.getElem?_eq_getElem (by rw [HLV.out]; exact hlt)⟩
    have sx : wo.cell? ⟨sb, k, none⟩ = some (i64 x) := HSR.out.2 k x hx
    have HSY := hid (HVR.out.2 k y hy)
    have HSX0 := hid sx
    have HSU := hid (cntK_succ (fr := fr) (now := now) hx)
    have HPX := hid (HPM.out k x y hx hy)
    have zs : sb < wo.heap.size := HSR.out.1
    have zv : vb < wo.heap.size := HVR.out.1
    have k0 : (0 : Int) ≤ (k : Int) := by omega
    have k1 : (k : Int) < (st.length : Int) := by omega
    clear hx hy
    by_cases h1 : x < fr
    · have HN := hid (show cntK st fr now (k + 1) = cntK st fr now k by rw [HSU.out, if_neg (by unfold cntB; simp; omega), Nat.add_zero])
      generalize cntK st fr now k = N at HN hcl ⊢
      go_wp2
      go_roundw
      case rel => first | exact ⟨k + 1, by omega, by go_num, by rw [HN.out], HBR.out⟩ | ((repeat apply Exists.intro); exact ⟨⟨k + 1, by omega, by go_num, by rw [HN.out], HBR.out⟩, rfl⟩)
      case measure => simp [intOf]; omega
    by_cases h2 : now < x
    · have HN := hid (show cntK st fr now (k + 1) = cntK st fr now k by rw [HSU.out, if_neg (by unfold cntB; simp; omega), Nat.add_zero])
      generalize cntK st fr now k = N at HN hcl ⊢
      go_wp2
      go_roundw
      case rel => first | exact ⟨k + 1, by omega, by go_num, by rw [HN.out], HBR.out⟩ | ((repeat apply Exists.intro); exact ⟨⟨k + 1, by omega, by go_num, by rw [HN.out], HBR.out⟩, rfl⟩)
      case measure => simp [intOf]; omega
    have HN := hid (show cntK st fr now (k + 1) = cntK st fr now k + 1 by rw [HSU.out, if_pos (by unfold cntB; simp; omega)])
    have HIN := hid (HPX.out (by omega) (by omega))
    generalize cntK st fr now k = N at HN hcl ⊢
    have hN : N ≤ 60 := by omega
    go_wp2
    clear t2 sx
    go_loopw [16, 17] (fun f i wx => ∃ m : Nat, m ≤ pts.length ∧ i = i64 m ∧ f = .bool (decide ((x, y) ∈ pts.take m)) ∧ Below wo.heap.size wo wx) (fun _ i _ => pts.length - (intOf i).toNat)
    case atStart => exact ⟨0, by omega, rfl, by simp, Below.refl _ _⟩
    case round =>
      obtain ⟨m, hm, rfl, hf, hb⟩ := hrel
      subst hf
      have HBX := hid hb
      have u2 : wr.cell? ⟨w1.heap.size, 2, none⟩ = some (.slice a1 pts.length c1) := cell_of_blk (blk_later hb zt (blk_later HBR.out hz2 HTB.out)) 2
      have zx : w1.heap.size < wr.heap.size := by have := hb.size; omega
      have zs' : sb < wr.heap.size := by have := hb.size; omega
      have zv' : vb < wr.heap.size := by have := hb.size; omega
      have X0 : wr.cell? ⟨sb, k, none⟩ = some (i64 x) := cell_later hb HSX0.out
      have Y0 : wr.cell? ⟨vb, k, none⟩ = some (i64 y) := cell_later hb HSY.out
      obtain ⟨b1, e1, hv1, hrow⟩ := HRR.out.later hb
      simp only [Value.slice.injEq, true_and] at hv1
      obtain ⟨rfl, rfl⟩ := hv1
      have HROW := hid hrow
      have HBO := hid (show Below w2.heap.size w2 wr from HBR.out.trans (hb.mono HBR.out.size))
      clear hb hrow
      by_cases hml : m < pts.length
      rotate_left
      · have hd : decide ((x, y) ∈ pts.take m) = true := decide_eq_true (by rw [List.take_of_length_le (by omega)]; exact HIN.out)
        rw [hd]
        clear hd X0 Y0
        go_wp2
        go_roundw
        case rel => first | exact ⟨k + 1, by omega, by go_num, by rw [HN.out]; go_num, HBO.out⟩ | ((repeat apply Exists.intro); exact ⟨⟨k + 1, by omega, by go_num, by rw [HN.out]; go_num, HBO.out⟩, rfl⟩)
        case measure => simp [intOf]; omega
      obtain ⟨q, hq⟩ : ∃ q, pts[m]? = some q := ⟨_, List.getElem?_eq_getElem hml⟩
      obtain ⟨b, hb1, hbz, M0, M1⟩ := HROW.out m q hq
      subst hb1
      have HMT := hid (mem_take_succ (x := (x, y)) hq)
      obtain ⟨qt, qv⟩ := q
      dsimp only at M0 M1
      have m0 : (0 : Int) ≤ (m : Int) := by omega
      have m1 : (m : Int) < (pts.length : Int) := by omega
      clear hq
      by_cases hfd : (x, y) ∈ pts.take m
      · have hd : decide ((x, y) ∈ pts.take m) = true := decide_eq_true hfd
        have HD := hid (show decide ((x, y) ∈ pts.take (m + 1)) = true from decide_eq_true (HMT.out.2 (.inl hfd)))
        rw [hd]
        clear hd hfd
        go_wp2_with fail
        go_quiet (fail)
        go_wp2
        go_roundw
        case rel => first | exact ⟨m + 1, by omega, by go_num, by rw [HD.out], below_drewN HBX.out _⟩ | ((repeat apply Exists.intro); exact ⟨⟨m + 1, by omega, by go_num, by rw [HD.out], below_drewN HBX.out _⟩, rfl⟩)
        case measure => simp [intOf]; omega
      · have hd : decide ((x, y) ∈ pts.take m) = false := decide_eq_false hfd
        rw [hd]
        have HFD := hid hfd
        clear hd hfd
        by_cases ex : qt = x
        · subst ex
          by_cases ey : qv = y
          · subst ey
            have HD := hid (show decide ((qt, qv) ∈ pts.take (m + 1)) = true from decide_eq_true (HMT.out.2 (.inr rfl)))
            go_wp2_with fail
            go_quiet (fail)
            go_wp2
            go_roundw
            case rel => first | exact ⟨m + 1, by omega, by go_num, by rw [HD.out], below_drewN HBX.out _⟩ | ((repeat apply Exists.intro); exact ⟨⟨m + 1, by omega, by go_num, by rw [HD.out], below_drewN HBX.out _⟩, rfl⟩)
            case measure => simp [intOf]; omega
          · have HD := hid (show decide ((qt, y) ∈ pts.take (m + 1)) = false from decide_eq_false (fun h => (HMT.out.1 h).elim HFD.out (fun e => ey (by cases e; rfl))))
            have eb : (qv == y) = false := by simpa using ey
            have ec : decide (qv = y) = false := by simpa using ey
            go_wp2_with fail
            go_quiet (fail)
            go_wp2
            go_roundw
            case rel => first | exact ⟨m + 1, by omega, by go_num, by rw [HD.out], below_drewN HBX.out _⟩ | ((repeat apply Exists.intro); exact ⟨⟨m + 1, by omega, by go_num, by rw [HD.out], below_drewN HBX.out _⟩, rfl⟩)
            case measure => simp [intOf]; omega
        · have HD := hid (show decide ((x, y) ∈ pts.take (m + 1)) = false from decide_eq_false (fun h => (HMT.out.1 h).elim HFD.out (fun e => ex (by cases e; rfl))))
          have eb : (qt == x) = false := by simpa using ex
          have ec : decide (qt = x) = false := by simpa using ex
          go_wp2_with fail
          go_quiet (fail)
          go_wp2
          go_roundw
          case rel => first | exact ⟨m + 1, by omega, by go_num, by rw [HD.out], below_drewN HBX.out _⟩ | ((repeat apply Exists.intro); exact ⟨⟨m + 1, by omega, by go_num, by rw [HD.out], below_drewN HBX.out _⟩, rfl⟩)
          case measure => simp [intOf]; omega
end Go.Proofs.Ythbbfjfekchdiaa
