import Derived.Test.YthbbfjfekchdiaaXZLeaf
import Derived.Test.YthbbfjfekchdiaaXKFilled
import Derived.Test.YthbbfjfekchdiaaXZBytes
import Derived.Test.YthbbfjfekchdiaaXKPick
import Derived.BigQuiet
import Derived.Deep.QuietTactic
import Derived.Deep.DeepCutAuto
/-
  No value is beyond what can come of those that were written.
-/
namespace Go.Proofs.Ythbbfjfekchdiaa

theorem sumTo_bd {M : Int} {l : List Int} (h : ∀ v ∈ l, -M ≤ v ∧ v ≤ M) : ∀ k, k ≤ l.length → -(M * (k : Int)) ≤ sumTo l k ∧ sumTo l k ≤ M * (k : Int) := by
  intro k
  induction k with
  | zero => intro _; rw [sumTo_zero]; simp
  | succ k ih =>
    intro hk
    obtain ⟨v, hv⟩ : ∃ v, l[k]? = some v := ⟨_, List.getElem?_eq_getElem (by omega)⟩
    have h1 := ih (by omega)
    have h2 := h v (List.mem_iff_getElem?.2 ⟨k, hv⟩)
    rw [sumTo_succ hv]
    have e : M * ((k + 1 : Nat) : Int) = M * (k : Int) + M := by
      rw [show ((k + 1 : Nat) : Int) = (k : Int) + 1 from rfl, Int.mul_add, Int.mul_one]
    rw [e]
    omega
theorem outStep_bd {M m a v : Int} (ha : -M ≤ a ∧ a ≤ M) (hv : -M ≤ v ∧ v ≤ M) : -M ≤ outStep m a v ∧ outStep m a v ≤ M := by
  unfold outStep
  repeat' split
  all_goals omega
theorem outTo_bd {M m : Int} {l : List Int} (h : ∀ v ∈ l, -M ≤ v ∧ v ≤ M) (hl : l ≠ []) : ∀ k, k ≤ l.length → -M ≤ outTo m l k ∧ outTo m l k ≤ M := by
  intro k
  induction k with
  | zero =>
    intro _
    rw [outTo_zero]
    cases l with
    | nil => exact absurd rfl hl
    | cons a l => exact h a (by simp)
  | succ k ih =>
    intro hk
    obtain ⟨v, hv⟩ : ∃ v, l[k]? = some v := ⟨_, List.getElem?_eq_getElem (by omega)⟩
    rw [outTo_succ hv]
    exact outStep_bd (ih (by omega)) (h v (List.mem_iff_getElem?.2 ⟨k, hv⟩))

/-- how far a value of archive i may be -/
def mostK (c : Cfg) (i : Nat) : Int := if c.m = 2 then 1000 * (c.s i / c.s 0) else 1000
def RDb.Bv (d : RDb) : Prop := ∀ (i : Nat) (l : List Pt), d.L[i]? = some l → ∀ q ∈ l, -mostK d.c i ≤ q.2 ∧ q.2 ≤ mostK d.c i

theorem makesI_bd {c : Cfg} {i n : Nat} {l : List Int} (hne : l ≠ []) (hn : l.length ≤ n) (hq : c.m = 2 → mostK c i * (n : Int) ≤ mostK c (i + 1)) (hp : 0 ≤ mostK c i) (h : ∀ v ∈ l, -mostK c i ≤ v ∧ v ≤ mostK c i) : -mostK c (i + 1) ≤ makesI c.m l ∧ makesI c.m l ≤ mostK c (i + 1) := by
  have hl : 0 < (l.length : Int) := by
    have := List.length_pos_iff.2 hne
    omega
  unfold makesI
  by_cases m2 : c.m = 2
  · rw [if_neg (by omega), if_pos m2]
    have h1 := sumTo_bd h l.length (Nat.le_refl _)
    have h2 : mostK c i * (l.length : Int) ≤ mostK c i * (n : Int) := Int.mul_le_mul_of_nonneg_left (by omega) hp
    have h3 := hq m2
    unfold cutI
    omega
  · have e1 : mostK c (i + 1) = 1000 := by unfold mostK; rw [if_neg m2]
    have e0 : mostK c i = 1000 := by unfold mostK; rw [if_neg m2]
    rw [e0] at h
    rw [e1]
    split
    · have h1 := sumTo_bd h l.length (Nat.le_refl _)
      exact ⟨(Int.le_ediv_iff_mul_le hl).2 (by omega), Int.ediv_le_of_le_mul hl (by omega)⟩
    · try rw [if_neg m2]
      exact outTo_bd h hne l.length (Nat.le_refl _)

theorem put_bv {d : RDb} (h : d.Bv) {i : Nat} {l : List Pt} (hl : d.L[i]? = some l) {p : Pt} (hp : -mostK d.c i ≤ p.2 ∧ p.2 ≤ mostK d.c i) : (d.put i (setL d.c i p l)).Bv := by
  intro j l' hj q hq
  rcases put_at hj with ⟨rfl, rfl⟩ | ⟨_, h'⟩
  · unfold setL othersL at hq
    rcases List.mem_append.1 hq with hq | hq
    · exact h _ l hl q (List.mem_filter.1 hq).1
    · rw [List.mem_singleton.1 hq]; exact hp
  · exact h j l' h' q hq
/-- the steps are multiples of the first one's -/
theorem step_dvd {c : Cfg} (h : c.Ok) : ∀ i, i < c.many → c.s 0 ∣ c.s i
  | 0, _ => Int.dvd_refl _
  | i + 1, hi => by
    have h1 := step_dvd h i (by omega)
    have h2 := (h.2.2 i (by have := c.many_le; omega) hi).2.1
    exact Int.dvd_trans h1 (Int.dvd_of_emod_eq_zero h2)
theorem most_next {c : Cfg} (h : c.Ok) {i : Nat} (hi : i + 1 < c.many) (m2 : c.m = 2) : mostK c i * ((c.s (i + 1) / c.s i).toNat : Int) ≤ mostK c (i + 1) := by
  unfold mostK
  rw [if_pos m2, if_pos m2]
  have b0 := Cfg.bd h (show 0 < c.many by omega)
  have bi := Cfg.bd h (show i < c.many by omega)
  have bj := Cfg.bd h hi
  obtain ⟨a, ha⟩ := step_dvd h i (by omega)
  have h2 := (h.2.2 i (by have := c.many_le; omega) hi).2.1
  obtain ⟨b, hb⟩ := Int.dvd_of_emod_eq_zero h2
  have ea : c.s i / c.s 0 = a := by rw [ha]; exact Int.mul_ediv_cancel_left _ (by have := b0.1; omega)
  have eb : c.s (i + 1) / c.s i = b := by rw [hb]; exact Int.mul_ediv_cancel_left _ (by have := bi.1; omega)
  have ec : c.s (i + 1) / c.s 0 = a * b := by rw [hb, ha, Int.mul_assoc]; exact Int.mul_ediv_cancel_left _ (by have := b0.1; omega)
  have hb0 : 0 ≤ b := by rw [← eb]; exact Int.ediv_nonneg (by have := bj.1; omega) (by have := bi.1; omega)
  rw [ea, eb, ec, Int.toNat_of_nonneg hb0, Int.mul_assoc]
  exact Int.le_refl _
theorem most_pos {c : Cfg} (h : c.Ok) {i : Nat} (hi : i < c.many) : 1000 ≤ mostK c i := by
  unfold mostK
  split
  · have b0 := Cfg.bd h (show 0 < c.many by omega)
    have bi := Cfg.bd h hi
    obtain ⟨a, ha⟩ := step_dvd h i hi
    have ea : c.s i / c.s 0 = a := by rw [ha]; exact Int.mul_ediv_cancel_left _ (by have := b0.1; omega)
    rw [ea]
    have : 1 ≤ a := by
      apply Classical.byContradiction
      intro hn
      have : c.s 0 * a ≤ c.s 0 * 0 := Int.mul_le_mul_of_nonneg_left (by omega) (by have := b0.1; omega)
      have := bi.1
      omega
    omega
  · omega
theorem goesF_bv : ∀ (f : Nat) (d : RDb) (i : Nat) (t : Int), d.Ok → i < d.c.many → 0 ≤ t → t ≤ 2147483647 → d.Bv → (goesF f d i t).Bv
  | 0, d, i, t, _, _, _, _, h => h
  | f + 1, d, i, t, hd, hi, h0, h1, hB => by
    rw [goesF]
    split
    · exact hB
    · rename_i hm
      have hi1 : i + 1 < d.c.many := by omega
      have hb := Cfg.bd hd.cfg hi1
      obtain ⟨l, hl⟩ : ∃ l, d.L[i]? = some l := ⟨_, List.getElem?_eq_getElem (by rw [hd.len]; exact hi)⟩
      obtain ⟨l1, hl1⟩ : ∃ l, d.L[i + 1]? = some l := ⟨_, List.getElem?_eq_getElem (by rw [hd.len]; exact hi1)⟩
      simp only
      split
      · exact hB
      · rename_i hc
        have hfr := sub_in h0 h1 hb.1
        rw [hl] at hc
        rw [hl, hl1]
        simp only [Option.getD_some] at hc ⊢
        obtain ⟨vs, hvs⟩ : ∃ vs, vs = valsTo d.c i l (t - t % d.c.s (i + 1)) (d.c.s (i + 1) / d.c.s i).toNat := ⟨_, rfl⟩
        have hne : vs ≠ [] := fun e => hc (.inl (by rw [← hvs, e]; rfl))
        have hvin := makesI_in (m := d.c.m) (l := vs) (by rw [hvs]; exact valsTo_in (hd.pts i l hl).1) hne
        have hvb := makesI_bd (c := d.c) (i := i) (n := (d.c.s (i + 1) / d.c.s i).toNat) (l := vs) hne (by rw [hvs]; exact valsTo_len _ _ _ _ _) (most_next hd.cfg hi1) (by have := most_pos hd.cfg hi; omega) (by
          intro v hv
          rw [hvs] at hv
          unfold valsTo at hv
          obtain ⟨j, _, hj⟩ := List.mem_filterMap.1 hv
          cases hh : hasL (t - t % d.c.s (i + 1) + j * d.c.s i) l with
          | none => rw [hh] at hj; simp at hj
          | some q =>
            rw [hh] at hj
            simp only [Option.map_some, Option.some.injEq] at hj
            rw [← hj]
            exact hB i l hl q (hasL_mem hh))
        rw [← hvs]
        obtain ⟨v, hvd⟩ : ∃ v, v = makesI d.c.m vs := ⟨_, rfl⟩
        rw [← hvd] at hvin hvb ⊢
        have hok := put_ok hd hl1 (p := (t - t % d.c.s (i + 1), v)) ⟨hfr.1, hfr.2, hvin.1, hvin.2⟩
        exact goesF_bv f _ (i + 1) _ hok hi1 hfr.1 hfr.2 (put_bv hB hl1 hvb)
theorem writesR_bv {d : RDb} {now : Int} {q : Pt} (hd : d.Ok) (hq : PtIn q) (hv : -1000 ≤ q.2 ∧ q.2 ≤ 1000) (hB : d.Bv) : (writesR d now q).Bv := by
  unfold writesR
  cases hf : firstO d.c now q.1 with
  | none => exact hB
  | some i =>
    obtain ⟨hi, _⟩ := firstO_in hf
    have hb := Cfg.bd hd.cfg hi
    have hs := sub_in hq.1 hq.2.1 hb.1
    have hm := most_pos hd.cfg hi
    obtain ⟨l, hl⟩ : ∃ l, d.L[i]? = some l := ⟨_, List.getElem?_eq_getElem (by rw [hd.len]; exact hi)⟩
    simp only [hl, Option.getD_some]
    have hok := put_ok hd hl (p := (q.1 - q.1 % d.c.s i, q.2)) ⟨hs.1, hs.2, hq.2.2.1, hq.2.2.2⟩
    exact goesF_bv _ _ _ _ hok hi hs.1 hs.2 (put_bv hB hl (p := (q.1 - q.1 % d.c.s i, q.2)) ⟨by show -mostK d.c i ≤ q.2; omega, by show q.2 ≤ mostK d.c i; omega⟩)
end Go.Proofs.Ythbbfjfekchdiaa
/-
  What a fetch tells of what sundialkeep's moves have written.
-/
namespace Go.Proofs.Ythbbfjfekchdiaa

theorem updR_bv {d : RDb} {now : Int} {q : Pt} (hd : d.Ok) (hv : -1000 ≤ q.2 ∧ q.2 ≤ 1000) (hB : d.Bv) : (updR d now [q]).Bv := by
  unfold updR
  split
  · rename_i h
    unfold updErr at h
    split at h
    · simp at h
    · exact writesR_bv hd (ptErr_in (errFrom_zero [q] 0 h q (by simp))) hv hB
  · exact hB
theorem pointK_val (ba va now far : Int) : -1000 ≤ (pointK ba va now far).2 ∧ (pointK ba va now far).2 ≤ 1000 := by
  have := pickK_in va (n := 2001) (by omega)
  unfold pointK
  simp only
  omega
theorem playK_inv {c : Cfg} (hc : c.Ok) (ms : List Mv) : (playK c ms).2.Al ∧ (playK c ms).2.Bv := by
  have key : ∀ (l : List Mv) (s : Int × RDb), s.2.Ok → s.2.Al → s.2.Bv → (l.foldl (stepK c) s).2.Al ∧ (l.foldl (stepK c) s).2.Bv := by
    intro l
    induction l with
    | nil => intro s _ a b; exact ⟨a, b⟩
    | cons m l ih =>
      intro s d a b
      have hk := updR_kept (now := s.1 + pickK m.1 40) (l := [pointK m.2.1 m.2.2 (s.1 + pickK m.1 40) (farK c)]) d
      rw [List.foldl_cons]
      exact ih (stepK c s m) hk.1 (hk.2.2 a) (updR_bv d (pointK_val _ _ _ _) b)
  have hnil : ∀ (i : Nat) (l : List Pt), (RDb.new c).L[i]? = some l → l = [] := fun i l hl => (List.mem_replicate.1 (List.mem_iff_getElem?.2 ⟨i, hl⟩)).2
  refine key ms (0, RDb.new c) (new_ok' hc) (fun i l hl q hq => ?_) (fun i l hl q hq => ?_)
  · rw [hnil i l hl] at hq; simp at hq
  · rw [hnil i l hl] at hq; simp at hq
/-- what a fetch without an error tells -/
theorem serP_facts {d : RDb} (hd : d.Ok) (ha : d.Al) (hb : d.Bv) {now fr un : Int} (he : fetchErr d.c now fr un = 0) :
    Inc (serP d now fr un) ∧ ∀ q ∈ serP d now fr un, q.1 % d.c.s (fetchI d.c now fr) = 0 ∧ fr ≤ q.1 ∧ q.1 ≤ un ∧ q.1 ≤ now ∧ now - q.1 < d.c.s (fetchI d.c now fr) * d.c.k (fetchI d.c now fr) ∧ -mostK d.c (fetchI d.c now fr) ≤ q.2 ∧ q.2 ≤ mostK d.c (fetchI d.c now fr) := by
  have hm : fetchI d.c now fr < d.c.many := fetchI_lt (d.c.ok_iff.1 hd.cfg).2.2.1
  obtain ⟨l, hl⟩ : ∃ l, d.L[fetchI d.c now fr]? = some l := ⟨_, List.getElem?_eq_getElem (by rw [hd.len]; exact hm)⟩
  have e : serP d now fr un = (sortedL l).filter (fetchB d.c (fetchI d.c now fr) now fr un) := by
    unfold serP fetchL
    rw [if_pos he, List.getD_eq_getElem?_getD, hl]
    rfl
  rw [e]
  refine ⟨(sortedL_inc (stamps_nodup (hd.apart _ l hl))).sublist List.filter_sublist, fun q hq => ?_⟩
  obtain ⟨h1, h2⟩ := List.mem_filter.1 hq
  have hq' := sortedL_mem.1 h1
  unfold fetchB covB at h2
  simp only [Bool.and_eq_true, decide_eq_true_eq] at h2
  exact ⟨ha _ l hl q hq', h2.2.1, h2.2.2, h2.1.1, h2.1.2, hb _ l hl q hq'⟩
end Go.Proofs.Ythbbfjfekchdiaa
/-
  No archive covers a stamp just where the farthest does not.
-/
namespace Go.Proofs.Ythbbfjfekchdiaa

theorem farTo_le {c : Cfg} {x : Int} : ∀ k, farTo c k ≤ x ↔ 0 ≤ x ∧ ∀ j, j < k → c.s j * c.k j ≤ x
  | 0 => by simp [farTo]
  | k + 1 => by
    have ih := farTo_le (c := c) (x := x) k
    rw [farTo]
    constructor
    · intro h
      have h1 := ih.1 (by omega)
      refine ⟨h1.1, fun j hj => ?_⟩
      by_cases e : j = k
      · subst e; omega
      · exact h1.2 j (by omega)
    · rintro ⟨h0, h⟩
      have h1 := ih.2 ⟨h0, fun j hj => h j (by omega)⟩
      have h2 := h k (by omega)
      omega
theorem firstFrom_none {c : Cfg} {now t : Int} : ∀ (n i : Nat), firstFrom c now t i n = none → ∀ j, i ≤ j → j < i + n → covB c j now t = false
  | 0, i, _, j, h1, h2 => by omega
  | n + 1, i, h, j, h1, h2 => by
    rw [firstFrom] at h
    split at h
    · cases h
    · rename_i hc
      by_cases e : j = i
      · subst e; simpa using hc
      · exact firstFrom_none n (i + 1) h j (by omega) (by omega)
theorem first_far {c : Cfg} (hc : c.Ok) {now t : Int} (ht : t ≤ now) : firstI c now t < 0 ↔ farK c ≤ now - t := by
  unfold farK
  rw [farTo_le]
  constructor
  · intro h
    refine ⟨by omega, fun j hj => ?_⟩
    by_cases hm : j < c.many
    · have h1 := firstFrom_none c.many 0 (firstI_no h).1 j (by omega) (by omega)
      unfold covB at h1
      simp only [Bool.and_eq_false_iff, decide_eq_false_iff_not] at h1
      omega
    · obtain ⟨a, b⟩ := (hc.2.1 j hj).1 (by omega)
      rw [a]
      omega
  · rintro ⟨_, h⟩
    have hn : firstO c now t = none := firstO_none fun j hj => by
      have := h j (by have := c.many_le; omega)
      unfold covB
      simp only [Bool.and_eq_false_iff, decide_eq_false_iff_not]
      omega
    unfold firstI
    rw [hn]
    simp
/-- the archives ahead of the one that a fetch tells of do not cover its beginning -/
theorem fetchI_ahead {c : Cfg} {now fr : Int} (hf : fr ≤ now) {j : Nat} (hj : j < fetchI c now fr) : c.s j * c.k j ≤ now - fr := by
  have key : ∀ (n i m : Nat), firstFrom c now fr i n = some m → ∀ j, i ≤ j → j < m → covB c j now fr = false := by
    intro n
    induction n with
    | zero => intro i m h; simp [firstFrom] at h
    | succ n ih =>
      intro i m h j h1 h2
      rw [firstFrom] at h
      split at h
      · simp at h; omega
      · rename_i hc
        by_cases e : j = i
        · subst e; simpa using hc
        · exact ih (i + 1) m h j (by omega) h2
  have hcov : covB c j now fr = false := by
    unfold fetchI at hj
    cases e : firstO c now fr with
    | none =>
      rw [e] at hj
      exact firstFrom_none c.many 0 e j (by omega) (by simp at hj; omega)
    | some m =>
      rw [e] at hj
      exact key c.many 0 m e j (by omega) hj
  unfold covB at hcov
  simp only [Bool.and_eq_false_iff, decide_eq_false_iff_not] at hcov
  omega
end Go.Proofs.Ythbbfjfekchdiaa
/-
  Told's mathematics: the slots' stamps and values, held as two lists, tell the first archive's points.
-/
namespace Go.Proofs.Ythbbfjfekchdiaa

structure Tell (c : Cfg) (l : List Pt) (st vs : List Int) : Prop where
  ls : (st.length : Int) = c.k 0
  lv : (vs.length : Int) = c.k 0
  each : ∀ q ∈ l, ∃ k : Nat, slotOf c 0 q.1 = (k : Int) ∧ st[k]? = some q.1 ∧ vs[k]? = some q.2
  back : ∀ (k : Nat) (x : Int), st[k]? = some x → 0 ≤ x → ∃ y, vs[k]? = some y ∧ (x, y) ∈ l ∧ slotOf c 0 x = (k : Int)

theorem tell_new {c : Cfg} {n : Nat} (h : (n : Int) = c.k 0) : Tell c [] (List.replicate n (-1)) (List.replicate n 0) where
  ls := by simp [h]
  lv := by simp [h]
  each := fun q hq => by simp at hq
  back := fun k x hx h0 => by
    rw [List.getElem?_replicate] at hx
    split at hx
    · simp at hx; omega
    · cases hx

theorem slot_in {c : Cfg} {t : Int} (hk : 1 ≤ c.k 0) : 0 ≤ slotOf c 0 t ∧ slotOf c 0 t < c.k 0 :=
  ⟨Int.emod_nonneg _ (by omega), Int.emod_lt_of_pos _ (by omega)⟩

theorem tell_set {c : Cfg} {l : List Pt} {st vs : List Int} {t v : Int} {k : Nat} (hk : 1 ≤ c.k 0) (h : Tell c l st vs) (e : slotOf c 0 t = (k : Int)) : Tell c (setL c 0 (t, v) l) (st.set k t) (vs.set k v) where
  ls := by rw [List.length_set]; exact h.ls
  lv := by rw [List.length_set]; exact h.lv
  each := fun q hq => by
    have hin := slot_in (c := c) (t := t) hk
    have h1 := h.ls
    have h2 := h.lv
    unfold setL othersL at hq
    rcases List.mem_append.1 hq with hq | hq
    · obtain ⟨hq, hne⟩ := List.mem_filter.1 hq
      obtain ⟨k', e', a, b⟩ := h.each q hq
      have hne' : k ≠ k' := by
        rintro rfl
        simp [e, e'] at hne
      exact ⟨k', e', by rw [List.getElem?_set_ne hne']; exact a, by rw [List.getElem?_set_ne hne']; exact b⟩
    · simp at hq
      subst hq
      exact ⟨k, e, by rw [List.getElem?_set_self (by omega)], by rw [List.getElem?_set_self (by omega)]⟩
  back := fun j x hx h0 => by
    have hin := slot_in (c := c) (t := t) hk
    have h1 := h.ls
    have h2 := h.lv
    by_cases hj : k = j
    · subst hj
      rw [List.getElem?_set_self (by omega)] at hx
      simp at hx
      subst hx
      refine ⟨v, by rw [List.getElem?_set_self (by omega)], ?_, e⟩
      unfold setL
      simp
    · rw [List.getElem?_set_ne hj] at hx
      obtain ⟨y, a, b, f⟩ := h.back j x hx h0
      refine ⟨y, by rw [List.getElem?_set_ne hj]; exact a, ?_, f⟩
      unfold setL othersL
      refine List.mem_append.2 (.inl (List.mem_filter.2 ⟨b, ?_⟩))
      simp [e, f]
      omega

/-- how many of the first k slots lie between -/
def cntB (fr now : Int) (x : Int) : Bool := decide (fr ≤ x) && decide (x ≤ now)
def cntK (st : List Int) (fr now : Int) (k : Nat) : Nat := ((st.take k).filter (cntB fr now)).length
theorem cntK_succ {st : List Int} {fr now x : Int} {k : Nat} (h : st[k]? = some x) : cntK st fr now (k + 1) = cntK st fr now k + (if cntB fr now x then 1 else 0) := by
  unfold cntK
  rw [List.take_add_one, h, List.filter_append, List.length_append]
  congr 1
  simp only [Option.toList]
  cases hq : cntB fr now x <;> simp [hq]
theorem cntK_le (st : List Int) (fr now : Int) (k : Nat) : cntK st fr now k ≤ k := by
  unfold cntK
  refine Nat.le_trans (List.length_filter_le _ _) ?_
  rw [List.length_take]
  omega

theorem tell_len {c : Cfg} {l : List Pt} {st vs : List Int} {fr now : Int} (h : Tell c l st vs) (hn : (l.map fun q => slotOf c 0 q.1).Nodup) (h0 : 0 ≤ fr) :
    ((sortedL l).filter fun q => cntB fr now q.1).length = cntK st fr now st.length := by
  have hinc : Inc ((sortedL l).filter fun q => cntB fr now q.1) := (sortedL_inc (stamps_nodup hn)).sublist List.filter_sublist
  have e1 : (((sortedL l).filter fun q => cntB fr now q.1).map (·.1)).Nodup := by
    unfold List.Nodup
    rw [List.pairwise_map]
    exact pw_mono (fun a b _ _ h => by omega) hinc
  have e2 : (st.filter (cntB fr now)).Nodup := by
    have hp : st.Pairwise fun a b => 0 ≤ a → 0 ≤ b → a ≠ b := by
      rw [List.pairwise_iff_getElem]
      intro i j hi hj hij ha hb e
      obtain ⟨_, _, _, f1⟩ := h.back i _ (List.getElem?_eq_getElem hi) ha
      obtain ⟨_, _, _, f2⟩ := h.back j _ (List.getElem?_eq_getElem hj) hb
      rw [e, f2] at f1
      omega
    have hp2 := hp.sublist (List.filter_sublist (l := st) (p := cntB fr now))
    unfold List.Nodup
    refine pw_mono ?_ hp2
    intro a b ha hb hab
    have h1 := (List.mem_filter.1 ha).2
    have h2 := (List.mem_filter.1 hb).2
    unfold cntB at h1 h2
    simp at h1 h2
    exact hab (by omega) (by omega)
  have e3 : List.Perm (((sortedL l).filter fun q => cntB fr now q.1).map (·.1)) (st.filter (cntB fr now)) := by
    rw [List.perm_ext_iff_of_nodup e1 e2]
    intro x
    rw [List.mem_map, List.mem_filter]
    constructor
    · rintro ⟨q, hq, rfl⟩
      obtain ⟨hq, hc⟩ := List.mem_filter.1 hq
      obtain ⟨k, _, a, _⟩ := h.each q (sortedL_mem.1 hq)
      exact ⟨List.mem_of_getElem? a, hc⟩
    · rintro ⟨hx, hc⟩
      obtain ⟨k, hk⟩ := List.mem_iff_getElem?.1 hx
      have hc' := hc
      unfold cntB at hc'
      simp at hc'
      obtain ⟨y, _, b, _⟩ := h.back k x hk (by omega)
      exact ⟨(x, y), List.mem_filter.2 ⟨sortedL_mem.2 b, hc⟩, rfl⟩
  have := e3.length_eq
  rw [List.length_map] at this
  rw [this]
  unfold cntK
  rw [List.take_of_length_le (Nat.le_refl _)]

/-- a fetch of all that the first archive covers -/
theorem near_fetch {d : RDb} {l : List Pt} {now : Int} (hd : d.Ok) (hl : d.L[0]? = some l) (n0 : 0 ≤ now) (n1 : now ≤ 2147483647) :
    fetchErr d.c now (max 0 (now - d.c.s 0 * d.c.k 0 + 1)) now = 0 ∧ serA d now (max 0 (now - d.c.s 0 * d.c.k 0 + 1)) now = 0 ∧
    serP d now (max 0 (now - d.c.s 0 * d.c.k 0 + 1)) now = (sortedL l).filter fun q => cntB (max 0 (now - d.c.s 0 * d.c.k 0 + 1)) now q.1 := by
  have hm : 0 < d.c.many := by have := (d.c.ok_iff.1 hd.cfg).2.2.1; omega
  have hb := Cfg.bd hd.cfg hm
  have hp : 1 ≤ d.c.s 0 * d.c.k 0 := by
    have := Int.mul_le_mul hb.1 hb.2.2.1 (by omega) (by have := hb.1; omega)
    omega
  generalize hP : d.c.s 0 * d.c.k 0 = P at hp
  have hf : firstO d.c now (max 0 (now - P + 1)) = some 0 := firstO_at hm (fun j hj => by omega) (by unfold covB; rw [hP]; simp; omega)
  have hf2 : firstO d.c now now = some 0 := firstO_at hm (fun j hj => by omega) (by unfold covB; rw [hP]; simp; omega)
  have he : fetchErr d.c now (max 0 (now - P + 1)) now = 0 := by
    unfold fetchErr
    rw [if_neg (by intro h; exact h ⟨⟨by omega, by omega⟩, ⟨by omega, by omega⟩, ⟨by omega, by omega⟩, by omega⟩), if_neg (by omega), show min now now = now by omega, if_neg]
    unfold firstI
    rw [hf2]
    simp
  have hi : fetchI d.c now (max 0 (now - P + 1)) = 0 := by
    unfold fetchI
    rw [hf]
  refine ⟨he, ?_, ?_⟩
  · unfold serA
    rw [if_pos he, hi]; rfl
  · unfold serP fetchL
    rw [if_pos he, hi, List.getD_eq_getElem?_getD, hl]
    simp only [Option.getD_some]
    refine List.filter_congr fun q hq => ?_
    unfold fetchB covB cntB
    rw [hP]
    by_cases h1 : max 0 (now - P + 1) ≤ q.1 <;> by_cases h2 : q.1 ≤ now <;> simp [h1, h2] <;> omega

/-- a written point -/
theorem tell_write {d : RDb} {l : List Pt} {st vs : List Int} {now : Int} {q : Pt} (hd : d.Ok) (hl : d.L[0]? = some l) (h : Tell d.c l st vs) (hq : PtIn q) (hn : q.1 ≤ now) :
    ∃ l', (writesR d now q).L[0]? = some l' ∧
    ((now - q.1 < d.c.s 0 * d.c.k 0 ∧ Tell d.c l' (st.set (q.1 / d.c.s 0 % d.c.k 0).toNat (q.1 - q.1 % d.c.s 0)) (vs.set (q.1 / d.c.s 0 % d.c.k 0).toNat q.2)) ∨ (¬ now - q.1 < d.c.s 0 * d.c.k 0 ∧ Tell d.c l' st vs)) := by
  have hm : 0 < d.c.many := by have := (d.c.ok_iff.1 hd.cfg).2.2.1; omega
  have hb := Cfg.bd hd.cfg hm
  obtain ⟨_, _, _, e⟩ := writesR_kept (now := now) hd hq
  by_cases hc : now - q.1 < d.c.s 0 * d.c.k 0
  · have hf : firstO d.c now q.1 = some 0 := firstO_at hm (fun j hj => by omega) (by unfold covB; simp; omega)
    rw [if_pos hf, hl] at e
    refine ⟨_, e, .inl ⟨hc, ?_⟩⟩
    have hs : slotOf d.c 0 (q.1 - q.1 % d.c.s 0) = q.1 / d.c.s 0 % d.c.k 0 := by
      unfold slotOf
      congr 1
      have h1 : q.1 - q.1 % d.c.s 0 = d.c.s 0 * (q.1 / d.c.s 0) := by have := Int.mul_ediv_add_emod q.1 (d.c.s 0); omega
      rw [h1, Int.mul_ediv_cancel_left _ (by have := hb.1; omega)]
    refine tell_set hb.2.2.1 h ?_
    rw [hs]
    exact (Int.toNat_of_nonneg (Int.emod_nonneg _ (by have := hb.2.2.1; omega))).symm
  · have hf : ¬ firstO d.c now q.1 = some 0 := fun hf => by
      have := (firstO_in hf).2
      unfold covB at this
      simp at this
      exact hc this.2
    rw [if_neg hf, hl] at e
    exact ⟨l, e, .inr ⟨hc, h⟩⟩
end Go.Proofs.Ythbbfjfekchdiaa
/-
  Resize to the same configuration: the finest points; far later.
-/
namespace Go.Proofs.Ythbbfjfekchdiaa

theorem resizeTo_last {d : RDb} (hd : d.Ok) {now : Int} : ∀ (n : Nat) (e : RDb), e.Ok → e.c = d.c → ∃ e', e'.Ok ∧ e'.c = d.c ∧ resizeTo d now (n + 1) e = writesAll e' now (covL d now 0)
  | 0, e, h, hc => ⟨e, h, hc, rfl⟩
  | n + 1, e, h, hc => by
    obtain ⟨k1, k2, _⟩ := writesAll_kept (now := now) (covL d now (n + 1)) e h (covL_in hd)
    obtain ⟨e', a, b, r⟩ := resizeTo_last hd n (writesAll e now (covL d now (n + 1))) k1 (k2.trans hc)
    exact ⟨e', a, b, r⟩
theorem writes_first {e : RDb} (h : e.Ok) {now : Int} {q : Pt} (hq : PtIn q) (hf : firstO e.c now q.1 = some 0) (ha : q.1 % e.c.s 0 = 0) : (writesR e now q).L[0]? = (e.L[0]?).map (setL e.c 0 q) := by
  rw [(writesR_kept (now := now) h hq).2.2.2, if_pos hf, ha, Int.sub_zero]
theorem writes_keep {now : Int} {c : Cfg} {x : Pt} : ∀ (pts : List Pt) (e : RDb) (l : List Pt), e.Ok → e.c = c → (∀ q ∈ pts, PtIn q ∧ firstO c now q.1 = some 0 ∧ q.1 % c.s 0 = 0 ∧ slotOf c 0 q.1 ≠ slotOf c 0 x.1) → e.L[0]? = some l → x ∈ l → ∃ l', (writesAll e now pts).L[0]? = some l' ∧ x ∈ l'
  | [], e, l, _, _, _, hl, hx => ⟨l, hl, hx⟩
  | q :: pts, e, l, h, hc, hq, hl, hx => by
    obtain ⟨q1, q2, q3, q4⟩ := hq q (by simp)
    obtain ⟨k1, k2, _⟩ := writesR_kept (now := now) h q1
    have e1 := writes_first h (now := now) q1 (by rw [hc]; exact q2) (by rw [hc]; exact q3)
    rw [hl, hc] at e1
    refine writes_keep pts (writesR e now q) _ k1 (k2.trans hc) (fun y hy => hq y (by simp [hy])) e1 ?_
    unfold setL othersL
    refine List.mem_append.2 (.inl (List.mem_filter.2 ⟨hx, ?_⟩))
    simpa using fun h => q4 h.symm
theorem writes_have {now : Int} {c : Cfg} {x : Pt} : ∀ (pts : List Pt) (e : RDb) (l : List Pt), e.Ok → e.c = c → (∀ q ∈ pts, PtIn q ∧ firstO c now q.1 = some 0 ∧ q.1 % c.s 0 = 0) → (pts.map fun q => slotOf c 0 q.1).Nodup → e.L[0]? = some l → x ∈ pts → ∃ l', (writesAll e now pts).L[0]? = some l' ∧ x ∈ l'
  | [], _, _, _, _, _, _, _, hx => by simp at hx
  | q :: pts, e, l, h, hc, hq, hn, hl, hx => by
    obtain ⟨q1, q2, q3⟩ := hq q (by simp)
    obtain ⟨k1, k2, _⟩ := writesR_kept (now := now) h q1
    have e1 := writes_first h (now := now) q1 (by rw [hc]; exact q2) (by rw [hc]; exact q3)
    rw [hl, hc] at e1
    rw [List.map_cons, List.nodup_cons] at hn
    rcases List.mem_cons.1 hx with rfl | hx
    · refine writes_keep pts (writesR e now x) _ k1 (k2.trans hc) (fun y hy => ?_) e1 (by unfold setL; simp)
      obtain ⟨y1, y2, y3⟩ := hq y (by simp [hy])
      exact ⟨y1, y2, y3, fun he => hn.1 (List.mem_map.2 ⟨y, hy, he⟩)⟩
    · exact writes_have pts (writesR e now q) _ k1 (k2.trans hc) (fun y hy => hq y (by simp [hy])) hn.2 e1 hx
theorem sortedL_perm {l : List Pt} (h : (l.map (·.1)).Nodup) : (sortedL l).Perm l := by
  have hi := sortedL_inc h
  refine (List.perm_ext_iff_of_nodup ?_ (nodup_of_map h)).2 fun q => sortedL_mem
  exact pw_mono (fun a b _ _ (hab : a.1 < b.1) (e : a = b) => by rw [e] at hab; exact Int.lt_irrefl _ hab) hi
/-- the finest points are written last, into slots of their own -/
theorem resize_first {d : RDb} (hd : d.Ok) (ha : d.Al) {now : Int} {l : List Pt} (hl : d.L[0]? = some l) :
    ∃ l', (resizeR d now d.c).L[0]? = some l' ∧ ∀ q ∈ l, covB d.c 0 now q.1 = true → q ∈ l' := by
  have hm : 0 < d.c.many := by have := (d.c.ok_iff.1 hd.cfg).2.2.1; omega
  obtain ⟨e', a, b, r⟩ := resizeTo_last hd (now := now) (d.c.many - 1) (RDb.new d.c) (new_okT hd.cfg).1 rfl
  rw [show d.c.many - 1 + 1 = d.c.many by omega] at r
  have r' : resizeR d now d.c = writesAll e' now (covL d now 0) := r
  obtain ⟨l0, hl0⟩ : ∃ l0, e'.L[0]? = some l0 := ⟨_, List.getElem?_eq_getElem (by rw [a.len, b]; exact hm)⟩
  have hp : ∀ q ∈ covL d now 0, PtIn q ∧ firstO d.c now q.1 = some 0 ∧ q.1 % d.c.s 0 = 0 := by
    intro q hq
    refine ⟨covL_in hd q hq, ?_, ?_⟩
    · exact firstO_at hm (fun j hj => by omega) (List.mem_filter.1 hq).2
    · have := sortedL_mem.1 (List.mem_filter.1 hq).1
      rw [hl, Option.getD_some] at this
      exact ha 0 l hl q this
  have hn : ((covL d now 0).map fun q => slotOf d.c 0 q.1).Nodup := by
    unfold covL
    rw [hl, Option.getD_some]
    have h1 := ((sortedL_perm (stamps_nodup (hd.apart 0 l hl))).map fun q => slotOf d.c 0 q.1).nodup_iff.2 (hd.apart 0 l hl)
    exact h1.sublist (List.Sublist.map _ List.filter_sublist)
  obtain ⟨k1, k2, _⟩ := writesAll_kept (now := now) (covL d now 0) e' a (covL_in hd)
  obtain ⟨l', hl'⟩ : ∃ l', (writesAll e' now (covL d now 0)).L[0]? = some l' := ⟨_, List.getElem?_eq_getElem (by rw [k1.len, k2, b]; exact hm)⟩
  rw [r']
  refine ⟨l', hl', fun q hq hc => ?_⟩
  obtain ⟨l2, h2, h3⟩ := writes_have (covL d now 0) e' l0 a b hp hn hl0 (x := q) (by
    unfold covL
    rw [hl, Option.getD_some]
    exact List.mem_filter.2 ⟨sortedL_mem.2 hq, hc⟩)
  rw [hl'] at h2
  cases h2
  exact h3
/-- what a fetch of the first archive tells is told of the resized one, too -/
theorem resize_fetch {d : RDb} (hd : d.Ok) (ha : d.Al) {now : Int} (n0 : 0 ≤ now) (n1 : now ≤ 2147483647) :
    ∀ q ∈ serP d now (max 0 (now - d.c.s 0 * d.c.k 0 + 1)) now, q ∈ serP (resizeR d now d.c) now (max 0 (now - d.c.s 0 * d.c.k 0 + 1)) now := by
  have hm : 0 < d.c.many := by have := (d.c.ok_iff.1 hd.cfg).2.2.1; omega
  obtain ⟨l, hl⟩ : ∃ l, d.L[0]? = some l := ⟨_, List.getElem?_eq_getElem (by rw [hd.len]; exact hm)⟩
  obtain ⟨k1, _, k3⟩ := resizeR_kept hd (now := now) hd.cfg
  obtain ⟨l', hl', hin⟩ := resize_first hd ha (now := now) hl
  have f1 := (near_fetch hd hl n0 n1).2.2
  have f2 := (near_fetch k1 hl' n0 n1).2.2
  rw [k3] at f2
  intro q hq
  rw [f1] at hq
  rw [f2]
  obtain ⟨a, b⟩ := List.mem_filter.1 hq
  refine List.mem_filter.2 ⟨sortedL_mem.2 (hin q (sortedL_mem.1 a) ?_), b⟩
  unfold cntB at b
  unfold covB
  generalize d.c.s 0 * d.c.k 0 = P at b ⊢
  simp at b ⊢
  omega

/-- no stamp is later -/
def RDb.Le (d : RDb) (M : Int) : Prop := ∀ (i : Nat) (l : List Pt), d.L[i]? = some l → ∀ q ∈ l, q.1 ≤ M
theorem put_le {d : RDb} {M : Int} (h : d.Le M) {i : Nat} {l : List Pt} (hl : d.L[i]? = some l) {p : Pt} (hp : p.1 ≤ M) : (d.put i (setL d.c i p l)).Le M := by
  intro j l' hj q hq
  rcases put_at hj with ⟨rfl, rfl⟩ | ⟨_, h'⟩
  · unfold setL othersL at hq
    rcases List.mem_append.1 hq with hq | hq
    · exact h _ l hl q (List.mem_filter.1 hq).1
    · rw [List.mem_singleton.1 hq]; exact hp
  · exact h j l' h' q hq
theorem goesF_le {M : Int} : ∀ (f : Nat) (d : RDb) (i : Nat) (t : Int), d.Ok → i < d.c.many → 0 ≤ t → t ≤ 2147483647 → t ≤ M → d.Le M → (goesF f d i t).Le M
  | 0, d, i, t, _, _, _, _, _, h => h
  | f + 1, d, i, t, hd, hi, h0, h1, hM, h => by
    rw [goesF]
    split
    · exact h
    · rename_i hm
      have hi1 : i + 1 < d.c.many := by omega
      have hb := Cfg.bd hd.cfg hi1
      obtain ⟨l, hl⟩ : ∃ l, d.L[i]? = some l := ⟨_, List.getElem?_eq_getElem (by rw [hd.len]; exact hi)⟩
      obtain ⟨l1, hl1⟩ : ∃ l, d.L[i + 1]? = some l := ⟨_, List.getElem?_eq_getElem (by rw [hd.len]; exact hi1)⟩
      simp only
      split
      · exact h
      · rename_i hc
        have hfr := sub_in h0 h1 hb.1
        have hr := Int.emod_nonneg t (show d.c.s (i + 1) ≠ 0 by have := hb.1; omega)
        obtain ⟨vs, hvs⟩ : ∃ vs, vs = valsTo d.c i ((d.L[i]?).getD []) (t - t % d.c.s (i + 1)) (d.c.s (i + 1) / d.c.s i).toNat := ⟨_, rfl⟩
        rw [← hvs] at hc ⊢
        have hne : vs ≠ [] := fun x => hc (.inl (by rw [x]; rfl))
        have hv := makesI_in (m := d.c.m) (l := vs) (by rw [hvs]; exact valsTo_in (by rw [hl]; exact (hd.pts i l hl).1)) hne
        have hok := put_ok hd hl1 (p := (t - t % d.c.s (i + 1), makesI d.c.m vs)) ⟨hfr.1, hfr.2, hv.1, hv.2⟩
        rw [hl1, Option.getD_some]
        exact goesF_le f _ (i + 1) _ hok hi1 hfr.1 hfr.2 (by omega) (put_le h hl1 (by show t - t % d.c.s (i + 1) ≤ M; omega))
theorem writesR_le {d : RDb} {now M : Int} {q : Pt} (hd : d.Ok) (hq : PtIn q) (hM : q.1 ≤ M) (h : d.Le M) : (writesR d now q).Le M := by
  unfold writesR
  cases hf : firstO d.c now q.1 with
  | none => exact h
  | some i =>
    obtain ⟨hi, _⟩ := firstO_in hf
    have hb := Cfg.bd hd.cfg hi
    have hs := sub_in hq.1 hq.2.1 hb.1
    have hr := Int.emod_nonneg q.1 (show d.c.s i ≠ 0 by have := hb.1; omega)
    obtain ⟨l, hl⟩ : ∃ l, d.L[i]? = some l := ⟨_, List.getElem?_eq_getElem (by rw [hd.len]; exact hi)⟩
    simp only [hl, Option.getD_some]
    have hok := put_ok hd hl (p := (q.1 - q.1 % d.c.s i, q.2)) ⟨hs.1, hs.2, hq.2.2.1, hq.2.2.2⟩
    exact goesF_le _ _ _ _ hok hi hs.1 hs.2 (by omega) (put_le h hl (by show q.1 - q.1 % d.c.s i ≤ M; omega))
theorem updR_le {d : RDb} {now : Int} {q : Pt} (hd : d.Ok) (h : d.Le now) : (updR d now [q]).Le now := by
  unfold updR
  split
  · rename_i he
    unfold updErr at he
    split at he
    · simp at he
    · have hz := errFrom_zero [q] 0 he q (by simp)
      have hn : q.1 ≤ now := by
        unfold ptErr at hz
        split at hz
        · simp at hz
        · split at hz
          · simp at hz
          · omega
      exact writesR_le hd (ptErr_in hz) hn h
  · exact h
theorem Le.mono {d : RDb} {M N : Int} (h : d.Le M) (hMN : M ≤ N) : d.Le N := fun i l hl q hq => by have := h i l hl q hq; omega
/-- far later nothing is covered -/
theorem resize_far {d : RDb} (hd : d.Ok) {now M : Int} {c : Cfg} (h : d.Le M) (hf : M + 5184000 ≤ now) : resizeR d now c = RDb.new c := by
  have hcov : ∀ i, covL d now i = [] := by
    intro i
    unfold covL
    rw [List.filter_eq_nil_iff]
    intro q hq
    have hq' := sortedL_mem.1 hq
    cases hl : d.L[i]? with
    | none => rw [hl] at hq'; simp at hq'
    | some l =>
      rw [hl, Option.getD_some] at hq'
      have hi : i < d.c.many := by
        obtain ⟨x, _⟩ := List.getElem?_eq_some_iff.1 hl
        rw [← hd.len]; exact x
      have hb := Cfg.bd hd.cfg hi
      have hle := h i l hl q hq'
      have hp := Int.mul_le_mul hb.2.1 hb.2.2.2 (by omega) (by omega)
      unfold covB
      generalize d.c.s i * d.c.k i = P at hp ⊢
      simp
      omega
  have key : ∀ (n : Nat) (e : RDb), resizeTo d now n e = e := by
    intro n
    induction n with
    | zero => intro e; rfl
    | succ n ih => intro e; rw [resizeTo, hcov, ih]; rfl
  exact key _ _
end Go.Proofs.Ythbbfjfekchdiaa
/-
  Resized: what the walk wants.
-/
namespace Go.Proofs.Ythbbfjfekchdiaa
open Go.RowKit

theorem playK_le {c : Cfg} (hc : c.Ok) (ms : List Mv) : (playK c ms).2.Le (playK c ms).1 := by
  have key : ∀ (l : List Mv) (s : Int × RDb), s.2.Ok → s.2.Le s.1 → (l.foldl (stepK c) s).2.Le (l.foldl (stepK c) s).1 := by
    intro l
    induction l with
    | nil => intro s _ h; exact h
    | cons m l ih =>
      intro s d h
      have hp := pickK_in m.1 (n := 40) (by omega)
      exact ih (stepK c s m) (updR_kept d).1 (updR_le d (Le.mono h (by omega)))
  refine key ms (0, RDb.new c) (new_ok' hc) fun i l hl q hq => ?_
  have : l = [] := (List.mem_replicate.1 (List.mem_iff_getElem?.2 ⟨i, hl⟩)).2
  subst this
  simp at hq
theorem ser_len {d : RDb} (hd : d.Ok) (now fr un : Int) : (serP d now fr un).length ≤ 60 := by
  unfold serP
  split
  · unfold fetchL
    refine Nat.le_trans (List.length_filter_le _ _) ?_
    rw [sortedL_length, List.getD_eq_getElem?_getD]
    cases hl : d.L[fetchI d.c now fr]? with
    | none => simp
    | some l => exact (hd.pts _ l hl).2
  · simp
theorem mem_take_succR {l : List Pt} {m : Nat} {q x : Pt} (h : l[m]? = some q) : x ∈ l.take (m + 1) ↔ x ∈ l.take m ∨ x = q := by
  rw [List.take_add_one, h, List.mem_append]
  simp
theorem resize_ok {now : Int} {c : Cfg} (h0 : 0 ≤ now) (h1 : now ≤ 2147483647) (hc : c.Ok) : resizeErr now c = 0 := by
  unfold resizeErr
  rw [if_neg (fun x => x ⟨h0, h1⟩)]
  exact Cfg.err_ok hc
/-- a fetch of the first archive, in short -/
theorem near_short {d : RDb} (hd : d.Ok) {now : Int} (n0 : 0 ≤ now) (n1 : now ≤ 2147483647) : fetchErr d.c now (max 0 (now - d.c.s 0 * d.c.k 0 + 1)) now = 0 := by
  have hm : 0 < d.c.many := by have := (d.c.ok_iff.1 hd.cfg).2.2.1; omega
  obtain ⟨l, hl⟩ : ∃ l, d.L[0]? = some l := ⟨_, List.getElem?_eq_getElem (by rw [hd.len]; exact hm)⟩
  exact (near_fetch hd hl n0 n1).1
end Go.Proofs.Ythbbfjfekchdiaa
/-
  Resized, walked.
-/
namespace Go.Proofs.Ythbbfjfekchdiaa
open Go.RowKit
set_option linter.unusedSimpArgs false
attribute [local go_sem] Go.wp_at_zero Go.wp_at_succ

theorem eq_arrZ (c : Cfg) (w : World) : (Op.equalIn 9999 27 (.agg #[i64 c.s0, i64 c.k0, i64 c.s1, i64 c.k1, i64 c.s2, i64 c.k2, i64 c.s3, i64 c.k3]) (.agg #[i64 c.s0, i64 c.k0, i64 c.s1, i64 c.k1, i64 c.s2, i64 c.k2, i64 c.s3, i64 c.k3])).run Try.prog w = .ok true w := by
  rw [show (9999 : Nat) = 9998 + 1 from rfl, Op.equalIn]
  simp only [Sem.run_bind, run_underlying Try.underlying27, Result.andThen_ok]
  simp only [Std.Legacy.Range.forIn_eq_forIn_range', Std.Legacy.Range.size, Nat.sub_zero, Nat.add_sub_cancel, Nat.div_one, List.range'_succ, List.range'_zero, List.forIn_cons, List.forIn_nil]
  go_simp
/-- a configuration's cells -/
structure CfgAt (w : World) (b : Nat) (c : Cfg) : Prop where
  p0 : w.cell? ⟨b, 0, none⟩ = some (i64 c.s0)
  p1 : w.cell? ⟨b, 1, none⟩ = some (i64 c.k0)
  p2 : w.cell? ⟨b, 2, none⟩ = some (i64 c.s1)
  p3 : w.cell? ⟨b, 3, none⟩ = some (i64 c.k1)
  p4 : w.cell? ⟨b, 4, none⟩ = some (i64 c.s2)
  p5 : w.cell? ⟨b, 5, none⟩ = some (i64 c.k2)
  p6 : w.cell? ⟨b, 6, none⟩ = some (i64 c.s3)
  p7 : w.cell? ⟨b, 7, none⟩ = some (i64 c.k3)
  p8 : w.cell? ⟨b, 8, none⟩ = some (i64 c.m)
  p9 : w.cell? ⟨b, 9, none⟩ = some (i64 c.f)
theorem CfgAt.later {w w' : World} {b : Nat} {c : Cfg} (h : CfgAt w b c) (hb : Below w.heap.size w w') : CfgAt w' b c :=
  ⟨cell_later hb h.p0, cell_later hb h.p1, cell_later hb h.p2, cell_later hb h.p3, cell_later hb h.p4, cell_later hb h.p5, cell_later hb h.p6, cell_later hb h.p7, cell_later hb h.p8, cell_later hb h.p9⟩
theorem cfgAt_of {w : World} {b : Nat} {c : Cfg} {t : TypeId} (h : w.heap[b]? = some (.cells #[i64 c.s0, i64 c.k0, i64 c.s1, i64 c.k1, i64 c.s2, i64 c.k2, i64 c.s3, i64 c.k3, i64 c.m, i64 c.f] t)) : CfgAt w b c :=
  ⟨cell_of_blk h 0, cell_of_blk h 1, cell_of_blk h 2, cell_of_blk h 3, cell_of_blk h 4, cell_of_blk h 5, cell_of_blk h 6, cell_of_blk h 7, cell_of_blk h 8, cell_of_blk h 9⟩

set_option maxRecDepth 4000 in
set_option maxHeartbeats 4000000 in
theorem resized_any {R : Rep} (H2 : ProgOk2 R) (r0 r1 r2 r3 r4 r5 me fa : Int) (v : Value) (ms : List Mv) (w : World) (h0 : In64 r0) (h1 : In64 r1) (h2 : In64 r2) (h3 : In64 r3) (h4 : In64 r4) (h5 : In64 r5) (hm : In64 me) (hf : In64 fa) (hv : RowM w w.heap.size v ms) (hlen : ms.length ≤ 9223372036854775807) :
    Calls Try.prog 6 #[.agg #[i64 r0, i64 r1, i64 r2, i64 r3, i64 r4, i64 r5], i64 me, i64 fa, v] w fun e w' => e = .returned (.bool true) ∧ Below w.heap.size w w' := by
  have H := H2.base
  obtain ⟨c, hc⟩ : ∃ c, c = cfgK r0 r1 r2 r3 r4 r5 me fa := ⟨_, rfl⟩
  have HOK := hid (show c.Ok by rw [hc]; exact (cfgK_ok r0 r1 r2 r3 r4 r5 me fa).1)
  have HFI := hid (fun (w : World) (hv : RowM w w.heap.size v ms) => filled_any H r0 r1 r2 r3 r4 r5 me fa v ms c w (hid hc) h0 h1 h2 h3 h4 h5 hm hf hv hlen)
  have HRB := hid (reach_bd HOK.out)
  have HV := hid hv
  obtain ⟨av, cv, rfl, _⟩ := hv
  clear h0 h1 h2 h3 h4 h5 hm hf hc
  have HA0 := hid (show Below w.heap.size w (w.alloc (.cells #[i64 r0, i64 r1, i64 r2, i64 r3, i64 r4, i64 r5] 22)) from (Below.refl _ w).alloc (Nat.le_refl _) _)
  go_enter Try.func6, Try.ntmps6
  go_wp2_with fail
  refine (HFI.out _ ?_).mono ?_
  · obtain ⟨a', c', e', r'⟩ := HV.out.below HA0.out
    exact ⟨a', c', e', fun j m hj => by obtain ⟨x, b, off, y1, y2, y3⟩ := r' j m hj; exact ⟨x, b, off, y1, by simp; omega, y3⟩⟩
  rintro e w1 ⟨pd, rfl, hb1, hR1⟩
  have hz1 : w.heap.size + 1 ≤ w1.heap.size := by have := hb1.size; simp at this; exact this
  have HB1 := hid (show Below w.heap.size w w1 from HA0.out.trans (hb1.mono (by simp)))
  have HPK := hid (playK_in HOK.out (ms.take 10000))
  have HLE := hid (playK_le HOK.out (ms.take 10000))
  obtain ⟨n0, hn0⟩ : ∃ n, n = (playK c (ms.take 10000)).1 := ⟨_, rfl⟩
  obtain ⟨D, hD⟩ : ∃ D, D = (playK c (ms.take 10000)).2 := ⟨_, rfl⟩
  rw [← hD] at hR1
  rw [← hD, ← hn0] at HPK HLE
  rw [← hn0]
  have HR1 := hid hR1
  have hn0a : 0 ≤ n0 := HPK.out.1
  have hn0b : n0 ≤ 400000 := by
    have h1 := HPK.out.2.1
    have h2 := List.length_take_le 10000 ms
    omega
  have HAL := hid (H2.al HR1.out)
  have HDC := hid HPK.out.2.2.2
  clear hb1 hR1 HFI hn0 hD HPK
  have HCA := hid (cfgAt_of (blk_new w1 (.cells #[i64 c.s0, i64 c.k0, i64 c.s1, i64 c.k1, i64 c.s2, i64 c.k2, i64 c.s3, i64 c.k3, i64 c.m, i64 c.f] 29)))
  have HRA := hid (fun (w' : World) (hb : Below w1.heap.size w1 w') => H.fr HR1.out (Fr.below (In := fun _ => False) hb) (fun _ _ x => x))
  generalize hwA : w1.alloc (.cells #[i64 c.s0, i64 c.k0, i64 c.s1, i64 c.k1, i64 c.s2, i64 c.k2, i64 c.s3, i64 c.k3, i64 c.m, i64 c.f] 29) = wA at HCA
  have HA1 := hid (show Below w1.heap.size w1 wA by rw [← hwA]; exact (Below.refl _ w1).alloc (Nat.le_refl _) _)
  have hzA : w1.heap.size < wA.heap.size := by rw [← hwA]; simp
  have HDD := hid (diff_eqv HAL.out.1 (Eqv.refl D))
  have HWA := hid hwA
  clear hwA
  go_wp2_with fail
  rw [HWA.out]
  refine (H2.diff pd pd D D _ _ _ (HRA.out _ HA1.out) (HRA.out _ HA1.out)).mono ?_
  rintro e w2 ⟨vl, rfl, hDf, _⟩
  rw [HDD.out.1]
  obtain ⟨al, cl, hvl⟩ := hDf.form
  rw [HDD.out.2] at hvl
  subst hvl
  have HC2 := hid hDf.old
  have hz2 := hDf.old.size
  obtain ⟨d0, d1, d2, d3, d4, d5, d6, d7, d8, d9⟩ := HCA.out.later hDf.old
  clear hDf
  go_wp2_with fail
  refine (H2.resize pd n0 c D _ _ (HRA.out _ (HA1.out.trans (HC2.out.mono (by omega))))).mono ?_
  rintro e w3 ⟨hb3, _, hZ3⟩
  obtain ⟨po, rfl, hR3⟩ := hZ3 (resize_ok hn0a (by omega) HOK.out)
  have HC3 := hid (HC2.out.trans (hb3.mono hz2))
  have hz3 := hb3.size
  have HR3 := hid hR3
  have HKP := hid (resizeR_kept HAL.out.1 (now := n0) (c := c) HOK.out)
  clear d0 d1 d2 d3 d4 d5 d6 d7 d8 d9 hZ3 hR3
  obtain ⟨d0, d1, d2, d3, d4, d5, d6, d7, d8, d9⟩ := HCA.out.later HC3.out
  have HCC := hid (fun (w' : World) (hb : Below w3.heap.size w3 w') => show Calls Try.prog 19 #[.pointer (some ⟨po, 0, none⟩)] w' fun e w'' => e = .returned (.agg #[i64 c.s0, i64 c.k0, i64 c.s1, i64 c.k1, i64 c.s2, i64 c.k2, i64 c.s3, i64 c.k3, i64 c.m, i64 c.f]) ∧ Below w'.heap.size w' w'' from by
    have h1 := H.config po _ _ w' (H.fr HR3.out (Fr.below (In := fun _ => False) hb) (fun _ _ x => x)) HKP.out.1
    rw [HKP.out.2.2] at h1
    exact h1)
  have ea := eq_arrZ c
  have hz13 : w1.heap.size < w3.heap.size := by omega
  clear hb3
  go_wp2_with fail
  refine wp_region_held_drew (S := (fun w' => w'.cell? ⟨w1.heap.size, 0, none⟩ = some (i64 c.s0) ∧ w'.cell? ⟨w1.heap.size, 1, none⟩ = some (i64 c.k0) ∧ w'.cell? ⟨w1.heap.size, 2, none⟩ = some (i64 c.s1) ∧ w'.cell? ⟨w1.heap.size, 3, none⟩ = some (i64 c.k1) ∧ w'.cell? ⟨w1.heap.size, 4, none⟩ = some (i64 c.s2) ∧ w'.cell? ⟨w1.heap.size, 5, none⟩ = some (i64 c.k2) ∧ w'.cell? ⟨w1.heap.size, 6, none⟩ = some (i64 c.s3) ∧ w'.cell? ⟨w1.heap.size, 7, none⟩ = some (i64 c.k3) ∧ w'.cell? ⟨w1.heap.size, 8, none⟩ = some (i64 c.m) ∧ w'.cell? ⟨w1.heap.size, 9, none⟩ = some (i64 c.f))) (by kernel_rfl) ?_ (fun hHeld => ?_)
  · go_keep
  refine wpAnyH_take (i := 0) (oi := { dst := some 52, op := Op.move (Operand.tmp 13), type := 41, pos := _, after := #[], guard := none }) (v := ?va0) rfl (by kernel_rfl) (by kernel_rfl) (by kernel_rfl) (fun _ _ _ h => h) (Or.inl ⟨by rfl, ?ha0⟩) (by assumption) ?_
  case ha0 => (intro w hSw; (try dsimp only at hSw); go_simp; try with_reducible rfl)
  try simp only [Act.put, List.setIfInBounds_toArray, List.set_cons_zero, List.set_cons_succ]
  refine wpAnyH_take (i := 1) (oi := { dst := some 53, op := Op.binOp BinOp.neq 41 (Operand.tmp 52) (Operand.const (Value.int IntKind.i64 0)) 41, type := 4, pos := _, after := #[{ on := 0, ground := Ground.data }], guard := none }) (v := ?va1) rfl (by kernel_rfl) (by kernel_rfl) (by kernel_rfl) (fun _ _ _ h => h) (Or.inl ⟨by rfl, ?ha1⟩) (by assumption) ?_
  case ha1 => (intro w hSw; (try dsimp only at hSw); go_simp; try with_reducible rfl)
  try simp only [Act.put, List.setIfInBounds_toArray, List.set_cons_zero, List.set_cons_succ]
  refine wpAnyH_take (i := 2) (oi := { dst := some 54, op := Op.move (Operand.tmp 53), type := 4, pos := _, after := #[{ on := 1, ground := Ground.data }], guard := none }) (v := ?va2) rfl (by kernel_rfl) (by kernel_rfl) (by kernel_rfl) (fun _ _ _ h => h) (Or.inl ⟨by rfl, ?ha2⟩) (by assumption) ?_
  case ha2 => (intro w hSw; (try dsimp only at hSw); go_simp; try with_reducible rfl)
  try simp only [Act.put, List.setIfInBounds_toArray, List.set_cons_zero, List.set_cons_succ]
  refine wpAnyH_take (i := 3) (oi := { dst := some 55, op := Op.move (Operand.tmp 12), type := 34, pos := _, after := #[{ on := 2, ground := Ground.guard }], guard := some (2, false) }) (v := ?va3) rfl (by kernel_rfl) (by kernel_rfl) (by kernel_rfl) (fun _ _ _ h => h) (Or.inl ⟨by rfl, ?ha3⟩) (by assumption) ?_
  case ha3 => (intro w hSw; (try dsimp only at hSw); go_simp; try with_reducible rfl)
  try simp only [Act.put, List.setIfInBounds_toArray, List.set_cons_zero, List.set_cons_succ]
  refine wpAnyH_take (i := 4) (oi := { dst := some 56, op := Op.call { callee := Callee.builtin Builtin.len, args := #[Operand.tmp 55], argTypes := #[34] }, type := 3, pos := _, after := #[{ on := 3, ground := Ground.data }, { on := 2, ground := Ground.guard }], guard := some (2, false) }) (v := ?va4) rfl (by kernel_rfl) (by kernel_rfl) (by kernel_rfl) (fun _ _ _ h => h) (Or.inl ⟨by rfl, ?ha4⟩) (by assumption) ?_
  case ha4 => (intro w hSw; (try dsimp only at hSw); go_simp; try with_reducible rfl)
  try simp only [Act.put, List.setIfInBounds_toArray, List.set_cons_zero, List.set_cons_succ]
  refine wpAnyH_take (i := 5) (oi := { dst := some 57, op := Op.binOp BinOp.neq 3 (Operand.tmp 56) (Operand.const (Value.int IntKind.i64 0)) 3, type := 4, pos := _, after := #[{ on := 4, ground := Ground.data }, { on := 2, ground := Ground.guard }], guard := some (2, false) }) (v := ?va5) rfl (by kernel_rfl) (by kernel_rfl) (by kernel_rfl) (fun _ _ _ h => h) (Or.inl ⟨by rfl, ?ha5⟩) (by assumption) ?_
  case ha5 => (intro w hSw; (try dsimp only at hSw); go_simp; try with_reducible rfl)
  try simp only [Act.put, List.setIfInBounds_toArray, List.set_cons_zero, List.set_cons_succ]
  refine wpAnyH_take (i := 6) (oi := { dst := some 58, op := Op.pick (Operand.tmp 54) (Operand.const (Value.bool true)) (Operand.tmp 57), type := 4, pos := _, after := #[{ on := 2, ground := Ground.data }, { on := 5, ground := Ground.data }], guard := none }) (v := ?va6) rfl (by kernel_rfl) (by kernel_rfl) (by kernel_rfl) (fun _ _ _ h => h) (Or.inl ⟨by rfl, ?ha6⟩) (by assumption) ?_
  case ha6 => (intro w hSw; (try dsimp only at hSw); go_simp; try with_reducible rfl)
  try simp only [Act.put, List.setIfInBounds_toArray, List.set_cons_zero, List.set_cons_succ]
  refine wpAnyH_take (i := 7) (oi := { dst := some 59, op := Op.move (Operand.tmp 58), type := 4, pos := _, after := #[{ on := 6, ground := Ground.data }, { on := 2, ground := Ground.chain }], guard := none }) (v := ?va7) rfl (by kernel_rfl) (by kernel_rfl) (by kernel_rfl) (fun _ _ _ h => h) (Or.inl ⟨by rfl, ?ha7⟩) (by assumption) ?_
  case ha7 => (intro w hSw; (try dsimp only at hSw); go_simp; try with_reducible rfl)
  try simp only [Act.put, List.setIfInBounds_toArray, List.set_cons_zero, List.set_cons_succ]
  refine wpAnyH_take (i := 8) (oi := { dst := some 60, op := Op.move (Operand.tmp 15), type := 41, pos := _, after := #[{ on := 7, ground := Ground.guard }], guard := some (7, false) }) (v := ?va8) rfl (by kernel_rfl) (by kernel_rfl) (by kernel_rfl) (fun _ _ _ h => h) (Or.inl ⟨by rfl, ?ha8⟩) (by assumption) ?_
  case ha8 => (intro w hSw; (try dsimp only at hSw); go_simp; try with_reducible rfl)
  try simp only [Act.put, List.setIfInBounds_toArray, List.set_cons_zero, List.set_cons_succ]
  refine wpAnyH_take (i := 9) (oi := { dst := some 61, op := Op.binOp BinOp.neq 41 (Operand.tmp 60) (Operand.const (Value.int IntKind.i64 0)) 41, type := 4, pos := _, after := #[{ on := 8, ground := Ground.data }, { on := 7, ground := Ground.guard }], guard := some (7, false) }) (v := ?va9) rfl (by kernel_rfl) (by kernel_rfl) (by kernel_rfl) (fun _ _ _ h => h) (Or.inl ⟨by rfl, ?ha9⟩) (by assumption) ?_
  case ha9 => (intro w hSw; (try dsimp only at hSw); go_simp; try with_reducible rfl)
  try simp only [Act.put, List.setIfInBounds_toArray, List.set_cons_zero, List.set_cons_succ]
  refine wpAnyH_take (i := 10) (oi := { dst := some 62, op := Op.pick (Operand.tmp 59) (Operand.const (Value.bool true)) (Operand.tmp 61), type := 4, pos := _, after := #[{ on := 7, ground := Ground.data }, { on := 9, ground := Ground.data }], guard := none }) (v := ?va10) rfl (by kernel_rfl) (by kernel_rfl) (by kernel_rfl) (fun _ _ _ h => h) (Or.inl ⟨by rfl, ?ha10⟩) (by assumption) ?_
  case ha10 => (intro w hSw; (try dsimp only at hSw); go_simp; try with_reducible rfl)
  try simp only [Act.put, List.setIfInBounds_toArray, List.set_cons_zero, List.set_cons_succ]
  refine wpAnyH_take (i := 11) (oi := { dst := some 63, op := Op.move (Operand.tmp 62), type := 4, pos := _, after := #[{ on := 10, ground := Ground.data }, { on := 7, ground := Ground.chain }], guard := none }) (v := ?va11) rfl (by kernel_rfl) (by kernel_rfl) (by kernel_rfl) (fun _ _ _ h => h) (Or.inl ⟨by rfl, ?ha11⟩) (by assumption) ?_
  case ha11 => (intro w hSw; (try dsimp only at hSw); go_simp; try with_reducible rfl)
  try simp only [Act.put, List.setIfInBounds_toArray, List.set_cons_zero, List.set_cons_succ]
  refine wpAnyH_take (i := 12) (oi := { dst := some 64, op := Op.move (Operand.tmp 14), type := 24, pos := _, after := #[{ on := 11, ground := Ground.guard }], guard := some (11, false) }) (v := ?va12) rfl (by kernel_rfl) (by kernel_rfl) (by kernel_rfl) (fun _ _ _ h => h) (Or.inl ⟨by rfl, ?ha12⟩) (by assumption) ?_
  case ha12 => (intro w hSw; (try dsimp only at hSw); go_simp; try with_reducible rfl)
  try simp only [Act.put, List.setIfInBounds_toArray, List.set_cons_zero, List.set_cons_succ]
  refine wpAnyH_take (i := 13) (oi := { dst := some 65, op := Op.binOp BinOp.eql 24 (Operand.tmp 64) (Operand.const (Value.pointer none)) 24, type := 4, pos := _, after := #[{ on := 12, ground := Ground.data }, { on := 11, ground := Ground.guard }], guard := some (11, false) }) (v := ?va13) rfl (by kernel_rfl) (by kernel_rfl) (by kernel_rfl) (fun _ _ _ h => h) (Or.inl ⟨by rfl, ?ha13⟩) (by assumption) ?_
  case ha13 => (intro w hSw; (try dsimp only at hSw); go_simp; try with_reducible rfl)
  try simp only [Act.put, List.setIfInBounds_toArray, List.set_cons_zero, List.set_cons_succ]
  refine wpAnyH_take (i := 14) (oi := { dst := some 66, op := Op.pick (Operand.tmp 63) (Operand.const (Value.bool true)) (Operand.tmp 65), type := 4, pos := _, after := #[{ on := 11, ground := Ground.data }, { on := 13, ground := Ground.data }], guard := none }) (v := ?va14) rfl (by kernel_rfl) (by kernel_rfl) (by kernel_rfl) (fun _ _ _ h => h) (Or.inl ⟨by rfl, ?ha14⟩) (by assumption) ?_
  case ha14 => (intro w hSw; (try dsimp only at hSw); go_simp; try with_reducible rfl)
  try simp only [Act.put, List.setIfInBounds_toArray, List.set_cons_zero, List.set_cons_succ]
  refine wpAnyH_take (i := 15) (oi := { dst := some 67, op := Op.move (Operand.tmp 66), type := 4, pos := _, after := #[{ on := 14, ground := Ground.data }, { on := 11, ground := Ground.chain }], guard := none }) (v := ?va15) rfl (by kernel_rfl) (by kernel_rfl) (by kernel_rfl) (fun _ _ _ h => h) (Or.inl ⟨by rfl, ?ha15⟩) (by assumption) ?_
  case ha15 => (intro w hSw; (try dsimp only at hSw); go_simp; try with_reducible rfl)
  try simp only [Act.put, List.setIfInBounds_toArray, List.set_cons_zero, List.set_cons_succ]
  refine wpAnyH_take (i := 16) (oi := { dst := some 68, op := Op.move (Operand.tmp 14), type := 24, pos := _, after := #[{ on := 15, ground := Ground.guard }], guard := some (15, false) }) (v := ?va16) rfl (by kernel_rfl) (by kernel_rfl) (by kernel_rfl) (fun _ _ _ h => h) (Or.inl ⟨by rfl, ?ha16⟩) (by assumption) ?_
  case ha16 => (intro w hSw; (try dsimp only at hSw); go_simp; try with_reducible rfl)
  try simp only [Act.put, List.setIfInBounds_toArray, List.set_cons_zero, List.set_cons_succ]
  refine wpAnyH_take (i := 18) (oi := { dst := some 70, op := Op.load 29 (Operand.tmp 10), type := 29, pos := _, after := #[{ on := 15, ground := Ground.guard }], guard := some (15, false) }) (v := ?va18) rfl (by kernel_rfl) (by kernel_rfl) (by kernel_rfl) (fun _ _ _ h => h) (Or.inl ⟨by rfl, ?ha18⟩) (by assumption) ?_
  case ha18 => (intro w hSw; (try dsimp only at hSw); go_simp; try with_reducible rfl)
  try simp only [Act.put, List.setIfInBounds_toArray, List.set_cons_zero, List.set_cons_succ]
  refine wpAnyH_ready (rs := [17]) (by kernel_rfl) (by simp) ?_
  refine AllReadyH.cons rfl (fun K hK => ?_) AllReadyH.nil
  go_simp
  refine (HCC.out _ ((Below.refl _ w3).drew)).mono ?_
  rintro e w4 ⟨rfl, hb4⟩
  have hb4' : Below w3.heap.size w3 w4 := (Below.refl _ w3).drew.trans hb4
  go_wp2_with fail
  refine hK.out _ _ ?_ (fun hHeld => ?_)
  · exact ⟨cell_later hb4' d0, cell_later hb4' d1, cell_later hb4' d2, cell_later hb4' d3, cell_later hb4' d4, cell_later hb4' d5, cell_later hb4' d6, cell_later hb4' d7, cell_later hb4' d8, cell_later hb4' d9⟩
  clear hK K d0 d1 d2 d3 d4 d5 d6 d7 d8 d9
  refine wpAnyH_take (i := 19) (oi := { dst := some 71, op := Op.binOp BinOp.neq 29 (Operand.tmp 69) (Operand.tmp 70) 29, type := 4, pos := _, after := #[{ on := 17, ground := Ground.data }, { on := 18, ground := Ground.data }, { on := 15, ground := Ground.guard }], guard := some (15, false) }) (v := ?va19) rfl (by kernel_rfl) (by kernel_rfl) (by kernel_rfl) (fun _ _ _ h => h) (Or.inl ⟨by rfl, ?ha19⟩) (by assumption) ?_
  case ha19 => (intro w hSw; (try dsimp only at hSw); go_simp; try with_reducible rfl)
  try simp only [Act.put, List.setIfInBounds_toArray, List.set_cons_zero, List.set_cons_succ]
  refine wpAnyH_take (i := 20) (oi := { dst := some 72, op := Op.pick (Operand.tmp 67) (Operand.const (Value.bool true)) (Operand.tmp 71), type := 4, pos := _, after := #[{ on := 15, ground := Ground.data }, { on := 19, ground := Ground.data }], guard := none }) (v := ?va20) rfl (by kernel_rfl) (by kernel_rfl) (by kernel_rfl) (fun _ _ _ h => h) (Or.inl ⟨by rfl, ?ha20⟩) (by assumption) ?_
  case ha20 => (intro w hSw; (try dsimp only at hSw); go_simp; try with_reducible rfl)
  try simp only [Act.put, List.setIfInBounds_toArray, List.set_cons_zero, List.set_cons_succ]
  refine wpAnyH_done (by kernel_rfl) ?_ _
  obtain ⟨d0, d1, d2, d3, d4, d5, d6, d7, d8, d9⟩ := hHeld
  have HO4 := hid hb4'
  have hz4 := hb4'.size
  have hz14 : w1.heap.size < w4.heap.size := by omega
  clear ea hb4 hb4' HCC
  go_wp2_with fail
  refine (kreach_any c _ HRB.out).mono ?_
  rintro e w5 ⟨rfl, hb5⟩
  have HO5 := hid (HO4.out.trans (hb5.mono hz4))
  obtain ⟨far, hfar⟩ : ∃ f, f = farK c := ⟨_, rfl⟩
  obtain ⟨near, hnear⟩ : ∃ n, n = c.s 0 * c.k 0 := ⟨_, rfl⟩
  have HNR := hid hnear
  have nn0 : 0 ≤ near := by rw [hnear]; exact (HRB.out 0 (by omega)).1
  have nn1 : near ≤ 10000000 := by rw [hnear]; exact (HRB.out 0 (by omega)).2
  rw [← hfar, show c.s0 * c.k0 = near from hnear.symm]
  clear hb5 hfar hnear d0 d1 d2 d3 d4 d5 d6 d7 d8 d9 HRB HO4 hz14
  go_upto_region 9 with fail
  go_cut [18] (fun z wx => z = i64 (max 0 (n0 - near + 1)) ∧ wx = w5)
  case first =>
    as_aux_lemma =>
    go_wp2
    all_goals go_meet
    · exact ⟨congrArg i64 (by omega), rfl⟩
    · exact ⟨congrArg i64 (by omega), rfl⟩
  case rest =>
  obtain ⟨rfl, hwc⟩ := hcut
  have hwc := hwc.symm
  subst hwc
  have HF1 := hid (show fetchErr D.c n0 (max 0 (n0 - near + 1)) n0 = 0 by
    have := near_short HAL.out.1 (now := n0) hn0a (by omega)
    rw [HDC.out, ← HNR.out] at this
    rw [HDC.out]
    exact this)
  have HF2 := hid (show fetchErr (resizeR D n0 c).c n0 (max 0 (n0 - near + 1)) n0 = 0 by
    have := near_short HKP.out.1 (now := n0) hn0a (by omega)
    rw [HKP.out.2.2, ← HNR.out] at this
    rw [HKP.out.2.2]
    exact this)
  have HSU := hid (show ∀ q ∈ serP D n0 (max 0 (n0 - near + 1)) n0, q ∈ serP (resizeR D n0 c) n0 (max 0 (n0 - near + 1)) n0 by
    have := resize_fetch HAL.out.1 HAL.out.2 (now := n0) hn0a (by omega)
    rw [HDC.out, ← HNR.out] at this
    exact this)
  obtain ⟨fr, hfr⟩ : ∃ f, f = max 0 (n0 - near + 1) := ⟨_, rfl⟩
  rw [← hfr] at HF1 HF2 HSU ⊢
  have hpl1 := ser_len HAL.out.1 n0 fr n0
  have hpl2 := ser_len HKP.out.1 n0 fr n0
  have hz5 := HO5.out.size
  clear hfr
  go_wp2_with fail
  refine (H.fetch pd n0 fr n0 D _ _ (HRA.out _ (HA1.out.trans ((HC3.out.trans (HO5.out.mono (by omega))).mono (by omega)))) HAL.out.1).mono ?_
  rintro e w6 ⟨v1, rfl, hb6, ho1, _⟩
  rw [HF1.out]
  have HO6 := hid (HO5.out.trans (hb6.mono hz5))
  obtain ⟨p1, hp1⟩ : ∃ p, p = serP D n0 fr n0 := ⟨_, rfl⟩
  rw [← hp1] at ho1 hpl1 HSU
  generalize serA D n0 fr n0 = sA
  generalize serS D n0 fr n0 = sS
  obtain ⟨a1, c1, rfl, _⟩ := rowAt_of ho1
  have HW1 := hid (rowAt_of ho1)
  have hz6 := HO6.out.size
  clear hb6 ho1 hp1
  go_wp2_with fail
  generalize hwB : w6.alloc (.cells #[i64 sA, i64 sS, .slice a1 p1.length c1] 51) = wB
  have hbB : Below w6.heap.size w6 wB := by rw [← hwB]; exact (Below.refl _ _).alloc (Nat.le_refl _) _
  have HTB := hid (show wB.heap[w6.heap.size]? = some (.cells #[i64 sA, i64 sS, .slice a1 p1.length c1] 51) by rw [← hwB]; exact blk_new _ _)
  have HOB := hid (HO6.out.trans (hbB.mono hz6))
  have HWB := hid (HW1.out.later hbB)
  have hzB : w6.heap.size < wB.heap.size := blk_lt HTB.out
  clear hwB hbB HW1
  refine (H.fetch po n0 fr n0 _ _ _ (H.fr HR3.out (Fr.below (In := fun _ => False) HOB.out) (fun _ _ x => x)) HKP.out.1).mono ?_
  rintro e w7 ⟨v2, rfl, hb7, ho2, _⟩
  rw [HF2.out]
  have HO7 := hid (HOB.out.trans (hb7.mono (by omega)))
  obtain ⟨p2, hp2⟩ : ∃ p, p = serP (resizeR D n0 c) n0 fr n0 := ⟨_, rfl⟩
  rw [← hp2] at ho2 hpl2 HSU
  generalize serA (resizeR D n0 c) n0 fr n0 = tA
  generalize serS (resizeR D n0 c) n0 fr n0 = tS
  obtain ⟨a2, c2, rfl, _⟩ := rowAt_of ho2
  have HW2 := hid (rowAt_of ho2)
  have HWB7 := hid (HWB.out.later hb7)
  have HTB7 := hid (blk_later hb7 hzB HTB.out)
  have hz7 := hb7.size
  clear hb7 ho2 hp2 HTB HWB
  go_wp2_with fail
  generalize hwC : w7.alloc (.cells #[i64 tA, i64 tS, .slice a2 p2.length c2] 51) = wC
  have hbC : Below w7.heap.size w7 wC := by rw [← hwC]; exact (Below.refl _ _).alloc (Nat.le_refl _) _
  have HTC := hid (show wC.heap[w7.heap.size]? = some (.cells #[i64 tA, i64 tS, .slice a2 p2.length c2] 51) by rw [← hwC]; exact blk_new _ _)
  have HTB8 := hid (blk_later hbC (by omega) HTB7.out)
  have HWB8 := hid (HWB7.out.later hbC)
  have HWC8 := hid (HW2.out.later hbC)
  have HO8 := hid (HO7.out.trans (hbC.mono (by have := HO7.out.size; omega)))
  have hz8 : w7.heap.size < wC.heap.size := blk_lt HTC.out
  clear hwC hbC HTB7 HWB7 HW2
  go_loopw [21] (fun i wr => ∃ k : Nat, k ≤ p1.length ∧ i = i64 k ∧ Below wC.heap.size wC wr) (fun i _ => p1.length - (intOf i).toNat)
  case atStart => exact ⟨0, by omega, rfl, Below.refl _ _⟩
  case round =>
    obtain ⟨k, hk, rfl, hb⟩ := hrel
    obtain ⟨wo, hwo⟩ : ∃ x, x = wr := ⟨_, rfl⟩
    subst hwo
    have HBR := hid hb
    have hzr := hb.size
    have s2 : wo.cell? ⟨w6.heap.size, 2, none⟩ = some (.slice a1 p1.length c1) := cell_of_blk (blk_later hb (by omega) HTB8.out) 2
    have t2 : wo.cell? ⟨w7.heap.size, 2, none⟩ = some (.slice a2 p2.length c2) := cell_of_blk (blk_later hb (by omega) HTC.out) 2
    have zs : w6.heap.size < wo.heap.size := by omega
    have zt : w7.heap.size < wo.heap.size := by omega
    have HRS := hid (HWB8.out.later hb)
    have HRT := hid (HWC8.out.later hb)
    clear hb
    by_cases hlt : k < p1.length
    rotate_left
    · have HCO := hid (show Below wA.heap.size wA wo from HC3.out.trans ((HO8.out.trans (HBR.out.mono HO8.out.size)).mono (by omega)))
      obtain ⟨d0, d1, d2, d3, d4, d5, d6, d7, d8, d9⟩ := HCA.out.later HCO.out
      have HFAR := hid (resize_far (now := 2147483647) (c := c) HAL.out.1 HLE.out (by omega))
      have hz1o : w1.heap.size < wo.heap.size := by have := HCO.out.size; omega
      clear HRS HRT HBR HTB8 HTC HWB8 HWC8 HSU HF1 HF2
      go_wp2_with fail
      clear s2 t2
      refine (H2.resize pd 2147483647 c D _ _ (HRA.out _ (HA1.out.trans (HCO.out.mono (by omega))))).mono ?_
      rintro e w9 ⟨hb9, _, hZ9⟩
      obtain ⟨pq, rfl, hR9⟩ := hZ9 (resize_ok (by omega) (by omega) HOK.out)
      rw [HFAR.out] at hR9
      have HR9 := hid hR9
      have HC9 := hid (HCO.out.trans (hb9.mono HCO.out.size))
      have hz9 := hb9.size
      clear d0 d1 d2 d3 d4 d5 d6 d7 d8 d9 hZ9 hR9 hb9
      obtain ⟨d0, d1, d2, d3, d4, d5, d6, d7, d8, d9⟩ := HCA.out.later HC9.out
      have hz19 : w1.heap.size < w9.heap.size := by omega
      go_wp2_with fail
      have hb9a : ∀ O : Obj, Below w9.heap.size w9 (w9.alloc O) := fun O => (Below.refl _ w9).alloc (Nat.le_refl _) O
      refine (H.create c _ HOK.out).mono ?_
      rintro e wE ⟨pf, rfl, hbE, hRE⟩
      have HOE := hid (show Below w9.heap.size w9 wE from (hb9a _).trans (hbE.mono (by simp)))
      have HRE := hid hRE
      have HNN := hid (diff_eqv (new_ok' HOK.out) (Eqv.refl (RDb.new c)))
      clear hbE hRE hb9a d0 d1 d2 d3 d4 d5 d6 d7 d8 d9
      go_wp2_with fail
      refine (H2.diff pq pf (RDb.new c) (RDb.new c) _ _ _ (H.fr HR9.out (Fr.below (In := fun _ => False) HOE.out) (fun _ _ x => x)) HRE.out).mono ?_
      rintro e wF ⟨vm, rfl, hDf, _⟩
      rw [HNN.out.1]
      obtain ⟨am, cm, hvm⟩ := hDf.form
      rw [HNN.out.2] at hvm
      subst hvm
      have HFIN := hid (show Below w.heap.size w wF from HB1.out.trans ((HA1.out.trans ((HC9.out.trans ((HOE.out.trans (hDf.old.mono HOE.out.size)).mono (by omega))).mono (by omega))).mono (by omega)))
      clear hDf
      go_wp2
      go_ret
      exact ⟨by simp, HFIN.out⟩
    obtain ⟨xy, hxy⟩ : ∃ q, p1[k]? = some q := ⟨_, List.getElem?_eq_getElem hlt⟩
    obtain ⟨sb1, sc1, hv1, hrow1⟩ := HRS.out
    simp only [Value.slice.injEq, true_and] at hv1
    obtain ⟨rfl, rfl⟩ := hv1
    obtain ⟨sb, hsb, hsbz, X0, Y0⟩ := hrow1 k xy hxy
    subst hsb
    have HX0 := hid X0
    have HY0 := hid Y0
    have HIN := hid (HSU.out xy (List.mem_iff_getElem?.2 ⟨k, hxy⟩))
    obtain ⟨x, y⟩ := xy
    dsimp only at HX0 HY0 HIN
    have k0 : (0 : Int) ≤ (k : Int) := by omega
    have k1 : (k : Int) < (p1.length : Int) := by omega
    clear hxy hrow1 X0 Y0
    go_wp2
    clear s2 t2
    go_loopw [22, 23] (fun f i wx => ∃ m : Nat, m ≤ p2.length ∧ i = i64 m ∧ f = .bool (decide ((x, y) ∈ p2.take m)) ∧ Below wo.heap.size wo wx) (fun _ i _ => p2.length - (intOf i).toNat)
    case atStart => exact ⟨0, by omega, rfl, by simp, Below.refl _ _⟩
    case round =>
      obtain ⟨m, hm, rfl, hf, hb⟩ := hrel
      subst hf
      have HBX := hid hb
      have hzx := hb.size
      have s2 : wr.cell? ⟨w6.heap.size, 2, none⟩ = some (.slice (some ⟨sb, 0, none⟩) p1.length c1) := cell_of_blk (blk_later hb zs (blk_later HBR.out (by omega) HTB8.out)) 2
      have t2 : wr.cell? ⟨w7.heap.size, 2, none⟩ = some (.slice a2 p2.length c2) := cell_of_blk (blk_later hb zt (blk_later HBR.out (by omega) HTC.out)) 2
      have zs' : w6.heap.size < wr.heap.size := by omega
      have zt' : w7.heap.size < wr.heap.size := by omega
      have zb' : sb < wr.heap.size := by omega
      have X0 : wr.cell? ⟨sb, k * 2, none⟩ = some (i64 x) := cell_later hb HX0.out
      have Y0 : wr.cell? ⟨sb, k * 2 + 1, none⟩ = some (i64 y) := cell_later hb HY0.out
      obtain ⟨b2, e2, hv2, hrow⟩ := HRT.out.later hb
      simp only [Value.slice.injEq, true_and] at hv2
      obtain ⟨rfl, rfl⟩ := hv2
      have HROW := hid hrow
      have HBO := hid (show Below wC.heap.size wC wr from HBR.out.trans (hb.mono HBR.out.size))
      clear hb hrow
      by_cases hml : m < p2.length
      rotate_left
      · have hd : decide ((x, y) ∈ p2.take m) = true := decide_eq_true (by rw [List.take_of_length_le (by omega)]; exact HIN.out)
        rw [hd]
        clear hd X0 Y0
        go_wp2
        go_roundw
        case rel => first | exact ⟨k + 1, by omega, by go_num, HBO.out⟩ | ((repeat apply Exists.intro); exact ⟨⟨k + 1, by omega, by go_num, HBO.out⟩, rfl⟩)
        case measure => simp [intOf]; omega
      obtain ⟨q, hq⟩ : ∃ q, p2[m]? = some q := ⟨_, List.getElem?_eq_getElem hml⟩
      obtain ⟨b, hb1, hbz, M0, M1⟩ := HROW.out m q hq
      subst hb1
      have HMT := hid (mem_take_succR (x := (x, y)) hq)
      obtain ⟨qt, qv⟩ := q
      dsimp only at M0 M1
      have m0 : (0 : Int) ≤ (m : Int) := by omega
      have m1 : (m : Int) < (p2.length : Int) := by omega
      clear hq
      by_cases hfd : (x, y) ∈ p2.take m
      · have hd : decide ((x, y) ∈ p2.take m) = true := decide_eq_true hfd
        have HD := hid (show decide ((x, y) ∈ p2.take (m + 1)) = true from decide_eq_true (HMT.out.2 (.inl hfd)))
        rw [hd]
        clear hd hfd
        go_wp2_with fail
        go_quiet (fail)
        go_wp2
        go_roundw
        case rel => first | exact ⟨m + 1, by omega, by go_num, by rw [HD.out], below_drewN HBX.out _⟩ | ((repeat apply Exists.intro); exact ⟨⟨m + 1, by omega, by go_num, by rw [HD.out], below_drewN HBX.out _⟩, rfl⟩)
        case measure => simp [intOf]; omega
      · have hd : decide ((x, y) ∈ p2.take m) = false := decide_eq_false hfd
        rw [hd]
        have HFD := hid hfd
        clear hd hfd
        by_cases ex : qt = x
        · subst ex
          by_cases ey : qv = y
          · subst ey
            have HD := hid (show decide ((qt, qv) ∈ p2.take (m + 1)) = true from decide_eq_true (HMT.out.2 (.inr rfl)))
            go_wp2_with fail
            go_quiet (fail)
            go_wp2
            go_roundw
            case rel => first | exact ⟨m + 1, by omega, by go_num, by rw [HD.out], below_drewN HBX.out _⟩ | ((repeat apply Exists.intro); exact ⟨⟨m + 1, by omega, by go_num, by rw [HD.out], below_drewN HBX.out _⟩, rfl⟩)
            case measure => simp [intOf]; omega
          · have HD := hid (show decide ((qt, y) ∈ p2.take (m + 1)) = false from decide_eq_false (fun h => (HMT.out.1 h).elim HFD.out (fun e => ey (by cases e; rfl))))
            have eb : (qv == y) = false := by simpa using ey
            have ec : decide (qv = y) = false := by simpa using ey
            go_wp2_with fail
            go_quiet (fail)
            go_wp2
            go_roundw
            case rel => first | exact ⟨m + 1, by omega, by go_num, by rw [HD.out], below_drewN HBX.out _⟩ | ((repeat apply Exists.intro); exact ⟨⟨m + 1, by omega, by go_num, by rw [HD.out], below_drewN HBX.out _⟩, rfl⟩)
            case measure => simp [intOf]; omega
        · have HD := hid (show decide ((x, y) ∈ p2.take (m + 1)) = false from decide_eq_false (fun h => (HMT.out.1 h).elim HFD.out (fun e => ex (by cases e; rfl))))
          have eb : (qt == x) = false := by simpa using ex
          have ec : decide (qt = x) = false := by simpa using ex
          go_wp2_with fail
          go_quiet (fail)
          go_wp2
          go_roundw
          case rel => first | exact ⟨m + 1, by omega, by go_num, by rw [HD.out], below_drewN HBX.out _⟩ | ((repeat apply Exists.intro); exact ⟨⟨m + 1, by omega, by go_num, by rw [HD.out], below_drewN HBX.out _⟩, rfl⟩)
          case measure => simp [intOf]; omega
end Go.Proofs.Ythbbfjfekchdiaa
