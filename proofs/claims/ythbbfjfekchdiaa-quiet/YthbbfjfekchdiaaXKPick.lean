import Derived.Test.YthbbfjfekchdiaaXZLoad
import Derived.Test.YthbbfjfekchdiaaXZDiff
import Derived.Test.YthbbfjfekchdiaaXZResize
import Derived.Test.YthbbfjfekchdiaaXLeafWalks
import Derived.WalkSpells
/-
  What is asked of the program's other calls: Save, Load, Resize, Diff.
-/
namespace Go.Proofs.Ythbbfjfekchdiaa
open Go.RowKit

def LdPost (R : Rep) (w : World) (b : List Int) (e : Ending) (w' : World) : Prop :=
  Below w.heap.size w w' ∧ (loadL b = none → e = .returned (.tuple #[.pointer none, i64 5])) ∧ ∀ d, loadL b = some d → ∃ p, e = .returned (.tuple #[.pointer (some ⟨p, 0, none⟩), i64 0]) ∧ R w' (fun k => w.heap.size ≤ k) p d
def RzPost (R : Rep) (w : World) (d : RDb) (now : Int) (c : Cfg) (e : Ending) (w' : World) : Prop :=
  Below w.heap.size w w' ∧ (resizeErr now c ≠ 0 → e = .returned (.tuple #[.pointer none, i64 (resizeErr now c)])) ∧
    (resizeErr now c = 0 → ∃ q, e = .returned (.tuple #[.pointer (some ⟨q, 0, none⟩), i64 0]) ∧ R w' (fun k => w.heap.size ≤ k) q (resizeR d now c))

structure ProgOk2 (R : Rep) : Prop where
  base : ProgOk R
  al : ∀ {w : World} {In : Nat → Prop} {p : Nat} {d : RDb}, R w In p d → d.Ok ∧ d.Al
  save : ∀ (p : Nat) (d : RDb) (In : Nat → Prop) (w : World), R w In p d → Calls Try.prog 17 #[.pointer (some ⟨p, 0, none⟩)] w fun e w' => ∃ v, e = .returned v ∧ SvI w w' v (saveL d)
  load : ∀ (v : Value) (b : List Int) (w : World), RowB w v b → ByteL b → OutB (fun k => w.heap.size ≤ k) v → Calls Try.prog 18 #[v] w fun e w' => LdPost R w b e w'
  resize : ∀ (p : Nat) (now : Int) (c : Cfg) (d : RDb) (In : Nat → Prop) (w : World), R w In p d → Calls Try.prog 21 #[.pointer (some ⟨p, 0, none⟩), i64 now, .agg #[i64 c.s0, i64 c.k0, i64 c.s1, i64 c.k1, i64 c.s2, i64 c.k2, i64 c.s3, i64 c.k3, i64 c.m, i64 c.f]] w fun e w' => RzPost R w d now c e w'
  diff : ∀ (p q : Nat) (d o : RDb) (In Jn : Nat → Prop) (w : World), R w In p d → R w Jn q o → Calls Try.prog 20 #[.pointer (some ⟨p, 0, none⟩), .pointer (some ⟨q, 0, none⟩)] w fun e w' => ∃ v, e = .returned (.tuple #[v, i64 (diffErr d o)]) ∧ DfI w w' v (diffN d o) ∧ (diffErr d o ≠ 0 → v = .slice none 0 0)
end Go.Proofs.Ythbbfjfekchdiaa
/-
  Databases with the same points, in whatever order: Update keeps that; Save and Diff do not tell them apart.
-/
namespace Go.Proofs.Ythbbfjfekchdiaa

theorem nodup_of_map {α β : Type} {f : α → β} : ∀ {l : List α}, (l.map f).Nodup → l.Nodup
  | [], _ => List.nodup_nil
  | a :: l, h => by
    rw [List.map_cons, List.nodup_cons] at h
    exact List.nodup_cons.2 ⟨fun x => h.1 (List.mem_map.2 ⟨a, x, rfl⟩), nodup_of_map h.2⟩
theorem find_key {f : Pt → Int} {t : Int} : ∀ {l : List Pt}, (l.map f).Nodup → ∀ q, (l.find? (fun x => f x == t) = some q ↔ q ∈ l ∧ f q = t)
  | [], _, q => by simp
  | x :: l, h, q => by
    rw [List.map_cons, List.nodup_cons] at h
    rw [List.find?_cons]
    by_cases e : f x = t
    · have hb : (f x == t) = true := by simpa using e
      rw [hb]
      simp only [Option.some.injEq]
      constructor
      · rintro rfl; exact ⟨by simp, e⟩
      · rintro ⟨hq, hf⟩
        rcases List.mem_cons.1 hq with rfl | hq
        · rfl
        · exact absurd (List.mem_map.2 ⟨q, hq, hf.trans e.symm⟩) h.1
    · have hb : (f x == t) = false := by simpa using e
      rw [hb]
      simp only
      rw [find_key h.2 q]
      constructor
      · rintro ⟨a, b⟩; exact ⟨List.mem_cons_of_mem _ a, b⟩
      · rintro ⟨a, b⟩
        rcases List.mem_cons.1 a with rfl | a
        · exact absurd b e
        · exact ⟨a, b⟩
theorem find_perm {f : Pt → Int} {t : Int} {l m : List Pt} (h : (l.map f).Nodup) (hp : l.Perm m) : l.find? (fun x => f x == t) = m.find? (fun x => f x == t) := by
  have hm : (m.map f).Nodup := (hp.map f).nodup_iff.1 h
  apply Option.ext
  intro q
  rw [find_key h q, find_key hm q, hp.mem_iff]

/-- the same points -/
structure Eqv (d e : RDb) : Prop where
  c : e.c = d.c
  len : e.L.length = d.L.length
  p : ∀ i : Nat, ((d.L[i]?).getD []).Perm ((e.L[i]?).getD [])
theorem Eqv.refl (d : RDb) : Eqv d d := ⟨rfl, rfl, fun _ => List.Perm.refl _⟩
theorem set_getD {L : List (List Pt)} {i j : Nat} {l : List Pt} (hi : i < L.length) : ((L.set i l)[j]?).getD [] = if i = j then l else (L[j]?).getD [] := by
  by_cases e : i = j
  · subst e
    rw [if_pos rfl, List.getElem?_set_self hi]; rfl
  · rw [if_neg e, List.getElem?_set_ne e]
theorem Eqv.put {d e : RDb} (h : Eqv d e) {i : Nat} {l m : List Pt} (hi : i < d.L.length) (hp : l.Perm m) : Eqv (d.put i l) (e.put i m) := by
  refine ⟨h.c, by unfold RDb.put; simp [h.len], fun j => ?_⟩
  unfold RDb.put
  rw [set_getD hi, set_getD (by rw [h.len]; exact hi)]
  by_cases x : i = j
  · rw [if_pos x, if_pos x]; exact hp
  · rw [if_neg x, if_neg x]; exact h.p j
theorem setL_perm {c : Cfg} {i : Nat} {p : Pt} {l m : List Pt} (h : l.Perm m) : (setL c i p l).Perm (setL c i p m) := by
  unfold setL othersL
  exact (h.filter _).append_right _
theorem vals_perm {c : Cfg} {i : Nat} {l m : List Pt} {fr : Int} {n : Nat} (hn : (l.map (·.1)).Nodup) (h : l.Perm m) : valsTo c i l fr n = valsTo c i m fr n := by
  unfold valsTo
  congr 1
  funext j
  unfold hasL
  rw [find_perm (f := fun q : Pt => q.1) hn h]
theorem Ok.stamps {d : RDb} (hd : d.Ok) (i : Nat) : (((d.L[i]?).getD []).map (·.1)).Nodup := by
  cases hl : d.L[i]? with
  | none => simp
  | some l => exact stamps_nodup (hd.apart i l hl)
theorem goesF_eqv : ∀ (f : Nat) (d e : RDb) (i : Nat) (t : Int), d.Ok → i < d.c.many → 0 ≤ t → t ≤ 2147483647 → Eqv d e → Eqv (goesF f d i t) (goesF f e i t)
  | 0, d, e, i, t, _, _, _, _, h => h
  | f + 1, d, e, i, t, hd, hi, h0, h1, h => by
    rw [goesF, goesF, h.c]
    by_cases hm : d.c.many ≤ i + 1
    · rw [if_pos hm, if_pos hm]; exact h
    rw [if_neg hm, if_neg hm]
    have hi1 : i + 1 < d.c.many := by omega
    have hb := Cfg.bd hd.cfg hi1
    obtain ⟨l, hl⟩ : ∃ l, d.L[i]? = some l := ⟨_, List.getElem?_eq_getElem (by rw [hd.len]; exact hi)⟩
    obtain ⟨l1, hl1⟩ : ∃ l, d.L[i + 1]? = some l := ⟨_, List.getElem?_eq_getElem (by rw [hd.len]; exact hi1)⟩
    have hfr := sub_in h0 h1 hb.1
    simp only
    rw [← vals_perm (Ok.stamps hd i) (h.p i)]
    obtain ⟨vs, hvs⟩ : ∃ vs, vs = valsTo d.c i ((d.L[i]?).getD []) (t - t % d.c.s (i + 1)) (d.c.s (i + 1) / d.c.s i).toNat := ⟨_, rfl⟩
    rw [← hvs]
    by_cases hc : vs.length = 0 ∨ 100 * (vs.length : Int) < d.c.f * ((d.c.s (i + 1) / d.c.s i).toNat : Int)
    · rw [if_pos hc, if_pos hc]; exact h
    rw [if_neg hc, if_neg hc]
    have hne : vs ≠ [] := fun x => hc (.inl (by rw [x]; rfl))
    have hv := makesI_in (m := d.c.m) (l := vs) (by rw [hvs]; exact valsTo_in (by rw [hl]; exact (hd.pts i l hl).1)) hne
    have hok := put_ok hd hl1 (p := (t - t % d.c.s (i + 1), makesI d.c.m vs)) ⟨hfr.1, hfr.2, hv.1, hv.2⟩
    have hg : (d.L[i + 1]?).getD [] = l1 := by rw [hl1]; rfl
    rw [← hg] at hok
    exact goesF_eqv f _ _ (i + 1) _ hok hi1 hfr.1 hfr.2 (h.put (by rw [hd.len]; exact hi1) (setL_perm (h.p (i + 1))))
theorem writesR_eqv {d e : RDb} {now : Int} {q : Pt} (hd : d.Ok) (hq : PtIn q) (h : Eqv d e) : Eqv (writesR d now q) (writesR e now q) := by
  unfold writesR
  rw [h.c]
  cases hf : firstO d.c now q.1 with
  | none => exact h
  | some i =>
    obtain ⟨hi, _⟩ := firstO_in hf
    have hb := Cfg.bd hd.cfg hi
    have hs := sub_in hq.1 hq.2.1 hb.1
    obtain ⟨l, hl⟩ : ∃ l, d.L[i]? = some l := ⟨_, List.getElem?_eq_getElem (by rw [hd.len]; exact hi)⟩
    have hok := put_ok hd hl (p := (q.1 - q.1 % d.c.s i, q.2)) ⟨hs.1, hs.2, hq.2.2.1, hq.2.2.2⟩
    have hg : (d.L[i]?).getD [] = l := by rw [hl]; rfl
    rw [← hg] at hok
    exact goesF_eqv _ _ _ _ _ hok hi hs.1 hs.2 (h.put (by rw [hd.len]; exact hi) (setL_perm (h.p i)))
theorem writesAll_eqv {now : Int} : ∀ (l : List Pt) (d e : RDb), d.Ok → (∀ q ∈ l, PtIn q) → Eqv d e → Eqv (writesAll d now l) (writesAll e now l)
  | [], d, e, _, _, h => h
  | q :: l, d, e, hd, hl, h => writesAll_eqv l (writesR d now q) (writesR e now q) (writesR_kept (now := now) hd (hl q (by simp))).1 (fun x hx => hl x (by simp [hx])) (writesR_eqv hd (hl q (by simp)) h)
theorem updR_eqv {d e : RDb} {now : Int} {l : List Pt} (hd : d.Ok) (h : Eqv d e) : Eqv (updR d now l) (updR e now l) := by
  unfold updR
  rw [h.c]
  split
  · rename_i he
    unfold updErr at he
    split at he
    · simp at he
    · exact writesAll_eqv l d e hd (fun q hq => ptErr_in (errFrom_zero l 0 he q hq)) h
  · exact h
theorem arcsOf_eqv {d e : RDb} (hd : d.Ok) (h : Eqv d e) : arcsOf e = arcsOf d := by
  unfold arcsOf
  rw [h.c]
  refine List.map_congr_left fun i _ => ?_
  unfold slotsL
  refine List.map_congr_left fun j _ => ?_
  unfold slotAt
  have hn : (((d.L[i]?).getD []).map fun q => slotOf d.c i q.1).Nodup := by
    cases hl : d.L[i]? with
    | none => simp
    | some l => exact hd.apart i l hl
  exact (find_perm (f := fun q : Pt => slotOf d.c i q.1) hn (h.p i)).symm
theorem saveL_eqv {d e : RDb} (hd : d.Ok) (h : Eqv d e) : saveL e = saveL d := by
  unfold saveL
  rw [arcsOf_eqv hd h, h.c]
theorem diff_eqv {d e : RDb} (hd : d.Ok) (h : Eqv d e) : diffErr d e = 0 ∧ diffN d e = [] := by
  unfold diffErr diffN diffL allSlots
  rw [h.c, if_pos rfl, if_pos rfl, arcsOf_eqv hd h]
  exact ⟨rfl, diffFrom_same _ _⟩
/-- what is loaded is the same -/
theorem norm_eqv {d : RDb} (hd : d.Ok) (ha : d.Al) : Eqv d d.norm := by
  obtain ⟨h1, h2⟩ := arcs_in hd ha
  refine ⟨rfl, by show ((arcsOf d).map listOf).length = _; rw [List.length_map, h1, hd.len], fun i => ?_⟩
  show List.Perm _ ((((arcsOf d).map listOf)[i]?).getD [])
  by_cases hi : i < d.c.many
  · obtain ⟨l, hl⟩ : ∃ l, d.L[i]? = some l := ⟨_, List.getElem?_eq_getElem (by rw [hd.len]; exact hi)⟩
    have hL := h2 i _ (arcs_at hi)
    rw [Nat.zero_add] at hL
    rw [List.getElem?_map, arcs_at hi, Option.map_some, Option.getD_some, hl, Option.getD_some]
    rw [hl, Option.getD_some] at hL
    have hb := Cfg.bd hd.cfg hi
    have n1 := hd.apart i l hl
    have n2 := listOf_apart hL
    refine (List.perm_ext_iff_of_nodup (nodup_of_map n1) (nodup_of_map n2)).2 fun q => ?_
    rw [listOf_mem]
    constructor
    · intro hq
      have hs := slotOf_bd hb q.1
      have hj : slotOf d.c i q.1 = ((slotOf d.c i q.1).toNat : Int) := (Int.toNat_of_nonneg hs.1).symm
      refine ⟨(slotOf d.c i q.1).toNat, ?_⟩
      unfold slotsL
      rw [List.getElem?_map, List.getElem?_range (by omega), Option.map_some, slotAt_mem n1 hq hj]
    · rintro ⟨j, hj⟩
      unfold slotsL at hj
      rw [List.getElem?_map] at hj
      cases hr : (List.range (d.c.k i).toNat)[j]? with
      | none => rw [hr] at hj; cases hj
      | some x =>
        rw [hr, Option.map_some] at hj
        exact (slotAt_some (Option.some.inj hj)).1
  · rw [List.getElem?_eq_none (l := d.L) (by rw [hd.len]; omega), List.getElem?_eq_none (by rw [List.length_map, h1]; omega)]
theorem saveL_len {d : RDb} (hd : d.Ok) (ha : d.Al) : (saveL d).length = 7 + (8 * d.c.many + slotLen d.c 0 d.c.many) := by
  obtain ⟨h1, h2⟩ := arcs_in hd ha
  unfold saveL
  rw [List.length_append, List.length_append, flat_len (arcBytes_len d.c), slotLen_of (arcsOf d) 0 h2, h1, List.length_range]
  rfl
end Go.Proofs.Ythbbfjfekchdiaa
/-
  sundialkeep's configurations: out of any numbers; each may be.
-/
namespace Go.Proofs.Ythbbfjfekchdiaa

/-- which of n things a raw number speaks of -/
def pickK (x : Int) (n : Int) : Int := (if x < 0 then -(x + 1) else x) % n
theorem pickK_in (x : Int) {n : Int} (h : 1 ≤ n) : 0 ≤ pickK x n ∧ pickK x n < n := ⟨Int.emod_nonneg _ (by omega), Int.emod_lt_of_pos _ (by omega)⟩

/-- the first archive; the factor of the second one's step; and so on -/
def cfgK1 (s0 k0 m f : Int) : Cfg := ⟨s0, k0, 0, 0, 0, 0, 0, 0, m, f⟩
def cfgK2 (s0 k0 t1 e1 m f : Int) : Cfg := ⟨s0, k0, s0 * t1, k0 / t1 + 1 + e1, 0, 0, 0, 0, m, f⟩
def cfgK3 (s0 k0 t1 e1 t2 e2 m f : Int) : Cfg := ⟨s0, k0, s0 * t1, k0 / t1 + 1 + e1, s0 * t1 * t2, (k0 / t1 + 1 + e1) / t2 + 1 + e2, 0, 0, m, f⟩
def cfgK (r0 r1 r2 r3 r4 r5 me fa : Int) : Cfg :=
  if 1 + pickK r1 20 < 2 + pickK r2 5 then cfgK1 (1 + pickK r0 10) (1 + pickK r1 20) (1 + pickK me 6) (pickK fa 101)
  else if (1 + pickK r1 20) / (2 + pickK r2 5) + 1 + pickK r3 10 < 2 + pickK r4 5 then cfgK2 (1 + pickK r0 10) (1 + pickK r1 20) (2 + pickK r2 5) (pickK r3 10) (1 + pickK me 6) (pickK fa 101)
  else cfgK3 (1 + pickK r0 10) (1 + pickK r1 20) (2 + pickK r2 5) (pickK r3 10) (2 + pickK r4 5) (pickK r5 10) (1 + pickK me 6) (pickK fa 101)

/-- one archive and the next, made out of it -/
theorem next_ok {s k t e : Int} (hs : 1 ≤ s) (hk : 1 ≤ k) (ht : 2 ≤ t) (hkt : t ≤ k) (he : 0 ≤ e) : s < s * t ∧ s * t % s = 0 ∧ s * k < s * t * (k / t + 1 + e) ∧ s * t / s ≤ k ∧ 1 ≤ k / t + 1 + e := by
  have hd : 0 ≤ k / t := Int.ediv_nonneg (by omega) (by omega)
  have hm := Int.mul_ediv_add_emod k t
  have hl := Int.emod_lt_of_pos k (show 0 < t by omega)
  have h1 : s * 2 ≤ s * t := Int.mul_le_mul_of_nonneg_left ht (by omega)
  refine ⟨by omega, Int.mul_emod_right s t, ?_, by rw [Int.mul_ediv_cancel_left _ (by omega)]; exact hkt, by omega⟩
  have h2 : k < t * (k / t + 1 + e) := by
    have h3 : t * (k / t + 1 + e) = t * (k / t) + t + t * e := by rw [Int.mul_add, Int.mul_add, Int.mul_one]
    have h4 : 0 ≤ t * e := Int.mul_nonneg (by omega) he
    omega
  rw [Int.mul_assoc]
  exact Int.mul_lt_mul_of_pos_left h2 (by omega)
theorem div_le {k t : Int} (hk : 1 ≤ k) (hk2 : k ≤ 20) (ht : 2 ≤ t) : 0 ≤ k / t ∧ k / t ≤ 10 := by
  refine ⟨Int.ediv_nonneg (by omega) (by omega), ?_⟩
  refine Int.ediv_le_of_le_mul (by omega) ?_
  have : 10 * 2 ≤ 10 * t := Int.mul_le_mul_of_nonneg_left ht (by omega)
  omega

theorem cfgK1_ok {s0 k0 m f : Int} (hs : 1 ≤ s0 ∧ s0 ≤ 10) (hk : 1 ≤ k0 ∧ k0 ≤ 20) (hm : 1 ≤ m ∧ m ≤ 6) (hf : 0 ≤ f ∧ f ≤ 100) : (cfgK1 s0 k0 m f).Ok ∧ (cfgK1 s0 k0 m f).many = 1 := by
  have hn : (cfgK1 s0 k0 m f).many = 1 := by
    unfold Cfg.many
    rw [if_neg (by show ¬ (s0 = 0 ∧ k0 = 0); omega), if_pos (by show (0 : Int) = 0 ∧ (0 : Int) = 0; simp)]
  refine ⟨⟨⟨hm.1, hm.2, hf.1, hf.2, by omega⟩, fun i hi => ?_, fun i hi h => by omega⟩, hn⟩
  rw [hn]
  have h4 : i = 0 ∨ i = 1 ∨ i = 2 ∨ i = 3 := by omega
  rcases h4 with rfl | rfl | rfl | rfl
  · exact ⟨fun h => absurd h (by omega), fun _ => (show 1 ≤ s0 ∧ s0 ≤ 86400 ∧ 1 ≤ k0 ∧ k0 ≤ 60 by omega)⟩
  all_goals exact ⟨fun _ => ⟨rfl, rfl⟩, fun h => absurd h (by omega)⟩
theorem cfgK2_ok {s0 k0 t1 e1 m f : Int} (hs : 1 ≤ s0 ∧ s0 ≤ 10) (hk : 1 ≤ k0 ∧ k0 ≤ 20) (ht : 2 ≤ t1 ∧ t1 ≤ 6) (hkt : t1 ≤ k0) (he : 0 ≤ e1 ∧ e1 ≤ 9) (hm : 1 ≤ m ∧ m ≤ 6) (hf : 0 ≤ f ∧ f ≤ 100) : (cfgK2 s0 k0 t1 e1 m f).Ok ∧ (cfgK2 s0 k0 t1 e1 m f).many = 2 := by
  obtain ⟨a, b, c, d, e⟩ := next_ok hs.1 hk.1 ht.1 hkt he.1
  have hd := div_le hk.1 hk.2 ht.1
  have hst : s0 * t1 ≤ 60 := by have := Int.mul_le_mul hs.2 ht.2 (by omega) (by omega); omega
  have hn : (cfgK2 s0 k0 t1 e1 m f).many = 2 := by
    unfold Cfg.many
    rw [if_neg (by show ¬ (s0 = 0 ∧ k0 = 0); omega), if_neg (by show ¬ (s0 * t1 = 0 ∧ k0 / t1 + 1 + e1 = 0); omega), if_pos (by show (0 : Int) = 0 ∧ (0 : Int) = 0; simp)]
  refine ⟨⟨⟨hm.1, hm.2, hf.1, hf.2, by omega⟩, fun i hi => ?_, fun i hi h => ?_⟩, hn⟩
  · rw [hn]
    have h4 : i = 0 ∨ i = 1 ∨ i = 2 ∨ i = 3 := by omega
    rcases h4 with rfl | rfl | rfl | rfl
    · exact ⟨fun h => absurd h (by omega), fun _ => (show 1 ≤ s0 ∧ s0 ≤ 86400 ∧ 1 ≤ k0 ∧ k0 ≤ 60 by omega)⟩
    · exact ⟨fun h => absurd h (by omega), fun _ => (show 1 ≤ s0 * t1 ∧ s0 * t1 ≤ 86400 ∧ 1 ≤ k0 / t1 + 1 + e1 ∧ k0 / t1 + 1 + e1 ≤ 60 by omega)⟩
    all_goals exact ⟨fun _ => ⟨rfl, rfl⟩, fun h => absurd h (by omega)⟩
  · have h0 : i = 0 := by omega
    subst h0
    exact ⟨a, b, c, d⟩
theorem cfgK3_ok {s0 k0 t1 e1 t2 e2 m f : Int} (hs : 1 ≤ s0 ∧ s0 ≤ 10) (hk : 1 ≤ k0 ∧ k0 ≤ 20) (ht : 2 ≤ t1 ∧ t1 ≤ 6) (hkt : t1 ≤ k0) (he : 0 ≤ e1 ∧ e1 ≤ 9) (ht2 : 2 ≤ t2 ∧ t2 ≤ 6) (hkt2 : t2 ≤ k0 / t1 + 1 + e1) (he2 : 0 ≤ e2 ∧ e2 ≤ 9) (hm : 1 ≤ m ∧ m ≤ 6) (hf : 0 ≤ f ∧ f ≤ 100) : (cfgK3 s0 k0 t1 e1 t2 e2 m f).Ok ∧ (cfgK3 s0 k0 t1 e1 t2 e2 m f).many = 3 := by
  obtain ⟨a, b, c, d, e⟩ := next_ok hs.1 hk.1 ht.1 hkt he.1
  have hd := div_le hk.1 hk.2 ht.1
  have hst : s0 * t1 ≤ 60 := by have := Int.mul_le_mul hs.2 ht.2 (by omega) (by omega); omega
  obtain ⟨k1, hk1⟩ : ∃ k1, k1 = k0 / t1 + 1 + e1 := ⟨_, rfl⟩
  obtain ⟨s1, hs1⟩ : ∃ s1, s1 = s0 * t1 := ⟨_, rfl⟩
  have e3 : cfgK3 s0 k0 t1 e1 t2 e2 m f = ⟨s0, k0, s1, k1, s1 * t2, k1 / t2 + 1 + e2, 0, 0, m, f⟩ := by rw [hk1, hs1]; rfl
  rw [e3]
  rw [← hk1] at c e hkt2
  rw [← hs1] at a b c d hst
  obtain ⟨a2, b2, c2, d2, e2'⟩ := next_ok (s := s1) (k := k1) (t := t2) (e := e2) (by omega) e ht2.1 hkt2 he2.1
  have hd2 := div_le (k := k1) (t := t2) e (by omega) ht2.1
  have hst2 : s1 * t2 ≤ 360 := by have := Int.mul_le_mul hst ht2.2 (by omega) (by omega); omega
  have hn : (Cfg.mk s0 k0 s1 k1 (s1 * t2) (k1 / t2 + 1 + e2) 0 0 m f).many = 3 := by
    unfold Cfg.many
    rw [if_neg (by show ¬ (s0 = 0 ∧ k0 = 0); omega), if_neg (by show ¬ (s1 = 0 ∧ k1 = 0); omega), if_neg (by show ¬ (s1 * t2 = 0 ∧ k1 / t2 + 1 + e2 = 0); omega), if_pos (by show (0 : Int) = 0 ∧ (0 : Int) = 0; simp)]
  refine ⟨⟨⟨hm.1, hm.2, hf.1, hf.2, by omega⟩, fun i hi => ?_, fun i hi h => ?_⟩, hn⟩
  · rw [hn]
    have h4 : i = 0 ∨ i = 1 ∨ i = 2 ∨ i = 3 := by omega
    rcases h4 with rfl | rfl | rfl | rfl
    · exact ⟨fun h => absurd h (by omega), fun _ => (show 1 ≤ s0 ∧ s0 ≤ 86400 ∧ 1 ≤ k0 ∧ k0 ≤ 60 by omega)⟩
    · exact ⟨fun h => absurd h (by omega), fun _ => (show 1 ≤ s1 ∧ s1 ≤ 86400 ∧ 1 ≤ k1 ∧ k1 ≤ 60 by omega)⟩
    · exact ⟨fun h => absurd h (by omega), fun _ => (show 1 ≤ s1 * t2 ∧ s1 * t2 ≤ 86400 ∧ 1 ≤ k1 / t2 + 1 + e2 ∧ k1 / t2 + 1 + e2 ≤ 60 by omega)⟩
    · exact ⟨fun _ => ⟨rfl, rfl⟩, fun h => absurd h (by omega)⟩
  · have h0 : i = 0 ∨ i = 1 := by omega
    rcases h0 with rfl | rfl
    · exact ⟨a, b, c, d⟩
    · exact ⟨a2, b2, c2, d2⟩
/-- sundialkeep's configurations: which they are -/
theorem cfgK_ok (r0 r1 r2 r3 r4 r5 me fa : Int) : (cfgK r0 r1 r2 r3 r4 r5 me fa).Ok ∧ (cfgK r0 r1 r2 r3 r4 r5 me fa).many ≤ 3 := by
  have p0 := pickK_in r0 (n := 10) (by omega)
  have p1 := pickK_in r1 (n := 20) (by omega)
  have p2 := pickK_in r2 (n := 5) (by omega)
  have p3 := pickK_in r3 (n := 10) (by omega)
  have p4 := pickK_in r4 (n := 5) (by omega)
  have p5 := pickK_in r5 (n := 10) (by omega)
  have pm := pickK_in me (n := 6) (by omega)
  have pf := pickK_in fa (n := 101) (by omega)
  unfold cfgK
  split
  · have h := cfgK1_ok (s0 := 1 + pickK r0 10) (k0 := 1 + pickK r1 20) (m := 1 + pickK me 6) (f := pickK fa 101) (by omega) (by omega) (by omega) (by omega)
    exact ⟨h.1, by omega⟩
  · split
    · have h := cfgK2_ok (s0 := 1 + pickK r0 10) (k0 := 1 + pickK r1 20) (t1 := 2 + pickK r2 5) (e1 := pickK r3 10) (m := 1 + pickK me 6) (f := pickK fa 101) (by omega) (by omega) (by omega) (by omega) (by omega) (by omega) (by omega)
      exact ⟨h.1, by omega⟩
    · have h := cfgK3_ok (s0 := 1 + pickK r0 10) (k0 := 1 + pickK r1 20) (t1 := 2 + pickK r2 5) (e1 := pickK r3 10) (t2 := 2 + pickK r4 5) (e2 := pickK r5 10) (m := 1 + pickK me 6) (f := pickK fa 101) (by omega) (by omega) (by omega) (by omega) (by omega) (by omega) (by omega) (by omega) (by omega) (by omega)
      exact ⟨h.1, by omega⟩
end Go.Proofs.Ythbbfjfekchdiaa
namespace Go.Proofs.Ythbbfjfekchdiaa
open Go.RowKit
set_option linter.unusedSimpArgs false

set_option maxHeartbeats 1000000 in
theorem pickK_any (x n : Int) (w : World) (h : 1 ≤ n) (hn : n ≤ 1000000000000) (h1 : -9223372036854775808 ≤ x) (h2 : x ≤ 9223372036854775807) :
    Calls Try.prog 15 #[i64 x, i64 n] w fun e w' => e = .returned (i64 (pickK x n)) ∧ w' = w := by
  by_cases hx : x < 0
  · have HP := hid (show pickK x n = (-(x + 1)) % n by unfold pickK; rw [if_pos hx])
    go_enter Try.func15, Try.ntmps15
    go_wp2
    go_ret
    exact ⟨ret_int (by rw [HP.out, ← Int.tmod_eq_emod_of_nonneg (by omega), Int.neg_tmod]), rfl⟩
  · have HP := hid (show pickK x n = x % n by unfold pickK; rw [if_neg hx])
    go_enter Try.func15, Try.ntmps15
    go_wp2
    go_ret
    exact ⟨ret_int (by rw [HP.out]), rfl⟩
end Go.Proofs.Ythbbfjfekchdiaa
