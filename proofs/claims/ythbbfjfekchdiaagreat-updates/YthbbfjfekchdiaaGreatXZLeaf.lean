import Derived.Test.YthbbfjfekchdiaaGreatXRSorted
import Derived.Test.YthbbfjfekchdiaaGreatXLeafWalks
import Derived.Test.YthbbfjfekchdiaaGreatXRHas
import Derived.BigQuiet
import Derived.Deep.QuietTactic
/-
  What holds of the data at all times, through 'goes', 'writes' and Update: as plain mathematics.
-/
namespace Go.Proofs.YthbbfjfekchdiaaGreat

/-- every stamp is aligned -/
def RDb.Al (d : RDb) : Prop := ∀ (i : Nat) (l : List Pt), d.L[i]? = some l → ∀ q ∈ l, q.1 % d.c.s i = 0

theorem put_at {d : RDb} {i j : Nat} {l l' : List Pt} (h : (d.put i l).L[j]? = some l') : (j = i ∧ l' = l) ∨ (j ≠ i ∧ d.L[j]? = some l') := by
  unfold RDb.put at h
  by_cases e : i = j
  · subst e
    simp only [List.getElem?_set_self'] at h
    cases hd : d.L[i]? with
    | none => rw [hd] at h; simp at h
    | some x => rw [hd] at h; exact .inl ⟨rfl, by simpa using h.symm⟩
  · exact .inr ⟨fun x => e x.symm, by simpa [List.getElem?_set_ne e] using h⟩
theorem put_al {d : RDb} (h : d.Al) {i : Nat} {l : List Pt} (hl : d.L[i]? = some l) {p : Pt} (hp : p.1 % d.c.s i = 0) : (d.put i (setL d.c i p l)).Al := by
  intro j l' hj q hq
  rcases put_at hj with ⟨rfl, rfl⟩ | ⟨_, h'⟩
  · unfold setL othersL at hq
    rcases List.mem_append.1 hq with hq | hq
    · exact h _ l hl q (List.mem_filter.1 hq).1
    · rw [List.mem_singleton.1 hq]; exact hp
  · exact h j l' h' q hq
theorem al_sub (t s : Int) : (t - t % s) % s = 0 := Int.emod_eq_zero_of_dvd (Int.dvd_self_sub_of_emod_eq rfl)
theorem Cfg.bd {c : Cfg} (h : c.Ok) {i : Nat} (hi : i < c.many) : c.Bd i := (bdB_all (c.ok_iff.1 h).2.2.2.2.1) i hi
theorem sub_in {t s : Int} (h0 : 0 ≤ t) (h1 : t ≤ 2147483647) (hs : 1 ≤ s) : 0 ≤ t - t % s ∧ t - t % s ≤ 2147483647 := by
  have := Int.emod_nonneg t (show s ≠ 0 by omega)
  have h2 : t % s ≤ t := by
    have h3 := Int.mul_ediv_add_emod t s
    have h4 := Int.mul_nonneg (show 0 ≤ s by omega) (Int.ediv_nonneg h0 (show 0 ≤ s by omega))
    omega
  omega

/-- what 'goes' leaves -/
structure Kept (d d' : RDb) (i : Nat) : Prop where
  ok : d'.Ok
  cfg : d'.c = d.c
  al : d.Al → d'.Al
  low : ∀ j, j ≤ i → d'.L[j]? = d.L[j]?

theorem goesF_kept : ∀ (f : Nat) (d : RDb) (i : Nat) (t : Int), d.Ok → i < d.c.many → 0 ≤ t → t ≤ 2147483647 → Kept d (goesF f d i t) i
  | 0, d, i, t, hd, _, _, _ => ⟨hd, rfl, id, fun _ _ => rfl⟩
  | f + 1, d, i, t, hd, hi, h0, h1 => by
    rw [goesF]
    split
    · exact ⟨hd, rfl, id, fun _ _ => rfl⟩
    · rename_i hm
      have hi1 : i + 1 < d.c.many := by omega
      have hb := Cfg.bd hd.cfg hi1
      obtain ⟨l, hl⟩ : ∃ l, d.L[i]? = some l := ⟨_, List.getElem?_eq_getElem (by rw [hd.len]; exact hi)⟩
      obtain ⟨l1, hl1⟩ : ∃ l, d.L[i + 1]? = some l := ⟨_, List.getElem?_eq_getElem (by rw [hd.len]; exact hi1)⟩
      simp only
      split
      · exact ⟨hd, rfl, id, fun _ _ => rfl⟩
      · rename_i hc
        have hfr := sub_in h0 h1 hb.1
        have hne : valsTo d.c i ((d.L[i]?).getD []) (t - t % d.c.s (i + 1)) (d.c.s (i + 1) / d.c.s i).toNat ≠ [] := fun e => hc (.inl (by rw [e]; rfl))
        have hv := makesI_in (m := d.c.m) (l := valsTo d.c i ((d.L[i]?).getD []) (t - t % d.c.s (i + 1)) (d.c.s (i + 1) / d.c.s i).toNat) (valsTo_in (by rw [hl]; exact (hd.pts i l hl).1)) hne
        rw [hl1]
        simp only [Option.getD_some]
        obtain ⟨v, hvd⟩ : ∃ v, v = makesI d.c.m (valsTo d.c i ((d.L[i]?).getD []) (t - t % d.c.s (i + 1)) (d.c.s (i + 1) / d.c.s i).toNat) := ⟨_, rfl⟩
        rw [← hvd] at hv ⊢
        have hp : PtIn (t - t % d.c.s (i + 1), v) := ⟨hfr.1, hfr.2, hv.1, hv.2⟩
        have hok := put_ok hd hl1 hp
        have r := goesF_kept f (d.put (i + 1) (setL d.c (i + 1) (t - t % d.c.s (i + 1), v) l1)) (i + 1) (t - t % d.c.s (i + 1)) hok hi1 hfr.1 hfr.2
        refine ⟨r.ok, r.cfg, fun ha => r.al (put_al ha hl1 (al_sub _ _)), fun j hj => ?_⟩
        rw [r.low j (by omega)]
        unfold RDb.put
        rw [List.getElem?_set_ne (by omega)]

/-- a point is written: what stays -/
theorem writesR_kept {d : RDb} {now : Int} {q : Pt} (hd : d.Ok) (hq : PtIn q) : (writesR d now q).Ok ∧ (writesR d now q).c = d.c ∧ (d.Al → (writesR d now q).Al) ∧
    (writesR d now q).L[0]? = if firstO d.c now q.1 = some 0 then (d.L[0]?).map (setL d.c 0 (q.1 - q.1 % d.c.s 0, q.2)) else d.L[0]? := by
  unfold writesR
  cases hf : firstO d.c now q.1 with
  | none => exact ⟨hd, rfl, id, by simp⟩
  | some i =>
    obtain ⟨hi, _⟩ := firstO_in hf
    have hb := Cfg.bd hd.cfg hi
    have hs := sub_in hq.1 hq.2.1 hb.1
    obtain ⟨l, hl⟩ : ∃ l, d.L[i]? = some l := ⟨_, List.getElem?_eq_getElem (by rw [hd.len]; exact hi)⟩
    simp only [hl, Option.getD_some]
    have hok := put_ok hd hl (p := (q.1 - q.1 % d.c.s i, q.2)) ⟨hs.1, hs.2, hq.2.2.1, hq.2.2.2⟩
    have r := goesF_kept d.c.many (d.put i (setL d.c i (q.1 - q.1 % d.c.s i, q.2) l)) i (q.1 - q.1 % d.c.s i) hok hi hs.1 hs.2
    refine ⟨r.ok, r.cfg, fun ha => r.al (put_al ha hl (al_sub _ _)), ?_⟩
    rw [r.low 0 (by omega)]
    unfold RDb.put
    by_cases e : i = 0
    · subst e
      rw [if_pos rfl, List.getElem?_set_self (by rw [hd.len]; exact hi), hl]
      rfl
    · rw [if_neg (by simpa using e), List.getElem?_set_ne e]

theorem ptErr_in {c : Cfg} {now : Int} {q : Pt} (h : ptErr c now q = 0) : PtIn q := by
  unfold ptErr at h
  split at h
  · simp at h
  · rename_i h1; exact Classical.not_not.1 h1
theorem errFrom_zero {c : Cfg} {now : Int} : ∀ (l : List Pt) (k : Nat), ((errFrom c now k l).getD (0, 0)).1 = 0 → ∀ q ∈ l, ptErr c now q = 0
  | [], _, _, q, hq => by simp at hq
  | x :: l, k, h, q, hq => by
    rw [errFrom] at h
    split at h
    · rename_i hx
      rcases List.mem_cons.1 hq with rfl | hq
      · exact hx
      · exact errFrom_zero l (k + 1) h q hq
    · rename_i hx
      exact absurd h hx
theorem writesAll_kept {now : Int} : ∀ (l : List Pt) (d : RDb), d.Ok → (∀ q ∈ l, PtIn q) → (writesAll d now l).Ok ∧ (writesAll d now l).c = d.c ∧ (d.Al → (writesAll d now l).Al)
  | [], d, hd, _ => ⟨hd, rfl, id⟩
  | q :: l, d, hd, hl => by
    obtain ⟨a, b, c, _⟩ := writesR_kept (now := now) hd (hl q (by simp))
    obtain ⟨a', b', c'⟩ := writesAll_kept l (writesR d now q) a fun x hx => hl x (by simp [hx])
    exact ⟨a', b'.trans b, fun h => c' (c h)⟩
theorem updR_kept {d : RDb} {now : Int} {l : List Pt} (hd : d.Ok) : (updR d now l).Ok ∧ (updR d now l).c = d.c ∧ (d.Al → (updR d now l).Al) := by
  unfold updR
  split
  · rename_i h
    unfold updErr at h
    split at h
    · simp at h
    · exact writesAll_kept l d hd fun q hq => ptErr_in (errFrom_zero l 0 h q hq)
  · exact ⟨hd, rfl, id⟩
theorem new_al (c : Cfg) (L : List (List Pt)) (h : ∀ l ∈ L, l = []) : (RDb.mk c L).Al := by
  intro i l hl q hq
  rw [h l (List.mem_iff_getElem?.2 ⟨i, hl⟩)] at hq
  simp at hq
end Go.Proofs.YthbbfjfekchdiaaGreat
/-
  The program's small functions.
-/
namespace Go.Proofs.YthbbfjfekchdiaaGreat
open Go.RowKit
set_option linter.unusedSimpArgs false

/-- an archive's value -/
abbrev arcV (s : Int) (g k cap : Nat) : Value := .agg #[i64 s, .slice (some ⟨g, 0, none⟩) k cap]

set_option maxHeartbeats 400000 in
theorem zstamp_any (x : Int) (w : World) :
    Calls Tryz.prog 62 #[i64 x] w fun e w' => e = .returned (.bool (decide (0 ≤ x) && decide (x ≤ 2147483647))) ∧ w' = w := by
  go_enter Tryz.func62, Tryz.ntmps62
  go_wp2
  all_goals go_ret
  all_goals exact ⟨by simp [*]; try omega, rfl⟩

set_option maxHeartbeats 400000 in
theorem zvalue_any (x : Int) (w : World) :
    Calls Tryz.prog 96 #[i64 x] w fun e w' => e = .returned (.bool (decide (-1000000000 ≤ x) && decide (x ≤ 1000000000))) ∧ w' = w := by
  go_enter Tryz.func96, Tryz.ntmps96
  go_wp2
  all_goals go_ret
  all_goals exact ⟨by simp [*]; try omega, rfl⟩

set_option maxHeartbeats 400000 in
theorem zreach_any (s : Int) (g k cap : Nat) (w : World) (h0 : 0 ≤ s * (k : Int)) (h1 : s * (k : Int) ≤ 1000000000) :
    Calls Tryz.prog 89 #[arcV s g k cap] w fun e w' => e = .returned (i64 (s * (k : Int))) ∧ Below w.heap.size w w' := by
  go_enter Tryz.func89, Tryz.ntmps89
  go_wp2
  go_ret
  exact ⟨rfl, (Below.refl _ _).alloc (Nat.le_refl _) _⟩

set_option maxHeartbeats 400000 in
theorem zoldest_any (s now P : Int) (g k cap : Nat) (w : World) (hP : Hid (P = s * (k : Int))) (h0 : 0 ≤ P) (h1 : P ≤ 1000000000) (n0 : -1000000000000 ≤ now) (n1 : now ≤ 1000000000000) :
    Calls Tryz.prog 65 #[arcV s g k cap, i64 now] w fun e w' => e = .returned (i64 (now - P + 1)) ∧ Below w.heap.size w w' := by
  have HR := hid (fun (w : World) => zreach_any s g k cap w (by rw [← hP.out]; exact h0) (by rw [← hP.out]; exact h1))
  rw [← hP.out] at HR
  go_enter Tryz.func65, Tryz.ntmps65
  go_wp2_with fail
  refine (HR.out _).mono ?_
  rintro e w1 ⟨rfl, hb⟩
  have HB := hid (show Below w.heap.size w w1 from ((Below.refl _ w).alloc (Nat.le_refl _) _).trans (hb.mono (by simp)))
  clear hb
  go_wp2
  go_ret
  exact ⟨rfl, HB.out⟩

set_option maxHeartbeats 400000 in
theorem zcovers_any (s now t P : Int) (g k cap : Nat) (w : World) (hP : Hid (P = s * (k : Int))) (h0 : 0 ≤ P) (h1 : P ≤ 1000000000) (n0 : -1000000000000 ≤ now) (n1 : now ≤ 1000000000000) :
    Calls Tryz.prog 98 #[arcV s g k cap, i64 now, i64 t] w fun e w' => e = .returned (.bool (decide (t ≤ now) && decide (now - t < P))) ∧ Below w.heap.size w w' := by
  have HO := hid (fun (w : World) => zoldest_any s now P g k cap w hP h0 h1 n0 n1)
  go_enter Tryz.func98, Tryz.ntmps98
  go_wp2_with fail
  refine (HO.out _).mono ?_
  rintro e w1 ⟨rfl, hb⟩
  have HB := hid (show Below w.heap.size w w1 from ((Below.refl _ w).alloc (Nat.le_refl _) _).trans (hb.mono (by simp)))
  clear hb
  go_wp2
  all_goals go_ret
  all_goals exact ⟨congrArg (fun b => Ending.returned (Value.bool b)) (by rw [Bool.eq_iff_iff]; simp; omega), HB.out⟩

set_option maxHeartbeats 400000 in
theorem zbegin_any (s t : Int) (g k cap : Nat) (w : World) (s1 : 1 ≤ s) (s2 : s ≤ 1000000) (t0 : 0 ≤ t) (t1 : t ≤ 1000000000000) :
    Calls Tryz.prog 102 #[arcV s g k cap, i64 t] w fun e w' => e = .returned (i64 (t - t % s)) ∧ Below w.heap.size w w' := by
  have r0 : 0 ≤ t % s := Int.emod_nonneg _ (by omega)
  have r1 : t % s < s := Int.emod_lt_of_pos _ (by omega)
  go_enter Tryz.func102, Tryz.ntmps102
  go_wp2
  all_goals go_ret
  all_goals exact ⟨rfl, (Below.refl _ _).alloc (Nat.le_refl _) _⟩

set_option maxHeartbeats 400000 in
theorem zslot_any (s t : Int) (g k cap : Nat) (w : World) (s1 : 1 ≤ s) (s2 : s ≤ 1000000) (t0 : 0 ≤ t) (t1 : t ≤ 1000000000000) (k1 : 1 ≤ k) (k2 : k ≤ 1000) :
    Calls Tryz.prog 103 #[arcV s g k cap, i64 t] w fun e w' => e = .returned (i64 (t / s % (k : Int))) ∧ Below w.heap.size w w' := by
  have r0 : 0 ≤ t / s := Int.ediv_nonneg (by omega) (by omega)
  have r1 : t / s ≤ t := Int.ediv_le_self _ (by omega)
  have k0 : (1 : Int) ≤ (k : Int) := by omega
  have k3 : (k : Int) ≤ 1000 := by omega
  go_enter Tryz.func103, Tryz.ntmps103
  go_wp2_with fail
  go_quiet (fail)
  go_wp2
  go_ret
  exact ⟨rfl, below_drewN ((Below.refl _ _).alloc (Nat.le_refl _) _) _⟩
end Go.Proofs.YthbbfjfekchdiaaGreat
