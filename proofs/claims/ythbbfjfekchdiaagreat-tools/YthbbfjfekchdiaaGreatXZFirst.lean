import Derived.Test.YthbbfjfekchdiaaGreatXRFetch
import Derived.Test.YthbbfjfekchdiaaGreatXLeafWalks
import Derived.Test.YthbbfjfekchdiaaGreatXRHas
import Derived.Test.YthbbfjfekchdiaaGreatXHKeepsP
import Derived.Test.YthbbfjfekchdiaaGreatXCGood0
import Derived.BigQuiet
import Derived.Deep.QuietTactic
import Derived.WalkSpells
namespace Go.Proofs.YthbbfjfekchdiaaGreat
def RDb.Al (d : RDb) : Prop := ∀ (i : Nat) (l : List Pt), d.L[i]? = some l → ∀ q ∈ l, q.1 % d.c.s i = 0
theorem put_at {d : RDb} {i j : Nat} {l l' : List Pt} (h : (d.put i l).L[j]? = some l') : (j = i ∧ l' = l) ∨ (j ≠ i ∧ d.L[j]? = some l') := by
  unfold RDb.put at h
  by_cases e : i = j
  · subst e
    simp only [List.getElem?_set_self'] at h
    cases hd : d.L[i]? with
    | none => rw [hd] at h; simp at h
    | some x => rw [hd] at h; exact .inl ⟨rfl, by simpa using h.symm⟩
  · exact .inr ⟨fun x => e x.symm, by simpa [List.getElem?_set_ne e] using h⟩
theorem put_al {d : RDb} (h : d.Al) {i : Nat} {l : List Pt} (hl : d.L[i]? = some l) {p : Pt} (hp : p.1 % d.c.s i = 0) : (d.put i (setL d.c i p l)).Al := by
  intro j l' hj q hq
  rcases put_at hj with ⟨rfl, rfl⟩ | ⟨_, h'⟩
  · unfold setL othersL at hq
    rcases List.mem_append.1 hq with hq | hq
    · exact h _ l hl q (List.mem_filter.1 hq).1
    · rw [List.mem_singleton.1 hq]; exact hp
  · exact h j l' h' q hq
theorem al_sub (t s : Int) : (t - t % s) % s = 0 := Int.emod_eq_zero_of_dvd (Int.dvd_self_sub_of_emod_eq rfl)
theorem Cfg.bd {c : Cfg} (h : c.Ok) {i : Nat} (hi : i < c.many) : c.Bd i := (bdB_all (c.ok_iff.1 h).2.2.2.2.1) i hi
theorem sub_in {t s : Int} (h0 : 0 ≤ t) (h1 : t ≤ 2147483647) (hs : 1 ≤ s) : 0 ≤ t - t % s ∧ t - t % s ≤ 2147483647 := by
  have := Int.emod_nonneg t (show s ≠ 0 by omega)
  have h2 : t % s ≤ t := by
    have h3 := Int.mul_ediv_add_emod t s
    have h4 := Int.mul_nonneg (show 0 ≤ s by omega) (Int.ediv_nonneg h0 (show 0 ≤ s by omega))
    omega
  omega
theorem new_al (c : Cfg) (L : List (List Pt)) (h : ∀ l ∈ L, l = []) : (RDb.mk c L).Al := by
  intro i l hl q hq
  rw [h l (List.mem_iff_getElem?.2 ⟨i, hl⟩)] at hq
  simp at hq
end Go.Proofs.YthbbfjfekchdiaaGreat
namespace Go.Proofs.YthbbfjfekchdiaaGreat
open Go.RowKit
set_option linter.unusedSimpArgs false
abbrev arcV (s : Int) (g k cap : Nat) : Value := .agg #[i64 s, .slice (some ⟨g, 0, none⟩) k cap]
set_option maxHeartbeats 400000 in
theorem zstamp_any (x : Int) (w : World) :
    Calls Tryz.prog 62 #[i64 x] w fun e w' => e = .returned (.bool (decide (0 ≤ x) && decide (x ≤ 2147483647))) ∧ w' = w := by
  go_enter Tryz.func62, Tryz.ntmps62
  go_wp2
  all_goals go_ret
  all_goals exact ⟨by simp [*]; try omega, rfl⟩
set_option maxHeartbeats 400000 in
theorem zvalue_any (x : Int) (w : World) :
    Calls Tryz.prog 96 #[i64 x] w fun e w' => e = .returned (.bool (decide (-1000000000 ≤ x) && decide (x ≤ 1000000000))) ∧ w' = w := by
  go_enter Tryz.func96, Tryz.ntmps96
  go_wp2
  all_goals go_ret
  all_goals exact ⟨by simp [*]; try omega, rfl⟩
set_option maxHeartbeats 400000 in
theorem zreach_any (s : Int) (g k cap : Nat) (w : World) (h0 : 0 ≤ s * (k : Int)) (h1 : s * (k : Int) ≤ 1000000000) :
    Calls Tryz.prog 89 #[arcV s g k cap] w fun e w' => e = .returned (i64 (s * (k : Int))) ∧ Below w.heap.size w w' := by
  go_enter Tryz.func89, Tryz.ntmps89
  go_wp2
  go_ret
  exact ⟨rfl, (Below.refl _ _).alloc (Nat.le_refl _) _⟩
set_option maxHeartbeats 400000 in
theorem zoldest_any (s now P : Int) (g k cap : Nat) (w : World) (hP : Hid (P = s * (k : Int))) (h0 : 0 ≤ P) (h1 : P ≤ 1000000000) (n0 : -1000000000000 ≤ now) (n1 : now ≤ 1000000000000) :
    Calls Tryz.prog 65 #[arcV s g k cap, i64 now] w fun e w' => e = .returned (i64 (now - P + 1)) ∧ Below w.heap.size w w' := by
  have HR := hid (fun (w : World) => zreach_any s g k cap w (by rw [← hP.out]; exact h0) (by rw [← hP.out]; exact h1))
  rw [← hP.out] at HR
  go_enter Tryz.func65, Tryz.ntmps65
  go_wp2_with fail
  refine (HR.out _).mono ?_
  rintro e w1 ⟨rfl, hb⟩
  have HB := hid (show Below w.heap.size w w1 from ((Below.refl _ w).alloc (Nat.le_refl _) _).trans (hb.mono (by simp)))
  clear hb
  go_wp2
  go_ret
  exact ⟨rfl, HB.out⟩
set_option maxHeartbeats 400000 in
theorem zcovers_any (s now t P : Int) (g k cap : Nat) (w : World) (hP : Hid (P = s * (k : Int))) (h0 : 0 ≤ P) (h1 : P ≤ 1000000000) (n0 : -1000000000000 ≤ now) (n1 : now ≤ 1000000000000) :
    Calls Tryz.prog 98 #[arcV s g k cap, i64 now, i64 t] w fun e w' => e = .returned (.bool (decide (t ≤ now) && decide (now - t < P))) ∧ Below w.heap.size w w' := by
  have HO := hid (fun (w : World) => zoldest_any s now P g k cap w hP h0 h1 n0 n1)
  go_enter Tryz.func98, Tryz.ntmps98
  go_wp2_with fail
  refine (HO.out _).mono ?_
  rintro e w1 ⟨rfl, hb⟩
  have HB := hid (show Below w.heap.size w w1 from ((Below.refl _ w).alloc (Nat.le_refl _) _).trans (hb.mono (by simp)))
  clear hb
  go_wp2
  all_goals go_ret
  all_goals exact ⟨congrArg (fun b => Ending.returned (Value.bool b)) (by rw [Bool.eq_iff_iff]; simp; omega), HB.out⟩
set_option maxHeartbeats 400000 in
theorem zbegin_any (s t : Int) (g k cap : Nat) (w : World) (s1 : 1 ≤ s) (s2 : s ≤ 1000000) (t0 : 0 ≤ t) (t1 : t ≤ 1000000000000) :
    Calls Tryz.prog 102 #[arcV s g k cap, i64 t] w fun e w' => e = .returned (i64 (t - t % s)) ∧ Below w.heap.size w w' := by
  have r0 : 0 ≤ t % s := Int.emod_nonneg _ (by omega)
  have r1 : t % s < s := Int.emod_lt_of_pos _ (by omega)
  go_enter Tryz.func102, Tryz.ntmps102
  go_wp2
  all_goals go_ret
  all_goals exact ⟨rfl, (Below.refl _ _).alloc (Nat.le_refl _) _⟩
set_option maxHeartbeats 400000 in
theorem zslot_any (s t : Int) (g k cap : Nat) (w : World) (s1 : 1 ≤ s) (s2 : s ≤ 1000000) (t0 : 0 ≤ t) (t1 : t ≤ 1000000000000) (k1 : 1 ≤ k) (k2 : k ≤ 1000) :
    Calls Tryz.prog 103 #[arcV s g k cap, i64 t] w fun e w' => e = .returned (i64 (t / s % (k : Int))) ∧ Below w.heap.size w w' := by
  have r0 : 0 ≤ t / s := Int.ediv_nonneg (by omega) (by omega)
  have r1 : t / s ≤ t := Int.ediv_le_self _ (by omega)
  have k0 : (1 : Int) ≤ (k : Int) := by omega
  have k3 : (k : Int) ≤ 1000 := by omega
  go_enter Tryz.func103, Tryz.ntmps103
  go_wp2_with fail
  go_quiet (fail)
  go_wp2
  go_ret
  exact ⟨rfl, below_drewN ((Below.refl _ _).alloc (Nat.le_refl _) _) _⟩
end Go.Proofs.YthbbfjfekchdiaaGreat
namespace Go.Proofs.YthbbfjfekchdiaaGreat
open Go.RowKit
def slotAt (c : Cfg) (i : Nat) (l : List Pt) (j : Nat) : Option Pt := l.find? fun q => slotOf c i q.1 == (j : Int)
def slotCells : Option Pt → List Value
  | some q => [.bool true, i64 q.1, i64 q.2]
  | none => [.bool false, i64 0, i64 0]
def slotsL (c : Cfg) (i : Nat) (l : List Pt) (k : Nat) : List (Option Pt) := (List.range k).map (slotAt c i l)
def slotBlk (L : List (Option Pt)) : Array Value := (L.flatMap slotCells).toArray
theorem slotCells_len (o : Option Pt) : (slotCells o).length = 3 := by cases o <;> rfl
theorem slots_len (L : List (Option Pt)) : (L.flatMap slotCells).length = 3 * L.length := by
  induction L with
  | nil => rfl
  | cons a L ih => rw [List.flatMap_cons, List.length_append, ih, slotCells_len, List.length_cons]; omega
theorem slots_at {L : List (Option Pt)} {n : Nat} {o : Option Pt} (h : L[n]? = some o) (j : Nat) (hj : j < 3) : (L.flatMap slotCells)[n * 3 + j]? = (slotCells o)[j]? := by
  induction L generalizing n with
  | nil => simp at h
  | cons a L ih =>
    rw [List.flatMap_cons]
    cases n with
    | zero =>
      simp at h
      subst h
      rw [Nat.zero_mul, Nat.zero_add, List.getElem?_append_left (by rw [slotCells_len]; exact hj)]
    | succ n =>
      rw [List.getElem?_append_right (by rw [slotCells_len]; omega), slotCells_len, show (n + 1) * 3 + j - 3 = n * 3 + j by omega]
      exact ih (by simpa using h)
theorem slots_set {L : List (Option Pt)} {n : Nat} (hn : n < L.length) (q : Pt) : (((L.flatMap slotCells).set (n * 3) (.bool true)).set (n * 3 + 1) (i64 q.1)).set (n * 3 + 2) (i64 q.2) = (L.set n (some q)).flatMap slotCells := by
  induction L generalizing n with
  | nil => simp at hn
  | cons a L ih =>
    cases n with
    | zero =>
      rw [List.set_cons_zero, List.flatMap_cons, List.flatMap_cons]
      cases a <;> rfl
    | succ n =>
      rw [List.set_cons_succ, List.flatMap_cons, List.flatMap_cons, ← ih (by simpa using hn)]
      rw [List.set_append_right _ _ (by rw [slotCells_len]; omega), List.set_append_right _ _ (by rw [slotCells_len]; omega), List.set_append_right _ _ (by rw [slotCells_len]; omega), slotCells_len]
      congr 1
      rw [show (n + 1) * 3 - 3 = n * 3 by omega, show (n + 1) * 3 + 1 - 3 = n * 3 + 1 by omega, show (n + 1) * 3 + 2 - 3 = n * 3 + 2 by omega]
theorem slotBlk_set {L : List (Option Pt)} {n : Nat} (hn : n < L.length) (q : Pt) : (((slotBlk L).setIfInBounds (n * 3) (.bool true)).setIfInBounds (n * 3 + 1) (i64 q.1)).setIfInBounds (n * 3 + 2) (i64 q.2) = slotBlk (L.set n (some q)) := by
  unfold slotBlk
  rw [← slots_set hn q]
  simp
theorem slotBlk_at {L : List (Option Pt)} {n : Nat} {o : Option Pt} (h : L[n]? = some o) (j : Nat) (hj : j < 3) : (slotBlk L)[n * 3 + j]? = (slotCells o)[j]? := by
  unfold slotBlk
  rw [List.getElem?_toArray]
  exact slots_at h j hj
theorem slotsL_len (c : Cfg) (i : Nat) (l : List Pt) (k : Nat) : (slotsL c i l k).length = k := by unfold slotsL; simp
theorem slotsL_set {c : Cfg} {i : Nat} {l : List Pt} {k n : Nat} {p : Pt} (e : slotOf c i p.1 = (n : Int)) : slotsL c i (setL c i p l) k = (slotsL c i l k).set n (some p) := by
  unfold slotsL
  apply List.ext_getElem?
  intro j
  rw [List.getElem?_map, List.getElem?_set]
  by_cases hj : j < k
  · rw [List.getElem?_range hj, Option.map_some]
    by_cases hn : n = j
    · subst hn
      rw [if_pos rfl, if_pos (by simpa using hj)]
      unfold slotAt setL othersL
      rw [List.find?_append, List.find?_filter]
      have h1 : List.find? (fun a => decide ((slotOf c i a.1 != slotOf c i p.1) = true ∧ (slotOf c i a.1 == (n : Int)) = true)) l = none := by
        rw [List.find?_eq_none]
        intro x _ h
        simp [e] at h
      rw [h1]
      simp [e]
    · rw [if_neg hn, List.getElem?_map, List.getElem?_range hj, Option.map_some]
      unfold slotAt setL othersL
      rw [List.find?_append, List.find?_filter]
      have h2 : (fun a : Pt => decide ((slotOf c i a.1 != slotOf c i p.1) = true ∧ (slotOf c i a.1 == (j : Int)) = true)) = fun a => slotOf c i a.1 == (j : Int) := by
        funext a
        rw [e]
        by_cases h : slotOf c i a.1 = (j : Int)
        · simp [h]; omega
        · simp [h]
      rw [h2]
      have h3 : List.find? (fun q : Pt => slotOf c i q.1 == (j : Int)) [p] = none := by
        simp [e]
        omega
      rw [h3]
      simp
  · rw [List.getElem?_eq_none (by simpa using hj)]
    by_cases hn : n = j
    · rw [if_pos hn, if_neg (by simpa using by omega)]; rfl
    · rw [if_neg hn, List.getElem?_eq_none (by simpa using hj)]; rfl
structure ZRep (w : World) (In : Nat → Prop) (p : Nat) (d : RDb) : Prop where
  ok : d.Ok
  al : d.Al
  inp : In p
  mem : ∃ (gl cap : Nat) (cur : Array Value) (gs : List Nat), In gl ∧ w.heap[p]? = some (.cells #[.slice (some ⟨gl, 0, none⟩) d.c.many cap, .iface (methT d.c.m) (.agg #[]), i64 d.c.f] 89) ∧
    w.heap[gl]? = some (.cells cur 94) ∧ gs.length = d.c.many ∧ gs.Nodup ∧ (∀ g ∈ gs, In g) ∧
    ∀ (i g : Nat) (l : List Pt), gs[i]? = some g → d.L[i]? = some l → cur[i * 2]? = some (i64 (d.c.s i)) ∧ cur[i * 2 + 1]? = some (.slice (some ⟨g, 0, none⟩) (d.c.k i).toNat (d.c.k i).toNat) ∧ w.heap[g]? = some (.cells (slotBlk (slotsL d.c i l (d.c.k i).toNat)) 116)
theorem ZRep.weak {w : World} {In In' : Nat → Prop} {p : Nat} {d : RDb} (h : ZRep w In p d) (hs : ∀ k, In k → In' k) : ZRep w In' p d := by
  obtain ⟨gl, cap, cur, gs, a, b, c, e, f, g, r⟩ := h.mem
  exact ⟨h.ok, h.al, hs _ h.inp, gl, cap, cur, gs, hs _ a, b, c, e, f, fun x hx => hs _ (g x hx), r⟩
theorem ZRep.fr {w w' : World} {In Out : Nat → Prop} {p : Nat} {d : RDb} (h : ZRep w In p d) (hf : Fr Out w w') (hn : ∀ k, In k → ¬ Out k) : ZRep w' In p d := by
  obtain ⟨gl, cap, cur, gs, a, b, c, e, f, g, r⟩ := h.mem
  refine ⟨h.ok, h.al, h.inp, gl, cap, cur, gs, a, (hf.block p (blk_lt b) (hn _ h.inp)).trans b, (hf.block gl (blk_lt c) (hn _ a)).trans c, e, f, g, fun i x l hx hl => ?_⟩
  obtain ⟨r1, r2, r3⟩ := r i x l hx hl
  exact ⟨r1, r2, (hf.block x (blk_lt r3) (hn _ (g x (List.mem_of_getElem? hx)))).trans r3⟩
theorem ZRep.lim {w : World} {In : Nat → Prop} {p : Nat} {d : RDb} (h : ZRep w In p d) : ZRep w (fun k => In k ∧ k < w.heap.size) p d := by
  obtain ⟨gl, cap, cur, gs, a, b, c, e, f, g, r⟩ := h.mem
  refine ⟨h.ok, h.al, ⟨h.inp, blk_lt b⟩, gl, cap, cur, gs, ⟨a, blk_lt c⟩, b, c, e, f, fun x hx => ⟨g x hx, ?_⟩, r⟩
  obtain ⟨i, hi⟩ := List.mem_iff_getElem?.1 hx
  have hil : i < d.c.many := by
    obtain ⟨y, _⟩ := List.getElem?_eq_some_iff.1 hi
    omega
  exact blk_lt (r i x _ hi (List.getElem?_eq_getElem (by rw [h.ok.len]; exact hil))).2.2
end Go.Proofs.YthbbfjfekchdiaaGreat
namespace Go.Proofs.YthbbfjfekchdiaaGreat
open Go.RowKit
set_option linter.unusedSimpArgs false
theorem ZRep.arch {w : World} {In : Nat → Prop} {p : Nat} {d : RDb} (h : ZRep w In p d) : ∃ gl cap, w.cell? ⟨p, 0, none⟩ = some (.slice (some ⟨gl, 0, none⟩) d.c.many cap) ∧ p < w.heap.size ∧ gl < w.heap.size ∧
    ∀ i, i < d.c.many → ∃ g, w.cell? ⟨gl, i * 2, none⟩ = some (i64 (d.c.s i)) ∧ w.cell? ⟨gl, i * 2 + 1, none⟩ = some (.slice (some ⟨g, 0, none⟩) (d.c.k i).toNat (d.c.k i).toNat) := by
  obtain ⟨gl, cap, cur, gs, a, b, c, e, f, g, r⟩ := h.mem
  refine ⟨gl, cap, cell_of_blk b 0, blk_lt b, blk_lt c, fun i hi => ?_⟩
  obtain ⟨x, hx⟩ : ∃ x, gs[i]? = some x := ⟨_, List.getElem?_eq_getElem (by omega)⟩
  obtain ⟨r1, r2, _⟩ := r i x _ hx (List.getElem?_eq_getElem (by rw [h.ok.len]; exact hi))
  exact ⟨x, by rw [cell_of_blk c]; exact r1, by rw [cell_of_blk c]; exact r2⟩
set_option maxHeartbeats 2000000 in
theorem zfirst_any (p : Nat) (now t : Int) (d : RDb) (In : Nat → Prop) (w : World) (h : ZRep w In p d) (n0 : -1000000000000 ≤ now) (n1 : now ≤ 1000000000000) :
    Calls Tryz.prog 83 #[.pointer (some ⟨p, 0, none⟩), i64 now, i64 t] w fun e w' => e = .returned (.tuple #[i64 (max 0 (firstI d.c now t)), .bool (decide (0 ≤ firstI d.c now t))]) ∧ Below w.heap.size w w' := by
  obtain ⟨gl, cap, p0, hp, hg, har⟩ := h.arch
  have h4 := d.c.many_le
  have HBD := hid (fun (i : Nat) (hi : i < d.c.many) => Cfg.bd h.ok.cfg hi)
  have HAR := hid har
  obtain ⟨c, hc⟩ : ∃ c, c = d.c := ⟨_, rfl⟩
  rw [← hc] at HBD HAR h4 p0 ⊢
  clear h har hc
  go_enter Tryz.func83, Tryz.ntmps83
  go_wp2
  go_loopw [15] (fun i wr => ∃ k : Nat, k ≤ c.many ∧ i = i64 k ∧ (∀ j, j < k → covB c j now t = false) ∧ Below w.heap.size w wr) (fun i _ => c.many - (intOf i).toNat)
  case atStart => exact ⟨0, by omega, rfl, fun j hj => by omega, Below.refl _ _⟩
  case round =>
    obtain ⟨k, hk, rfl, hz, hb⟩ := hrel
    have HZ := hid hz
    have HB := hid hb
    clear hz hb
    by_cases hlt : k < c.many
    rotate_left
    · have HF := hid (firstI_none (c := c) (now := now) (t := t) fun j hj => HZ.out j (by omega))
      go_wp2
      refine bodyPost_ret (v := .tuple #[i64 0, .bool false]) (by simp [results, Tryz.results83, go_sem]) rfl ⟨by rw [HF.out]; rfl, HB.out⟩
    obtain ⟨g, c0, c1⟩ := HAR.out k hlt
    obtain ⟨b1, b2, b3, b4⟩ := HBD.out k hlt
    have d0 : wr.cell? ⟨gl, k * 2, none⟩ = some (i64 (c.s k)) := cell_later HB.out c0
    have d1 : wr.cell? ⟨gl, k * 2 + 1, none⟩ = some (.slice (some ⟨g, 0, none⟩) (c.k k).toNat (c.k k).toNat) := cell_later HB.out c1
    have hgz : gl < wr.heap.size := by have := HB.out.size; omega
    have k0 : (0 : Int) ≤ (k : Int) := by omega
    have k1 : (k : Int) < (c.many : Int) := by omega
    obtain ⟨N, hN⟩ : ∃ N : Nat, N = (c.k k).toNat := ⟨_, rfl⟩
    have hNk : (N : Int) = c.k k := by omega
    rw [← hN] at d1
    obtain ⟨S, hS⟩ : ∃ S, S = c.s k := ⟨_, rfl⟩
    rw [← hS] at d0 b1 b2
    obtain ⟨P, hP⟩ : ∃ P, P = S * (N : Int) := ⟨_, rfl⟩
    have P0 : 0 ≤ P := by rw [hP]; exact Int.mul_nonneg (by omega) (by omega)
    have P1 : P ≤ 1000000000 := by
      rw [hP]
      have h1 : S * (N : Int) ≤ S * 60 := Int.mul_le_mul_of_nonneg_left (by omega) (by omega)
      omega
    have HP := hid hP
    have HCV := hid (show covB c k now t = (decide (t ≤ now) && decide (now - t < P)) by unfold covB; rw [hP, hS, hNk])
    clear c0 c1 hN hS hP hNk b3 b4
    go_wp2_with fail
    refine (zcovers_any S now t P g N N _ HP P0 P1 n0 n1).mono ?_
    rintro e w1 ⟨rfl, hb1⟩
    rw [← HCV.out]
    have HB1 := hid (show Below w.heap.size w w1 from (HB.out.alloc HB.out.size _).trans (hb1.mono (by have := HB.out.size; simp; omega)))
    clear hb1
    by_cases hcv : covB c k now t = true
    · have HF := hid (firstI_at hlt HZ.out hcv)
      rw [hcv]
      clear hcv
      go_wp2
      refine bodyPost_ret (v := .tuple #[i64 k, .bool true]) (by simp [results, Tryz.results83, go_sem]) rfl ⟨?_, HB1.out⟩
      rw [HF.out]
      have e1 : max (0 : Int) (k : Int) = (k : Int) := by omega
      have e2 : decide ((0 : Int) ≤ (k : Int)) = true := decide_eq_true (by omega)
      rw [e1, e2]
    · have hcf : covB c k now t = false := by simpa using hcv
      have HZ' := hid (show ∀ j, j < k + 1 → covB c j now t = false from fun j hj => by
        by_cases e : j = k
        · subst e; exact hcf
        · exact HZ.out j (by omega))
      rw [hcf]
      clear hcv hcf
      go_wp2
      go_roundw
      case rel => first | exact ⟨k + 1, by omega, by go_num, HZ'.out, HB1.out⟩ | ((repeat apply Exists.intro); exact ⟨⟨k + 1, by omega, by go_num, HZ'.out, HB1.out⟩, rfl⟩)
      case measure => simp [intOf]; omega
set_option maxHeartbeats 2000000 in
theorem zrefusal_any (p : Nat) (now : Int) (q : Pt) (d : RDb) (In : Nat → Prop) (w : World) (h : ZRep w In p d) (n0 : -1000000000000 ≤ now) (n1 : now ≤ 1000000000000) :
    Calls Tryz.prog 80 #[.pointer (some ⟨p, 0, none⟩), i64 now, .agg #[i64 q.1, i64 q.2]] w fun e w' => e = .returned (i64 (ptErr d.c now q)) ∧ Below w.heap.size w w' := by
  have HF := hid (fun (w' : World) (hb : Below w.heap.size w w') => zfirst_any p now q.1 d In w' (h.fr (Fr.below (In := fun _ => False) hb) (fun _ _ x => x)) n0 n1)
  have HE := hid (show ptErr d.c now q = if ¬ PtIn q then 1 else if now < q.1 then 3 else if firstI d.c now q.1 < 0 then 4 else 0 from rfl)
  obtain ⟨qt, qv⟩ := q
  dsimp only at HF ⊢
  clear h
  have HAL := hid (fun (o : Obj) => (Below.refl w.heap.size w).alloc (Nat.le_refl _) o)
  by_cases hs : 0 ≤ qt ∧ qt ≤ 2147483647
  rotate_left
  · have HV := hid (show ptErr d.c now (qt, qv) = 1 by rw [HE.out, if_pos (fun x => hs ⟨x.1, x.2.1⟩)])
    have hd : (decide (0 ≤ qt) && decide (qt ≤ 2147483647)) = false := by
      rw [Bool.eq_false_iff]
      intro x
      simp at x
      exact hs x
    clear hs
    go_enter Tryz.func80, Tryz.ntmps80
    go_wp2_with fail
    refine (zstamp_any qt _).mono ?_
    rintro e w' ⟨rfl, rfl⟩
    rw [hd]
    clear hd
    go_wp2
    go_ret
    exact ⟨ret_int (by rw [HV.out]), HAL.out _⟩
  have hd : (decide (0 ≤ qt) && decide (qt ≤ 2147483647)) = true := by simp [hs]
  by_cases hv : -1000000000 ≤ qv ∧ qv ≤ 1000000000
  rotate_left
  · have HV := hid (show ptErr d.c now (qt, qv) = 1 by rw [HE.out, if_pos (fun x => hv x.2.2)])
    have hd2 : (decide (-1000000000 ≤ qv) && decide (qv ≤ 1000000000)) = false := by
      rw [Bool.eq_false_iff]
      intro x
      simp at x
      exact hv x
    clear hs hv
    go_enter Tryz.func80, Tryz.ntmps80
    go_wp2_with fail
    refine (zstamp_any qt _).mono ?_
    rintro e w' ⟨rfl, rfl⟩
    rw [hd]
    clear hd
    go_wp2_with fail
    refine (zvalue_any qv _).mono ?_
    rintro e w' ⟨rfl, rfl⟩
    rw [hd2]
    clear hd2
    go_wp2
    go_ret
    exact ⟨ret_int (by rw [HV.out]), HAL.out _⟩
  have hd2 : (decide (-1000000000 ≤ qv) && decide (qv ≤ 1000000000)) = true := by simp [hv]
  have HV := hid (show ptErr d.c now (qt, qv) = if now < qt then 3 else if firstI d.c now qt < 0 then 4 else 0 by rw [HE.out, if_neg (fun x => x ⟨hs.1, hs.2, hv.1, hv.2⟩)])
  clear hs hv HE
  go_enter Tryz.func80, Tryz.ntmps80
  go_wp2_with fail
  refine (zstamp_any qt _).mono ?_
  rintro e w' ⟨rfl, rfl⟩
  rw [hd]
  clear hd
  go_wp2_with fail
  refine (zvalue_any qv _).mono ?_
  rintro e w' ⟨rfl, rfl⟩
  rw [hd2]
  clear hd2
  by_cases hnow : now < qt
  · have HV2 := hid (show ptErr d.c now (qt, qv) = 3 by rw [HV.out, if_pos hnow])
    go_wp2
    go_ret
    exact ⟨ret_int (by rw [HV2.out]), HAL.out _⟩
  have HV2 := hid (show ptErr d.c now (qt, qv) = if firstI d.c now qt < 0 then 4 else 0 by rw [HV.out, if_neg hnow])
  go_wp2_with fail
  refine (HF.out _ (HAL.out _)).mono ?_
  rintro e w1 ⟨rfl, hb1⟩
  have HB1 := hid (show Below w.heap.size w w1 from (HAL.out _).trans (hb1.mono (by simp)))
  clear hb1
  by_cases hcv : firstI d.c now qt < 0
  · have HV3 := hid (show ptErr d.c now (qt, qv) = 4 by rw [HV2.out, if_pos hcv])
    have e2 : decide (0 ≤ firstI d.c now qt) = false := decide_eq_false (by omega)
    rw [e2]
    clear e2 hcv
    go_wp2
    go_ret
    exact ⟨ret_int (by rw [HV3.out]), HB1.out⟩
  · have HV3 := hid (show ptErr d.c now (qt, qv) = 0 by rw [HV2.out, if_neg hcv])
    have e2 : decide (0 ≤ firstI d.c now qt) = true := decide_eq_true (by omega)
    rw [e2]
    clear e2 hcv
    go_wp2
    go_ret
    exact ⟨ret_int (by rw [HV3.out]), HB1.out⟩
end Go.Proofs.YthbbfjfekchdiaaGreat
