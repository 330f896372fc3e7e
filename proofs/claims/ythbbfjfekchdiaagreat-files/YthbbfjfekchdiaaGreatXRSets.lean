import Derived.Test.YthbbfjfekchdiaaGreatXRHas
import Derived.Test.YthbbfjfekchdiaaGreatXRMakes6
import Derived.Deep.RegionHeld3
import Derived.Deep.QuietTactic
import Derived.BigQuiet
import Derived.Deep.DrawnRows
/-
  The document's database in memory: a block, its list of lists, the lists; 'In': the blocks that are its own.
-/
namespace Go.Proofs.YthbbfjfekchdiaaGreat
open Go.RowKit

/-- as Below, but for the blocks of a set -/
structure Fr (In : Nat → Prop) (w w' : World) : Prop where
  os : w'.os = w.os
  tape : w'.tape = w.tape
  output : w'.output = w.output
  size : w.heap.size ≤ w'.heap.size
  block : ∀ k, k < w.heap.size → ¬ In k → w'.heap[k]? = w.heap[k]?

theorem Fr.refl (In : Nat → Prop) (w : World) : Fr In w w := ⟨rfl, rfl, rfl, Nat.le_refl _, fun _ _ _ => rfl⟩
theorem Fr.below {In : Nat → Prop} {w w' : World} (h : Below w.heap.size w w') : Fr In w w' := ⟨h.os, h.tape, h.output, h.size, fun k hk _ => h.block k hk⟩
theorem Fr.trans {In In' : Nat → Prop} {a b c : World} (h : Fr In a b) (k : Fr In' b c) (hs : ∀ x, In' x → In x ∨ a.heap.size ≤ x) : Fr In a c := by
  refine ⟨k.os.trans h.os, k.tape.trans h.tape, k.output.trans h.output, Nat.le_trans h.size k.size, fun x hx hn => ?_⟩
  rw [k.block x (Nat.lt_of_lt_of_le hx h.size) fun y => (hs x y).elim hn (fun z => by omega)]
  exact h.block x hx hn
theorem Fr.setCell {In : Nat → Prop} {w w' : World} (h : Fr In w w') {b : Nat} (hb : In b) (o : Nat) (u : Value) : Fr In w (w'.setCell ⟨b, o, none⟩ u) := by
  refine ⟨h.os, h.tape, h.output, by rw [size_setCell]; exact h.size, fun k hk hn => ?_⟩
  have hkb : k ≠ b := fun e => hn (by rw [e]; exact hb)
  rw [blk_setCell_far (a := ⟨b, o, none⟩) hkb]
  exact h.block k hk hn
/-- old blocks of the set, and all new ones -/
def Up (In : Nat → Prop) (n : Nat) : Nat → Prop := fun k => In k ∨ n ≤ k

structure RRep (w : World) (In : Nat → Prop) (p : Nat) (d : RDb) : Prop where
  inp : In p
  mem : ∃ gl vs, w.heap[p]? = some (.cells #[i64 d.c.s0, i64 d.c.k0, i64 d.c.s1, i64 d.c.k1, i64 d.c.s2, i64 d.c.k2, i64 d.c.s3, i64 d.c.k3, i64 d.c.m, i64 d.c.f, .slice (some ⟨gl, 0, none⟩) d.c.many d.c.many] 70) ∧ w.heap[gl]? = some (.cells vs 41) ∧ vs.size = d.c.many ∧ In gl ∧
    ∀ (i : Nat) (l : List Pt), d.L[i]? = some l → ∃ v, vs[i]? = some v ∧ w.ownsRow 0 48 2 v l.length (ptCells l) ∧ ∀ b, v.ownBlock = some b → In b

/-- what holds of the document's data at all times: bounds -/
structure RDb.Ok (d : RDb) : Prop where
  cfg : d.c.Ok
  len : d.L.length = d.c.many
  pts : ∀ (i : Nat) (l : List Pt), d.L[i]? = some l → (∀ q ∈ l, PtIn q) ∧ l.length ≤ 60
  apart : ∀ (i : Nat) (l : List Pt), d.L[i]? = some l → (l.map fun q => slotOf d.c i q.1).Nodup

theorem RRep.weak {w : World} {In In' : Nat → Prop} {p : Nat} {d : RDb} (h : RRep w In p d) (hs : ∀ k, In k → In' k) : RRep w In' p d := by
  obtain ⟨gl, vs, a, b, c, e, f⟩ := h.mem
  exact ⟨hs _ h.inp, gl, vs, a, b, c, hs _ e, fun i l hl => by obtain ⟨v, x, y, z⟩ := f i l hl; exact ⟨v, x, y, fun b hb => hs _ (z b hb)⟩⟩
theorem owns_far {w w' : World} {base e size n : Nat} {v : Value} {xs : List Value} (h : w.ownsRow base e size v n xs) (hf : ∀ b, v.ownBlock = some b → b < w.heap.size → w'.heap[b]? = w.heap[b]?) : w'.ownsRow base e size v n xs := by
  obtain ⟨hl, h | ⟨g, cap, cur, hv, hg, hblk, r⟩⟩ := h
  · exact ⟨hl, .inl h⟩
  · exact ⟨hl, .inr ⟨g, cap, cur, hv, hg, (hf g (by rw [hv]; rfl) (blk_lt hblk)).trans hblk, r⟩⟩
/-- blocks of the set that are as they were -/
theorem RRep.later {w w' : World} {In : Nat → Prop} {p : Nat} {d : RDb} (h : RRep w In p d) (hb : Below w.heap.size w w') : RRep w' In p d := by
  obtain ⟨gl, vs, a, b, c, e, f⟩ := h.mem
  refine ⟨h.inp, gl, vs, blk_later hb (blk_lt a) a, blk_later hb (blk_lt b) b, c, e, fun i l hl => ?_⟩
  obtain ⟨v, x, y, z⟩ := f i l hl
  exact ⟨v, x, owns_below y hb, z⟩
theorem RRep.fr {w w' : World} {In Out : Nat → Prop} {p : Nat} {d : RDb} (h : RRep w In p d) (hb : Fr Out w w') (hd : ∀ k, In k → ¬ Out k) : RRep w' In p d := by
  obtain ⟨gl, vs, a, b, c, e, f⟩ := h.mem
  refine ⟨h.inp, gl, vs, (hb.block _ (blk_lt a) (hd _ h.inp)).trans a, (hb.block _ (blk_lt b) (hd _ e)).trans b, c, e, fun i l hl => ?_⟩
  obtain ⟨v, x, y, z⟩ := f i l hl
  exact ⟨v, x, owns_far y fun b hb' hlt => hb.block b hlt (hd b (z b hb')), z⟩

/-- one list anew -/
def RDb.put (d : RDb) (i : Nat) (l : List Pt) : RDb := { d with L := d.L.set i l }

/-- the last store of 'sets' -/
theorem rrep_set {w w3 : World} {In : Nat → Prop} {p gl i : Nat} {d : RDb} {vs : Array Value} {l' : List Pt} {v' : Value}
    (hp : w.heap[p]? = some (.cells #[i64 d.c.s0, i64 d.c.k0, i64 d.c.s1, i64 d.c.k1, i64 d.c.s2, i64 d.c.k2, i64 d.c.s3, i64 d.c.k3, i64 d.c.m, i64 d.c.f, .slice (some ⟨gl, 0, none⟩) d.c.many d.c.many] 70)) (hg : w.heap[gl]? = some (.cells vs 41)) (hs : vs.size = d.c.many) (ip : In p) (ig : In gl)
    (hr : ∀ (i : Nat) (l : List Pt), d.L[i]? = some l → ∃ v, vs[i]? = some v ∧ w.ownsRow 0 48 2 v l.length (ptCells l) ∧ ∀ b, v.ownBlock = some b → In b)
    (hi : i < d.c.many) (hb : Below w.heap.size w w3) (hown : w3.ownsRow w.heap.size 48 2 v' l'.length (ptCells l')) :
    RRep (w3.setCell ⟨gl, i, none⟩ v') (Up In w.heap.size) p (d.put i l') ∧ Fr In w (w3.setCell ⟨gl, i, none⟩ v') := by
  have hne : p ≠ gl := by
    intro e; subst e
    rw [hp] at hg
    simp at hg
  have hg3 := blk_later hb (blk_lt hg) hg
  have hp3 := blk_later hb (blk_lt hp) hp
  refine ⟨⟨.inl ip, gl, vs.setIfInBounds i v', ?_, blk_setCell hg3 i v', by simpa [RDb.put] using hs, .inl ig, ?_⟩, (Fr.below hb).setCell ig i v'⟩
  · rw [blk_setCell_far (by show p ≠ gl; exact hne)]
    exact hp3
  · intro j l hl
    by_cases e : i = j
    · subst e
      have hl' : l = l' := by
        unfold RDb.put at hl
        simp only [List.getElem?_set_self'] at hl
        cases h : d.L[i]? with
        | none => rw [h] at hl; simp at hl
        | some x => rw [h] at hl; simpa using hl.symm
      subst hl'
      refine ⟨v', by simp [hs, hi], ?_, ?_⟩
      · exact owns_base (ownsRow_setCell_below hown (by show gl < w.heap.size; exact blk_lt hg) v') (Nat.zero_le _)
      · intro b hb'
        exact .inr (hown.lt b hb').1
    · have hl2 : d.L[j]? = some l := by
        unfold RDb.put at hl
        simpa [List.getElem?_set_ne e] using hl
      obtain ⟨v, x, y, z⟩ := hr j l hl2
      refine ⟨v, by rw [Array.getElem?_setIfInBounds_ne e]; exact x, ?_, fun b hb' => .inl (z b hb')⟩
      refine owns_far (owns_below y hb) fun b hb' _ => blk_setCell_far ?_
      intro eb
      have eb' : b = gl := eb
      subst eb'
      obtain ⟨_, ⟨hv, _⟩ | ⟨g, cap, cur, hv, _, hblk, _⟩⟩ := y
      · rw [hv] at hb'; simp [Value.ownBlock] at hb'
      · rw [hv] at hb'
        simp only [Value.ownBlock, Option.some.injEq] at hb'
        rw [hb', hg] at hblk
        simp at hblk
end Go.Proofs.YthbbfjfekchdiaaGreat
/-
  'goes' of the document, as plain mathematics; that the data's bounds are kept.
-/
namespace Go.Proofs.YthbbfjfekchdiaaGreat

theorem nodup_len : ∀ (n : Nat) (l : List Int), l.Nodup → (∀ x ∈ l, 0 ≤ x ∧ x < (n : Int)) → l.length ≤ n
  | 0, l, _, h => by
    cases l with
    | nil => exact Nat.le_refl _
    | cons a l => have := h a (by simp); omega
  | n + 1, l, hd, h => by
    by_cases hm : (n : Int) ∈ l
    · have h1 := nodup_len n (l.erase n) (hd.erase _) fun x hx => by
        obtain ⟨hne, hx'⟩ := (List.Nodup.mem_erase_iff hd).1 hx
        have := h x hx'
        omega
      rw [List.length_erase_of_mem hm] at h1
      omega
    · have h1 := nodup_len n l hd fun x hx => by
        have := h x hx
        have : x ≠ (n : Int) := fun e => hm (e ▸ hx)
        omega
      omega

theorem slotOf_bd {c : Cfg} {i : Nat} (hb : c.Bd i) (t : Int) : 0 ≤ slotOf c i t ∧ slotOf c i t < c.k i := by
  unfold slotOf
  have := hb.2.2.1
  exact ⟨Int.emod_nonneg _ (by omega), Int.emod_lt_of_pos _ (by omega)⟩

theorem setL_apart {c : Cfg} {i : Nat} {p : Pt} {l : List Pt} (h : (l.map fun q => slotOf c i q.1).Nodup) : ((setL c i p l).map fun q => slotOf c i q.1).Nodup := by
  unfold setL othersL
  rw [List.map_append, List.nodup_append]
  refine ⟨?_, by simp, ?_⟩
  · exact h.sublist (List.Sublist.map _ List.filter_sublist)
  · intro a ha b hb e
    simp only [List.map_cons, List.map_nil, List.mem_singleton] at hb
    obtain ⟨q, hq, rfl⟩ := List.mem_map.1 ha
    have := (List.mem_filter.1 hq).2
    simp only [bne_iff_ne, ne_eq] at this
    exact this (e.trans hb)

theorem put_ok {d : RDb} (hd : d.Ok) {i : Nat} {l : List Pt} (hl : d.L[i]? = some l) {p : Pt} (hp : PtIn p) : (d.put i (setL d.c i p l)).Ok := by
  have hi : i < d.c.many := by
    obtain ⟨x, _⟩ := List.getElem?_eq_some_iff.1 hl
    rw [← hd.len]; exact x
  have hbd := (bdB_all (d.c.ok_iff.1 hd.cfg).2.2.2.2.1) i hi
  have key : ∀ (j : Nat) (l' : List Pt), (d.put i (setL d.c i p l)).L[j]? = some l' → (j = i ∧ l' = setL d.c i p l) ∨ (j ≠ i ∧ d.L[j]? = some l') := by
    intro j l' h
    unfold RDb.put at h
    by_cases e : i = j
    · subst e
      simp only [List.getElem?_set_self', hl] at h
      exact .inl ⟨rfl, by simpa using h.symm⟩
    · exact .inr ⟨fun x => e x.symm, by simpa [List.getElem?_set_ne e] using h⟩
  refine ⟨hd.cfg, by unfold RDb.put; simpa using hd.len, ?_, ?_⟩
  · intro j l' h
    rcases key j l' h with ⟨rfl, rfl⟩ | ⟨_, h'⟩
    · refine ⟨?_, ?_⟩
      · intro q hq
        unfold setL othersL at hq
        rcases List.mem_append.1 hq with hq | hq
        · exact (hd.pts _ l hl).1 q (List.mem_filter.1 hq).1
        · rw [List.mem_singleton.1 hq]; exact hp
      · have h1 := nodup_len (d.c.k j).toNat _ (setL_apart (p := p) (hd.apart j l hl)) fun x hx => by
          obtain ⟨q, _, rfl⟩ := List.mem_map.1 hx
          have := slotOf_bd hbd q.1
          omega
        rw [List.length_map] at h1
        have := hbd.2.2.2
        omega
    · exact hd.pts j l' h'
  · intro j l' h
    rcases key j l' h with ⟨rfl, rfl⟩ | ⟨_, h'⟩
    · exact setL_apart (hd.apart _ l hl)
    · exact hd.apart j l' h'

/-- the values that an archive has in a stretch, from a stamp on, of n aligned stamps -/
def valsTo (c : Cfg) (i : Nat) (l : List Pt) (fr : Int) (n : Nat) : List Int := (List.range n).filterMap fun j : Nat => (hasL (fr + (j : Int) * c.s i) l).map (·.2)
theorem valsTo_zero (c : Cfg) (i : Nat) (l : List Pt) (fr : Int) : valsTo c i l fr 0 = [] := rfl
theorem valsTo_succ (c : Cfg) (i : Nat) (l : List Pt) (fr : Int) (n : Nat) : valsTo c i l fr (n + 1) = valsTo c i l fr n ++ ((hasL (fr + n * c.s i) l).map (·.2)).toList := by
  unfold valsTo
  rw [List.range_succ, List.filterMap_append]
  congr 1
theorem valsTo_len (c : Cfg) (i : Nat) (l : List Pt) (fr : Int) (n : Nat) : (valsTo c i l fr n).length ≤ n := by
  have := List.length_filterMap_le (fun j : Nat => (hasL (fr + (j : Int) * c.s i) l).map (·.2)) (List.range n)
  simpa [valsTo] using this
theorem hasL_mem {t : Int} {l : List Pt} {q : Pt} (h : hasL t l = some q) : q ∈ l := List.mem_of_find?_eq_some h
theorem valsTo_in {c : Cfg} {i : Nat} {l : List Pt} {fr : Int} {n : Nat} (h : ∀ q ∈ l, PtIn q) : ∀ v ∈ valsTo c i l fr n, VIn v := by
  intro v hv
  unfold valsTo at hv
  obtain ⟨j, _, hj⟩ := List.mem_filterMap.1 hv
  cases hh : hasL (fr + j * c.s i) l with
  | none => rw [hh] at hj; simp at hj
  | some q =>
    rw [hh] at hj
    simp only [Option.map_some, Option.some.injEq] at hj
    have := h q (hasL_mem hh)
    unfold PtIn at this
    unfold VIn
    omega

/-- behind a slot of archive i that was written -/
def goesF : Nat → RDb → Nat → Int → RDb
  | 0, d, _, _ => d
  | f + 1, d, i, t =>
    if d.c.many ≤ i + 1 then d else
    let fr := t - t % d.c.s (i + 1)
    let n := (d.c.s (i + 1) / d.c.s i).toNat
    let l := valsTo d.c i ((d.L[i]?).getD []) fr n
    if l.length = 0 ∨ 100 * (l.length : Int) < d.c.f * n then d
    else goesF f (d.put (i + 1) (setL d.c (i + 1) (fr, makesI d.c.m l) ((d.L[i + 1]?).getD []))) (i + 1) fr

theorem makesI_in {m : Int} {l : List Int} (hv : ∀ v ∈ l, VIn v) (hne : l ≠ []) : VIn (makesI m l) := by
  unfold makesI
  have hn : 0 < (l.length : Int) := by
    have := List.length_pos_iff.2 hne
    omega
  split
  · have h := sumTo_in hv l.length (Nat.le_refl _)
    have e1 : -1000000000 ≤ sumTo l l.length / (l.length : Int) := (Int.le_ediv_iff_mul_le hn).2 (by omega)
    have e2 : sumTo l l.length / (l.length : Int) ≤ 1000000000 := Int.ediv_le_of_le_mul hn (by omega)
    exact ⟨e1, e2⟩
  · split
    · unfold VIn cutI; omega
    · exact outTo_in hv hne l.length (Nat.le_refl _)
end Go.Proofs.YthbbfjfekchdiaaGreat
namespace Go.Proofs.YthbbfjfekchdiaaGreat
open Go.RowKit
set_option linter.unusedSimpArgs false
attribute [local go_sem] Go.wp_at_zero Go.wp_at_succ

theorem Tryz.infoPoint : (Tryz.prog.info? 48).map (fun i => (i.zero, i.size, i.bytes)) = some (some (.agg #[.int .i64 0, .int .i64 0]), 2, 16) := by kernel_rfl

theorem othersL_succ {c : Cfg} {i : Nat} {t : Int} {l : List Pt} {k : Nat} {q : Pt} (h : l[k]? = some q) :
    othersL c i t (l.take (k + 1)) = othersL c i t (l.take k) ++ (if slotOf c i q.1 != slotOf c i t then [q] else []) := by
  unfold othersL
  rw [List.take_add_one, h, List.filter_append]
  simp only [Option.toList]
  congr 1
  by_cases e : (slotOf c i q.1 != slotOf c i t) = true
  · rw [if_pos e, List.filter_cons_of_pos (by exact e)]; rfl
  · rw [if_neg e, List.filter_cons_of_neg (by exact e)]; rfl
theorem othersL_len (c : Cfg) (i : Nat) (t : Int) (l : List Pt) : (othersL c i t l).length ≤ l.length := List.length_filter_le _ _
theorem ptCells_snoc (l : List Pt) (q : Pt) : ptCells (l ++ [q]) = ptCells l ++ [i64 q.1, i64 q.2] := by
  unfold ptCells
  rw [List.flatMap_append]; rfl

theorem grown_undrew {w w' : World} {row : Option Nat} (h : w.drew.grownBy w' row) : w.grownBy w' row := ⟨h.os, h.tape, h.output, h.size, h.block⟩
/-- the loop of 'sets': what stands at a round's head -/
structure SI (w wr : World) (t v s kk : Int) (v' : Value) (o : List Pt) : Prop where
  old : Below w.heap.size w wr
  pb : wr.heap[w.heap.size]? = some (.cells #[i64 t, i64 v] 48)
  ab : wr.heap[w.heap.size + 1]? = some (.cells #[i64 s, i64 kk] 37)
  own : wr.ownsRow (w.heap.size + 2) 48 2 v' o.length (ptCells o)
theorem si_start (w : World) (t v s kk : Int) : SI w ((w.alloc (.cells #[i64 t, i64 v] 48)).alloc (.cells #[i64 s, i64 kk] 37)) t v s kk (.slice none 0 0) [] where
  old := ((Below.refl _ w).alloc (Nat.le_refl _) _).alloc (by simp) _
  pb := blk_alloc (blk_new w _)
  ab := by
    have h := blk_new (w.alloc (.cells #[i64 t, i64 v] 48)) (.cells #[i64 s, i64 kk] 37)
    have e : (w.alloc (.cells #[i64 t, i64 v] 48)).heap.size = w.heap.size + 1 := by simp
    rw [e] at h; exact h
  own := World.ownsRow_nil _ _ _ _
theorem si_drew {w wr : World} {t v s kk : Int} {v' : Value} {o : List Pt} (h : SI w wr t v s kk v' o) (n : Nat) : SI w (wr.drewN n) t v s kk v' o :=
  ⟨below_drewN h.old n, h.pb, h.ab, h.own⟩
theorem si_app {w wr w3 : World} {t v s kk : Int} {v' : Value} {o : List Pt} {q : Pt} {O : Obj} {g cap : Nat} (h : SI w wr t v s kk v' o)
    (hown : w3.ownsRow (w.heap.size + 2) 48 2 (.slice (some ⟨g, 0, none⟩) (o.length + 1) cap) (o.length + 1) (ptCells o ++ [i64 q.1, i64 q.2])) (hgrow : (wr.alloc O).grownBy w3 v'.ownBlock) :
    SI w w3 t v s kk (.slice (some ⟨g, 0, none⟩) (o.length + 1) cap) (o ++ [q]) := by
  have hz := blk_lt h.ab
  have far : ∀ j, j < w.heap.size + 2 → w3.heap[j]? = wr.heap[j]? := by
    intro j hj
    rw [hgrow.block j (by simp; omega) (owns_not h.own hj), Below.heap_alloc wr O j (by omega)]
  refine ⟨?_, (far _ (by omega)).trans h.pb, (far _ (by omega)).trans h.ab, ?_⟩
  · refine Below.grown (h.old.alloc (by omega) O) hgrow (by simp; omega) fun k hk => ?_
    have := (h.own.lt k hk).1
    omega
  · rw [ptCells_snoc, List.length_append]
    exact hown

set_option maxHeartbeats 2000000 in
theorem sets_ref (p i : Nat) (t v : Int) (d : RDb) (l : List Pt) (In : Nat → Prop) (w : World) (hrep : RRep w In p d) (hd : d.Ok) (hi : d.L[i]? = some l) (ht0 : 0 ≤ t) (ht1 : t ≤ 2147483647) :
    Calls Tryz.prog 92 #[.pointer (some ⟨p, 0, none⟩), i64 i, .agg #[i64 t, i64 v]] w fun e w' => e = .returned (.tuple #[]) ∧ RRep w' (Up In w.heap.size) p (d.put i (setL d.c i (t, v) l)) ∧ Fr In w w' := by
  obtain ⟨ip, gl, vs, hp, hg, hs, ig, hr⟩ := hrep
  obtain ⟨vi, hvi, hown0, _⟩ := hr i l hi
  have hin : i < d.c.many := by
    obtain ⟨x, _⟩ := List.getElem?_eq_some_iff.1 hi
    rw [← hd.len]; exact x
  have h4 := d.c.many_le
  have hbd := (bdB_all (d.c.ok_iff.1 hd.cfg).2.2.2.2.1) i hin
  obtain ⟨b1, b2, b3, b4⟩ := (show 1 ≤ d.c.s i ∧ d.c.s i ≤ 86400 ∧ 1 ≤ d.c.k i ∧ d.c.k i ≤ 60 from hbd)
  have HPT := hid (hd.pts i l hi)
  have hlen : l.length ≤ 60 := (hd.pts i l hi).2
  have HRS := hid (fun (w3 : World) (l' : List Pt) (v' : Value) => rrep_set (w3 := w3) (l' := l') (v' := v') hp hg hs ip ig hr hin)
  obtain ⟨y0, y1⟩ := cfg_cell hp i (by omega)
  have x10 : w.cell? ⟨p, 10, none⟩ = some (.slice (some ⟨gl, 0, none⟩) d.c.many d.c.many) := cell_of_blk hp 10
  have xi : w.cell? ⟨gl, i, none⟩ = some vi := (cell_of_blk hg i).trans hvi
  have fi : w.frozen? ⟨gl, i, none⟩ = false := frozen_of_blk hg i
  have hpz : p < w.heap.size := blk_lt hp
  have hgz : gl < w.heap.size := blk_lt hg
  have i0 : (0 : Int) ≤ (i : Int) := by omega
  have i1 : (i : Int) < 4 := by omega
  have i2 : (i : Int) < (d.c.many : Int) := by omega
  have HPG := hid (show p ≠ gl from fun e => by subst e; rw [hp] at hg; simp at hg)
  obtain ⟨ai, capi, rfl, hrow⟩ := rowAt_of hown0
  have HROW := hid hrow
  obtain ⟨q0, hi0, hz0, hz1, hz2⟩ := info_parts Tryz.infoPoint
  have HI0 := hid (And.intro hi0 (And.intro hz0 (And.intro hz1 hz2)))
  obtain ⟨s, hsd⟩ : ∃ s, s = d.c.s i := ⟨_, rfl⟩
  obtain ⟨kk, hkd⟩ : ∃ k, k = d.c.k i := ⟨_, rfl⟩
  rw [← hsd] at y0 b1 b2
  rw [← hkd] at y1 b3 b4
  have HSD := hid hsd
  have HKD := hid hkd
  clear hp hg hs ip ig hr hvi hown0 hrow hbd hd hi hi0 hz0 hz1 hz2 hsd hkd
  go_enter Tryz.func92, Tryz.ntmps92
  go_wp2
  go_loopw [7, 8] (fun v' k' wr => ∃ (k : Nat), k ≤ l.length ∧ k' = i64 k ∧ SI w wr t v s kk v' (othersL d.c i t (l.take k))) (fun _ k' _ => l.length - (intOf k').toNat)
  case atStart => exact ⟨0, by omega, rfl, si_start w t v s kk⟩
  case round =>
    obtain ⟨k, hk, rfl, I⟩ := hrel
    have HI := hid I
    have z10 : wr.cell? ⟨p, 10, none⟩ = some (.slice (some ⟨gl, 0, none⟩) d.c.many d.c.many) := cell_later I.old x10
    have zi : wr.cell? ⟨gl, i, none⟩ = some (.slice ai l.length capi) := cell_later I.old xi
    have zf : wr.frozen? ⟨gl, i, none⟩ = false := (I.old.frozen (p := ⟨gl, i, none⟩) hgz).trans fi
    have zt : wr.cell? ⟨w.heap.size, 0, none⟩ = some (i64 t) := cell_of_blk I.pb 0
    have zv : wr.cell? ⟨w.heap.size, 1, none⟩ = some (i64 v) := cell_of_blk I.pb 1
    have zs : wr.cell? ⟨w.heap.size + 1, 0, none⟩ = some (i64 s) := cell_of_blk I.ab 0
    have zk : wr.cell? ⟨w.heap.size + 1, 1, none⟩ = some (i64 kk) := cell_of_blk I.ab 1
    have hzr : w.heap.size + 1 < wr.heap.size := blk_lt I.ab
    have hzr0 : w.heap.size < wr.heap.size := by omega
    have hzp : p < wr.heap.size := by omega
    have hzg : gl < wr.heap.size := by omega
    clear I
    by_cases hlt : k < l.length
    case neg =>
      have e : l.take k = l := List.take_of_length_le (by omega)
      rw [e] at HI
      clear e
      have hol : (othersL d.c i t l).length ≤ 60 := by
        have h1 := othersL_len d.c i t l
        omega
      have HFP := hid (show some p ≠ u7.ownBlock from owns_not HI.out.own (by omega))
      have HFG := hid (show some gl ≠ u7.ownBlock from owns_not HI.out.own (by omega))
      have HFW := hid (show some w.heap.size ≠ u7.ownBlock from owns_not HI.out.own (by omega))
      go_wp2_with fail
      refine wp_region_held_drew (S := (fun w' => w'.cell? ⟨p, 10, none⟩ = some (.slice (some ⟨gl, 0, none⟩) d.c.many d.c.many) ∧ w'.cell? ⟨w.heap.size, 0, none⟩ = some (i64 t) ∧ w'.cell? ⟨w.heap.size, 1, none⟩ = some (i64 v))) (by kernel_rfl) ?_ (fun hHeld => ?_)
      · go_keep
      refine wpAnyH_take (i := 0) (oi := { dst := some 67, op := Op.move (Operand.tmp 0), type := 51, pos := _, after := #[], guard := none }) (v := ?v0) rfl (by kernel_rfl) (by kernel_rfl) (by kernel_rfl) (fun _ _ _ h => h) (Or.inl ⟨by rfl, ?h0⟩) (by assumption) ?_
      case h0 => (intro w hSw; (try dsimp only at hSw); go_simp; try with_reducible rfl)
      try simp only [Act.put, List.setIfInBounds_toArray, List.set_cons_zero, List.set_cons_succ]
      refine wpAnyH_take (i := 1) (oi := { dst := some 68, op := Op.nilCheck (Operand.tmp 67), type := 0, pos := _, after := #[{ on := 0, ground := Ground.data }], guard := none }) (v := ?v1) rfl (by kernel_rfl) (by kernel_rfl) (by kernel_rfl) (fun _ _ _ h => h) (Or.inl ⟨by rfl, ?h1⟩) (by assumption) ?_
      case h1 => (intro w hSw; (try dsimp only at hSw); go_simp; try with_reducible rfl)
      try simp only [Act.put, List.setIfInBounds_toArray, List.set_cons_zero, List.set_cons_succ]
      refine wpAnyH_take (i := 2) (oi := { dst := some 69, op := Op.fieldAddr 70 (Operand.tmp 68) 1, type := 0, pos := _, after := #[{ on := 1, ground := Ground.data }], guard := none }) (v := ?v2) rfl (by kernel_rfl) (by kernel_rfl) (by kernel_rfl) (fun _ _ _ h => h) (Or.inl ⟨by rfl, ?h2⟩) (by assumption) ?_
      case h2 => (intro w hSw; (try dsimp only at hSw); go_simp; try with_reducible rfl)
      try simp only [Act.put, List.setIfInBounds_toArray, List.set_cons_zero, List.set_cons_succ]
      refine wpAnyH_take (i := 3) (oi := { dst := some 70, op := Op.load 31 (Operand.tmp 69), type := 31, pos := _, after := #[{ on := 2, ground := Ground.data }], guard := none }) (v := ?v3) rfl (by kernel_rfl) (by kernel_rfl) (by kernel_rfl) (fun _ _ _ h => h) (Or.inl ⟨by rfl, ?h3⟩) (by assumption) ?_
      case h3 => (intro w hSw; (try dsimp only at hSw); go_simp; try with_reducible rfl)
      try simp only [Act.put, List.setIfInBounds_toArray, List.set_cons_zero, List.set_cons_succ]
      refine wpAnyH_take (i := 4) (oi := { dst := some 71, op := Op.move (Operand.tmp 1), type := 3, pos := _, after := #[], guard := none }) (v := ?v4) rfl (by kernel_rfl) (by kernel_rfl) (by kernel_rfl) (fun _ _ _ h => h) (Or.inl ⟨by rfl, ?h4⟩) (by assumption) ?_
      case h4 => (intro w hSw; (try dsimp only at hSw); go_simp; try with_reducible rfl)
      try simp only [Act.put, List.setIfInBounds_toArray, List.set_cons_zero, List.set_cons_succ]
      refine wpAnyH_take (i := 5) (oi := { dst := some 72, op := Op.move (Operand.tmp 7), type := 41, pos := _, after := #[], guard := none }) (v := ?v5) rfl (by kernel_rfl) (by kernel_rfl) (by kernel_rfl) (fun _ _ _ h => h) (Or.inl ⟨by rfl, ?h5⟩) (by assumption) ?_
      case h5 => (intro w hSw; (try dsimp only at hSw); go_simp; try with_reducible rfl)
      try simp only [Act.put, List.setIfInBounds_toArray, List.set_cons_zero, List.set_cons_succ]
      refine wpAnyH_take (i := 6) (oi := { dst := some 73, op := Op.load 48 (Operand.tmp 5), type := 48, pos := _, after := #[], guard := none }) (v := ?v6) rfl (by kernel_rfl) (by kernel_rfl) (by kernel_rfl) (fun _ _ _ h => h) (Or.inl ⟨by rfl, ?h6⟩) (by assumption) ?_
      case h6 => (intro w hSw; (try dsimp only at hSw); go_simp; try with_reducible rfl)
      try simp only [Act.put, List.setIfInBounds_toArray, List.set_cons_zero, List.set_cons_succ]
      refine wpAnyH_ready (rs := [7]) (by kernel_rfl) (by simp) ?_
      refine AllReadyH.cons rfl (fun K hK => ?_) AllReadyH.nil
      go_simp
      refine hK.out _ _ ?_ (fun hHeld => ?_)
      · go_keep
      clear hK K
      refine wpAnyH_ready (rs := [8]) (by kernel_rfl) (by simp) ?_
      refine AllReadyH.cons rfl (fun K hK => ?_) AllReadyH.nil
      refine step_append_lies _ (by rfl) (.tmp 72) (.tmp 74) 41 (by rfl) (w.heap.size + 2) 48 q0 _ 2 16 Tryz.underlying41 HI0.out.1 HI0.out.2.1 HI0.out.2.2.1 HI0.out.2.2.2 rfl (by decide) u7 _ _ (by rfl) (HI.out.own.alloc _) ⟨wr.heap.size, 0, none⟩ 1 1 [i64 t, i64 v] (by rfl) rfl (World.news_of_block (heap_alloc_new wr _)) (by simp [Value.oneCell']) (by decide) (by unfold maxLen; omega) (by omega) (by show w.heap.size + 2 ≤ (wr.alloc _).heap.size; simp; omega) (wr.heap.size + 1) (by show (wr.alloc _).heap.size = _; simp) ?_
      intro g cap w3 hown3 hgrow hat hlt3
      refine hK.out _ _ ?_ (fun hHeld => ?_)
      · exact ⟨hgrow.cell (by simp [*]) HFP.out, hgrow.cell (by simp [*]) HFW.out, hgrow.cell (by simp [*]) HFW.out⟩
      clear hK K
      have hg' := grown_undrew hgrow
      have hal := (Below.refl wr.heap.size wr).alloc (Nat.le_refl _) (.cells #[i64 t, i64 v] 48)
      have gi : w3.cell? ⟨gl, i, none⟩ = some (.slice ai l.length capi) := hg'.cell (cell_later hal zi) HFG.out
      have gf : w3.frozen? ⟨gl, i, none⟩ = false := (hg'.frozen_far _ (Nat.lt_of_lt_of_le hzg hal.size) HFG.out).trans ((hal.frozen (p := ⟨gl, i, none⟩) hzg).trans zf)
      have HSI := hid (si_app (q := (t, v)) HI.out hown3 hg')
      have HFIN := hid (HRS.out w3 (setL d.c i (t, v) l) _ HSI.out.old (owns_base HSI.out.own (by omega)))
      clear hown3 hgrow hat hlt3 hg' hal
      refine wpAnyH_take (i := 9) (oi := { dst := some 76, op := Op.indexAddr 31 (Operand.tmp 70) (Operand.tmp 71), type := 0, pos := _, after := #[{ on := 3, ground := Ground.data }, { on := 4, ground := Ground.data }, { on := 0, ground := Ground.phase }, { on := 1, ground := Ground.phase }, { on := 2, ground := Ground.phase }, { on := 3, ground := Ground.phase }, { on := 4, ground := Ground.phase }, { on := 5, ground := Ground.phase }, { on := 6, ground := Ground.phase }, { on := 7, ground := Ground.phase }, { on := 8, ground := Ground.phase }], guard := none }) (v := ?v9) rfl (by kernel_rfl) (by kernel_rfl) (by kernel_rfl) (fun _ _ _ h => h) (Or.inl ⟨by rfl, ?h9⟩) (by assumption) ?_
      case h9 => (intro w hSw; (try dsimp only at hSw); go_simp; try with_reducible rfl)
      try simp only [Act.put, List.setIfInBounds_toArray, List.set_cons_zero, List.set_cons_succ]
      refine wpAnyH_ready (rs := [10]) (by kernel_rfl) (by simp) ?_
      refine AllReadyH.cons rfl (fun K hK => ?_) AllReadyH.nil
      go_simp
      refine hK.out _ _ ?_ (fun hHeld => ?_)
      · exact ⟨(World.cell?_setCell_far _ _ _ _ (by exact fun e => HPG.out e.symm)).trans hHeld.1, (World.cell?_setCell_far _ _ _ _ (by show gl ≠ w.heap.size; omega)).trans hHeld.2.1, (World.cell?_setCell_far _ _ _ _ (by show gl ≠ w.heap.size; omega)).trans hHeld.2.2⟩
      clear hK K
      refine wpAnyH_done (by kernel_rfl) ?_ _
      go_wp2
      go_end0
      exact ⟨rfl, HFIN.out⟩
    obtain ⟨q, hq⟩ : ∃ q, l[k]? = some q := ⟨_, List.getElem?_eq_getElem hlt⟩
    obtain ⟨b, rfl, hbz, c0, c1⟩ := HROW.out k q hq
    obtain ⟨w0, w1, _, _⟩ := HPT.out.1 q (List.mem_iff_getElem?.2 ⟨k, hq⟩)
    have zc0 : wr.cell? ⟨b, k * 2, none⟩ = some (i64 q.1) := cell_later HI.out.old c0
    have zc1 : wr.cell? ⟨b, k * 2 + 1, none⟩ = some (i64 q.2) := cell_later HI.out.old c1
    have hzb : b < wr.heap.size := by omega
    have k0 : (0 : Int) ≤ (k : Int) := by omega
    have k1 : (k : Int) < (l.length : Int) := by omega
    have HSL := hid (show slotOf d.c i q.1 = q.1 / s % kk by rw [HSD.out, HKD.out]; rfl)
    have HSL' := hid (show slotOf d.c i t = t / s % kk by rw [HSD.out, HKD.out]; rfl)
    have HSU := hid (othersL_succ (c := d.c) (i := i) (t := t) hq)
    have n1 : ¬ s = 0 := by omega
    have n2 : ¬ kk = 0 := by omega
    have dq0 : 0 ≤ q.1 / s := Int.ediv_nonneg w0 (by omega)
    have dt0 : 0 ≤ t / s := Int.ediv_nonneg ht0 (by omega)
    have dq1 : q.1 / s ≤ 2147483647 := Int.le_trans (Int.ediv_le_self _ w0) w1
    have dt1 : t / s ≤ 2147483647 := Int.le_trans (Int.ediv_le_self _ ht0) ht1
    have m1 : IntKind.i64.wrap (q.1.tdiv s) = q.1 / s := IntWalk.i64_quo _ _ ⟨w0, by omega, b1⟩
    have m2 : IntKind.i64.wrap (t.tdiv s) = t / s := IntWalk.i64_quo _ _ ⟨ht0, by omega, b1⟩
    have m3 : (q.1 / s).tmod kk = q.1 / s % kk := IntWalk.rem_in _ _ dq0
    have m4 : (t / s).tmod kk = t / s % kk := IntWalk.rem_in _ _ dt0
    clear hq c0 c1
    cases hne : (q.1 / s % kk != t / s % kk) with
    | false =>
      have HSI := hid (fun n => si_drew (show SI w wr t v s kk u7 (othersL d.c i t (l.take (k + 1))) by rw [HSU.out, HSL.out, HSL'.out, hne]; simpa using HI.out) n)
      go_wp2_with fail
      go_quiet (fail)
      go_wp2
      go_roundw
      case rel => first | exact ⟨k + 1, by omega, by go_num, HSI.out _⟩ | ((repeat apply Exists.intro); exact ⟨⟨k + 1, by omega, by go_num, HSI.out _⟩, rfl⟩)
      case measure => simp [intOf]; omega
    | true =>
      have HSU2 := hid (show othersL d.c i t (l.take (k + 1)) = othersL d.c i t (l.take k) ++ [q] by rw [HSU.out, HSL.out, HSL'.out, hne]; rfl)
      have hol : (othersL d.c i t (l.take k)).length ≤ 60 := by
        have h1 := othersL_len d.c i t (l.take k)
        have h2 := List.length_take_le k l
        omega
      go_wp2_with fail
      go_quiet (fail)
      go_wp2_with (at_builtin; refine wpList_append_lies _ rfl (.tmp 54) (.tmp 65) 41 rfl (w.heap.size + 2) 48 q0 _ 2 16 Tryz.underlying41 HI0.out.1 HI0.out.2.1 HI0.out.2.2.1 HI0.out.2.2.2 rfl (by decide) u7 _ _ rfl (HI.out.own.alloc _) ⟨wr.heap.size, 0, none⟩ 1 1 [i64 q.1, i64 q.2] rfl rfl (World.news_of_block (heap_alloc_new wr _)) (by simp [Value.oneCell']) (by decide) ?_ ?_ ?_ (wr.heap.size + 1) (by simp) ?_)
      · unfold maxLen; omega
      · omega
      · show w.heap.size + 2 ≤ (wr.alloc _).heap.size
        simp; omega
      intro g cap w3 hown3 hgrow hat hlt3
      have HSI := hid (show SI w w3 t v s kk (.slice (some ⟨g, 0, none⟩) ((othersL d.c i t (l.take k)).length + 1) cap) (othersL d.c i t (l.take (k + 1))) by rw [HSU2.out]; exact si_app (si_drew HI.out _) hown3 hgrow)
      clear hown3 hgrow hat hlt3
      go_wp2
      go_roundw
      case rel => first | exact ⟨k + 1, by omega, by go_num, HSI.out⟩ | ((repeat apply Exists.intro); exact ⟨⟨k + 1, by omega, by go_num, HSI.out⟩, rfl⟩)
      case measure => simp [intOf]; omega
end Go.Proofs.YthbbfjfekchdiaaGreat
