import Derived.Test.YthbbfjfekchdiaaGreatXRHas
import Derived.Test.YthbbfjfekchdiaaGreatXRMakes6
import Derived.Test.YthbbfjfekchdiaaGreatXTk
import Derived.Deep.RegionHeld3
import Derived.Deep.QuietTactic
import Derived.BigQuiet
import Derived.Deep.DrawnRows
namespace Go.Proofs.YthbbfjfekchdiaaGreat
open Go.RowKit
structure Fr (In : Nat → Prop) (w w' : World) : Prop where
  os : w'.os = w.os
  tape : w'.tape = w.tape
  output : w'.output = w.output
  size : w.heap.size ≤ w'.heap.size
  block : ∀ k, k < w.heap.size → ¬ In k → w'.heap[k]? = w.heap[k]?
theorem Fr.refl (In : Nat → Prop) (w : World) : Fr In w w := ⟨rfl, rfl, rfl, Nat.le_refl _, fun _ _ _ => rfl⟩
theorem Fr.below {In : Nat → Prop} {w w' : World} (h : Below w.heap.size w w') : Fr In w w' := ⟨h.os, h.tape, h.output, h.size, fun k hk _ => h.block k hk⟩
theorem Fr.trans {In In' : Nat → Prop} {a b c : World} (h : Fr In a b) (k : Fr In' b c) (hs : ∀ x, In' x → In x ∨ a.heap.size ≤ x) : Fr In a c := by
  refine ⟨k.os.trans h.os, k.tape.trans h.tape, k.output.trans h.output, Nat.le_trans h.size k.size, fun x hx hn => ?_⟩
  rw [k.block x (Nat.lt_of_lt_of_le hx h.size) fun y => (hs x y).elim hn (fun z => by omega)]
  exact h.block x hx hn
theorem Fr.setCell {In : Nat → Prop} {w w' : World} (h : Fr In w w') {b : Nat} (hb : In b) (o : Nat) (u : Value) : Fr In w (w'.setCell ⟨b, o, none⟩ u) := by
  refine ⟨h.os, h.tape, h.output, by rw [size_setCell]; exact h.size, fun k hk hn => ?_⟩
  have hkb : k ≠ b := fun e => hn (by rw [e]; exact hb)
  rw [blk_setCell_far (a := ⟨b, o, none⟩) hkb]
  exact h.block k hk hn
def Up (In : Nat → Prop) (n : Nat) : Nat → Prop := fun k => In k ∨ n ≤ k
structure RRep (w : World) (In : Nat → Prop) (p : Nat) (d : RDb) : Prop where
  inp : In p
  mem : ∃ gl vs, w.heap[p]? = some (.cells #[i64 d.c.s0, i64 d.c.k0, i64 d.c.s1, i64 d.c.k1, i64 d.c.s2, i64 d.c.k2, i64 d.c.s3, i64 d.c.k3, i64 d.c.m, i64 d.c.f, .slice (some ⟨gl, 0, none⟩) d.c.many d.c.many] 70) ∧ w.heap[gl]? = some (.cells vs 41) ∧ vs.size = d.c.many ∧ In gl ∧
    ∀ (i : Nat) (l : List Pt), d.L[i]? = some l → ∃ v, vs[i]? = some v ∧ w.ownsRow 0 48 2 v l.length (ptCells l) ∧ ∀ b, v.ownBlock = some b → In b
structure RDb.Ok (d : RDb) : Prop where
  cfg : d.c.Ok
  len : d.L.length = d.c.many
  pts : ∀ (i : Nat) (l : List Pt), d.L[i]? = some l → (∀ q ∈ l, PtIn q) ∧ l.length ≤ 60
  apart : ∀ (i : Nat) (l : List Pt), d.L[i]? = some l → (l.map fun q => slotOf d.c i q.1).Nodup
theorem RRep.weak {w : World} {In In' : Nat → Prop} {p : Nat} {d : RDb} (h : RRep w In p d) (hs : ∀ k, In k → In' k) : RRep w In' p d := by
  obtain ⟨gl, vs, a, b, c, e, f⟩ := h.mem
  exact ⟨hs _ h.inp, gl, vs, a, b, c, hs _ e, fun i l hl => by obtain ⟨v, x, y, z⟩ := f i l hl; exact ⟨v, x, y, fun b hb => hs _ (z b hb)⟩⟩
theorem owns_far {w w' : World} {base e size n : Nat} {v : Value} {xs : List Value} (h : w.ownsRow base e size v n xs) (hf : ∀ b, v.ownBlock = some b → b < w.heap.size → w'.heap[b]? = w.heap[b]?) : w'.ownsRow base e size v n xs := by
  obtain ⟨hl, h | ⟨g, cap, cur, hv, hg, hblk, r⟩⟩ := h
  · exact ⟨hl, .inl h⟩
  · exact ⟨hl, .inr ⟨g, cap, cur, hv, hg, (hf g (by rw [hv]; rfl) (blk_lt hblk)).trans hblk, r⟩⟩
theorem RRep.later {w w' : World} {In : Nat → Prop} {p : Nat} {d : RDb} (h : RRep w In p d) (hb : Below w.heap.size w w') : RRep w' In p d := by
  obtain ⟨gl, vs, a, b, c, e, f⟩ := h.mem
  refine ⟨h.inp, gl, vs, blk_later hb (blk_lt a) a, blk_later hb (blk_lt b) b, c, e, fun i l hl => ?_⟩
  obtain ⟨v, x, y, z⟩ := f i l hl
  exact ⟨v, x, owns_below y hb, z⟩
theorem RRep.fr {w w' : World} {In Out : Nat → Prop} {p : Nat} {d : RDb} (h : RRep w In p d) (hb : Fr Out w w') (hd : ∀ k, In k → ¬ Out k) : RRep w' In p d := by
  obtain ⟨gl, vs, a, b, c, e, f⟩ := h.mem
  refine ⟨h.inp, gl, vs, (hb.block _ (blk_lt a) (hd _ h.inp)).trans a, (hb.block _ (blk_lt b) (hd _ e)).trans b, c, e, fun i l hl => ?_⟩
  obtain ⟨v, x, y, z⟩ := f i l hl
  exact ⟨v, x, owns_far y fun b hb' hlt => hb.block b hlt (hd b (z b hb')), z⟩
def RDb.put (d : RDb) (i : Nat) (l : List Pt) : RDb := { d with L := d.L.set i l }
theorem rrep_set {w w3 : World} {In : Nat → Prop} {p gl i : Nat} {d : RDb} {vs : Array Value} {l' : List Pt} {v' : Value}
    (hp : w.heap[p]? = some (.cells #[i64 d.c.s0, i64 d.c.k0, i64 d.c.s1, i64 d.c.k1, i64 d.c.s2, i64 d.c.k2, i64 d.c.s3, i64 d.c.k3, i64 d.c.m, i64 d.c.f, .slice (some ⟨gl, 0, none⟩) d.c.many d.c.many] 70)) (hg : w.heap[gl]? = some (.cells vs 41)) (hs : vs.size = d.c.many) (ip : In p) (ig : In gl)
    (hr : ∀ (i : Nat) (l : List Pt), d.L[i]? = some l → ∃ v, vs[i]? = some v ∧ w.ownsRow 0 48 2 v l.length (ptCells l) ∧ ∀ b, v.ownBlock = some b → In b)
    (hi : i < d.c.many) (hb : Below w.heap.size w w3) (hown : w3.ownsRow w.heap.size 48 2 v' l'.length (ptCells l')) :
    RRep (w3.setCell ⟨gl, i, none⟩ v') (Up In w.heap.size) p (d.put i l') ∧ Fr In w (w3.setCell ⟨gl, i, none⟩ v') := by
  have hne : p ≠ gl := by
    intro e; subst e
    rw [hp] at hg
    simp at hg
  have hg3 := blk_later hb (blk_lt hg) hg
  have hp3 := blk_later hb (blk_lt hp) hp
  refine ⟨⟨.inl ip, gl, vs.setIfInBounds i v', ?_, blk_setCell hg3 i v', by simpa [RDb.put] using hs, .inl ig, ?_⟩, (Fr.below hb).setCell ig i v'⟩
  · rw [blk_setCell_far (by show p ≠ gl; exact hne)]
    exact hp3
  · intro j l hl
    by_cases e : i = j
    · subst e
      have hl' : l = l' := by
        unfold RDb.put at hl
        simp only [List.getElem?_set_self'] at hl
        cases h : d.L[i]? with
        | none => rw [h] at hl; simp at hl
        | some x => rw [h] at hl; simpa using hl.symm
      subst hl'
      refine ⟨v', by simp [hs, hi], ?_, ?_⟩
      · exact owns_base (ownsRow_setCell_below hown (by show gl < w.heap.size; exact blk_lt hg) v') (Nat.zero_le _)
      · intro b hb'
        exact .inr (hown.lt b hb').1
    · have hl2 : d.L[j]? = some l := by
        unfold RDb.put at hl
        simpa [List.getElem?_set_ne e] using hl
      obtain ⟨v, x, y, z⟩ := hr j l hl2
      refine ⟨v, by rw [Array.getElem?_setIfInBounds_ne e]; exact x, ?_, fun b hb' => .inl (z b hb')⟩
      refine owns_far (owns_below y hb) fun b hb' _ => blk_setCell_far ?_
      intro eb
      have eb' : b = gl := eb
      subst eb'
      obtain ⟨_, ⟨hv, _⟩ | ⟨g, cap, cur, hv, _, hblk, _⟩⟩ := y
      · rw [hv] at hb'; simp [Value.ownBlock] at hb'
      · rw [hv] at hb'
        simp only [Value.ownBlock, Option.some.injEq] at hb'
        rw [hb', hg] at hblk
        simp at hblk
end Go.Proofs.YthbbfjfekchdiaaGreat
namespace Go.Proofs.YthbbfjfekchdiaaGreat
theorem nodup_len : ∀ (n : Nat) (l : List Int), l.Nodup → (∀ x ∈ l, 0 ≤ x ∧ x < (n : Int)) → l.length ≤ n
  | 0, l, _, h => by
    cases l with
    | nil => exact Nat.le_refl _
    | cons a l => have := h a (by simp); omega
  | n + 1, l, hd, h => by
    by_cases hm : (n : Int) ∈ l
    · have h1 := nodup_len n (l.erase n) (hd.erase _) fun x hx => by
        obtain ⟨hne, hx'⟩ := (List.Nodup.mem_erase_iff hd).1 hx
        have := h x hx'
        omega
      rw [List.length_erase_of_mem hm] at h1
      omega
    · have h1 := nodup_len n l hd fun x hx => by
        have := h x hx
        have : x ≠ (n : Int) := fun e => hm (e ▸ hx)
        omega
      omega
theorem slotOf_bd {c : Cfg} {i : Nat} (hb : c.Bd i) (t : Int) : 0 ≤ slotOf c i t ∧ slotOf c i t < c.k i := by
  unfold slotOf
  have := hb.2.2.1
  exact ⟨Int.emod_nonneg _ (by omega), Int.emod_lt_of_pos _ (by omega)⟩
theorem setL_apart {c : Cfg} {i : Nat} {p : Pt} {l : List Pt} (h : (l.map fun q => slotOf c i q.1).Nodup) : ((setL c i p l).map fun q => slotOf c i q.1).Nodup := by
  unfold setL othersL
  rw [List.map_append, List.nodup_append]
  refine ⟨?_, by simp, ?_⟩
  · exact h.sublist (List.Sublist.map _ List.filter_sublist)
  · intro a ha b hb e
    simp only [List.map_cons, List.map_nil, List.mem_singleton] at hb
    obtain ⟨q, hq, rfl⟩ := List.mem_map.1 ha
    have := (List.mem_filter.1 hq).2
    simp only [bne_iff_ne, ne_eq] at this
    exact this (e.trans hb)
theorem put_ok {d : RDb} (hd : d.Ok) {i : Nat} {l : List Pt} (hl : d.L[i]? = some l) {p : Pt} (hp : PtIn p) : (d.put i (setL d.c i p l)).Ok := by
  have hi : i < d.c.many := by
    obtain ⟨x, _⟩ := List.getElem?_eq_some_iff.1 hl
    rw [← hd.len]; exact x
  have hbd := (bdB_all (d.c.ok_iff.1 hd.cfg).2.2.2.2.1) i hi
  have key : ∀ (j : Nat) (l' : List Pt), (d.put i (setL d.c i p l)).L[j]? = some l' → (j = i ∧ l' = setL d.c i p l) ∨ (j ≠ i ∧ d.L[j]? = some l') := by
    intro j l' h
    unfold RDb.put at h
    by_cases e : i = j
    · subst e
      simp only [List.getElem?_set_self', hl] at h
      exact .inl ⟨rfl, by simpa using h.symm⟩
    · exact .inr ⟨fun x => e x.symm, by simpa [List.getElem?_set_ne e] using h⟩
  refine ⟨hd.cfg, by unfold RDb.put; simpa using hd.len, ?_, ?_⟩
  · intro j l' h
    rcases key j l' h with ⟨rfl, rfl⟩ | ⟨_, h'⟩
    · refine ⟨?_, ?_⟩
      · intro q hq
        unfold setL othersL at hq
        rcases List.mem_append.1 hq with hq | hq
        · exact (hd.pts _ l hl).1 q (List.mem_filter.1 hq).1
        · rw [List.mem_singleton.1 hq]; exact hp
      · have h1 := nodup_len (d.c.k j).toNat _ (setL_apart (p := p) (hd.apart j l hl)) fun x hx => by
          obtain ⟨q, _, rfl⟩ := List.mem_map.1 hx
          have := slotOf_bd hbd q.1
          omega
        rw [List.length_map] at h1
        have := hbd.2.2.2
        omega
    · exact hd.pts j l' h'
  · intro j l' h
    rcases key j l' h with ⟨rfl, rfl⟩ | ⟨_, h'⟩
    · exact setL_apart (hd.apart _ l hl)
    · exact hd.apart j l' h'
def valsTo (c : Cfg) (i : Nat) (l : List Pt) (fr : Int) (n : Nat) : List Int := (List.range n).filterMap fun j : Nat => (hasL (fr + (j : Int) * c.s i) l).map (·.2)
theorem valsTo_succ (c : Cfg) (i : Nat) (l : List Pt) (fr : Int) (n : Nat) : valsTo c i l fr (n + 1) = valsTo c i l fr n ++ ((hasL (fr + n * c.s i) l).map (·.2)).toList := by
  unfold valsTo
  rw [List.range_succ, List.filterMap_append]
  congr 1
theorem valsTo_len (c : Cfg) (i : Nat) (l : List Pt) (fr : Int) (n : Nat) : (valsTo c i l fr n).length ≤ n := by
  have := List.length_filterMap_le (fun j : Nat => (hasL (fr + (j : Int) * c.s i) l).map (·.2)) (List.range n)
  simpa [valsTo] using this
theorem hasL_mem {t : Int} {l : List Pt} {q : Pt} (h : hasL t l = some q) : q ∈ l := List.mem_of_find?_eq_some h
theorem valsTo_in {c : Cfg} {i : Nat} {l : List Pt} {fr : Int} {n : Nat} (h : ∀ q ∈ l, PtIn q) : ∀ v ∈ valsTo c i l fr n, VIn v := by
  intro v hv
  unfold valsTo at hv
  obtain ⟨j, _, hj⟩ := List.mem_filterMap.1 hv
  cases hh : hasL (fr + j * c.s i) l with
  | none => rw [hh] at hj; simp at hj
  | some q =>
    rw [hh] at hj
    simp only [Option.map_some, Option.some.injEq] at hj
    have := h q (hasL_mem hh)
    unfold PtIn at this
    unfold VIn
    omega
def goesF : Nat → RDb → Nat → Int → RDb
  | 0, d, _, _ => d
  | f + 1, d, i, t =>
    if d.c.many ≤ i + 1 then d else
    let fr := t - t % d.c.s (i + 1)
    let n := (d.c.s (i + 1) / d.c.s i).toNat
    let l := valsTo d.c i ((d.L[i]?).getD []) fr n
    if l.length = 0 ∨ 100 * (l.length : Int) < d.c.f * n then d
    else goesF f (d.put (i + 1) (setL d.c (i + 1) (fr, makesI d.c.m l) ((d.L[i + 1]?).getD []))) (i + 1) fr
theorem makesI_in {m : Int} {l : List Int} (hv : ∀ v ∈ l, VIn v) (hne : l ≠ []) : VIn (makesI m l) := by
  unfold makesI
  have hn : 0 < (l.length : Int) := by
    have := List.length_pos_iff.2 hne
    omega
  split
  · have h := sumTo_in hv l.length (Nat.le_refl _)
    have e1 : -1000000000 ≤ sumTo l l.length / (l.length : Int) := (Int.le_ediv_iff_mul_le hn).2 (by omega)
    have e2 : sumTo l l.length / (l.length : Int) ≤ 1000000000 := Int.ediv_le_of_le_mul hn (by omega)
    exact ⟨e1, e2⟩
  · split
    · unfold VIn cutI; omega
    · exact outTo_in hv hne l.length (Nat.le_refl _)
end Go.Proofs.YthbbfjfekchdiaaGreat
namespace Go.Proofs.YthbbfjfekchdiaaGreat
open Go.RowKit
set_option linter.unusedSimpArgs false
attribute [local go_sem] Go.wp_at_zero Go.wp_at_succ
theorem Tryz.infoPoint : (Tryz.prog.info? 48).map (fun i => (i.zero, i.size, i.bytes)) = some (some (.agg #[.int .i64 0, .int .i64 0]), 2, 16) := by kernel_rfl
theorem othersL_succ {c : Cfg} {i : Nat} {t : Int} {l : List Pt} {k : Nat} {q : Pt} (h : l[k]? = some q) :
    othersL c i t (l.take (k + 1)) = othersL c i t (l.take k) ++ (if slotOf c i q.1 != slotOf c i t then [q] else []) := by
  unfold othersL
  rw [List.take_add_one, h, List.filter_append]
  simp only [Option.toList]
  congr 1
  by_cases e : (slotOf c i q.1 != slotOf c i t) = true
  · rw [if_pos e, List.filter_cons_of_pos (by exact e)]; rfl
  · rw [if_neg e, List.filter_cons_of_neg (by exact e)]; rfl
theorem othersL_len (c : Cfg) (i : Nat) (t : Int) (l : List Pt) : (othersL c i t l).length ≤ l.length := List.length_filter_le _ _
theorem ptCells_snoc (l : List Pt) (q : Pt) : ptCells (l ++ [q]) = ptCells l ++ [i64 q.1, i64 q.2] := by
  unfold ptCells
  rw [List.flatMap_append]; rfl
theorem grown_undrew {w w' : World} {row : Option Nat} (h : w.drew.grownBy w' row) : w.grownBy w' row := ⟨h.os, h.tape, h.output, h.size, h.block⟩
structure SI (w wr : World) (t v s kk : Int) (v' : Value) (o : List Pt) : Prop where
  old : Below w.heap.size w wr
  pb : wr.heap[w.heap.size]? = some (.cells #[i64 t, i64 v] 48)
  ab : wr.heap[w.heap.size + 1]? = some (.cells #[i64 s, i64 kk] 37)
  own : wr.ownsRow (w.heap.size + 2) 48 2 v' o.length (ptCells o)
theorem si_start (w : World) (t v s kk : Int) : SI w ((w.alloc (.cells #[i64 t, i64 v] 48)).alloc (.cells #[i64 s, i64 kk] 37)) t v s kk (.slice none 0 0) [] where
  old := ((Below.refl _ w).alloc (Nat.le_refl _) _).alloc (by simp) _
  pb := blk_alloc (blk_new w _)
  ab := by
    have h := blk_new (w.alloc (.cells #[i64 t, i64 v] 48)) (.cells #[i64 s, i64 kk] 37)
    have e : (w.alloc (.cells #[i64 t, i64 v] 48)).heap.size = w.heap.size + 1 := by simp
    rw [e] at h; exact h
  own := World.ownsRow_nil _ _ _ _
theorem si_drew {w wr : World} {t v s kk : Int} {v' : Value} {o : List Pt} (h : SI w wr t v s kk v' o) (n : Nat) : SI w (wr.drewN n) t v s kk v' o :=
  ⟨below_drewN h.old n, h.pb, h.ab, h.own⟩
theorem si_app {w wr w3 : World} {t v s kk : Int} {v' : Value} {o : List Pt} {q : Pt} {O : Obj} {g cap : Nat} (h : SI w wr t v s kk v' o)
    (hown : w3.ownsRow (w.heap.size + 2) 48 2 (.slice (some ⟨g, 0, none⟩) (o.length + 1) cap) (o.length + 1) (ptCells o ++ [i64 q.1, i64 q.2])) (hgrow : (wr.alloc O).grownBy w3 v'.ownBlock) :
    SI w w3 t v s kk (.slice (some ⟨g, 0, none⟩) (o.length + 1) cap) (o ++ [q]) := by
  have hz := blk_lt h.ab
  have far : ∀ j, j < w.heap.size + 2 → w3.heap[j]? = wr.heap[j]? := by
    intro j hj
    rw [hgrow.block j (by simp; omega) (owns_not h.own hj), Below.heap_alloc wr O j (by omega)]
  refine ⟨?_, (far _ (by omega)).trans h.pb, (far _ (by omega)).trans h.ab, ?_⟩
  · refine Below.grown (h.old.alloc (by omega) O) hgrow (by simp; omega) fun k hk => ?_
    have := (h.own.lt k hk).1
    omega
  · rw [ptCells_snoc, List.length_append]
    exact hown
set_option maxHeartbeats 2000000 in
theorem sets_ref (p i : Nat) (t v : Int) (d : RDb) (l : List Pt) (In : Nat → Prop) (w : World) (hrep : RRep w In p d) (hd : d.Ok) (hi : d.L[i]? = some l) (ht0 : 0 ≤ t) (ht1 : t ≤ 2147483647) :
    Calls Tryz.prog 92 #[.pointer (some ⟨p, 0, none⟩), i64 i, .agg #[i64 t, i64 v]] w fun e w' => e = .returned (.tuple #[]) ∧ RRep w' (Up In w.heap.size) p (d.put i (setL d.c i (t, v) l)) ∧ Fr In w w' := by
  obtain ⟨ip, gl, vs, hp, hg, hs, ig, hr⟩ := hrep
  obtain ⟨vi, hvi, hown0, _⟩ := hr i l hi
  have hin : i < d.c.many := by
    obtain ⟨x, _⟩ := List.getElem?_eq_some_iff.1 hi
    rw [← hd.len]; exact x
  have h4 := d.c.many_le
  have hbd := (bdB_all (d.c.ok_iff.1 hd.cfg).2.2.2.2.1) i hin
  obtain ⟨b1, b2, b3, b4⟩ := (show 1 ≤ d.c.s i ∧ d.c.s i ≤ 86400 ∧ 1 ≤ d.c.k i ∧ d.c.k i ≤ 60 from hbd)
  have HPT := hid (hd.pts i l hi)
  have hlen : l.length ≤ 60 := (hd.pts i l hi).2
  have HRS := hid (fun (w3 : World) (l' : List Pt) (v' : Value) => rrep_set (w3 := w3) (l' := l') (v' := v') hp hg hs ip ig hr hin)
  obtain ⟨y0, y1⟩ := cfg_cell hp i (by omega)
  have x10 : w.cell? ⟨p, 10, none⟩ = some (.slice (some ⟨gl, 0, none⟩) d.c.many d.c.many) := cell_of_blk hp 10
  have xi : w.cell? ⟨gl, i, none⟩ = some vi := (cell_of_blk hg i).trans hvi
  have fi : w.frozen? ⟨gl, i, none⟩ = false := frozen_of_blk hg i
  have hpz : p < w.heap.size := blk_lt hp
  have hgz : gl < w.heap.size := blk_lt hg
  have i0 : (0 : Int) ≤ (i : Int) := by omega
  have i1 : (i : Int) < 4 := by omega
  have i2 : (i : Int) < (d.c.many : Int) := by omega
  have HPG := hid (show p ≠ gl from fun e => by subst e; rw [hp] at hg; simp at hg)
  obtain ⟨ai, capi, rfl, hrow⟩ := rowAt_of hown0
  have HROW := hid hrow
  obtain ⟨q0, hi0, hz0, hz1, hz2⟩ := info_parts Tryz.infoPoint
  have HI0 := hid (And.intro hi0 (And.intro hz0 (And.intro hz1 hz2)))
  obtain ⟨s, hsd⟩ : ∃ s, s = d.c.s i := ⟨_, rfl⟩
  obtain ⟨kk, hkd⟩ : ∃ k, k = d.c.k i := ⟨_, rfl⟩
  rw [← hsd] at y0 b1 b2
  rw [← hkd] at y1 b3 b4
  have HSD := hid hsd
  have HKD := hid hkd
  clear hp hg hs ip ig hr hvi hown0 hrow hbd hd hi hi0 hz0 hz1 hz2 hsd hkd
  go_enter Tryz.func92, Tryz.ntmps92
  go_wp2
  go_loopw [7, 8] (fun v' k' wr => ∃ (k : Nat), k ≤ l.length ∧ k' = i64 k ∧ SI w wr t v s kk v' (othersL d.c i t (l.take k))) (fun _ k' _ => l.length - (intOf k').toNat)
  case atStart => exact ⟨0, by omega, rfl, si_start w t v s kk⟩
  case round =>
    obtain ⟨k, hk, rfl, I⟩ := hrel
    have HI := hid I
    have z10 : wr.cell? ⟨p, 10, none⟩ = some (.slice (some ⟨gl, 0, none⟩) d.c.many d.c.many) := cell_later I.old x10
    have zi : wr.cell? ⟨gl, i, none⟩ = some (.slice ai l.length capi) := cell_later I.old xi
    have zf : wr.frozen? ⟨gl, i, none⟩ = false := (I.old.frozen (p := ⟨gl, i, none⟩) hgz).trans fi
    have zt : wr.cell? ⟨w.heap.size, 0, none⟩ = some (i64 t) := cell_of_blk I.pb 0
    have zv : wr.cell? ⟨w.heap.size, 1, none⟩ = some (i64 v) := cell_of_blk I.pb 1
    have zs : wr.cell? ⟨w.heap.size + 1, 0, none⟩ = some (i64 s) := cell_of_blk I.ab 0
    have zk : wr.cell? ⟨w.heap.size + 1, 1, none⟩ = some (i64 kk) := cell_of_blk I.ab 1
    have hzr : w.heap.size + 1 < wr.heap.size := blk_lt I.ab
    have hzr0 : w.heap.size < wr.heap.size := by omega
    have hzp : p < wr.heap.size := by omega
    have hzg : gl < wr.heap.size := by omega
    clear I
    by_cases hlt : k < l.length
    case neg =>
      have e : l.take k = l := List.take_of_length_le (by omega)
      rw [e] at HI
      clear e
      have hol : (othersL d.c i t l).length ≤ 60 := by
        have h1 := othersL_len d.c i t l
        omega
      have HFP := hid (show some p ≠ u7.ownBlock from owns_not HI.out.own (by omega))
      have HFG := hid (show some gl ≠ u7.ownBlock from owns_not HI.out.own (by omega))
      have HFW := hid (show some w.heap.size ≠ u7.ownBlock from owns_not HI.out.own (by omega))
      go_wp2_with fail
      refine wp_region_held_drew (S := (fun w' => w'.cell? ⟨p, 10, none⟩ = some (.slice (some ⟨gl, 0, none⟩) d.c.many d.c.many) ∧ w'.cell? ⟨w.heap.size, 0, none⟩ = some (i64 t) ∧ w'.cell? ⟨w.heap.size, 1, none⟩ = some (i64 v))) (by kernel_rfl) ?_ (fun hHeld => ?_)
      · go_keep
      refine tkI (i := 0) (oi := ⟨some 67, .move (.tmp 0), 51, _, #[], none⟩) ?_
      try simp only [Act.put, tkA, tkB, tkC]
      refine tkI (i := 1) (oi := ⟨some 68, .nilCheck (.tmp 67), 0, _, #[⟨0, .data⟩], none⟩) ?_
      try simp only [Act.put, tkA, tkB, tkC]
      refine tkI (i := 2) (oi := ⟨some 69, .fieldAddr 70 (.tmp 68) 1, 0, _, #[⟨1, .data⟩], none⟩) ?_
      try simp only [Act.put, tkA, tkB, tkC]
      refine tkI (i := 3) (oi := ⟨some 70, .load 31 (.tmp 69), 31, _, #[⟨2, .data⟩], none⟩) ?_
      try simp only [Act.put, tkA, tkB, tkC]
      refine tkI (i := 4) (oi := ⟨some 71, .move (.tmp 1), 3, _, #[], none⟩) ?_
      try simp only [Act.put, tkA, tkB, tkC]
      refine tkI (i := 5) (oi := ⟨some 72, .move (.tmp 7), 41, _, #[], none⟩) ?_
      try simp only [Act.put, tkA, tkB, tkC]
      refine tkI (i := 6) (oi := ⟨some 73, .load 48 (.tmp 5), 48, _, #[], none⟩) ?_
      try simp only [Act.put, tkA, tkB, tkC]
      refine wpAnyH_ready (rs := [7]) (by kernel_rfl) (by simp) ?_
      refine AllReadyH.cons rfl (fun K hK => ?_) AllReadyH.nil
      go_simp
      refine hK.out _ _ ?_ (fun hHeld => ?_)
      · go_keep
      clear hK K
      refine wpAnyH_ready (rs := [8]) (by kernel_rfl) (by simp) ?_
      refine AllReadyH.cons rfl (fun K hK => ?_) AllReadyH.nil
      refine step_append_lies _ (by rfl) (.tmp 72) (.tmp 74) 41 (by rfl) (w.heap.size + 2) 48 q0 _ 2 16 Tryz.underlying41 HI0.out.1 HI0.out.2.1 HI0.out.2.2.1 HI0.out.2.2.2 rfl (by decide) u7 _ _ (by rfl) (HI.out.own.alloc _) ⟨wr.heap.size, 0, none⟩ 1 1 [i64 t, i64 v] (by rfl) rfl (World.news_of_block (heap_alloc_new wr _)) (by simp [Value.oneCell']) (by decide) (by unfold maxLen; omega) (by omega) (by show w.heap.size + 2 ≤ (wr.alloc _).heap.size; simp; omega) (wr.heap.size + 1) (by show (wr.alloc _).heap.size = _; simp) ?_
      intro g cap w3 hown3 hgrow hat hlt3
      refine hK.out _ _ ?_ (fun hHeld => ?_)
      · exact ⟨hgrow.cell (by simp [*]) HFP.out, hgrow.cell (by simp [*]) HFW.out, hgrow.cell (by simp [*]) HFW.out⟩
      clear hK K
      have hg' := grown_undrew hgrow
      have hal := (Below.refl wr.heap.size wr).alloc (Nat.le_refl _) (.cells #[i64 t, i64 v] 48)
      have gi : w3.cell? ⟨gl, i, none⟩ = some (.slice ai l.length capi) := hg'.cell (cell_later hal zi) HFG.out
      have gf : w3.frozen? ⟨gl, i, none⟩ = false := (hg'.frozen_far _ (Nat.lt_of_lt_of_le hzg hal.size) HFG.out).trans ((hal.frozen (p := ⟨gl, i, none⟩) hzg).trans zf)
      have HSI := hid (si_app (q := (t, v)) HI.out hown3 hg')
      have HFIN := hid (HRS.out w3 (setL d.c i (t, v) l) _ HSI.out.old (owns_base HSI.out.own (by omega)))
      clear hown3 hgrow hat hlt3 hg' hal
      refine tkI (i := 9) (oi := ⟨some 76, .indexAddr 31 (.tmp 70) (.tmp 71), 0, _, #[⟨3, .data⟩, ⟨4, .data⟩, ⟨0, .phase⟩, ⟨1, .phase⟩, ⟨2, .phase⟩, ⟨3, .phase⟩, ⟨4, .phase⟩, ⟨5, .phase⟩, ⟨6, .phase⟩, ⟨7, .phase⟩, ⟨8, .phase⟩], none⟩) ?_
      try simp only [Act.put, tkA, tkB, tkC]
      refine wpAnyH_ready (rs := [10]) (by kernel_rfl) (by simp) ?_
      refine AllReadyH.cons rfl (fun K hK => ?_) AllReadyH.nil
      go_simp
      refine hK.out _ _ ?_ (fun hHeld => ?_)
      · exact ⟨(World.cell?_setCell_far _ _ _ _ (by exact fun e => HPG.out e.symm)).trans hHeld.1, (World.cell?_setCell_far _ _ _ _ (by show gl ≠ w.heap.size; omega)).trans hHeld.2.1, (World.cell?_setCell_far _ _ _ _ (by show gl ≠ w.heap.size; omega)).trans hHeld.2.2⟩
      clear hK K
      refine wpAnyH_done (by kernel_rfl) ?_ _
      go_wp2
      go_end0
      exact ⟨rfl, HFIN.out⟩
    obtain ⟨q, hq⟩ : ∃ q, l[k]? = some q := ⟨_, List.getElem?_eq_getElem hlt⟩
    obtain ⟨b, rfl, hbz, c0, c1⟩ := HROW.out k q hq
    obtain ⟨w0, w1, _, _⟩ := HPT.out.1 q (List.mem_iff_getElem?.2 ⟨k, hq⟩)
    have zc0 : wr.cell? ⟨b, k * 2, none⟩ = some (i64 q.1) := cell_later HI.out.old c0
    have zc1 : wr.cell? ⟨b, k * 2 + 1, none⟩ = some (i64 q.2) := cell_later HI.out.old c1
    have hzb : b < wr.heap.size := by omega
    have k0 : (0 : Int) ≤ (k : Int) := by omega
    have k1 : (k : Int) < (l.length : Int) := by omega
    have HSL := hid (show slotOf d.c i q.1 = q.1 / s % kk by rw [HSD.out, HKD.out]; rfl)
    have HSL' := hid (show slotOf d.c i t = t / s % kk by rw [HSD.out, HKD.out]; rfl)
    have HSU := hid (othersL_succ (c := d.c) (i := i) (t := t) hq)
    have n1 : ¬ s = 0 := by omega
    have n2 : ¬ kk = 0 := by omega
    have dq0 : 0 ≤ q.1 / s := Int.ediv_nonneg w0 (by omega)
    have dt0 : 0 ≤ t / s := Int.ediv_nonneg ht0 (by omega)
    have dq1 : q.1 / s ≤ 2147483647 := Int.le_trans (Int.ediv_le_self _ w0) w1
    have dt1 : t / s ≤ 2147483647 := Int.le_trans (Int.ediv_le_self _ ht0) ht1
    have m1 : IntKind.i64.wrap (q.1.tdiv s) = q.1 / s := IntWalk.i64_quo _ _ ⟨w0, by omega, b1⟩
    have m2 : IntKind.i64.wrap (t.tdiv s) = t / s := IntWalk.i64_quo _ _ ⟨ht0, by omega, b1⟩
    have m3 : (q.1 / s).tmod kk = q.1 / s % kk := IntWalk.rem_in _ _ dq0
    have m4 : (t / s).tmod kk = t / s % kk := IntWalk.rem_in _ _ dt0
    clear hq c0 c1
    cases hne : (q.1 / s % kk != t / s % kk) with
    | false =>
      have HSI := hid (fun n => si_drew (show SI w wr t v s kk u7 (othersL d.c i t (l.take (k + 1))) by rw [HSU.out, HSL.out, HSL'.out, hne]; simpa using HI.out) n)
      go_wp2_with fail
      go_quiet (fail)
      go_wp2
      go_roundw
      case rel => first | exact ⟨k + 1, by omega, by go_num, HSI.out _⟩ | ((repeat apply Exists.intro); exact ⟨⟨k + 1, by omega, by go_num, HSI.out _⟩, rfl⟩)
      case measure => simp [intOf]; omega
    | true =>
      have HSU2 := hid (show othersL d.c i t (l.take (k + 1)) = othersL d.c i t (l.take k) ++ [q] by rw [HSU.out, HSL.out, HSL'.out, hne]; rfl)
      have hol : (othersL d.c i t (l.take k)).length ≤ 60 := by
        have h1 := othersL_len d.c i t (l.take k)
        have h2 := List.length_take_le k l
        omega
      go_wp2_with fail
      go_quiet (fail)
      go_wp2_with (at_builtin; refine wpList_append_lies _ rfl (.tmp 54) (.tmp 65) 41 rfl (w.heap.size + 2) 48 q0 _ 2 16 Tryz.underlying41 HI0.out.1 HI0.out.2.1 HI0.out.2.2.1 HI0.out.2.2.2 rfl (by decide) u7 _ _ rfl (HI.out.own.alloc _) ⟨wr.heap.size, 0, none⟩ 1 1 [i64 q.1, i64 q.2] rfl rfl (World.news_of_block (heap_alloc_new wr _)) (by simp [Value.oneCell']) (by decide) ?_ ?_ ?_ (wr.heap.size + 1) (by simp) ?_)
      · unfold maxLen; omega
      · omega
      · show w.heap.size + 2 ≤ (wr.alloc _).heap.size
        simp; omega
      intro g cap w3 hown3 hgrow hat hlt3
      have HSI := hid (show SI w w3 t v s kk (.slice (some ⟨g, 0, none⟩) ((othersL d.c i t (l.take k)).length + 1) cap) (othersL d.c i t (l.take (k + 1))) by rw [HSU2.out]; exact si_app (si_drew HI.out _) hown3 hgrow)
      clear hown3 hgrow hat hlt3
      go_wp2
      go_roundw
      case rel => first | exact ⟨k + 1, by omega, by go_num, HSI.out⟩ | ((repeat apply Exists.intro); exact ⟨⟨k + 1, by omega, by go_num, HSI.out⟩, rfl⟩)
      case measure => simp [intOf]; omega
end Go.Proofs.YthbbfjfekchdiaaGreat
namespace Go.Proofs.YthbbfjfekchdiaaGreat
open Go.RowKit
set_option linter.unusedSimpArgs false
theorem Tryz.infoInt : (Tryz.prog.info? 3).map (fun i => (i.zero, i.size, i.bytes)) = some (some (.int .i64 0), 1, 8) := by kernel_rfl
structure GI (w wr : World) (sa ka sb kb : Int) (v' : Value) (o : List Int) : Prop where
  old : Below w.heap.size w wr
  ab : wr.heap[w.heap.size]? = some (.cells #[i64 sa, i64 ka] 37)
  bb : wr.heap[w.heap.size + 1]? = some (.cells #[i64 sb, i64 kb] 37)
  own : wr.ownsRow (w.heap.size + 2) 3 1 v' o.length (o.map i64)
theorem gi_start (w : World) (sa ka sb kb : Int) : GI w ((w.alloc (.cells #[i64 sa, i64 ka] 37)).alloc (.cells #[i64 sb, i64 kb] 37)) sa ka sb kb (.slice none 0 0) [] where
  old := ((Below.refl _ w).alloc (Nat.le_refl _) _).alloc (by simp) _
  ab := blk_alloc (blk_new w _)
  bb := by
    have h := blk_new (w.alloc (.cells #[i64 sa, i64 ka] 37)) (.cells #[i64 sb, i64 kb] 37)
    have e : (w.alloc (.cells #[i64 sa, i64 ka] 37)).heap.size = w.heap.size + 1 := by simp
    rw [e] at h; exact h
  own := World.ownsRow_nil _ _ _ _
theorem gi_later {w wr wx : World} {sa ka sb kb : Int} {v' : Value} {o : List Int} (h : GI w wr sa ka sb kb v' o) (hb : Below wr.heap.size wr wx) : GI w wx sa ka sb kb v' o :=
  ⟨h.old.trans (hb.mono h.old.size), blk_later hb (blk_lt h.ab) h.ab, blk_later hb (blk_lt h.bb) h.bb, owns_below h.own hb⟩
theorem gi_app {w wr w3 : World} {sa ka sb kb : Int} {v' : Value} {o : List Int} {q : Int} {O : Obj} {g cap : Nat} (h : GI w wr sa ka sb kb v' o)
    (hown : w3.ownsRow (w.heap.size + 2) 3 1 (.slice (some ⟨g, 0, none⟩) (o.length + 1) cap) (o.length + 1) (o.map i64 ++ [i64 q])) (hgrow : (wr.alloc O).grownBy w3 v'.ownBlock) :
    GI w w3 sa ka sb kb (.slice (some ⟨g, 0, none⟩) (o.length + 1) cap) (o ++ [q]) := by
  have hz := blk_lt h.bb
  have far : ∀ j, j < w.heap.size + 2 → w3.heap[j]? = wr.heap[j]? := by
    intro j hj
    rw [hgrow.block j (by simp; omega) (owns_not h.own hj), Below.heap_alloc wr O j (by omega)]
  refine ⟨?_, (far _ (by omega)).trans h.ab, (far _ (by omega)).trans h.bb, ?_⟩
  · refine Below.grown (h.old.alloc (by omega) O) hgrow (by simp; omega) fun k hk => ?_
    have := (h.own.lt k hk).1
    omega
  · rw [List.map_append, List.length_append]
    exact hown
theorem goesF_last {f : Nat} {d : RDb} {i : Nat} {t : Int} (h : d.c.many ≤ i + 1) : goesF f d i t = d := by
  cases f with
  | zero => rfl
  | succ f => rw [goesF, if_pos h]
set_option maxHeartbeats 1000000 in
theorem goes_last (f p i : Nat) (t : Int) (d : RDb) (In : Nat → Prop) (w : World) (hrep : RRep w In p d) (hd : d.Ok) (hi : i < d.c.many) (hl : d.c.many ≤ i + 1) :
    Calls Tryz.prog 93 #[.pointer (some ⟨p, 0, none⟩), i64 i, i64 t] w fun e w' => e = .returned (.tuple #[]) ∧ RRep w' (Up In w.heap.size) p (goesF f d i t) ∧ (goesF f d i t).Ok ∧ (goesF f d i t).c = d.c ∧ Fr In w w' := by
  have h4 := d.c.many_le
  have HF := hid (show RRep w (Up In w.heap.size) p (goesF f d i t) ∧ (goesF f d i t).Ok ∧ (goesF f d i t).c = d.c ∧ Fr In w w by
    rw [goesF_last hl]; exact ⟨hrep.weak fun k hk => .inl hk, hd, rfl, Fr.refl _ _⟩)
  obtain ⟨ip, gl, vs, hp, _⟩ := hrep
  have x10 : w.cell? ⟨p, 10, none⟩ = some (.slice (some ⟨gl, 0, none⟩) d.c.many d.c.many) := cell_of_blk hp 10
  have hpz : p < w.heap.size := blk_lt hp
  clear hp ip hd
  go_enter Tryz.func93, Tryz.ntmps93
  go_wp2
  exact bodyPost_ret (v := .tuple #[]) (by simp [results, Tryz.results93, go_sem]) rfl ⟨rfl, HF.out⟩
theorem step_nums {c : Cfg} (h : c.Ok) {i : Nat} (hi : i + 1 < c.many) : ∃ n : Nat, 1 ≤ n ∧ n ≤ 60 ∧ (n : Int) * c.s i = c.s (i + 1) ∧ (c.s (i + 1) / c.s i).toNat = n := by
  have hb := (bdB_all (c.ok_iff.1 h).2.2.2.2.1) i (by omega)
  have hb1 := (bdB_all (c.ok_iff.1 h).2.2.2.2.1) (i + 1) (by omega)
  have hf := h.2.2 i (by have := c.many_le; omega) hi
  obtain ⟨f1, f2, _, f4⟩ := hf
  have hs : 0 < c.s i := by have := hb.1; omega
  have e : c.s (i + 1) / c.s i * c.s i = c.s (i + 1) := Int.ediv_mul_cancel (Int.dvd_of_emod_eq_zero f2)
  have q0 : 0 ≤ c.s (i + 1) / c.s i := Int.ediv_nonneg (by have := hb1.1; omega) (by omega)
  have q1 : 1 ≤ c.s (i + 1) / c.s i := by
    rcases Int.lt_or_eq_of_le q0 with h | h
    · omega
    · rw [← h] at e; have := hb1.1; omega
  refine ⟨(c.s (i + 1) / c.s i).toNat, by omega, by have := hb.2.2.2; omega, ?_, rfl⟩
  rw [Int.toNat_of_nonneg q0]
  exact e
end Go.Proofs.YthbbfjfekchdiaaGreat
namespace Go.Proofs.YthbbfjfekchdiaaGreat
open Go.RowKit
set_option linter.unusedSimpArgs false
def GoesSaid (f : Nat) : Prop := ∀ (p i : Nat) (t : Int) (d : RDb) (In : Nat → Prop) (w : World), RRep w In p d → d.Ok → i < d.c.many → d.c.many ≤ i + f → 0 ≤ t → t ≤ 2147483647 →
    Calls Tryz.prog 93 #[.pointer (some ⟨p, 0, none⟩), i64 i, i64 t] w fun e w' => e = .returned (.tuple #[]) ∧ RRep w' (Up In w.heap.size) p (goesF f d i t) ∧ (goesF f d i t).Ok ∧ (goesF f d i t).c = d.c ∧ Fr In w w'
set_option maxHeartbeats 4000000 in
theorem goes_step (f : Nat) (IH : GoesSaid f) (p i : Nat) (t : Int) (d : RDb) (In : Nat → Prop) (w : World) (hrep : RRep w In p d) (hd : d.Ok) (hi : i + 1 < d.c.many) (hf : d.c.many ≤ i + (f + 1)) (ht0 : 0 ≤ t) (ht1 : t ≤ 2147483647) :
    Calls Tryz.prog 93 #[.pointer (some ⟨p, 0, none⟩), i64 i, i64 t] w fun e w' => e = .returned (.tuple #[]) ∧ RRep w' (Up In w.heap.size) p (goesF (f + 1) d i t) ∧ (goesF (f + 1) d i t).Ok ∧ (goesF (f + 1) d i t).c = d.c ∧ Fr In w w' := by
  have h4 := d.c.many_le
  have HD := hid hd
  have HREP := hid hrep
  obtain ⟨n, hn1, hn60, hns, hnq⟩ := step_nums hd.cfg hi
  obtain ⟨l, hl⟩ : ∃ l, d.L[i]? = some l := ⟨_, List.getElem?_eq_getElem (by rw [hd.len]; omega)⟩
  obtain ⟨l2, hl2⟩ : ∃ l2, d.L[i + 1]? = some l2 := ⟨_, List.getElem?_eq_getElem (by rw [hd.len]; omega)⟩
  have hba := (bdB_all (d.c.ok_iff.1 hd.cfg).2.2.2.2.1) i (by omega)
  have hbb := (bdB_all (d.c.ok_iff.1 hd.cfg).2.2.2.2.1) (i + 1) (by omega)
  have hmf := hd.cfg.1
  have HPT := hid (hd.pts i l hl)
  have hlen : l.length ≤ 60 := (hd.pts i l hl).2
  obtain ⟨ip, gl, vs, hp, hg, hs, ig, hr⟩ := hrep
  obtain ⟨vi, hvi, hown0, _⟩ := hr i l hl
  obtain ⟨y0, y1⟩ := cfg_cell hp i (by omega)
  obtain ⟨y2, y3⟩ := cfg_cell hp (i + 1) (by omega)
  have x8 : w.cell? ⟨p, 8, none⟩ = some (i64 d.c.m) := cell_of_blk hp 8
  have x9 : w.cell? ⟨p, 9, none⟩ = some (i64 d.c.f) := cell_of_blk hp 9
  have x10 : w.cell? ⟨p, 10, none⟩ = some (.slice (some ⟨gl, 0, none⟩) d.c.many d.c.many) := cell_of_blk hp 10
  have xi : w.cell? ⟨gl, i, none⟩ = some vi := (cell_of_blk hg i).trans hvi
  have HROW := hid (rowAt_of hown0)
  have hpz : p < w.heap.size := blk_lt hp
  have hgz : gl < w.heap.size := blk_lt hg
  obtain ⟨q0, hi0, hz0, hz1, hz2⟩ := info_parts Tryz.infoInt
  have HI0 := hid (And.intro hi0 (And.intro hz0 (And.intro hz1 hz2)))
  obtain ⟨j, hj⟩ : ∃ j, j = i + 1 := ⟨_, rfl⟩
  rw [← hj] at y2 y3 hns hnq hbb hl2 hi
  obtain ⟨sa, hsa⟩ : ∃ s, s = d.c.s i := ⟨_, rfl⟩
  obtain ⟨ka, hka⟩ : ∃ k, k = d.c.k i := ⟨_, rfl⟩
  obtain ⟨sb, hsb⟩ : ∃ s, s = d.c.s j := ⟨_, rfl⟩
  obtain ⟨kb, hkb⟩ : ∃ k, k = d.c.k j := ⟨_, rfl⟩
  have ba : 1 ≤ sa ∧ sa ≤ 86400 := by rw [hsa]; exact ⟨hba.1, hba.2.1⟩
  have bb : 1 ≤ sb ∧ sb ≤ 86400 := by rw [hsb]; exact ⟨hbb.1, hbb.2.1⟩
  rw [← hsa] at y0 hns
  rw [← hka] at y1
  rw [← hsb] at y2 hns
  rw [← hkb] at y3
  obtain ⟨fr, hfr⟩ : ∃ fr, fr = t - t % sb := ⟨_, rfl⟩
  have r0 : 0 ≤ t % sb := Int.emod_nonneg _ (by omega)
  have r1 : t % sb ≤ t := by
    have e1 := Int.mul_ediv_add_emod t sb
    have e2 : 0 ≤ sb * (t / sb) := Int.mul_nonneg (by omega) (Int.ediv_nonneg ht0 (by omega))
    omega
  have HM := hid (show t.tmod sb = t % sb from IntWalk.rem_in _ _ ht0)
  have HGF := hid (show goesF (f + 1) d i t = (if (valsTo d.c i l fr n).length = 0 ∨ 100 * ((valsTo d.c i l fr n).length : Int) < d.c.f * n then d else goesF f (d.put j (setL d.c j (fr, makesI d.c.m (valsTo d.c i l fr n)) l2)) j fr) by
    rw [← hsb] at hnq
    rw [goesF, if_neg (by omega)]
    simp only [← hj, ← hsb, ← hfr, hnq, hl, hl2, Option.getD_some])
  have HJ := hid hj
  have HFU := hid hf
  have HL2 := hid hl2
  have HSA := hid hsa
  have HNS := hid hns
  have hmf' : 1 ≤ d.c.m ∧ d.c.m ≤ 6 ∧ 0 ≤ d.c.f ∧ d.c.f ≤ 100 := ⟨hmf.1, hmf.2.1, hmf.2.2.1, hmf.2.2.2.1⟩
  obtain ⟨mm1, mm6, ff0, ff1⟩ := hmf'
  have hji : (i : Int) + 1 = (j : Int) := by omega
  have hjm : (j : Int) < (d.c.many : Int) := by omega
  have hj4 : (j : Int) < 4 := by omega
  have hj0 : (0 : Int) ≤ (j : Int) := by omega
  have hi4 : (i : Int) < 4 := by omega
  have hi0' : (0 : Int) ≤ (i : Int) := by omega
  have him : (i : Int) < (d.c.many : Int) := by omega
  have hfr0 : 0 ≤ fr := by omega
  have hfr1 : fr ≤ 2147483647 := by omega
  have HFR := hid hfr
  have hfrr : t - t % sb = fr := hfr.symm
  have hmj : decide (d.c.many ≤ j) = false := decide_eq_false (by omega)
  obtain ⟨ba1, ba2⟩ := ba
  obtain ⟨bb1, bb2⟩ := bb
  clear hp hg hs ip ig hr hvi hown0 hba hbb hd hi0 hz0 hz1 hz2 hsa hka hsb hkb hns hnq hl hl2 hmf hj hfr hi hf
  go_enter Tryz.func93, Tryz.ntmps93
  go_wp2
  go_loopw [9, 10, 11] (fun v' n' t' wr => ∃ (k : Nat) (x : Int), k ≤ n ∧ n' = i64 k ∧ t' = i64 (fr + x) ∧ Hid (x = (k : Int) * sa) ∧ GI w wr sa ka sb kb v' (valsTo d.c i l fr k)) (fun _ n' _ _ => n - (intOf n').toNat)
  case atStart => exact ⟨0, 0, by omega, rfl, by simp, (by simp : (0 : Int) = ((0 : Nat) : Int) * sa), gi_start w sa ka sb kb⟩
  case round =>
    clear y0 y1 y2 y3
    obtain ⟨k, x, hk, rfl, rfl, HX, I⟩ := hrel
    have HI := hid I
    have z10 : wr.cell? ⟨p, 10, none⟩ = some (.slice (some ⟨gl, 0, none⟩) d.c.many d.c.many) := cell_later I.old x10
    have zi : wr.cell? ⟨gl, i, none⟩ = some vi := cell_later I.old xi
    have za : wr.cell? ⟨w.heap.size, 0, none⟩ = some (i64 sa) := cell_of_blk I.ab 0
    have zb : wr.cell? ⟨w.heap.size + 1, 0, none⟩ = some (i64 sb) := cell_of_blk I.bb 0
    have hzr : w.heap.size + 1 < wr.heap.size := blk_lt I.bb
    have hzr0 : w.heap.size < wr.heap.size := by omega
    clear I
    by_cases hlt : k < n
    case neg =>
      have ekn : k = n := by omega
      subst ekn
      have hxs : x = sb := by rw [HX.out]; exact HNS.out
      subst hxs
      obtain ⟨vl, hvl⟩ : ∃ vl, vl = valsTo d.c i l fr k := ⟨_, rfl⟩
      rw [← hvl] at HI HGF
      have hvlen : vl.length ≤ k := by rw [hvl]; exact valsTo_len d.c i l fr k
      have HVI := hid (show ∀ v ∈ vl, VIn v by rw [hvl]; exact valsTo_in HPT.out.1)
      obtain ⟨a9, c9, rfl⟩ : ∃ a c, u9 = .slice a vl.length c := by
        obtain ⟨_, ⟨h, h0⟩ | ⟨g, cap, cur, h, _⟩⟩ := HI.out.own
        · exact ⟨none, 0, by rw [h, h0]⟩
        · exact ⟨_, _, h⟩
      obtain ⟨y, hy⟩ : ∃ y, y = d.c.f * (k : Int) := ⟨_, rfl⟩
      have hy0 : 0 ≤ y := by rw [hy]; exact Int.mul_nonneg ff0 (by omega)
      have hy1 : y ≤ 6000 := by
        rw [hy]
        have := Int.mul_le_mul ff1 (show (k : Int) ≤ 60 by omega) (by omega) (by omega)
        omega
      rw [← hy] at HGF
      have HY := hid (show d.c.f * (k : Int) = y from hy.symm)
      have z8 : wr.cell? ⟨p, 8, none⟩ = some (i64 d.c.m) := cell_later HI.out.old x8
      have z9 : wr.cell? ⟨p, 9, none⟩ = some (i64 d.c.f) := cell_later HI.out.old x9
      have hzp : p < wr.heap.size := by omega
      have HBK := hid (show goesF (f + 1) d i t = d → RRep wr (Up In w.heap.size) p (goesF (f + 1) d i t) ∧ (goesF (f + 1) d i t).Ok ∧ (goesF (f + 1) d i t).c = d.c ∧ Fr In w wr from fun e => by
        rw [e]; exact ⟨(HREP.out.later HI.out.old).weak fun q hq => .inl hq, HD.out, rfl, Fr.below HI.out.old⟩)
      clear hvl hy zi za
      by_cases g1 : vl.length = 0
      · have g1' : ((vl.length : Int) == 0) = true := by rw [beq_iff_eq]; omega
        have HF := hid (HBK.out (by rw [HGF.out, if_pos (.inl g1)]))
        clear g1
        go_wp2
        exact bodyPost_ret (v := .tuple #[]) (by simp [results, Tryz.results93, go_sem]) rfl ⟨rfl, HF.out⟩
      have g1' : ((vl.length : Int) == 0) = false := beq_eq_false_iff_ne.2 (by omega)
      have hyw : IntKind.i64.wrap (d.c.f * (k : Int)) = y := by rw [HY.out]; exact IntWalk.i64_in _ (by omega)
      by_cases g2 : 100 * (vl.length : Int) < y
      · have HF := hid (HBK.out (by rw [HGF.out, if_pos (.inr g2)]))
        go_wp2
        exact bodyPost_ret (v := .tuple #[]) (by simp [results, Tryz.results93, go_sem]) rfl ⟨rfl, HF.out⟩
      have HNE := hid (show vl ≠ [] from fun e => g1 (by rw [e]; rfl))
      obtain ⟨g, cap, cur, hv9, hgb, hgk, htk, _⟩ := owns_block HI.out.own (by omega)
      have hcap : a9 = some ⟨g, 0, none⟩ ∧ c9 = cap := by
        simp only [Value.slice.injEq] at hv9
        exact ⟨hv9.1, hv9.2.2⟩
      obtain ⟨rfl, rfl⟩ := hcap
      have HCEL := hid (show ∀ (q : Nat) (v : Int), vl[q]? = some v → wr.cell? ⟨g, q, none⟩ = some (i64 v) from fun q v hq => by
        have hlt2 : q < vl.length := by
          obtain ⟨x, _⟩ := List.getElem?_eq_some_iff.1 hq
          exact x
        have e1 : (vl.map i64)[q]? = some (i64 v) := by rw [List.getElem?_map, hq]; rfl
        rw [cell_of_blk hgk, ← e1, ← htk, List.getElem?_take_of_lt (by omega)]
        simp)
      have HGO := hid (show goesF (f + 1) d i t = goesF f (d.put j (setL d.c j (fr, makesI d.c.m vl) l2)) j fr by
        rw [HGF.out, if_neg (by rintro (h | h); exact g1 h; exact g2 h)])
      have hmvin := makesI_in (m := d.c.m) HVI.out HNE.out
      have HMV := hid hmvin
      clear hmvin hv9 hgb hgk htk
      go_wp2_with fail
      refine (makes_ref d.c.m g vl.length c9 vl _ mm1 mm6 rfl (by omega) (by omega) HVI.out HCEL.out).mono ?_
      rintro e w4 ⟨rfl, hw4⟩
      subst hw4
      obtain ⟨mv, hmv⟩ : ∃ mv, mv = makesI d.c.m vl := ⟨_, rfl⟩
      rw [← hmv] at HMV HGO
      rw [← hmv]
      clear hmv
      go_wp2_with fail
      refine (sets_ref p j fr mv d l2 In _ (HREP.out.later HI.out.old) HD.out HL2.out hfr0 hfr1).mono ?_
      rintro e w5 ⟨rfl, hrep5, hfr5⟩
      have hok5 := put_ok HD.out HL2.out (p := (fr, mv)) ⟨hfr0, hfr1, HMV.out.1, HMV.out.2⟩
      have H5 := hid (And.intro hrep5 (And.intro hfr5 hok5))
      clear hrep5 hfr5 hok5
      go_wp2_with fail
      refine (IH p j fr _ _ _ H5.out.1 H5.out.2.2 ?_ ?_ hfr0 hfr1).mono ?_
      · show j < d.c.many
        omega
      · show d.c.many ≤ j + f
        have h1 := HJ.out
        have h2 := HFU.out
        omega
      rintro e w6 ⟨rfl, hrep6, hok6, hc6, hfr6⟩
      have HF := hid (show RRep w6 (Up In w.heap.size) p (goesF (f + 1) d i t) ∧ (goesF (f + 1) d i t).Ok ∧ (goesF (f + 1) d i t).c = d.c ∧ Fr In w w6 by
        rw [HGO.out]
        have hz5 := H5.out.2.1.size
        refine ⟨hrep6.weak ?_, hok6, hc6, ((Fr.below HI.out.old).trans H5.out.2.1 (fun x hx => .inl hx)).trans hfr6 ?_⟩
        · rintro x ((hx | hx) | hx)
          · exact .inl hx
          · exact .inr (by omega)
          · exact .inr (by omega)
        · rintro x (hx | hx)
          · exact .inl hx
          · exact .inr (by omega))
      clear hrep6 hok6 hc6 hfr6
      go_wp2
      go_end0
      exact ⟨rfl, HF.out⟩
    have hx0 : 0 ≤ x := by rw [HX.out]; exact Int.mul_nonneg (by omega) (by omega)
    have HX1 := hid (show x + sa = ((k + 1 : Nat) : Int) * sa by rw [HX.out, Int.natCast_add, Int.add_mul]; omega)
    have hx1 : x + sa ≤ sb := by
      rw [HX1.out, ← HNS.out]
      exact Int.mul_le_mul_of_nonneg_right (by omega) (by omega)
    have HV := hid (valsTo_succ d.c i l fr k)
    have HTX := hid (show fr + (k : Int) * d.c.s i = fr + x by rw [HX.out, HSA.out])
    have hvl : (valsTo d.c i l fr k).length ≤ 60 := Nat.le_trans (valsTo_len d.c i l fr k) (by omega)
    go_wp2_with fail
    refine (has_ref p gl i d.c.many (fr + x) l vi _ z10 (by omega) zi (HROW.out.later HI.out.old) (by omega)).mono ?_
    rintro e w1 ⟨rfl, hb1⟩
    have HI1 := hid (gi_later HI.out hb1)
    have ua : w1.cell? ⟨w.heap.size, 0, none⟩ = some (i64 sa) := cell_of_blk HI1.out.ab 0
    have hz1 : w.heap.size + 1 < w1.heap.size := blk_lt HI1.out.bb
    have hz10 : w.heap.size < w1.heap.size := by omega
    clear hb1
    cases hh : hasL (fr + x) l with
    | none =>
      have HG := hid (fun (o : Obj) => gi_later (show GI w w1 sa ka sb kb u9 (valsTo d.c i l fr (k + 1)) by rw [HV.out, HTX.out, hh]; simpa using HI1.out) ((Below.refl _ w1).alloc (Nat.le_refl _) o))
      have hp0 : hasP (fr + x) l = (0, 0) := by unfold hasP; rw [hh]; rfl
      rw [hp0]
      clear hp0 hh
      go_wp2
      go_roundw
      case rel => first | exact ⟨k + 1, x + sa, by omega, by go_num, by go_num, HX1.out, HG.out _⟩ | ((repeat apply Exists.intro); exact ⟨⟨k + 1, x + sa, by omega, by go_num, by go_num, HX1.out, HG.out _⟩, rfl⟩)
      case measure => simp [intOf]; omega
    | some q =>
      have hp0 : hasP (fr + x) l = q := by unfold hasP; rw [hh]; rfl
      have HV2 := hid (show valsTo d.c i l fr (k + 1) = valsTo d.c i l fr k ++ [q.2] by rw [HV.out, HTX.out, hh]; rfl)
      rw [hp0]
      clear hp0 hh
      go_wp2_with (at_builtin; refine wpList_append_lies _ rfl (.tmp 65) (.tmp 68) 24 rfl (w.heap.size + 2) 3 q0 _ 1 8 Tryz.underlying24 HI0.out.1 HI0.out.2.1 HI0.out.2.2.1 HI0.out.2.2.2 rfl (by decide) u9 _ _ rfl ((HI1.out.own.alloc _).alloc _) ⟨w1.heap.size + 1, 0, none⟩ 1 1 [i64 q.2] rfl rfl ?hn (by simp [Value.oneCell']) (by decide) ?_ ?_ ?_ (w1.heap.size + 1 + 1) (by simp) ?_)
      case hn =>
        have e : (w1.alloc (.cells #[i64 q.1, i64 q.2] 48)).heap.size = w1.heap.size + 1 := by simp
        have h := heap_alloc_new (w1.alloc (.cells #[i64 q.1, i64 q.2] 48)) (.cells #[i64 q.2] 3)
        rw [e] at h
        exact World.news_of_block h
      · unfold maxLen; omega
      · omega
      · simp; omega
      intro g cap w3 hown3 hgrow hat hlt3
      have HG := hid (show GI w w3 sa ka sb kb (.slice (some ⟨g, 0, none⟩) ((valsTo d.c i l fr k).length + 1) cap) (valsTo d.c i l fr (k + 1)) by rw [HV2.out]; exact gi_app (gi_later HI1.out ((Below.refl _ w1).alloc (Nat.le_refl _) _)) hown3 hgrow)
      have u3 : w3.cell? ⟨w.heap.size, 0, none⟩ = some (i64 sa) := cell_of_blk HG.out.ab 0
      have hz3 : w.heap.size < w3.heap.size := blk_lt HG.out.ab
      clear hown3 hgrow hat hlt3
      go_wp2
      go_roundw
      case rel => first | exact ⟨k + 1, x + sa, by omega, by go_num, by go_num, HX1.out, HG.out⟩ | ((repeat apply Exists.intro); exact ⟨⟨k + 1, x + sa, by omega, by go_num, by go_num, HX1.out, HG.out⟩, rfl⟩)
      case measure => simp [intOf]; omega
theorem goes_all : ∀ f, GoesSaid f
  | 0 => fun p i t d In w _ _ h1 h2 _ _ => absurd h1 (by omega)
  | f + 1 => fun p i t d In w hrep hd hi hf ht0 ht1 => by
    by_cases hl : d.c.many ≤ i + 1
    · exact goes_last (f + 1) p i t d In w hrep hd hi hl
    · exact goes_step f (goes_all f) p i t d In w hrep hd (by omega) (by omega) ht0 ht1
end Go.Proofs.YthbbfjfekchdiaaGreat
namespace Go.Proofs.YthbbfjfekchdiaaGreat
open Go.RowKit
set_option linter.unusedSimpArgs false
def writesR (d : RDb) (now : Int) (q : Pt) : RDb :=
  match firstO d.c now q.1 with
  | none => d
  | some i => goesF d.c.many (d.put i (setL d.c i (q.1 - q.1 % d.c.s i, q.2) ((d.L[i]?).getD []))) i (q.1 - q.1 % d.c.s i)
theorem firstO_lt {c : Cfg} {now t : Int} {i : Nat} (h : firstO c now t = some i) : i < c.many ∧ covB c i now t = true := by
  have key : ∀ (n j : Nat), firstFrom c now t j n = some i → i < j + n ∧ covB c i now t = true := by
    intro n
    induction n with
    | zero => intro j h; simp [firstFrom] at h
    | succ n ih =>
      intro j h
      rw [firstFrom] at h
      split at h
      · simp at h; subst h; exact ⟨by omega, by assumption⟩
      · have := ih (j + 1) h; exact ⟨by omega, this.2⟩
  have := key c.many 0 h
  exact ⟨by omega, this.2⟩
theorem RRep.arc {w : World} {In : Nat → Prop} {p : Nat} {d : RDb} (h : RRep w In p d) (hd : d.Ok) : RArc w p d.c := by
  obtain ⟨gl, vs, hp, _⟩ := h.mem
  exact ⟨hd.cfg, gl, hp⟩
set_option maxHeartbeats 1000000 in
theorem writes_none (p : Nat) (now : Int) (q : Pt) (d : RDb) (In : Nat → Prop) (w : World) (hrep : RRep w In p d) (hd : d.Ok) (hq : PtIn q) (n0 : 0 ≤ now) (n1 : now ≤ 2147483647) (hf : firstO d.c now q.1 = none) :
    Calls Tryz.prog 69 #[.pointer (some ⟨p, 0, none⟩), i64 now, .agg #[i64 q.1, i64 q.2]] w fun e w' => e = .returned (.tuple #[]) ∧ RRep w' (Up In w.heap.size) p (writesR d now q) ∧ (writesR d now q).Ok ∧ (writesR d now q).c = d.c ∧ Fr In w w' := by
  have HFI := hid (show firstI d.c now q.1 = -1 by unfold firstI; rw [hf])
  have HW := hid (show writesR d now q = d by unfold writesR; rw [hf])
  have HREP := hid hrep
  have HD := hid hd
  obtain ⟨q0, q1, _, _⟩ := hq
  have hal := fun (o : Obj) => (Below.refl w.heap.size w).alloc (Nat.le_refl _) o
  have HAL := hid hal
  clear hrep hd hf hal
  go_enter Tryz.func69, Tryz.ntmps69
  go_wp2_with fail
  refine (first_ref p d.c now q.1 _ ((HREP.out.later (HAL.out _)).arc HD.out) n0 n1 q0 q1).mono ?_
  rintro e w1 ⟨rfl, hb1⟩
  rw [HFI.out]
  have HF := hid (show RRep w1 (Up In w.heap.size) p (writesR d now q) ∧ (writesR d now q).Ok ∧ (writesR d now q).c = d.c ∧ Fr In w w1 by
    rw [HW.out]
    have hb := (HAL.out _).trans (hb1.mono (HAL.out _).size)
    exact ⟨(HREP.out.later hb).weak fun k hk => .inl hk, HD.out, rfl, Fr.below hb⟩)
  clear hb1
  go_wp2
  exact bodyPost_ret (v := .tuple #[]) (by simp [results, Tryz.results69, go_sem]) rfl ⟨rfl, HF.out⟩
set_option maxHeartbeats 2000000 in
theorem writes_some (p i : Nat) (now : Int) (q : Pt) (d : RDb) (In : Nat → Prop) (w : World) (hrep : RRep w In p d) (hd : d.Ok) (hq : PtIn q) (n0 : 0 ≤ now) (n1 : now ≤ 2147483647) (hf : firstO d.c now q.1 = some i) :
    Calls Tryz.prog 69 #[.pointer (some ⟨p, 0, none⟩), i64 now, .agg #[i64 q.1, i64 q.2]] w fun e w' => e = .returned (.tuple #[]) ∧ RRep w' (Up In w.heap.size) p (writesR d now q) ∧ (writesR d now q).Ok ∧ (writesR d now q).c = d.c ∧ Fr In w w' := by
  have h4 := d.c.many_le
  obtain ⟨hin, _⟩ := firstO_lt hf
  obtain ⟨l, hl⟩ : ∃ l, d.L[i]? = some l := ⟨_, List.getElem?_eq_getElem (by rw [hd.len]; omega)⟩
  have hbd := (bdB_all (d.c.ok_iff.1 hd.cfg).2.2.2.2.1) i hin
  have HFI := hid (show firstI d.c now q.1 = i by unfold firstI; rw [hf])
  obtain ⟨s, hs⟩ : ∃ s, s = d.c.s i := ⟨_, rfl⟩
  have b1 : 1 ≤ s := by rw [hs]; exact hbd.1
  have b2 : s ≤ 86400 := by rw [hs]; exact hbd.2.1
  obtain ⟨q0, q1, q2, q3⟩ := hq
  obtain ⟨t, ht⟩ : ∃ t, t = q.1 - q.1 % s := ⟨_, rfl⟩
  have r0 : 0 ≤ q.1 % s := Int.emod_nonneg _ (by omega)
  have r1 : q.1 % s ≤ q.1 := by
    have e1 := Int.mul_ediv_add_emod q.1 s
    have e2 : 0 ≤ s * (q.1 / s) := Int.mul_nonneg (by omega) (Int.ediv_nonneg q0 (by omega))
    omega
  have ht0 : 0 ≤ t := by omega
  have ht1 : t ≤ 2147483647 := by omega
  have HW := hid (show writesR d now q = goesF d.c.many (d.put i (setL d.c i (t, q.2) l)) i t by unfold writesR; rw [hf]; simp only [← hs, ← ht, hl, Option.getD_some])
  have HREP := hid hrep
  have HD := hid hd
  have HL := hid hl
  have HAL := hid (fun (o : Obj) => (Below.refl w.heap.size w).alloc (Nat.le_refl _) o)
  have HS := hid hs
  have htt : q.1 - q.1 % s = t := ht.symm
  have i0 : (0 : Int) ≤ (i : Int) := by omega
  have i4 : (i : Int) < 4 := by omega
  have nz : ¬ s = 0 := by omega
  have mm : q.1.tmod s = q.1 % s := IntWalk.rem_in _ _ q0
  clear hrep hd hf hl hbd hs ht
  go_enter Tryz.func69, Tryz.ntmps69
  go_wp2_with fail
  refine (first_ref p d.c now q.1 _ ((HREP.out.later (HAL.out _)).arc HD.out) n0 n1 q0 q1).mono ?_
  rintro e w1 ⟨rfl, hb1⟩
  rw [HFI.out]
  have HB := hid (show Below w.heap.size w w1 from (HAL.out _).trans (hb1.mono (HAL.out _).size))
  have c0 : w1.cell? ⟨w.heap.size, 0, none⟩ = some (i64 q.1) := cell_later hb1 (by simp)
  have c1 : w1.cell? ⟨w.heap.size, 1, none⟩ = some (i64 q.2) := cell_later hb1 (by simp)
  have hz1 : w.heap.size < w1.heap.size := by have := hb1.size; simp at this; omega
  obtain ⟨gl, vs, hp, _⟩ := (HREP.out.later HB.out).mem
  obtain ⟨y0, _⟩ := cfg_cell hp i (by omega)
  rw [← HS.out] at y0
  have hpz : p < w1.heap.size := blk_lt hp
  clear hb1 hp
  go_wp2_with fail
  go_quiet (fail)
  go_wp2_with fail
  refine (sets_ref p i t q.2 d l In _ ?_ HD.out HL.out ht0 ht1).mono ?_
  · exact (HREP.out.later HB.out).later (below_drewN (Below.refl _ _) _)
  rintro e w2 ⟨rfl, hrep2, hfr2⟩
  have hok2 := put_ok HD.out HL.out (p := (t, q.2)) ⟨ht0, ht1, q2, q3⟩
  have hz2 : w1.heap.size ≤ w2.heap.size := hfr2.size
  have H2 := hid (show RRep w2 (Up In w1.heap.size) p (d.put i (setL d.c i (t, q.2) l)) ∧ Fr In w1 w2 ∧ (d.put i (setL d.c i (t, q.2) l)).Ok from ⟨hrep2, ⟨hfr2.os, hfr2.tape, hfr2.output, hfr2.size, hfr2.block⟩, hok2⟩)
  clear hrep2 hfr2 hok2
  go_wp2_with fail
  refine (goes_all d.c.many p i t _ _ _ H2.out.1 H2.out.2.2 hin (by show d.c.many ≤ i + d.c.many; omega) ht0 ht1).mono ?_
  rintro e w3 ⟨rfl, hrep3, hok3, hc3, hfr3⟩
  have HF := hid (show RRep w3 (Up In w.heap.size) p (writesR d now q) ∧ (writesR d now q).Ok ∧ (writesR d now q).c = d.c ∧ Fr In w w3 by
    rw [HW.out]
    refine ⟨hrep3.weak ?_, hok3, hc3, ((Fr.below HB.out).trans H2.out.2.1 (fun x hx => .inl hx)).trans hfr3 ?_⟩
    · rintro x ((hx | hx) | hx)
      · exact .inl hx
      · exact .inr (by omega)
      · exact .inr (by omega)
    · rintro x (hx | hx)
      · exact .inl hx
      · exact .inr (by omega))
  clear hrep3 hok3 hc3 hfr3
  go_wp2
  go_end0
  exact ⟨rfl, HF.out⟩
theorem writes_ref (p : Nat) (now : Int) (q : Pt) (d : RDb) (In : Nat → Prop) (w : World) (hrep : RRep w In p d) (hd : d.Ok) (hq : PtIn q) (n0 : 0 ≤ now) (n1 : now ≤ 2147483647) :
    Calls Tryz.prog 69 #[.pointer (some ⟨p, 0, none⟩), i64 now, .agg #[i64 q.1, i64 q.2]] w fun e w' => e = .returned (.tuple #[]) ∧ RRep w' (Up In w.heap.size) p (writesR d now q) ∧ (writesR d now q).Ok ∧ (writesR d now q).c = d.c ∧ Fr In w w' := by
  cases hf : firstO d.c now q.1 with
  | none => exact writes_none p now q d In w hrep hd hq n0 n1 hf
  | some i => exact writes_some p i now q d In w hrep hd hq n0 n1 hf
end Go.Proofs.YthbbfjfekchdiaaGreat
