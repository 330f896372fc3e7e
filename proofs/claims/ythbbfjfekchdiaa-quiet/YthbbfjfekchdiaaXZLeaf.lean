import Derived.Test.YthbbfjfekchdiaaXZNum
import Derived.Test.YthbbfjfekchdiaaXLeafWalks
import Derived.Deep.RegionHeld3
import Derived.Deep.QuietTactic
import Derived.BigQuiet
import Derived.Deep.DrawnRows
import Derived.Deep.AppendSrc
import Derived.Deep.DeepCutAuto
import Derived.Deep.AppendLies
/-
  'goes' of the document, as plain mathematics; that the data's bounds are kept.
-/
namespace Go.Proofs.Ythbbfjfekchdiaa

theorem nodup_len : ∀ (n : Nat) (l : List Int), l.Nodup → (∀ x ∈ l, 0 ≤ x ∧ x < (n : Int)) → l.length ≤ n
  | 0, l, _, h => by
    cases l with
    | nil => exact Nat.le_refl _
    | cons a l => have := h a (by simp); omega
  | n + 1, l, hd, h => by
    by_cases hm : (n : Int) ∈ l
    · have h1 := nodup_len n (l.erase n) (hd.erase _) fun x hx => by
        obtain ⟨hne, hx'⟩ := (List.Nodup.mem_erase_iff hd).1 hx
        have := h x hx'
        omega
      rw [List.length_erase_of_mem hm] at h1
      omega
    · have h1 := nodup_len n l hd fun x hx => by
        have := h x hx
        have : x ≠ (n : Int) := fun e => hm (e ▸ hx)
        omega
      omega

theorem slotOf_bd {c : Cfg} {i : Nat} (hb : c.Bd i) (t : Int) : 0 ≤ slotOf c i t ∧ slotOf c i t < c.k i := by
  unfold slotOf
  have := hb.2.2.1
  exact ⟨Int.emod_nonneg _ (by omega), Int.emod_lt_of_pos _ (by omega)⟩

theorem setL_apart {c : Cfg} {i : Nat} {p : Pt} {l : List Pt} (h : (l.map fun q => slotOf c i q.1).Nodup) : ((setL c i p l).map fun q => slotOf c i q.1).Nodup := by
  unfold setL othersL
  rw [List.map_append, List.nodup_append]
  refine ⟨?_, by simp, ?_⟩
  · exact h.sublist (List.Sublist.map _ List.filter_sublist)
  · intro a ha b hb e
    simp only [List.map_cons, List.map_nil, List.mem_singleton] at hb
    obtain ⟨q, hq, rfl⟩ := List.mem_map.1 ha
    have := (List.mem_filter.1 hq).2
    simp only [bne_iff_ne, ne_eq] at this
    exact this (e.trans hb)

theorem put_ok {d : RDb} (hd : d.Ok) {i : Nat} {l : List Pt} (hl : d.L[i]? = some l) {p : Pt} (hp : PtIn p) : (d.put i (setL d.c i p l)).Ok := by
  have hi : i < d.c.many := by
    obtain ⟨x, _⟩ := List.getElem?_eq_some_iff.1 hl
    rw [← hd.len]; exact x
  have hbd := (bdB_all (d.c.ok_iff.1 hd.cfg).2.2.2.2.1) i hi
  have key : ∀ (j : Nat) (l' : List Pt), (d.put i (setL d.c i p l)).L[j]? = some l' → (j = i ∧ l' = setL d.c i p l) ∨ (j ≠ i ∧ d.L[j]? = some l') := by
    intro j l' h
    unfold RDb.put at h
    by_cases e : i = j
    · subst e
      simp only [List.getElem?_set_self', hl] at h
      exact .inl ⟨rfl, by simpa using h.symm⟩
    · exact .inr ⟨fun x => e x.symm, by simpa [List.getElem?_set_ne e] using h⟩
  refine ⟨hd.cfg, by unfold RDb.put; simpa using hd.len, ?_, ?_⟩
  · intro j l' h
    rcases key j l' h with ⟨rfl, rfl⟩ | ⟨_, h'⟩
    · refine ⟨?_, ?_⟩
      · intro q hq
        unfold setL othersL at hq
        rcases List.mem_append.1 hq with hq | hq
        · exact (hd.pts _ l hl).1 q (List.mem_filter.1 hq).1
        · rw [List.mem_singleton.1 hq]; exact hp
      · have h1 := nodup_len (d.c.k j).toNat _ (setL_apart (p := p) (hd.apart j l hl)) fun x hx => by
          obtain ⟨q, _, rfl⟩ := List.mem_map.1 hx
          have := slotOf_bd hbd q.1
          omega
        rw [List.length_map] at h1
        have := hbd.2.2.2
        omega
    · exact hd.pts j l' h'
  · intro j l' h
    rcases key j l' h with ⟨rfl, rfl⟩ | ⟨_, h'⟩
    · exact setL_apart (hd.apart _ l hl)
    · exact hd.apart j l' h'

/-- the values that an archive has in a stretch, from a stamp on, of n aligned stamps -/
def valsTo (c : Cfg) (i : Nat) (l : List Pt) (fr : Int) (n : Nat) : List Int := (List.range n).filterMap fun j : Nat => (hasL (fr + (j : Int) * c.s i) l).map (·.2)
theorem valsTo_zero (c : Cfg) (i : Nat) (l : List Pt) (fr : Int) : valsTo c i l fr 0 = [] := rfl
theorem valsTo_succ (c : Cfg) (i : Nat) (l : List Pt) (fr : Int) (n : Nat) : valsTo c i l fr (n + 1) = valsTo c i l fr n ++ ((hasL (fr + n * c.s i) l).map (·.2)).toList := by
  unfold valsTo
  rw [List.range_succ, List.filterMap_append]
  congr 1
theorem valsTo_len (c : Cfg) (i : Nat) (l : List Pt) (fr : Int) (n : Nat) : (valsTo c i l fr n).length ≤ n := by
  have := List.length_filterMap_le (fun j : Nat => (hasL (fr + (j : Int) * c.s i) l).map (·.2)) (List.range n)
  simpa [valsTo] using this
theorem hasL_mem {t : Int} {l : List Pt} {q : Pt} (h : hasL t l = some q) : q ∈ l := List.mem_of_find?_eq_some h
theorem valsTo_in {c : Cfg} {i : Nat} {l : List Pt} {fr : Int} {n : Nat} (h : ∀ q ∈ l, PtIn q) : ∀ v ∈ valsTo c i l fr n, VIn v := by
  intro v hv
  unfold valsTo at hv
  obtain ⟨j, _, hj⟩ := List.mem_filterMap.1 hv
  cases hh : hasL (fr + j * c.s i) l with
  | none => rw [hh] at hj; simp at hj
  | some q =>
    rw [hh] at hj
    simp only [Option.map_some, Option.some.injEq] at hj
    have := h q (hasL_mem hh)
    unfold PtIn at this
    unfold VIn
    omega

/-- behind a slot of archive i that was written -/
def goesF : Nat → RDb → Nat → Int → RDb
  | 0, d, _, _ => d
  | f + 1, d, i, t =>
    if d.c.many ≤ i + 1 then d else
    let fr := t - t % d.c.s (i + 1)
    let n := (d.c.s (i + 1) / d.c.s i).toNat
    let l := valsTo d.c i ((d.L[i]?).getD []) fr n
    if l.length = 0 ∨ 100 * (l.length : Int) < d.c.f * n then d
    else goesF f (d.put (i + 1) (setL d.c (i + 1) (fr, makesI d.c.m l) ((d.L[i + 1]?).getD []))) (i + 1) fr

theorem makesI_in {m : Int} {l : List Int} (hv : ∀ v ∈ l, VIn v) (hne : l ≠ []) : VIn (makesI m l) := by
  unfold makesI
  have hn : 0 < (l.length : Int) := by
    have := List.length_pos_iff.2 hne
    omega
  split
  · have h := sumTo_in hv l.length (Nat.le_refl _)
    have e1 : -1000000000 ≤ sumTo l l.length / (l.length : Int) := (Int.le_ediv_iff_mul_le hn).2 (by omega)
    have e2 : sumTo l l.length / (l.length : Int) ≤ 1000000000 := Int.ediv_le_of_le_mul hn (by omega)
    exact ⟨e1, e2⟩
  · split
    · unfold VIn cutI; omega
    · exact outTo_in hv hne l.length (Nat.le_refl _)
end Go.Proofs.Ythbbfjfekchdiaa
namespace Go.Proofs.Ythbbfjfekchdiaa
open Go.RowKit
set_option linter.unusedSimpArgs false
attribute [local go_sem] Go.wp_at_zero Go.wp_at_succ

theorem Try.infoPoint : (Try.prog.info? 39).map (fun i => (i.zero, i.size, i.bytes)) = some (some (.agg #[.int .i64 0, .int .i64 0]), 2, 16) := by kernel_rfl

theorem othersL_succ {c : Cfg} {i : Nat} {t : Int} {l : List Pt} {k : Nat} {q : Pt} (h : l[k]? = some q) :
    othersL c i t (l.take (k + 1)) = othersL c i t (l.take k) ++ (if slotOf c i q.1 != slotOf c i t then [q] else []) := by
  unfold othersL
  rw [List.take_add_one, h, List.filter_append]
  simp only [Option.toList]
  congr 1
  by_cases e : (slotOf c i q.1 != slotOf c i t) = true
  · rw [if_pos e, List.filter_cons_of_pos (by exact e)]; rfl
  · rw [if_neg e, List.filter_cons_of_neg (by exact e)]; rfl
theorem othersL_len (c : Cfg) (i : Nat) (t : Int) (l : List Pt) : (othersL c i t l).length ≤ l.length := List.length_filter_le _ _
theorem ptCells_snoc (l : List Pt) (q : Pt) : ptCells (l ++ [q]) = ptCells l ++ [i64 q.1, i64 q.2] := by
  unfold ptCells
  rw [List.flatMap_append]; rfl

theorem grown_undrew {w w' : World} {row : Option Nat} (h : w.drew.grownBy w' row) : w.grownBy w' row := ⟨h.os, h.tape, h.output, h.size, h.block⟩
/-- the loop of 'sets': what stands at a round's head -/
structure SI (w wr : World) (t v s kk : Int) (v' : Value) (o : List Pt) : Prop where
  old : Below w.heap.size w wr
  pb : wr.heap[w.heap.size]? = some (.cells #[i64 t, i64 v] 39)
  ab : wr.heap[w.heap.size + 1]? = some (.cells #[i64 s, i64 kk] 26)
  own : wr.ownsRow (w.heap.size + 2) 39 2 v' o.length (ptCells o)
theorem si_start (w : World) (t v s kk : Int) : SI w ((w.alloc (.cells #[i64 t, i64 v] 39)).alloc (.cells #[i64 s, i64 kk] 26)) t v s kk (.slice none 0 0) [] where
  old := ((Below.refl _ w).alloc (Nat.le_refl _) _).alloc (by simp) _
  pb := blk_alloc (blk_new w _)
  ab := by
    have h := blk_new (w.alloc (.cells #[i64 t, i64 v] 39)) (.cells #[i64 s, i64 kk] 26)
    have e : (w.alloc (.cells #[i64 t, i64 v] 39)).heap.size = w.heap.size + 1 := by simp
    rw [e] at h; exact h
  own := World.ownsRow_nil _ _ _ _
theorem si_drew {w wr : World} {t v s kk : Int} {v' : Value} {o : List Pt} (h : SI w wr t v s kk v' o) (n : Nat) : SI w (wr.drewN n) t v s kk v' o :=
  ⟨below_drewN h.old n, h.pb, h.ab, h.own⟩
theorem si_app {w wr w3 : World} {t v s kk : Int} {v' : Value} {o : List Pt} {q : Pt} {O : Obj} {g cap : Nat} (h : SI w wr t v s kk v' o)
    (hown : w3.ownsRow (w.heap.size + 2) 39 2 (.slice (some ⟨g, 0, none⟩) (o.length + 1) cap) (o.length + 1) (ptCells o ++ [i64 q.1, i64 q.2])) (hgrow : (wr.alloc O).grownBy w3 v'.ownBlock) :
    SI w w3 t v s kk (.slice (some ⟨g, 0, none⟩) (o.length + 1) cap) (o ++ [q]) := by
  have hz := blk_lt h.ab
  have far : ∀ j, j < w.heap.size + 2 → w3.heap[j]? = wr.heap[j]? := by
    intro j hj
    rw [hgrow.block j (by simp; omega) (owns_not h.own hj), Below.heap_alloc wr O j (by omega)]
  refine ⟨?_, (far _ (by omega)).trans h.pb, (far _ (by omega)).trans h.ab, ?_⟩
  · refine Below.grown (h.old.alloc (by omega) O) hgrow (by simp; omega) fun k hk => ?_
    have := (h.own.lt k hk).1
    omega
  · rw [ptCells_snoc, List.length_append]
    exact hown

end Go.Proofs.Ythbbfjfekchdiaa
namespace Go.Proofs.Ythbbfjfekchdiaa
open Go.RowKit
set_option linter.unusedSimpArgs false

theorem Try.infoInt : (Try.prog.info? 3).map (fun i => (i.zero, i.size, i.bytes)) = some (some (.int .i64 0), 1, 8) := by kernel_rfl

/-- the loop of 'goes': what stands at a round's head -/
structure GI (w wr : World) (sa ka sb kb : Int) (v' : Value) (o : List Int) : Prop where
  old : Below w.heap.size w wr
  ab : wr.heap[w.heap.size]? = some (.cells #[i64 sa, i64 ka] 26)
  bb : wr.heap[w.heap.size + 1]? = some (.cells #[i64 sb, i64 kb] 26)
  own : wr.ownsRow (w.heap.size + 2) 3 1 v' o.length (o.map i64)
theorem gi_start (w : World) (sa ka sb kb : Int) : GI w ((w.alloc (.cells #[i64 sa, i64 ka] 26)).alloc (.cells #[i64 sb, i64 kb] 26)) sa ka sb kb (.slice none 0 0) [] where
  old := ((Below.refl _ w).alloc (Nat.le_refl _) _).alloc (by simp) _
  ab := blk_alloc (blk_new w _)
  bb := by
    have h := blk_new (w.alloc (.cells #[i64 sa, i64 ka] 26)) (.cells #[i64 sb, i64 kb] 26)
    have e : (w.alloc (.cells #[i64 sa, i64 ka] 26)).heap.size = w.heap.size + 1 := by simp
    rw [e] at h; exact h
  own := World.ownsRow_nil _ _ _ _
theorem gi_later {w wr wx : World} {sa ka sb kb : Int} {v' : Value} {o : List Int} (h : GI w wr sa ka sb kb v' o) (hb : Below wr.heap.size wr wx) : GI w wx sa ka sb kb v' o :=
  ⟨h.old.trans (hb.mono h.old.size), blk_later hb (blk_lt h.ab) h.ab, blk_later hb (blk_lt h.bb) h.bb, owns_below h.own hb⟩
theorem gi_app {w wr w3 : World} {sa ka sb kb : Int} {v' : Value} {o : List Int} {q : Int} {O : Obj} {g cap : Nat} (h : GI w wr sa ka sb kb v' o)
    (hown : w3.ownsRow (w.heap.size + 2) 3 1 (.slice (some ⟨g, 0, none⟩) (o.length + 1) cap) (o.length + 1) (o.map i64 ++ [i64 q])) (hgrow : (wr.alloc O).grownBy w3 v'.ownBlock) :
    GI w w3 sa ka sb kb (.slice (some ⟨g, 0, none⟩) (o.length + 1) cap) (o ++ [q]) := by
  have hz := blk_lt h.bb
  have far : ∀ j, j < w.heap.size + 2 → w3.heap[j]? = wr.heap[j]? := by
    intro j hj
    rw [hgrow.block j (by simp; omega) (owns_not h.own hj), Below.heap_alloc wr O j (by omega)]
  refine ⟨?_, (far _ (by omega)).trans h.ab, (far _ (by omega)).trans h.bb, ?_⟩
  · refine Below.grown (h.old.alloc (by omega) O) hgrow (by simp; omega) fun k hk => ?_
    have := (h.own.lt k hk).1
    omega
  · rw [List.map_append, List.length_append]
    exact hown

theorem goesF_last {f : Nat} {d : RDb} {i : Nat} {t : Int} (h : d.c.many ≤ i + 1) : goesF f d i t = d := by
  cases f with
  | zero => rfl
  | succ f => rw [goesF, if_pos h]

/-- the numbers of two archives, one behind the other -/
theorem step_nums {c : Cfg} (h : c.Ok) {i : Nat} (hi : i + 1 < c.many) : ∃ n : Nat, 1 ≤ n ∧ n ≤ 60 ∧ (n : Int) * c.s i = c.s (i + 1) ∧ (c.s (i + 1) / c.s i).toNat = n := by
  have hb := (bdB_all (c.ok_iff.1 h).2.2.2.2.1) i (by omega)
  have hb1 := (bdB_all (c.ok_iff.1 h).2.2.2.2.1) (i + 1) (by omega)
  have hf := h.2.2 i (by have := c.many_le; omega) hi
  obtain ⟨f1, f2, _, f4⟩ := hf
  have hs : 0 < c.s i := by have := hb.1; omega
  have e : c.s (i + 1) / c.s i * c.s i = c.s (i + 1) := Int.ediv_mul_cancel (Int.dvd_of_emod_eq_zero f2)
  have q0 : 0 ≤ c.s (i + 1) / c.s i := Int.ediv_nonneg (by have := hb1.1; omega) (by omega)
  have q1 : 1 ≤ c.s (i + 1) / c.s i := by
    rcases Int.lt_or_eq_of_le q0 with h | h
    · omega
    · rw [← h] at e; have := hb1.1; omega
  refine ⟨(c.s (i + 1) / c.s i).toNat, by omega, by have := hb.2.2.2; omega, ?_, rfl⟩
  rw [Int.toNat_of_nonneg q0]
  exact e
end Go.Proofs.Ythbbfjfekchdiaa
namespace Go.Proofs.Ythbbfjfekchdiaa
open Go.RowKit
set_option linter.unusedSimpArgs false

end Go.Proofs.Ythbbfjfekchdiaa
namespace Go.Proofs.Ythbbfjfekchdiaa
open Go.RowKit
set_option linter.unusedSimpArgs false

/-- a point is written -/
def writesR (d : RDb) (now : Int) (q : Pt) : RDb :=
  match firstO d.c now q.1 with
  | none => d
  | some i => goesF d.c.many (d.put i (setL d.c i (q.1 - q.1 % d.c.s i, q.2) ((d.L[i]?).getD []))) i (q.1 - q.1 % d.c.s i)

theorem firstO_lt {c : Cfg} {now t : Int} {i : Nat} (h : firstO c now t = some i) : i < c.many ∧ covB c i now t = true := by
  have key : ∀ (n j : Nat), firstFrom c now t j n = some i → i < j + n ∧ covB c i now t = true := by
    intro n
    induction n with
    | zero => intro j h; simp [firstFrom] at h
    | succ n ih =>
      intro j h
      rw [firstFrom] at h
      split at h
      · simp at h; subst h; exact ⟨by omega, by assumption⟩
      · have := ih (j + 1) h; exact ⟨by omega, this.2⟩
  have := key c.many 0 h
  exact ⟨by omega, this.2⟩

end Go.Proofs.Ythbbfjfekchdiaa
/-
  Update of the document, as plain mathematics.
-/
namespace Go.Proofs.Ythbbfjfekchdiaa

/-- the error of one point -/
def ptErr (c : Cfg) (now : Int) (q : Pt) : Int := if ¬ PtIn q then 1 else if now < q.1 then 3 else if firstI c now q.1 < 0 then 4 else 0
/-- the first point with an error, from place k on -/
def errFrom (c : Cfg) (now : Int) : Nat → List Pt → Option (Int × Nat)
  | _, [] => none
  | k, q :: l => if ptErr c now q = 0 then errFrom c now (k + 1) l else some (ptErr c now q, k)
def updErr (c : Cfg) (now : Int) (l : List Pt) : Int × Nat :=
  if ¬ (0 ≤ now ∧ now ≤ 2147483647) ∨ 100 < l.length then (1, 0) else (errFrom c now 0 l).getD (0, 0)
def writesAll (d : RDb) (now : Int) (l : List Pt) : RDb := l.foldl (fun d q => writesR d now q) d
def updR (d : RDb) (now : Int) (l : List Pt) : RDb := if (updErr d.c now l).1 = 0 then writesAll d now l else d

theorem errFrom_none {c : Cfg} {now : Int} : ∀ (l : List Pt) (k : Nat), (∀ q ∈ l, ptErr c now q = 0) → errFrom c now k l = none
  | [], _, _ => rfl
  | q :: l, k, h => by rw [errFrom, if_pos (h q (by simp))]; exact errFrom_none l (k + 1) fun x hx => h x (by simp [hx])
theorem errFrom_at {c : Cfg} {now : Int} : ∀ (l : List Pt) (s k : Nat) (q : Pt), l[k]? = some q → (∀ (j : Nat) (x : Pt), j < k → l[j]? = some x → ptErr c now x = 0) → ptErr c now q ≠ 0 → errFrom c now s l = some (ptErr c now q, s + k)
  | [], _, _, _, h, _, _ => by simp at h
  | x :: l, s, 0, q, h, _, hq => by
    simp at h; subst h
    rw [errFrom, if_neg hq]; rfl
  | x :: l, s, k + 1, q, h, hz, hq => by
    rw [errFrom, if_pos (hz 0 x (by omega) rfl), errFrom_at l (s + 1) k q (by simpa using h) (fun j y hj hy => hz (j + 1) y (by omega) (by simpa using hy)) hq]
    congr 2; omega
theorem writesAll_ok {d : RDb} {now : Int} {l : List Pt} {k : Nat} {q : Pt} (h : l[k]? = some q) : writesAll d now (l.take (k + 1)) = writesR (writesAll d now (l.take k)) now q := by
  unfold writesAll
  rw [List.take_add_one, h, List.foldl_append]
  rfl
end Go.Proofs.Ythbbfjfekchdiaa
/-
  The document's order of points, as plain mathematics.
-/
namespace Go.Proofs.Ythbbfjfekchdiaa
open Go.RowKit

def lessN (x : Int) (out : List Pt) : Nat := (out.takeWhile fun q => decide (q.1 < x)).length
def insPt (out : List Pt) (x : Pt) : List Pt := (out.take (lessN x.1 out) ++ [x]) ++ out.drop (lessN x.1 out)
def sortedTo (l : List Pt) (k : Nat) : List Pt := (l.take k).foldl insPt []

theorem lessN_at {x : Int} : ∀ {out : List Pt} {k : Nat}, k ≤ out.length → (∀ (j : Nat) (q : Pt), j < k → out[j]? = some q → q.1 < x) → (∀ q, out[k]? = some q → ¬ q.1 < x) → lessN x out = k
  | [], k, h, _, _ => by simp at h; subst h; rfl
  | q :: out, 0, _, _, h2 => by
    unfold lessN
    rw [List.takeWhile_cons_of_neg (by simpa using h2 q rfl)]; rfl
  | q :: out, k + 1, h, h1, h2 => by
    have r := lessN_at (x := x) (out := out) (k := k) (by simpa using h) (fun j q' hj hq => h1 (j + 1) q' (by omega) (by simpa using hq)) (fun q' hq => h2 q' (by simpa using hq))
    unfold lessN at r ⊢
    rw [List.takeWhile_cons_of_pos (by simpa using h1 0 q (by omega) rfl), List.length_cons, r]
theorem insPt_length (out : List Pt) (x : Pt) : (insPt out x).length = out.length + 1 := by
  unfold insPt
  rw [List.length_append, List.length_append, List.length_take, List.length_drop]
  have : lessN x.1 out ≤ out.length := by
    unfold lessN
    have h := List.takeWhile_append_dropWhile (p := fun q : Pt => decide (q.1 < x.1)) (l := out)
    have h2 := congrArg List.length h
    rw [List.length_append] at h2
    omega
  simp; omega
theorem sortedTo_succ {l : List Pt} {k : Nat} {q : Pt} (h : l[k]? = some q) : sortedTo l (k + 1) = insPt (sortedTo l k) q := by
  unfold sortedTo
  rw [List.take_add_one, h, List.foldl_append]; rfl
theorem sortedTo_length (l : List Pt) : ∀ k, k ≤ l.length → (sortedTo l k).length = k := by
  intro k
  induction k with
  | zero => intro _; simp [sortedTo]
  | succ k ih =>
    intro hk
    obtain ⟨q, hq⟩ : ∃ q, l[k]? = some q := ⟨_, List.getElem?_eq_getElem (by omega)⟩
    rw [sortedTo_succ hq, insPt_length, ih (by omega)]
theorem ptCells_append (a b : List Pt) : ptCells (a ++ b) = ptCells a ++ ptCells b := by unfold ptCells; rw [List.flatMap_append]
theorem ptCells_take (l : List Pt) (k : Nat) : ptCells (l.take k) = (ptCells l).take (k * 2) := by
  induction l generalizing k with
  | nil => simp [ptCells]
  | cons q l ih =>
    cases k with
    | zero => simp [ptCells]
    | succ k =>
      rw [List.take_succ_cons, show ptCells (q :: List.take k l) = i64 q.1 :: i64 q.2 :: ptCells (List.take k l) from rfl, ih, show ptCells (q :: l) = i64 q.1 :: i64 q.2 :: ptCells l from rfl, show (k + 1) * 2 = k * 2 + 1 + 1 by omega]
      rfl
theorem ptCells_drop (l : List Pt) (k : Nat) : ptCells (l.drop k) = (ptCells l).drop (k * 2) := by
  induction l generalizing k with
  | nil => simp [ptCells]
  | cons q l ih =>
    cases k with
    | zero => simp
    | succ k =>
      rw [List.drop_succ_cons, ih, show ptCells (q :: l) = i64 q.1 :: i64 q.2 :: ptCells l from rfl, show (k + 1) * 2 = k * 2 + 1 + 1 by omega]
      rfl
theorem ptCells_one (l : List Pt) : ∀ u ∈ ptCells l, u.oneCell' = true := by
  intro u hu
  unfold ptCells at hu
  obtain ⟨q, _, hq⟩ := List.mem_flatMap.1 hu
  simp at hq
  rcases hq with rfl | rfl <;> rfl
end Go.Proofs.Ythbbfjfekchdiaa
/-
  The document's Fetch as plain mathematics.
-/
namespace Go.Proofs.Ythbbfjfekchdiaa
open Go.RowKit

abbrev StampIn (n : Int) : Prop := 0 ≤ n ∧ n ≤ 2147483647
def fetchErr (c : Cfg) (now fr un : Int) : Int := if ¬ (StampIn now ∧ StampIn fr ∧ StampIn un ∧ fr ≤ un) then 1 else if now < fr then 3 else if firstI c now (min un now) < 0 then 4 else 0
/-- of which archive a fetch tells -/
def fetchI (c : Cfg) (now fr : Int) : Nat := match firstO c now fr with | some i => i | none => c.many - 1
def fetchB (c : Cfg) (i : Nat) (now fr un : Int) (q : Pt) : Bool := covB c i now q.1 && (decide (fr ≤ q.1) && decide (q.1 ≤ un))
def sortedL (l : List Pt) : List Pt := sortedTo l l.length
def fetchL (d : RDb) (now fr un : Int) : List Pt := (sortedL (d.L.getD (fetchI d.c now fr) [])).filter (fetchB d.c (fetchI d.c now fr) now fr un)
/-- the three parts of a series -/
def serA (d : RDb) (now fr un : Int) : Int := if fetchErr d.c now fr un = 0 then (fetchI d.c now fr : Int) else 0
def serS (d : RDb) (now fr un : Int) : Int := if fetchErr d.c now fr un = 0 then d.c.s (fetchI d.c now fr) else 0
def serP (d : RDb) (now fr un : Int) : List Pt := if fetchErr d.c now fr un = 0 then fetchL d now fr un else []

theorem firstFrom_lt {c : Cfg} {now t : Int} : ∀ (n i j : Nat), firstFrom c now t i n = some j → i ≤ j ∧ j < i + n ∧ covB c j now t = true
  | 0, _, _, h => by simp [firstFrom] at h
  | n + 1, i, j, h => by
    rw [firstFrom] at h
    split at h
    · rename_i hc
      simp at h; subst h; exact ⟨by omega, by omega, hc⟩
    · have := firstFrom_lt n (i + 1) j h
      exact ⟨by omega, by omega, this.2.2⟩
theorem firstO_in {c : Cfg} {now t : Int} {j : Nat} (h : firstO c now t = some j) : j < c.many ∧ covB c j now t = true := by
  have := firstFrom_lt c.many 0 j h
  exact ⟨by omega, this.2.2⟩
theorem firstI_some {c : Cfg} {now t : Int} (h : ¬ firstI c now t < 0) : ∃ j, firstO c now t = some j ∧ firstI c now t = (j : Int) ∧ j < c.many := by
  unfold firstI at h ⊢
  cases e : firstO c now t with
  | none => rw [e] at h; simp at h
  | some j => exact ⟨j, rfl, rfl, (firstO_in e).1⟩
theorem firstI_no {c : Cfg} {now t : Int} (h : firstI c now t < 0) : firstO c now t = none ∧ firstI c now t = -1 := by
  unfold firstI at h ⊢
  cases e : firstO c now t with
  | none => exact ⟨rfl, rfl⟩
  | some j => rw [e] at h; simp at h; omega
theorem fetchI_lt {c : Cfg} {now fr : Int} (h : 1 ≤ c.many) : fetchI c now fr < c.many := by
  unfold fetchI
  cases e : firstO c now fr with
  | none => simp; omega
  | some j => exact (firstO_in e).1
theorem filter_take_succ {α : Type} (f : α → Bool) {l : List α} {k : Nat} {q : α} (h : l[k]? = some q) : (l.take (k + 1)).filter f = (l.take k).filter f ++ (if f q then [q] else []) := by
  rw [List.take_add_one, h, List.filter_append]
  congr 1
  simp only [Option.toList]
  cases hq : f q <;> simp [hq]
theorem insPt_mem {out : List Pt} {x y : Pt} : y ∈ insPt out x ↔ y = x ∨ y ∈ out := by
  unfold insPt
  rw [List.mem_append, List.mem_append]
  constructor
  · rintro ((h | h) | h)
    · exact .inr (List.mem_of_mem_take h)
    · exact .inl (by simpa using h)
    · exact .inr (List.mem_of_mem_drop h)
  · rintro (h | h)
    · exact .inl (.inr (by simpa using h))
    · rw [← List.take_append_drop (lessN x.1 out) out, List.mem_append] at h
      rcases h with h | h
      · exact .inl (.inl h)
      · exact .inr h
theorem sortedTo_mem {l : List Pt} {y : Pt} : ∀ k, k ≤ l.length → (y ∈ sortedTo l k ↔ y ∈ l.take k) := by
  intro k
  induction k with
  | zero => intro _; simp [sortedTo]
  | succ k ih =>
    intro hk
    obtain ⟨q, hq⟩ : ∃ q, l[k]? = some q := ⟨_, List.getElem?_eq_getElem (by omega)⟩
    rw [sortedTo_succ hq, insPt_mem, ih (by omega), List.take_add_one, hq, List.mem_append]
    simp only [Option.toList, List.mem_singleton]
    constructor
    · rintro (h | h)
      · exact .inr h
      · exact .inl h
    · rintro (h | h)
      · exact .inr h
      · exact .inl h
theorem sortedL_mem {l : List Pt} {y : Pt} : y ∈ sortedL l ↔ y ∈ l := by
  unfold sortedL
  rw [sortedTo_mem _ (Nat.le_refl _), List.take_of_length_le (Nat.le_refl _)]
theorem sortedL_length (l : List Pt) : (sortedL l).length = l.length := sortedTo_length l _ (Nat.le_refl _)
end Go.Proofs.Ythbbfjfekchdiaa
/-
  append of points, of whatever source: a part of a row, or nothing.
-/
namespace Go.Proofs.Ythbbfjfekchdiaa
open Go.RowKit

/-- the source's points lie where it says -/
def SrcAt (w : World) (x : Value) (l : List Pt) : Prop :=
  (x = .slice none 0 0 ∧ l = []) ∨ ∃ ad c, x = .slice (some ad) l.length c ∧ ∀ j u, (ptCells l)[j]? = some u → w.cell? (ad.add j) = some u

theorem run_append_nilnil {P : Program} (w : World) (t ty e : TypeId) (i : TypeInfo) (ht : P.underlying t = some (.slice e)) (hi : P.info? e = some i) :
    (Builtin.append_ #[t, t] ty #[.slice none 0 0, .slice none 0 0]).run P w = .ok (.slice none 0 0) w := by
  simp [Builtin.append_, run_underlying ht, sizeOf, typeInfo, hi, Builtin.lenOf, run_firstCells_none w i.size 0 0 0]

theorem wpList_append_pts (w : World) {ops : Array Oper} {rest : List Oper} {o : Oper} {a : Act} {Q : Exit → Act → World → Prop} (hgd : o.guard = none) (s x : Operand)
    (ho : o.op = .call { callee := .builtin .append, args := #[s, x], argTypes := #[49, 49] }) (base : Nat) (v xv : Value) (os news : List Pt) (hs : a.eval s = v) (hx : a.eval x = xv) (tgt : List Pt) (htgt : Hid (tgt = os ++ news))
    (hown : w.ownsRow base 39 2 v os.length (ptCells os)) (hsrc : SrcAt w xv news) (hlen : os.length + news.length ≤ 1000) (hbase : base ≤ w.heap.size)
    (h : ∀ v' w', w'.ownsRow base 39 2 v' tgt.length (ptCells tgt) → w.grownBy w' v.ownBlock → wpList Try.prog ops Q rest (a.put o.dst v') w') : wpList Try.prog ops Q (o :: rest) a w := by
  have htgt := htgt.out
  subst htgt
  obtain ⟨q0, hi0, hz0, hz1, hz2⟩ := info_parts Try.infoPoint
  rcases hsrc with ⟨rfl, rfl⟩ | ⟨ad, c, rfl, hn⟩
  · have hr : ∃ w', (Builtin.append_ #[49, 49] o.type #[v, .slice none 0 0]).run Try.prog w = .ok v w' ∧ w' = w := by
      obtain ⟨_, ⟨hv, _⟩ | ⟨g, cap, cur, hv, _, _, hc, _⟩⟩ := hown
      · rw [hv]; exact ⟨w, run_append_nilnil w _ _ _ q0 Try.underlying49 hi0, rfl⟩
      · rw [hv]; exact ⟨_, run_append_room_src (P := Try.prog) w _ _ o.type _ q0 Try.underlying49 hi0 g 0 os.length cap (.slice none 0 0) 0 [] (Src.ofNil w Try.underlying49 0) (by omega) (fun j hj => absurd hj (by simp)) (fun j hj => absurd hj (by simp)), rfl⟩
    obtain ⟨w', hr, rfl⟩ := hr
    refine wpList_plain hgd fun _ hK => ?_
    unfold Oper.wp execOp
    simp only [ho, resolve, invoke, builtin, Sem.run_bind, Sem.run_pure, Result.andThen_ok, List.map_toArray, List.map_cons, List.map_nil, hs, hx, hr]
    exact hK _ _ (h v w' (by rw [List.append_nil]; exact hown) ⟨rfl, rfl, rfl, Nat.le_refl _, fun _ _ _ => rfl⟩)
  · refine wpList_append_own w hgd s x _ ho base 39 q0 _ 2 16 Try.underlying49 hi0 hz0 hz1 hz2 rfl (by decide) v os.length (ptCells os) hs hown ad news.length c (ptCells news) hx (ptCells_length news) hn (ptCells_one news) (by unfold maxLen; omega) (by omega) hbase ?_
    intro v' w' ho' hg' _
    refine h v' w' ?_ hg'
    rw [ptCells_append, List.length_append]
    exact ho'
end Go.Proofs.Ythbbfjfekchdiaa
namespace Go.Proofs.Ythbbfjfekchdiaa
open Go.RowKit
set_option linter.unusedSimpArgs false

theorem blk_drewN {w : World} {B : Nat} {o : Obj} (h : w.heap[B]? = some o) (n : Nat) : (w.drewN n).heap[B]? = some o := by simpa using h
theorem addr_addN (g t j : Nat) : (Addr.mk g t none).add j = ⟨g, t + j, none⟩ := by
  unfold Addr.add
  by_cases h : j = 0
  · subst h; simp
  · simp [h]
theorem addr_add0 (g j : Nat) : (Addr.mk g 0 none).add j = ⟨g, j, none⟩ := by rw [addr_addN]; simp
theorem src_cells {w : World} {g : Nat} {cur : Array Value} {o : List Pt} (hb : w.heap[g]? = some (.cells cur 39)) (ht : cur.toList.take (o.length * 2) = ptCells o) (j : Nat) (u : Value) (h : (ptCells o)[j]? = some u) : w.cell? ⟨g, j, none⟩ = some u := by
  rw [cell_of_blk hb, ← h, ← ht]
  have hj : j < o.length * 2 := by
    obtain ⟨x, _⟩ := List.getElem?_eq_some_iff.1 h
    rw [ptCells_length] at x; exact x
  rw [List.getElem?_take_of_lt hj]; simp
theorem src_take {w : World} {g : Nat} {cur : Array Value} {o : List Pt} {t c : Nat} (hb : w.heap[g]? = some (.cells cur 39)) (ht : cur.toList.take (o.length * 2) = ptCells o) (h : t ≤ o.length) :
    SrcAt w (.slice (some ⟨g, 0, none⟩) t c) (o.take t) := by
  refine .inr ⟨⟨g, 0, none⟩, c, by rw [List.length_take, Nat.min_eq_left h], fun j u hj => ?_⟩
  rw [ptCells_take, List.getElem?_take] at hj
  split at hj
  · have := src_cells hb ht j u hj
    rw [addr_add0]; exact this
  · cases hj
theorem src_drop {w : World} {g : Nat} {cur : Array Value} {o : List Pt} {t c : Nat} (hb : w.heap[g]? = some (.cells cur 39)) (ht : cur.toList.take (o.length * 2) = ptCells o) :
    SrcAt w (.slice (some ⟨g, t * 2, none⟩) (o.length - t) c) (o.drop t) := by
  refine .inr ⟨⟨g, t * 2, none⟩, c, by rw [List.length_drop], fun j u hj => ?_⟩
  rw [ptCells_drop, List.getElem?_drop] at hj
  have := src_cells hb ht _ u hj
  rw [addr_addN]; exact this
theorem src_one {w : World} {g : Nat} {q : Pt} {c : Nat} (hb : w.heap[g]? = some (.cells #[i64 q.1, i64 q.2] 39)) : SrcAt w (.slice (some ⟨g, 0, none⟩) 1 c) [q] := by
  refine .inr ⟨⟨g, 0, none⟩, c, rfl, fun j u hj => ?_⟩
  have : w.cell? ⟨g, j, none⟩ = some u := by
    rw [cell_of_blk hb]
    simpa [ptCells] using hj
  rw [addr_add0]; exact this

/-- what the three appends leave -/
theorem sort_end {w wo wr w1 w2 w3 : World} {O : Obj} {v1 v2 v3 : Value} {a b c : List Pt} {l : List Pt} {k : Nat} (HB : Below w.heap.size w wo) (hz : w.heap.size ≤ wo.heap.size) (hbw : Below wo.heap.size wo wr) (nq : Nat)
    (hg1 : (wr.drewN nq).grownBy w1 none) (ho1 : w1.ownsRow wr.heap.size 39 2 v1 a.length (ptCells a)) (hg2 : (w1.alloc O).grownBy w2 v1.ownBlock) (ho2 : w2.ownsRow wr.heap.size 39 2 v2 b.length (ptCells b))
    (hg3 : w2.grownBy w3 v2.ownBlock) (ho3 : w3.ownsRow wr.heap.size 39 2 v3 c.length (ptCells c)) (hc : sortedTo l k = c) :
    Below w.heap.size w w3 ∧ w3.ownsRow w.heap.size 39 2 v3 (sortedTo l k).length (ptCells (sortedTo l k)) := by
  have z1 := hbw.size
  have z2 : wr.heap.size ≤ w1.heap.size := by have := hg1.size; simpa using this
  have z3 : w1.heap.size + 1 ≤ w2.heap.size := by have := hg2.size; simpa using this
  refine ⟨?_, by rw [hc]; exact owns_base ho3 (by omega)⟩
  have h0 : Below w.heap.size w wr := HB.trans (hbw.mono (by omega))
  have h1 : Below w.heap.size w w1 := Below.grown (below_drewN h0 nq) hg1 (by simp; omega) (fun k hk => by cases hk)
  have h2 : Below w.heap.size w w2 := Below.grown (h1.alloc (by omega) O) hg2 (by simp; omega) (fun k hk => by have := (ho1.lt k hk).1; omega)
  exact Below.grown h2 hg3 (by omega) (fun k hk => by have := (ho2.lt k hk).1; omega)

end Go.Proofs.Ythbbfjfekchdiaa
namespace Go.Proofs.Ythbbfjfekchdiaa
open Go.RowKit

theorem below_one {w w' : World} {O : Obj} (h : Below (w.alloc O).heap.size (w.alloc O) w') : Below w.heap.size w w' := by
  have e : (w.alloc O).heap.size = w.heap.size + 1 := by simp
  rw [e] at h
  exact ((Below.refl _ _).alloc (Nat.le_refl _) _).trans (h.mono (by omega))

theorem and_false' {a b : Prop} [Decidable a] [Decidable b] (h : ¬ (a ∧ b)) : (decide a && decide b) = false := by
  by_cases x : a <;> by_cases y : b <;> simp_all

end Go.Proofs.Ythbbfjfekchdiaa
namespace Go.Proofs.Ythbbfjfekchdiaa
open Go.RowKit
set_option linter.unusedSimpArgs false

/-- a list of points of whoever's -/
def RowG (w : World) (v : Value) (l : List Pt) : Prop :=
  ∃ a cap, v = .slice a l.length cap ∧ ∀ (j : Nat) (q : Pt), l[j]? = some q → ∃ b off, a = some ⟨b, off, none⟩ ∧ w.cell? ⟨b, off + j * 2, none⟩ = some (i64 q.1) ∧ w.cell? ⟨b, off + j * 2 + 1, none⟩ = some (i64 q.2)
/-- its block lies outside a set -/
def OutOf (In : Nat → Prop) (v : Value) : Prop := ∀ a n c, v = .slice (some a) n c → 0 < n → ¬ In a.block

theorem RowG.fr {w w' : World} {In : Nat → Prop} {v : Value} {l : List Pt} (h : RowG w v l) (ho : OutOf In v) (hf : Fr In w w') : RowG w' v l := by
  obtain ⟨a, cap, rfl, r⟩ := h
  refine ⟨a, cap, rfl, fun j q hj => ?_⟩
  obtain ⟨b, off, rfl, c0, c1⟩ := r j q hj
  have hb : ¬ In b := ho ⟨b, off, none⟩ l.length cap rfl (by obtain ⟨x, _⟩ := List.getElem?_eq_some_iff.1 hj; omega)
  have hz : b < w.heap.size := World.block_lt_of_cell? _ _ c0
  have e := hf.block b hz hb
  exact ⟨b, off, rfl, (World.cell?_of_block (a := ⟨b, off + j * 2, none⟩) e).trans c0, (World.cell?_of_block (a := ⟨b, off + j * 2 + 1, none⟩) e).trans c1⟩

theorem upd_no {c : Cfg} {now : Int} {l : List Pt} {k : Nat} {q : Pt} (n : 0 ≤ now ∧ now ≤ 2147483647) (h100 : l.length ≤ 100) (hq : l[k]? = some q) (hz : ∀ (j : Nat) (x : Pt), j < k → l[j]? = some x → ptErr c now x = 0) (he : ptErr c now q ≠ 0) : updErr c now l = (ptErr c now q, k) := by
  unfold updErr
  rw [if_neg (by omega), errFrom_at l 0 k q hq hz he]
  simp
theorem upd_yes {c : Cfg} {now : Int} {l : List Pt} (n : 0 ≤ now ∧ now ≤ 2147483647) (h100 : l.length ≤ 100) (hz : ∀ (j : Nat) (x : Pt), l[j]? = some x → ptErr c now x = 0) : updErr c now l = (0, 0) := by
  unfold updErr
  rw [if_neg (by omega), errFrom_none l 0 fun q hq => by obtain ⟨j, hj⟩ := List.mem_iff_getElem?.1 hq; exact hz j q hj]
  rfl

end Go.Proofs.Ythbbfjfekchdiaa
namespace Go.Proofs.Ythbbfjfekchdiaa
open Go.RowKit
set_option linter.unusedSimpArgs false

theorem ptErr_zero {c : Cfg} {now : Int} {q : Pt} (h : ptErr c now q = 0) : PtIn q ∧ q.1 ≤ now ∧ 0 ≤ firstI c now q.1 := by
  unfold ptErr at h
  split at h
  · simp at h
  · split at h
    · simp at h
    · split at h
      · simp at h
      · rename_i h1 h2 h3; exact ⟨Classical.not_not.1 h1, by omega, by omega⟩

end Go.Proofs.Ythbbfjfekchdiaa
namespace Go.Proofs.Ythbbfjfekchdiaa
open Go.RowKit
set_option linter.unusedSimpArgs false

theorem Fr.alloc {In : Nat → Prop} {w w' : World} (h : Fr In w w') (O : Obj) : Fr In w (w'.alloc O) :=
  h.trans (Fr.below (In := In) ((Below.refl w'.heap.size w').alloc (Nat.le_refl _) O)) fun _ hx => .inl hx
theorem Fr.drewN {In : Nat → Prop} {w w' : World} (h : Fr In w w') (n : Nat) : Fr In w (w'.drewN n) :=
  h.trans (Fr.below (In := In) (below_drewN (Below.refl w'.heap.size w') n)) fun _ hx => .inl hx
theorem Fr.grown {In : Nat → Prop} {w w1 w2 : World} {row : Option Nat} (h : Fr In w w1) (hg : w1.grownBy w2 row) (hr : ∀ k, row = some k → w.heap.size ≤ k) : Fr In w w2 := by
  refine ⟨hg.os.trans h.os, hg.tape.trans h.tape, hg.output.trans h.output, Nat.le_trans h.size hg.size, fun k hk hn => ?_⟩
  rw [hg.block k (Nat.lt_of_lt_of_le hk h.size) fun e => by have := hr k e.symm; omega]
  exact h.block k hk hn

/-- Fetch's loop: what stands at a round's head; B is the series' own block -/
structure FI (w wS wr : World) (B : Nat) (i s : Int) (v : Value) (o : List Pt) : Prop where
  old : Below w.heap.size w wS
  hB : w.heap.size < B ∧ B < wS.heap.size
  fr : Fr (fun k => k = B) wS wr
  res : wS.heap[w.heap.size]? = some (.cells #[i64 0, i64 0, .slice none 0 0] 51)
  blk : wr.heap[B]? = some (.cells #[i64 i, i64 s, v] 51)
  own : wr.ownsRow wS.heap.size 39 2 v o.length (ptCells o)

theorem FI.drewN {w wS wr : World} {B : Nat} {i s : Int} {v : Value} {o : List Pt} (h : FI w wS wr B i s v o) (n : Nat) : FI w wS (wr.drewN n) B i s v o :=
  ⟨h.old, h.hB, h.fr.drewN n, h.res, blk_drewN h.blk n, owns_far h.own fun b _ hb => by simp⟩
theorem FI.later {w wS wr wx : World} {B : Nat} {i s : Int} {v : Value} {o : List Pt} (h : FI w wS wr B i s v o) (hb : Below wr.heap.size wr wx) : FI w wS wx B i s v o :=
  ⟨h.old, h.hB, h.fr.trans (Fr.below (In := fun k => k = B) hb) fun _ hx => .inl hx, h.res, blk_later hb (blk_lt h.blk) h.blk, owns_below h.own hb⟩
theorem FI.app {w wS wr w3 : World} {B : Nat} {i s : Int} {v : Value} {o : List Pt} {q : Pt} {O : Obj} {g cap : Nat} (h : FI w wS wr B i s v o)
    (hown : w3.ownsRow wS.heap.size 39 2 (.slice (some ⟨g, 0, none⟩) (o.length + 1) cap) (o.length + 1) (ptCells o ++ [i64 q.1, i64 q.2])) (hg : (wr.alloc O).grownBy w3 v.ownBlock) :
    FI w wS (w3.setCell ⟨B, 2, none⟩ (.slice (some ⟨g, 0, none⟩) (o.length + 1) cap)) B i s (.slice (some ⟨g, 0, none⟩) (o.length + 1) cap) (o ++ [q]) := by
  have hz := h.hB
  have hzz := h.fr.size
  have f1 : Fr (fun k => k = B) wS w3 := (h.fr.alloc O).grown hg fun k hk => (h.own.lt k hk).1
  have hb3 : w3.heap[B]? = some (.cells #[i64 i, i64 s, v] 51) := (hg.block B (by have := blk_lt h.blk; simp; omega) (owns_not h.own (by omega))).trans (blk_alloc h.blk)
  refine ⟨h.old, h.hB, f1.setCell (b := B) rfl 2 _, h.res, blk_setCell hb3 2 _, ?_⟩
  rw [ptCells_snoc, List.length_append]
  exact ownsRow_setCell_below hown hz.2 _
theorem FI.below {w wS wr : World} {B : Nat} {i s : Int} {v : Value} {o : List Pt} (h : FI w wS wr B i s v o) : Below w.heap.size w wr := by
  have hz := h.hB
  have := h.old.size
  have := h.fr.size
  refine ⟨h.fr.os.trans h.old.os, h.fr.tape.trans h.old.tape, h.fr.output.trans h.old.output, by omega, fun k hk => ?_⟩
  rw [h.fr.block k (by omega) (by show ¬ k = B; omega)]
  exact h.old.block k hk

theorem fetch_arg_err {c : Cfg} {now fr un : Int} (h : ¬ (StampIn now ∧ StampIn fr ∧ StampIn un ∧ fr ≤ un)) : fetchErr c now fr un = 1 := by unfold fetchErr; rw [if_pos h]
theorem fetch_none {d : RDb} {now fr un e : Int} (h : fetchErr d.c now fr un = e) (he : e ≠ 0) : serA d now fr un = 0 ∧ serS d now fr un = 0 ∧ serP d now fr un = [] := by
  subst h
  unfold serA serS serP
  rw [if_neg he, if_neg he, if_neg he]
  exact ⟨rfl, rfl, rfl⟩
/-- what an error leaves -/
theorem fetch_err {d : RDb} {now fr un e : Int} {w w' : World} (h : fetchErr d.c now fr un = e) (he : e ≠ 0) (hb : Below w.heap.size w w') :
    ∃ v, Ending.returned (.tuple #[.agg #[i64 0, i64 0, .slice none 0 0], i64 e]) = .returned (.tuple #[.agg #[i64 (serA d now fr un), i64 (serS d now fr un), v], i64 (fetchErr d.c now fr un)]) ∧ Below w.heap.size w w' ∧ w'.ownsRow w.heap.size 39 2 v (serP d now fr un).length (ptCells (serP d now fr un)) := by
  obtain ⟨a, b, c⟩ := fetch_none h he
  refine ⟨.slice none 0 0, by rw [a, b, h], hb, ?_⟩
  rw [c]
  exact World.ownsRow_nil _ _ _ _

end Go.Proofs.Ythbbfjfekchdiaa
namespace Go.Proofs.Ythbbfjfekchdiaa
open Go.RowKit
set_option linter.unusedSimpArgs false

theorem fetch_fut_err {c : Cfg} {now fr un : Int} (h : StampIn now ∧ StampIn fr ∧ StampIn un ∧ fr ≤ un) (h2 : now < fr) : fetchErr c now fr un = 3 := by unfold fetchErr; rw [if_neg (fun x => x h), if_pos h2]
theorem fetch_old_err {c : Cfg} {now fr un : Int} (h : StampIn now ∧ StampIn fr ∧ StampIn un ∧ fr ≤ un) (h2 : ¬ now < fr) (h3 : firstI c now (min un now) < 0) : fetchErr c now fr un = 4 := by unfold fetchErr; rw [if_neg (fun x => x h), if_neg h2, if_pos h3]
theorem fetch_no_err {c : Cfg} {now fr un : Int} (h : StampIn now ∧ StampIn fr ∧ StampIn un ∧ fr ≤ un) (h2 : ¬ now < fr) (h3 : ¬ firstI c now (min un now) < 0) : fetchErr c now fr un = 0 := by unfold fetchErr; rw [if_neg (fun x => x h), if_neg h2, if_neg h3]

/-- the last part: behind the series' block -/
theorem fetch_end {d : RDb} {now fr un : Int} {w wS wr : World} {B : Nat} {v : Value} (h0 : fetchErr d.c now fr un = 0) (h : FI w wS wr B (fetchI d.c now fr) (d.c.s (fetchI d.c now fr)) v (fetchL d now fr un)) (x y z : Value) :
    ∃ v', Ending.returned (.tuple #[.agg #[i64 (fetchI d.c now fr : Int), i64 (d.c.s (fetchI d.c now fr)), v], i64 0]) = .returned (.tuple #[.agg #[i64 (serA d now fr un), i64 (serS d now fr un), v'], i64 (fetchErr d.c now fr un)]) ∧ Below w.heap.size w (((wr.setCell ⟨w.heap.size, 0, none⟩ x).setCell ⟨w.heap.size, 1, none⟩ y).setCell ⟨w.heap.size, 2, none⟩ z) ∧ (((wr.setCell ⟨w.heap.size, 0, none⟩ x).setCell ⟨w.heap.size, 1, none⟩ y).setCell ⟨w.heap.size, 2, none⟩ z).ownsRow w.heap.size 39 2 v' (serP d now fr un).length (ptCells (serP d now fr un)) := by
  have hz := h.hB
  refine ⟨v, by unfold serA serS; rw [if_pos h0, if_pos h0, h0], Below.setCell (p := ⟨w.heap.size, 2, none⟩) (Below.setCell (p := ⟨w.heap.size, 1, none⟩) (Below.setCell (p := ⟨w.heap.size, 0, none⟩) h.below (Nat.le_refl _) _) (Nat.le_refl _) _) (Nat.le_refl _) _, ?_⟩
  unfold serP
  rw [if_pos h0]
  exact owns_base (ownsRow_setCell_below (ownsRow_setCell_below (ownsRow_setCell_below h.own (by show w.heap.size < _; omega) _) (by show w.heap.size < _; omega) _) (by show w.heap.size < _; omega) _) (by omega)

theorem srow {w w' : World} {base : Nat} {v : Value} {l : List Pt} (h : w.ownsRow base 39 2 v l.length (ptCells l)) {B : Nat} (hB : B < base) (hf : Fr (fun k => k = B) w w') : w'.ownsRow base 39 2 v l.length (ptCells l) :=
  owns_far h fun b hb hlt => hf.block b hlt (by have := (h.lt b hb).1; show ¬ b = B; omega)
theorem fetchB_eq (c : Cfg) (i : Nat) (now fr un : Int) (q : Pt) : fetchB c i now fr un q = (covB c i now q.1 && (decide (fr ≤ q.1) && decide (q.1 ≤ un))) := rfl

end Go.Proofs.Ythbbfjfekchdiaa
/-
  Lists all of whose elements are one mark; append of marks onto such a list: lists that share its block are lists of marks still.
-/
namespace Go.Proofs.Ythbbfjfekchdiaa
open Go.RowKit

def marks (mc : List Value) (n : Nat) : List Value := (List.replicate n mc).flatten
theorem marks_zero (mc : List Value) : marks mc 0 = [] := rfl
theorem marks_succ (mc : List Value) (n : Nat) : marks mc (n + 1) = mc ++ marks mc n := by unfold marks; rw [List.replicate_succ, List.flatten_cons]
theorem marks_add (mc : List Value) (a b : Nat) : marks mc (a + b) = marks mc a ++ marks mc b := by
  unfold marks; rw [← List.flatten_append, List.replicate_append_replicate]
theorem marks_length (mc : List Value) (n : Nat) : (marks mc n).length = n * mc.length := by
  induction n with
  | zero => simp [marks]
  | succ n ih => rw [marks_succ, List.length_append, ih, Nat.succ_mul]; omega
theorem marks_take (mc : List Value) {m n : Nat} (h : m ≤ n) : (marks mc n).take (m * mc.length) = marks mc m := by
  obtain ⟨k, rfl⟩ : ∃ k, n = m + k := ⟨n - m, by omega⟩
  rw [marks_add, List.take_append_of_le_length (by rw [marks_length]; omega), List.take_of_length_le (by rw [marks_length]; omega)]
theorem marks_mem {mc : List Value} {n : Nat} {u : Value} (h : u ∈ marks mc n) : u ∈ mc := by
  unfold marks at h
  obtain ⟨l, hl, hu⟩ := List.mem_flatten.1 h
  rw [(List.mem_replicate.1 hl).2] at hu
  exact hu
theorem marks_one (mc : List Value) : marks mc 1 = mc := by rw [marks_succ, marks_zero, List.append_nil]
theorem marks_at (mc : List Value) : ∀ (n j r : Nat), j < n → r < mc.length → (marks mc n)[j * mc.length + r]? = mc[r]?
  | 0, _, _, h, _ => absurd h (by omega)
  | n + 1, 0, r, _, hr => by rw [marks_succ, Nat.zero_mul, Nat.zero_add, List.getElem?_append_left hr]
  | n + 1, j + 1, r, h, hr => by
    rw [marks_succ, List.getElem?_append_right (by rw [Nat.succ_mul]; omega), show (j + 1) * mc.length + r - mc.length = j * mc.length + r by rw [Nat.succ_mul]; omega]
    exact marks_at mc n j r (by omega) hr

section
variable {P : Program} (w : World)
theorem run_append_mark (t ty : TypeId) (base : Nat) (e : TypeId) (i : TypeInfo) (z : Value) (size bytes : Nat) (ht : P.underlying t = some (.slice e)) (hi : P.info? e = some i) (hz : i.zero = some z)
    (hsize : i.size = size) (hby : i.bytes = bytes) (hzs : z.cells.size = size) (hsz : 0 < size) (mc : List Value) (hmc : mc.length = size) (h1 : ∀ u ∈ mc, u.oneCell' = true)
    (v : Value) (n : Nat) (hown : w.ownsRow base e size v n (marks mc n)) (ad : Addr) (k c : Nat) (hnews : ∀ j u, (marks mc k)[j]? = some u → w.cell? (ad.add j) = some u)
    (hk : 0 < k) (h63 : n + k ≤ maxLen) (hbytes : (n + k) * bytes ≤ 140737488355328) (hbase : base ≤ w.heap.size) :
    ∃ v' w', (Builtin.append_ #[t, t] ty #[v, .slice (some ad) k c]).run P w = .ok v' w' ∧ w'.ownsRow base e size v' (n + k) (marks mc (n + k)) ∧ w.grownBy w' v.ownBlock ∧
      ∀ b u n', n' ≤ n + k → w.ownsRow b e size u n' (marks mc n') → w'.ownsRow b e size u n' (marks mc n') := by
  have hml : (marks mc k).length = k * size := by rw [marks_length, hmc]
  have hm1 : ∀ u ∈ marks mc k, u.oneCell' = true := fun u hu => h1 u (marks_mem hu)
  obtain ⟨g, cap, w', hr, h2, h3, h4, h5⟩ := run_append_lies (P := P) w t ty base e i z size bytes ht hi hz hsize hby hzs hsz v n (marks mc n) hown ad k c (marks mc k) hml hnews hm1 hk h63 hbytes hbase w.heap.size rfl
  rw [← marks_add] at h2
  refine ⟨_, w', hr, h2, h3, fun b u n' hn' hu => ?_⟩
  by_cases hsame : u.ownBlock = none ∨ u.ownBlock ≠ v.ownBlock
  · exact hu.kept h3 hsame
  have hub : ∃ g0, u.ownBlock = some g0 ∧ v.ownBlock = some g0 := by
    cases hx : u.ownBlock with
    | none => exact absurd (.inl hx) hsame
    | some g0 => exact ⟨g0, rfl, Classical.byContradiction fun hne => hsame (.inr (by rw [hx]; exact fun e => hne e.symm))⟩
  obtain ⟨g0, hu0, hv0⟩ := hub
  obtain ⟨_, ⟨rfl, _⟩ | ⟨g1, cap1, cur, rfl, hb1, hg1, hc1, hm1', hs1, ht1⟩⟩ := hown
  · simp [Value.ownBlock] at hv0
  simp only [Value.ownBlock, Option.some.injEq] at hv0
  subst hv0
  obtain ⟨hul, ⟨rfl, _⟩ | ⟨g2, cap2, cur2, rfl, hb2, hg2, hc2, hm2', hs2, ht2⟩⟩ := hu
  · simp [Value.ownBlock] at hu0
  simp only [Value.ownBlock, Option.some.injEq] at hu0
  subst hu0
  rw [hg1] at hg2
  simp only [Option.some.injEq, Obj.cells.injEq, and_true] at hg2
  subst hg2
  have ecap : cap1 = cap2 := Nat.eq_of_mul_eq_mul_right hsz (by rw [← hs1, ← hs2])
  subst ecap
  have hsrc := Src.ofSlice (P := P) w (size := i.size) ht ad k c (marks mc k) (by rw [hsize]; exact hml) hnews hm1
  refine ⟨hul, .inr ⟨g2, cap1, ?_⟩⟩
  by_cases hroom : n + k ≤ cap1
  · have hcell : ∀ j, j < (marks mc k).length → (w.cell? ⟨g2, 0 + n * i.size + j, none⟩).isSome = true := by
      intro j hj
      rw [hml] at hj
      rw [cell_of_blk hg1, Array.getElem?_eq_getElem (show 0 + n * i.size + j < cur.size from ?_)]; · rfl
      rw [hs1, hsize]
      have : (n + k) * size ≤ cap1 * size := Nat.mul_le_mul_right _ hroom
      rw [Nat.add_mul] at this
      omega
    have hrm := run_append_room_src (P := P) w t t ty e i ht hi g2 0 n cap1 (.slice (some ad) k c) k (marks mc k) hsrc hroom hcell (fun j _ => frozen_of_blk hg1 _)
    rw [hrm] at hr
    simp only [Result.ok.injEq, Value.slice.injEq, Option.some.injEq, Addr.mk.injEq, and_true, true_and] at hr
    obtain ⟨⟨hgg, hcc⟩, _⟩ := hr
    subst hgg
    obtain ⟨_, ⟨hbad, _⟩ | ⟨g3, cap3, cur3, hv3, hb3, hg3, hc3, hm3, hs3, ht3⟩⟩ := h2
    · cases hbad
    simp only [Value.slice.injEq, Option.some.injEq, Addr.mk.injEq, and_true, true_and] at hv3
    obtain ⟨rfl, rfl⟩ := hv3
    subst hcc
    refine ⟨cur3, rfl, hb2, hg3, hc2, hm2', hs3, ?_⟩
    have : cur3.toList.take (n' * size) = (cur3.toList.take ((n + k) * size)).take (n' * size) := by
      rw [List.take_take, Nat.min_eq_left (Nat.mul_le_mul_right _ hn')]
    rw [this, ht3, ← hmc]
    exact marks_take mc hn'
  · have hold : (Builtin.firstCells i.size n (.slice (some ⟨g2, 0, none⟩) n cap1)).run P w.drew = .ok (marks mc n).toArray w.drew :=
      run_firstCells_some w.drew i.size n ⟨g2, 0, none⟩ n cap1 (marks mc n) (by rw [marks_length, hmc, hsize]) (fun j u hj => by
        have := World.ownsRow.cells (w := w) (base := base) (e := e) (size := size) (v := .slice (some ⟨g2, 0, none⟩) n cap1) (n := n) (xs := marks mc n) ⟨by rw [marks_length, hmc], .inr ⟨g2, cap1, cur, rfl, hb1, hg1, hc1, hm1', hs1, ht1⟩⟩ rfl j u hj
        simpa using this)
    have hfit : Builtin.nextslicecap (n + k) cap1 * i.bytes ≤ 281474976710656 := by
      have := Nat.mul_le_mul_right i.bytes (nextslicecap_le (need := n + k) (old := cap1) (by omega))
      rw [Nat.mul_assoc, hby] at this
      rw [hby]
      omega
    have hgr := run_append_grow_src (P := P) w t t ty e i z ht hi hz (some ⟨g2, 0, none⟩) n cap1 (marks mc n) hold (.slice (some ad) k c) k (marks mc k) hsrc (by omega) (by unfold maxLen at h63; omega) hfit
    rw [hgr] at hr
    simp only [Result.ok.injEq] at hr
    obtain ⟨_, hw⟩ := hr
    refine ⟨cur, rfl, hb2, ?_, hc2, hm2', hs2, ht2⟩
    rw [← hw]
    exact blk_alloc (w := w.drew) hg1

theorem wpList_append_mark {ops : Array Oper} {rest : List Oper} {o : Oper} {a : Act} {Q : Exit → Act → World → Prop} (hgd : o.guard = none) (s x : Operand) (t : TypeId)
    (ho : o.op = .call { callee := .builtin .append, args := #[s, x], argTypes := #[t, t] }) (base : Nat) (e : TypeId) (i : TypeInfo) (z : Value) (size bytes : Nat) (ht : P.underlying t = some (.slice e)) (hi : P.info? e = some i) (hz : i.zero = some z)
    (hsize : i.size = size) (hby : i.bytes = bytes) (hzs : z.cells.size = size) (hsz : 0 < size) (mc : List Value) (hmc : mc.length = size) (h1 : ∀ u ∈ mc, u.oneCell' = true)
    (v : Value) (n : Nat) (hs : a.eval s = v) (hown : w.ownsRow base e size v n (marks mc n)) (ad : Addr) (k c : Nat) (hx : a.eval x = .slice (some ad) k c) (hnews : ∀ j u, (marks mc k)[j]? = some u → w.cell? (ad.add j) = some u)
    (hk : 0 < k) (h63 : n + k ≤ maxLen) (hbytes : (n + k) * bytes ≤ 140737488355328) (hbase : base ≤ w.heap.size)
    (h : ∀ v' w', w'.ownsRow base e size v' (n + k) (marks mc (n + k)) → w.grownBy w' v.ownBlock → (∀ b u n', n' ≤ n + k → w.ownsRow b e size u n' (marks mc n') → w'.ownsRow b e size u n' (marks mc n')) → wpList P ops Q rest (a.put o.dst v') w') :
    wpList P ops Q (o :: rest) a w := by
  obtain ⟨v', w', hr, h2, h3, h4⟩ := run_append_mark (P := P) w t o.type base e i z size bytes ht hi hz hsize hby hzs hsz mc hmc h1 v n hown ad k c hnews hk h63 hbytes hbase
  refine wpList_plain hgd fun _ hK => ?_
  unfold Oper.wp execOp
  simp only [ho, resolve, invoke, builtin, Sem.run_bind, Sem.run_pure, Result.andThen_ok, List.map_toArray, List.map_cons, List.map_nil, hs, hx, hr]
  exact hK _ _ (h v' w' h2 h3 h4)
end
end Go.Proofs.Ythbbfjfekchdiaa
/-
  Own facts on rows: one cell set; frames.
-/
namespace Go.Proofs.Ythbbfjfekchdiaa
open Go.RowKit

theorem owns_setCell {w : World} {base e size n : Nat} {v : Value} {xs : List Value} (h : w.ownsRow base e size v n xs) {g : Nat} (hg : v.ownBlock = some g) (j : Nat) (u : Value) : (w.setCell ⟨g, j, none⟩ u).ownsRow base e size v n (xs.set j u) := by
  obtain ⟨hl, ⟨rfl, _⟩ | ⟨g1, cap, cur, rfl, hb, hblk, hc, hm, hs, ht⟩⟩ := h
  · simp [Value.ownBlock] at hg
  simp only [Value.ownBlock, Option.some.injEq] at hg
  subst hg
  refine ⟨by rw [List.length_set]; exact hl, .inr ⟨g1, cap, _, rfl, hb, blk_setCell hblk j u, hc, hm, by simpa using hs, ?_⟩⟩
  rw [← ht, Array.toList_setIfInBounds, List.take_set]
theorem owns_set_far {w : World} {base e size n : Nat} {v : Value} {xs : List Value} (h : w.ownsRow base e size v n xs) {g : Nat} (hg : v.ownBlock ≠ some g) (j : Nat) (u : Value) : (w.setCell ⟨g, j, none⟩ u).ownsRow base e size v n xs :=
  owns_far h fun b hb _ => blk_setCell_far (a := ⟨g, j, none⟩) (fun e => hg (by rw [hb]; exact congrArg some e))
/-- rows of two types lie in two blocks -/
theorem owns_type {w : World} {b1 b2 e1 e2 s1 s2 n1 n2 : Nat} {v1 v2 : Value} {x1 x2 : List Value} (h1 : w.ownsRow b1 e1 s1 v1 n1 x1) (h2 : w.ownsRow b2 e2 s2 v2 n2 x2) (he : e1 ≠ e2) : v1.ownBlock = none ∨ v1.ownBlock ≠ v2.ownBlock := by
  obtain ⟨_, ⟨rfl, _⟩ | ⟨g1, _, _, rfl, _, hb1, _⟩⟩ := h1
  · exact .inl rfl
  obtain ⟨_, ⟨rfl, _⟩ | ⟨g2, _, _, rfl, _, hb2, _⟩⟩ := h2
  · exact .inr (by simp [Value.ownBlock])
  · refine .inr fun e => ?_
    simp only [Value.ownBlock, Option.some.injEq] at e
    subst e
    rw [hb1] at hb2
    simp only [Option.some.injEq, Obj.cells.injEq] at hb2
    exact he hb2.2.1
/-- a row and a block of another type -/
theorem owns_blk {w : World} {b1 e1 s1 n1 : Nat} {v1 : Value} {x1 : List Value} (h1 : w.ownsRow b1 e1 s1 v1 n1 x1) {B e2 : Nat} {cs : Array Value} (h2 : w.heap[B]? = some (.cells cs e2)) (he : e1 ≠ e2) : v1.ownBlock ≠ some B := by
  obtain ⟨_, ⟨rfl, _⟩ | ⟨g1, _, _, rfl, _, hb1, _⟩⟩ := h1
  · simp [Value.ownBlock]
  · intro e
    simp only [Value.ownBlock, Option.some.injEq] at e
    subst e
    rw [hb1] at h2
    simp only [Option.some.injEq, Obj.cells.injEq] at h2
    exact he h2.2.1
theorem Fr.grown' {In : Nat → Prop} {w w1 w2 : World} {row : Option Nat} (h : Fr In w w1) (hg : w1.grownBy w2 row) (hr : ∀ k, row = some k → In k ∨ w.heap.size ≤ k) : Fr In w w2 := by
  refine ⟨hg.os.trans h.os, hg.tape.trans h.tape, hg.output.trans h.output, Nat.le_trans h.size hg.size, fun k hk hn => ?_⟩
  rw [hg.block k (Nat.lt_of_lt_of_le hk h.size) fun e => by rcases hr k e.symm with x | x; · exact hn x
                                                            · omega]
  exact h.block k hk hn
theorem Fr.weak {In In' : Nat → Prop} {w w' : World} (h : Fr In w w') (hs : ∀ k, k < w.heap.size → In k → In' k) : Fr In' w w' :=
  ⟨h.os, h.tape, h.output, h.size, fun k hk hn => h.block k hk fun x => hn (hs k hk x)⟩
theorem Fr.set {In : Nat → Prop} {w w' : World} (h : Fr In w w') {b : Nat} (hb : In b ∨ w.heap.size ≤ b) (o : Nat) (u : Value) : Fr In w (w'.setCell ⟨b, o, none⟩ u) := by
  refine ⟨h.os, h.tape, h.output, by rw [size_setCell]; exact h.size, fun k hk hn => ?_⟩
  have hkb : k ≠ b := fun e => by subst e; rcases hb with x | x; · exact hn x
                                  · omega
  rw [blk_setCell_far (a := ⟨b, o, none⟩) hkb]
  exact h.block k hk hn
/-- marks up to place i, the rest as it was -/
def markTo (mc xs : List Value) (i : Nat) : List Value := marks mc i ++ xs.drop (i * mc.length)
theorem markTo_zero (mc xs : List Value) : markTo mc xs 0 = xs := by unfold markTo; rw [marks_zero, Nat.zero_mul, List.drop_zero, List.nil_append]
theorem markTo_end (mc xs : List Value) {n : Nat} (h : xs.length = n * mc.length) : markTo mc xs n = marks mc n := by unfold markTo; rw [List.drop_of_length_le (by omega), List.append_nil]
theorem markTo_two (a b : Value) (xs : List Value) {i n : Nat} (h : xs.length = n * 2) (hi : i < n) : ((markTo [a, b] xs i).set (i * 2) a).set (i * 2 + 1) b = markTo [a, b] xs (i + 1) := by
  unfold markTo
  have hl : (marks [a, b] i).length = i * 2 := marks_length _ _
  obtain ⟨x, y, rest, hd⟩ : ∃ x y rest, xs.drop (i * 2) = x :: y :: rest := by
    have : 2 ≤ (xs.drop (i * 2)).length := by rw [List.length_drop]; omega
    match h : xs.drop (i * 2) with
    | [] => rw [h] at this; simp at this
    | [x] => rw [h] at this; simp at this
    | x :: y :: rest => exact ⟨x, y, rest, rfl⟩
  have hd2 : xs.drop ((i + 1) * 2) = rest := by
    rw [show (i + 1) * 2 = i * 2 + 2 by omega, ← List.drop_drop, hd]; rfl
  show ((marks [a, b] i ++ xs.drop (i * 2)).set (i * 2) a).set (i * 2 + 1) b = marks [a, b] (i + 1) ++ xs.drop ((i + 1) * 2)
  rw [hd, hd2, List.set_append_right _ _ (by omega), hl, Nat.sub_self, List.set_append_right _ _ (by omega), hl, show i * 2 + 1 - i * 2 = 1 by omega, marks_add, marks_one, List.append_assoc]
  rfl
theorem markTo_length (mc xs : List Value) {i n : Nat} (h : xs.length = n * mc.length) (hi : i ≤ n) : (markTo mc xs i).length = n * mc.length := by
  unfold markTo
  rw [List.length_append, marks_length, List.length_drop, h]
  have := Nat.mul_le_mul_right mc.length hi
  omega
end Go.Proofs.Ythbbfjfekchdiaa
/-
  What is asked of the program's calls, and two databases of one state: the program's and the document's.
-/
namespace Go.Proofs.Ythbbfjfekchdiaa
open Go.RowKit

abbrev Rep := World → (Nat → Prop) → Nat → RDb → Prop
/-- a database without points -/
def RDb.new (c : Cfg) : RDb := ⟨c, List.replicate c.many []⟩

/-- the program's calls answer as the plain functions do -/
structure ProgOk (R : Rep) : Prop where
  weak : ∀ {w : World} {In In' : Nat → Prop} {p : Nat} {d : RDb}, R w In p d → (∀ k, In k → In' k) → R w In' p d
  lim : ∀ {w : World} {In : Nat → Prop} {p : Nat} {d : RDb}, R w In p d → R w (fun k => In k ∧ k < w.heap.size) p d
  fr : ∀ {w w' : World} {In Out : Nat → Prop} {p : Nat} {d : RDb}, R w In p d → Fr Out w w' → (∀ k, In k → ¬ Out k) → R w' In p d
  check : ∀ (c : Cfg) (w : World), Calls Try.prog 39 #[.agg c.cells] w fun e w' => e = .returned (i64 c.err) ∧ Below w.heap.size w w'
  createNo : ∀ (c : Cfg) (w : World), ¬ c.Ok → Calls Try.prog 22 #[.agg c.cells] w fun e w' => e = .returned (.tuple #[.pointer none, i64 2]) ∧ Below w.heap.size w w'
  create : ∀ (c : Cfg) (w : World), c.Ok → Calls Try.prog 22 #[.agg c.cells] w fun e w' => ∃ p, e = .returned (.tuple #[.pointer (some ⟨p, 0, none⟩), i64 0]) ∧ Below w.heap.size w w' ∧ R w' (fun k => w.heap.size ≤ k) p (RDb.new c)
  config : ∀ (p : Nat) (d : RDb) (In : Nat → Prop) (w : World), R w In p d → d.Ok → Calls Try.prog 19 #[.pointer (some ⟨p, 0, none⟩)] w fun e w' => e = .returned (.agg d.c.cells) ∧ Below w.heap.size w w'
  update : ∀ (p : Nat) (now : Int) (v : Value) (l : List Pt) (d : RDb) (In : Nat → Prop) (w : World), R w In p d → d.Ok → RowG w v l → OutOf In v → l.length ≤ 140737488351232 →
    Calls Try.prog 12 #[.pointer (some ⟨p, 0, none⟩), i64 now, v] w fun e w' => e = .returned (.tuple #[i64 (updErr d.c now l).1, i64 (updErr d.c now l).2]) ∧ R w' (Up In w.heap.size) p (updR d now l) ∧ Fr In w w'
  fetch : ∀ (p : Nat) (now fr un : Int) (d : RDb) (In : Nat → Prop) (w : World), R w In p d → d.Ok →
    Calls Try.prog 16 #[.pointer (some ⟨p, 0, none⟩), i64 now, i64 fr, i64 un] w fun e w' => ∃ v, e = .returned (.tuple #[.agg #[i64 (serA d now fr un), i64 (serS d now fr un), v], i64 (fetchErr d.c now fr un)]) ∧ Below w.heap.size w w' ∧ w'.ownsRow w.heap.size 39 2 v (serP d now fr un).length (ptCells (serP d now fr un)) ∧ (fetchErr d.c now fr un ≠ 0 → v = .slice none 0 0)

end Go.Proofs.Ythbbfjfekchdiaa
/-
  What holds of the data at all times, through 'goes', 'writes' and Update: as plain mathematics.
-/
namespace Go.Proofs.Ythbbfjfekchdiaa

/-- every stamp is aligned -/
def RDb.Al (d : RDb) : Prop := ∀ (i : Nat) (l : List Pt), d.L[i]? = some l → ∀ q ∈ l, q.1 % d.c.s i = 0

theorem put_at {d : RDb} {i j : Nat} {l l' : List Pt} (h : (d.put i l).L[j]? = some l') : (j = i ∧ l' = l) ∨ (j ≠ i ∧ d.L[j]? = some l') := by
  unfold RDb.put at h
  by_cases e : i = j
  · subst e
    simp only [List.getElem?_set_self'] at h
    cases hd : d.L[i]? with
    | none => rw [hd] at h; simp at h
    | some x => rw [hd] at h; exact .inl ⟨rfl, by simpa using h.symm⟩
  · exact .inr ⟨fun x => e x.symm, by simpa [List.getElem?_set_ne e] using h⟩
theorem put_al {d : RDb} (h : d.Al) {i : Nat} {l : List Pt} (hl : d.L[i]? = some l) {p : Pt} (hp : p.1 % d.c.s i = 0) : (d.put i (setL d.c i p l)).Al := by
  intro j l' hj q hq
  rcases put_at hj with ⟨rfl, rfl⟩ | ⟨_, h'⟩
  · unfold setL othersL at hq
    rcases List.mem_append.1 hq with hq | hq
    · exact h _ l hl q (List.mem_filter.1 hq).1
    · rw [List.mem_singleton.1 hq]; exact hp
  · exact h j l' h' q hq
theorem al_sub (t s : Int) : (t - t % s) % s = 0 := Int.emod_eq_zero_of_dvd (Int.dvd_self_sub_of_emod_eq rfl)
theorem Cfg.bd {c : Cfg} (h : c.Ok) {i : Nat} (hi : i < c.many) : c.Bd i := (bdB_all (c.ok_iff.1 h).2.2.2.2.1) i hi
theorem sub_in {t s : Int} (h0 : 0 ≤ t) (h1 : t ≤ 2147483647) (hs : 1 ≤ s) : 0 ≤ t - t % s ∧ t - t % s ≤ 2147483647 := by
  have := Int.emod_nonneg t (show s ≠ 0 by omega)
  have h2 : t % s ≤ t := by
    have h3 := Int.mul_ediv_add_emod t s
    have h4 := Int.mul_nonneg (show 0 ≤ s by omega) (Int.ediv_nonneg h0 (show 0 ≤ s by omega))
    omega
  omega

/-- what 'goes' leaves -/
structure Kept (d d' : RDb) (i : Nat) : Prop where
  ok : d'.Ok
  cfg : d'.c = d.c
  al : d.Al → d'.Al
  low : ∀ j, j ≤ i → d'.L[j]? = d.L[j]?

theorem goesF_kept : ∀ (f : Nat) (d : RDb) (i : Nat) (t : Int), d.Ok → i < d.c.many → 0 ≤ t → t ≤ 2147483647 → Kept d (goesF f d i t) i
  | 0, d, i, t, hd, _, _, _ => ⟨hd, rfl, id, fun _ _ => rfl⟩
  | f + 1, d, i, t, hd, hi, h0, h1 => by
    rw [goesF]
    split
    · exact ⟨hd, rfl, id, fun _ _ => rfl⟩
    · rename_i hm
      have hi1 : i + 1 < d.c.many := by omega
      have hb := Cfg.bd hd.cfg hi1
      obtain ⟨l, hl⟩ : ∃ l, d.L[i]? = some l := ⟨_, List.getElem?_eq_getElem (by rw [hd.len]; exact hi)⟩
      obtain ⟨l1, hl1⟩ : ∃ l, d.L[i + 1]? = some l := ⟨_, List.getElem?_eq_getElem (by rw [hd.len]; exact hi1)⟩
      simp only
      split
      · exact ⟨hd, rfl, id, fun _ _ => rfl⟩
      · rename_i hc
        have hfr := sub_in h0 h1 hb.1
        have hne : valsTo d.c i ((d.L[i]?).getD []) (t - t % d.c.s (i + 1)) (d.c.s (i + 1) / d.c.s i).toNat ≠ [] := fun e => hc (.inl (by rw [e]; rfl))
        have hv := makesI_in (m := d.c.m) (l := valsTo d.c i ((d.L[i]?).getD []) (t - t % d.c.s (i + 1)) (d.c.s (i + 1) / d.c.s i).toNat) (valsTo_in (by rw [hl]; exact (hd.pts i l hl).1)) hne
        rw [hl1]
        simp only [Option.getD_some]
        obtain ⟨v, hvd⟩ : ∃ v, v = makesI d.c.m (valsTo d.c i ((d.L[i]?).getD []) (t - t % d.c.s (i + 1)) (d.c.s (i + 1) / d.c.s i).toNat) := ⟨_, rfl⟩
        rw [← hvd] at hv ⊢
        have hp : PtIn (t - t % d.c.s (i + 1), v) := ⟨hfr.1, hfr.2, hv.1, hv.2⟩
        have hok := put_ok hd hl1 hp
        have r := goesF_kept f (d.put (i + 1) (setL d.c (i + 1) (t - t % d.c.s (i + 1), v) l1)) (i + 1) (t - t % d.c.s (i + 1)) hok hi1 hfr.1 hfr.2
        refine ⟨r.ok, r.cfg, fun ha => r.al (put_al ha hl1 (al_sub _ _)), fun j hj => ?_⟩
        rw [r.low j (by omega)]
        unfold RDb.put
        rw [List.getElem?_set_ne (by omega)]

/-- a point is written: what stays -/
theorem writesR_kept {d : RDb} {now : Int} {q : Pt} (hd : d.Ok) (hq : PtIn q) : (writesR d now q).Ok ∧ (writesR d now q).c = d.c ∧ (d.Al → (writesR d now q).Al) ∧
    (writesR d now q).L[0]? = if firstO d.c now q.1 = some 0 then (d.L[0]?).map (setL d.c 0 (q.1 - q.1 % d.c.s 0, q.2)) else d.L[0]? := by
  unfold writesR
  cases hf : firstO d.c now q.1 with
  | none => exact ⟨hd, rfl, id, by simp⟩
  | some i =>
    obtain ⟨hi, _⟩ := firstO_in hf
    have hb := Cfg.bd hd.cfg hi
    have hs := sub_in hq.1 hq.2.1 hb.1
    obtain ⟨l, hl⟩ : ∃ l, d.L[i]? = some l := ⟨_, List.getElem?_eq_getElem (by rw [hd.len]; exact hi)⟩
    simp only [hl, Option.getD_some]
    have hok := put_ok hd hl (p := (q.1 - q.1 % d.c.s i, q.2)) ⟨hs.1, hs.2, hq.2.2.1, hq.2.2.2⟩
    have r := goesF_kept d.c.many (d.put i (setL d.c i (q.1 - q.1 % d.c.s i, q.2) l)) i (q.1 - q.1 % d.c.s i) hok hi hs.1 hs.2
    refine ⟨r.ok, r.cfg, fun ha => r.al (put_al ha hl (al_sub _ _)), ?_⟩
    rw [r.low 0 (by omega)]
    unfold RDb.put
    by_cases e : i = 0
    · subst e
      rw [if_pos rfl, List.getElem?_set_self (by rw [hd.len]; exact hi), hl]
      rfl
    · rw [if_neg (by simpa using e), List.getElem?_set_ne e]

theorem ptErr_in {c : Cfg} {now : Int} {q : Pt} (h : ptErr c now q = 0) : PtIn q := by
  unfold ptErr at h
  split at h
  · simp at h
  · rename_i h1; exact Classical.not_not.1 h1
theorem errFrom_zero {c : Cfg} {now : Int} : ∀ (l : List Pt) (k : Nat), ((errFrom c now k l).getD (0, 0)).1 = 0 → ∀ q ∈ l, ptErr c now q = 0
  | [], _, _, q, hq => by simp at hq
  | x :: l, k, h, q, hq => by
    rw [errFrom] at h
    split at h
    · rename_i hx
      rcases List.mem_cons.1 hq with rfl | hq
      · exact hx
      · exact errFrom_zero l (k + 1) h q hq
    · rename_i hx
      exact absurd h hx
theorem writesAll_kept {now : Int} : ∀ (l : List Pt) (d : RDb), d.Ok → (∀ q ∈ l, PtIn q) → (writesAll d now l).Ok ∧ (writesAll d now l).c = d.c ∧ (d.Al → (writesAll d now l).Al)
  | [], d, hd, _ => ⟨hd, rfl, id⟩
  | q :: l, d, hd, hl => by
    obtain ⟨a, b, c, _⟩ := writesR_kept (now := now) hd (hl q (by simp))
    obtain ⟨a', b', c'⟩ := writesAll_kept l (writesR d now q) a fun x hx => hl x (by simp [hx])
    exact ⟨a', b'.trans b, fun h => c' (c h)⟩
theorem updR_kept {d : RDb} {now : Int} {l : List Pt} (hd : d.Ok) : (updR d now l).Ok ∧ (updR d now l).c = d.c ∧ (d.Al → (updR d now l).Al) := by
  unfold updR
  split
  · rename_i h
    unfold updErr at h
    split at h
    · simp at h
    · exact writesAll_kept l d hd fun q hq => ptErr_in (errFrom_zero l 0 h q hq)
  · exact ⟨hd, rfl, id⟩
theorem new_al (c : Cfg) (L : List (List Pt)) (h : ∀ l ∈ L, l = []) : (RDb.mk c L).Al := by
  intro i l hl q hq
  rw [h l (List.mem_iff_getElem?.2 ⟨i, hl⟩)] at hq
  simp at hq
end Go.Proofs.Ythbbfjfekchdiaa
/-
  The program's small functions.
-/
namespace Go.Proofs.Ythbbfjfekchdiaa
open Go.RowKit
set_option linter.unusedSimpArgs false

/-- an archive's value -/
abbrev arcV (s : Int) (g k cap : Nat) : Value := .agg #[i64 s, .slice (some ⟨g, 0, none⟩) k cap]

set_option maxHeartbeats 400000 in
theorem zstamp_any (x : Int) (w : World) :
    Calls Try.prog 25 #[i64 x] w fun e w' => e = .returned (.bool (decide (0 ≤ x) && decide (x ≤ 2147483647))) ∧ w' = w := by
  go_enter Try.func25, Try.ntmps25
  go_wp2
  all_goals go_ret
  all_goals exact ⟨by simp [*]; try omega, rfl⟩

set_option maxHeartbeats 400000 in
theorem zvalue_any (x : Int) (w : World) :
    Calls Try.prog 43 #[i64 x] w fun e w' => e = .returned (.bool (decide (-1000000000 ≤ x) && decide (x ≤ 1000000000))) ∧ w' = w := by
  go_enter Try.func43, Try.ntmps43
  go_wp2
  all_goals go_ret
  all_goals exact ⟨by simp [*]; try omega, rfl⟩

set_option maxHeartbeats 400000 in
theorem zreach_any (s : Int) (g k cap : Nat) (w : World) (h0 : 0 ≤ s * (k : Int)) (h1 : s * (k : Int) ≤ 1000000000) :
    Calls Try.prog 50 #[arcV s g k cap] w fun e w' => e = .returned (i64 (s * (k : Int))) ∧ Below w.heap.size w w' := by
  go_enter Try.func50, Try.ntmps50
  go_wp2
  go_ret
  exact ⟨rfl, (Below.refl _ _).alloc (Nat.le_refl _) _⟩

set_option maxHeartbeats 400000 in
theorem zoldest_any (s now P : Int) (g k cap : Nat) (w : World) (hP : Hid (P = s * (k : Int))) (h0 : 0 ≤ P) (h1 : P ≤ 1000000000) (n0 : -1000000000000 ≤ now) (n1 : now ≤ 1000000000000) :
    Calls Try.prog 31 #[arcV s g k cap, i64 now] w fun e w' => e = .returned (i64 (now - P + 1)) ∧ Below w.heap.size w w' := by
  have HR := hid (fun (w : World) => zreach_any s g k cap w (by rw [← hP.out]; exact h0) (by rw [← hP.out]; exact h1))
  rw [← hP.out] at HR
  go_enter Try.func31, Try.ntmps31
  go_wp2_with fail
  refine (HR.out _).mono ?_
  rintro e w1 ⟨rfl, hb⟩
  have HB := hid (show Below w.heap.size w w1 from ((Below.refl _ w).alloc (Nat.le_refl _) _).trans (hb.mono (by simp)))
  clear hb
  go_wp2
  go_ret
  exact ⟨rfl, HB.out⟩

set_option maxHeartbeats 400000 in
theorem zcovers_any (s now t P : Int) (g k cap : Nat) (w : World) (hP : Hid (P = s * (k : Int))) (h0 : 0 ≤ P) (h1 : P ≤ 1000000000) (n0 : -1000000000000 ≤ now) (n1 : now ≤ 1000000000000) :
    Calls Try.prog 46 #[arcV s g k cap, i64 now, i64 t] w fun e w' => e = .returned (.bool (decide (t ≤ now) && decide (now - t < P))) ∧ Below w.heap.size w w' := by
  have HO := hid (fun (w : World) => zoldest_any s now P g k cap w hP h0 h1 n0 n1)
  go_enter Try.func46, Try.ntmps46
  go_wp2_with fail
  refine (HO.out _).mono ?_
  rintro e w1 ⟨rfl, hb⟩
  have HB := hid (show Below w.heap.size w w1 from ((Below.refl _ w).alloc (Nat.le_refl _) _).trans (hb.mono (by simp)))
  clear hb
  go_wp2
  all_goals go_ret
  all_goals exact ⟨congrArg (fun b => Ending.returned (Value.bool b)) (by rw [Bool.eq_iff_iff]; simp; omega), HB.out⟩

set_option maxHeartbeats 400000 in
theorem zbegin_any (s t : Int) (g k cap : Nat) (w : World) (s1 : 1 ≤ s) (s2 : s ≤ 1000000) (t0 : 0 ≤ t) (t1 : t ≤ 1000000000000) :
    Calls Try.prog 57 #[arcV s g k cap, i64 t] w fun e w' => e = .returned (i64 (t - t % s)) ∧ Below w.heap.size w w' := by
  have r0 : 0 ≤ t % s := Int.emod_nonneg _ (by omega)
  have r1 : t % s < s := Int.emod_lt_of_pos _ (by omega)
  go_enter Try.func57, Try.ntmps57
  go_wp2
  all_goals go_ret
  all_goals exact ⟨rfl, (Below.refl _ _).alloc (Nat.le_refl _) _⟩

set_option maxHeartbeats 400000 in
theorem zslot_any (s t : Int) (g k cap : Nat) (w : World) (s1 : 1 ≤ s) (s2 : s ≤ 1000000) (t0 : 0 ≤ t) (t1 : t ≤ 1000000000000) (k1 : 1 ≤ k) (k2 : k ≤ 1000) :
    Calls Try.prog 58 #[arcV s g k cap, i64 t] w fun e w' => e = .returned (i64 (t / s % (k : Int))) ∧ Below w.heap.size w w' := by
  have r0 : 0 ≤ t / s := Int.ediv_nonneg (by omega) (by omega)
  have r1 : t / s ≤ t := Int.ediv_le_self _ (by omega)
  have k0 : (1 : Int) ≤ (k : Int) := by omega
  have k3 : (k : Int) ≤ 1000 := by omega
  go_enter Try.func58, Try.ntmps58
  go_wp2_with fail
  go_quiet (fail)
  go_wp2
  go_ret
  exact ⟨rfl, below_drewN ((Below.refl _ _).alloc (Nat.le_refl _) _) _⟩
end Go.Proofs.Ythbbfjfekchdiaa
