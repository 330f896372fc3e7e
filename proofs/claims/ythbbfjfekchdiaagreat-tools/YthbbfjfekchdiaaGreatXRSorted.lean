import Derived.Test.YthbbfjfekchdiaaGreatXRWrites
import Derived.Test.YthbbfjfekchdiaaGreatXRHas
import Derived.Test.YthbbfjfekchdiaaGreatXRSets
import Derived.Deep.AppendSrc
import Derived.Deep.QuietTactic
import Derived.BigQuiet
/-
  Update of the document, as plain mathematics.
-/
namespace Go.Proofs.YthbbfjfekchdiaaGreat

/-- the error of one point -/
def ptErr (c : Cfg) (now : Int) (q : Pt) : Int := if ¬ PtIn q then 1 else if now < q.1 then 3 else if firstI c now q.1 < 0 then 4 else 0
/-- the first point with an error, from place k on -/
def errFrom (c : Cfg) (now : Int) : Nat → List Pt → Option (Int × Nat)
  | _, [] => none
  | k, q :: l => if ptErr c now q = 0 then errFrom c now (k + 1) l else some (ptErr c now q, k)
def updErr (c : Cfg) (now : Int) (l : List Pt) : Int × Nat :=
  if ¬ (0 ≤ now ∧ now ≤ 2147483647) ∨ 100 < l.length then (1, 0) else (errFrom c now 0 l).getD (0, 0)
def writesAll (d : RDb) (now : Int) (l : List Pt) : RDb := l.foldl (fun d q => writesR d now q) d
def updR (d : RDb) (now : Int) (l : List Pt) : RDb := if (updErr d.c now l).1 = 0 then writesAll d now l else d

theorem errFrom_none {c : Cfg} {now : Int} : ∀ (l : List Pt) (k : Nat), (∀ q ∈ l, ptErr c now q = 0) → errFrom c now k l = none
  | [], _, _ => rfl
  | q :: l, k, h => by rw [errFrom, if_pos (h q (by simp))]; exact errFrom_none l (k + 1) fun x hx => h x (by simp [hx])
theorem errFrom_at {c : Cfg} {now : Int} : ∀ (l : List Pt) (s k : Nat) (q : Pt), l[k]? = some q → (∀ (j : Nat) (x : Pt), j < k → l[j]? = some x → ptErr c now x = 0) → ptErr c now q ≠ 0 → errFrom c now s l = some (ptErr c now q, s + k)
  | [], _, _, _, h, _, _ => by simp at h
  | x :: l, s, 0, q, h, _, hq => by
    simp at h; subst h
    rw [errFrom, if_neg hq]; rfl
  | x :: l, s, k + 1, q, h, hz, hq => by
    rw [errFrom, if_pos (hz 0 x (by omega) rfl), errFrom_at l (s + 1) k q (by simpa using h) (fun j y hj hy => hz (j + 1) y (by omega) (by simpa using hy)) hq]
    congr 2; omega
theorem writesAll_ok {d : RDb} {now : Int} {l : List Pt} {k : Nat} {q : Pt} (h : l[k]? = some q) : writesAll d now (l.take (k + 1)) = writesR (writesAll d now (l.take k)) now q := by
  unfold writesAll
  rw [List.take_add_one, h, List.foldl_append]
  rfl
end Go.Proofs.YthbbfjfekchdiaaGreat
/-
  The document's order of points, as plain mathematics.
-/
namespace Go.Proofs.YthbbfjfekchdiaaGreat
open Go.RowKit

def lessN (x : Int) (out : List Pt) : Nat := (out.takeWhile fun q => decide (q.1 < x)).length
def insPt (out : List Pt) (x : Pt) : List Pt := (out.take (lessN x.1 out) ++ [x]) ++ out.drop (lessN x.1 out)
def sortedTo (l : List Pt) (k : Nat) : List Pt := (l.take k).foldl insPt []

theorem lessN_at {x : Int} : ∀ {out : List Pt} {k : Nat}, k ≤ out.length → (∀ (j : Nat) (q : Pt), j < k → out[j]? = some q → q.1 < x) → (∀ q, out[k]? = some q → ¬ q.1 < x) → lessN x out = k
  | [], k, h, _, _ => by simp at h; subst h; rfl
  | q :: out, 0, _, _, h2 => by
    unfold lessN
    rw [List.takeWhile_cons_of_neg (by simpa using h2 q rfl)]; rfl
  | q :: out, k + 1, h, h1, h2 => by
    have r := lessN_at (x := x) (out := out) (k := k) (by simpa using h) (fun j q' hj hq => h1 (j + 1) q' (by omega) (by simpa using hq)) (fun q' hq => h2 q' (by simpa using hq))
    unfold lessN at r ⊢
    rw [List.takeWhile_cons_of_pos (by simpa using h1 0 q (by omega) rfl), List.length_cons, r]
theorem insPt_length (out : List Pt) (x : Pt) : (insPt out x).length = out.length + 1 := by
  unfold insPt
  rw [List.length_append, List.length_append, List.length_take, List.length_drop]
  have : lessN x.1 out ≤ out.length := by
    unfold lessN
    have h := List.takeWhile_append_dropWhile (p := fun q : Pt => decide (q.1 < x.1)) (l := out)
    have h2 := congrArg List.length h
    rw [List.length_append] at h2
    omega
  simp; omega
theorem sortedTo_succ {l : List Pt} {k : Nat} {q : Pt} (h : l[k]? = some q) : sortedTo l (k + 1) = insPt (sortedTo l k) q := by
  unfold sortedTo
  rw [List.take_add_one, h, List.foldl_append]; rfl
theorem sortedTo_length (l : List Pt) : ∀ k, k ≤ l.length → (sortedTo l k).length = k := by
  intro k
  induction k with
  | zero => intro _; simp [sortedTo]
  | succ k ih =>
    intro hk
    obtain ⟨q, hq⟩ : ∃ q, l[k]? = some q := ⟨_, List.getElem?_eq_getElem (by omega)⟩
    rw [sortedTo_succ hq, insPt_length, ih (by omega)]
theorem ptCells_append (a b : List Pt) : ptCells (a ++ b) = ptCells a ++ ptCells b := by unfold ptCells; rw [List.flatMap_append]
theorem ptCells_take (l : List Pt) (k : Nat) : ptCells (l.take k) = (ptCells l).take (k * 2) := by
  induction l generalizing k with
  | nil => simp [ptCells]
  | cons q l ih =>
    cases k with
    | zero => simp [ptCells]
    | succ k =>
      rw [List.take_succ_cons, show ptCells (q :: List.take k l) = i64 q.1 :: i64 q.2 :: ptCells (List.take k l) from rfl, ih, show ptCells (q :: l) = i64 q.1 :: i64 q.2 :: ptCells l from rfl, show (k + 1) * 2 = k * 2 + 1 + 1 by omega]
      rfl
theorem ptCells_drop (l : List Pt) (k : Nat) : ptCells (l.drop k) = (ptCells l).drop (k * 2) := by
  induction l generalizing k with
  | nil => simp [ptCells]
  | cons q l ih =>
    cases k with
    | zero => simp
    | succ k =>
      rw [List.drop_succ_cons, ih, show ptCells (q :: l) = i64 q.1 :: i64 q.2 :: ptCells l from rfl, show (k + 1) * 2 = k * 2 + 1 + 1 by omega]
      rfl
theorem ptCells_one (l : List Pt) : ∀ u ∈ ptCells l, u.oneCell' = true := by
  intro u hu
  unfold ptCells at hu
  obtain ⟨q, _, hq⟩ := List.mem_flatMap.1 hu
  simp at hq
  rcases hq with rfl | rfl <;> rfl
end Go.Proofs.YthbbfjfekchdiaaGreat
/-
  The document's Fetch as plain mathematics.
-/
namespace Go.Proofs.YthbbfjfekchdiaaGreat
open Go.RowKit

abbrev StampIn (n : Int) : Prop := 0 ≤ n ∧ n ≤ 2147483647
def fetchErr (c : Cfg) (now fr un : Int) : Int := if ¬ (StampIn now ∧ StampIn fr ∧ StampIn un ∧ fr ≤ un) then 1 else if now < fr then 3 else if firstI c now (min un now) < 0 then 4 else 0
/-- of which archive a fetch tells -/
def fetchI (c : Cfg) (now fr : Int) : Nat := match firstO c now fr with | some i => i | none => c.many - 1
def fetchB (c : Cfg) (i : Nat) (now fr un : Int) (q : Pt) : Bool := covB c i now q.1 && (decide (fr ≤ q.1) && decide (q.1 ≤ un))
def sortedL (l : List Pt) : List Pt := sortedTo l l.length
def fetchL (d : RDb) (now fr un : Int) : List Pt := (sortedL (d.L.getD (fetchI d.c now fr) [])).filter (fetchB d.c (fetchI d.c now fr) now fr un)
/-- the three parts of a series -/
def serA (d : RDb) (now fr un : Int) : Int := if fetchErr d.c now fr un = 0 then (fetchI d.c now fr : Int) else 0
def serS (d : RDb) (now fr un : Int) : Int := if fetchErr d.c now fr un = 0 then d.c.s (fetchI d.c now fr) else 0
def serP (d : RDb) (now fr un : Int) : List Pt := if fetchErr d.c now fr un = 0 then fetchL d now fr un else []

theorem firstFrom_lt {c : Cfg} {now t : Int} : ∀ (n i j : Nat), firstFrom c now t i n = some j → i ≤ j ∧ j < i + n ∧ covB c j now t = true
  | 0, _, _, h => by simp [firstFrom] at h
  | n + 1, i, j, h => by
    rw [firstFrom] at h
    split at h
    · rename_i hc
      simp at h; subst h; exact ⟨by omega, by omega, hc⟩
    · have := firstFrom_lt n (i + 1) j h
      exact ⟨by omega, by omega, this.2.2⟩
theorem firstO_in {c : Cfg} {now t : Int} {j : Nat} (h : firstO c now t = some j) : j < c.many ∧ covB c j now t = true := by
  have := firstFrom_lt c.many 0 j h
  exact ⟨by omega, this.2.2⟩
theorem firstI_some {c : Cfg} {now t : Int} (h : ¬ firstI c now t < 0) : ∃ j, firstO c now t = some j ∧ firstI c now t = (j : Int) ∧ j < c.many := by
  unfold firstI at h ⊢
  cases e : firstO c now t with
  | none => rw [e] at h; simp at h
  | some j => exact ⟨j, rfl, rfl, (firstO_in e).1⟩
theorem firstI_no {c : Cfg} {now t : Int} (h : firstI c now t < 0) : firstO c now t = none ∧ firstI c now t = -1 := by
  unfold firstI at h ⊢
  cases e : firstO c now t with
  | none => exact ⟨rfl, rfl⟩
  | some j => rw [e] at h; simp at h; omega
theorem fetchI_lt {c : Cfg} {now fr : Int} (h : 1 ≤ c.many) : fetchI c now fr < c.many := by
  unfold fetchI
  cases e : firstO c now fr with
  | none => simp; omega
  | some j => exact (firstO_in e).1
theorem filter_take_succ {α : Type} (f : α → Bool) {l : List α} {k : Nat} {q : α} (h : l[k]? = some q) : (l.take (k + 1)).filter f = (l.take k).filter f ++ (if f q then [q] else []) := by
  rw [List.take_add_one, h, List.filter_append]
  congr 1
  simp only [Option.toList]
  cases hq : f q <;> simp [hq]
theorem insPt_mem {out : List Pt} {x y : Pt} : y ∈ insPt out x ↔ y = x ∨ y ∈ out := by
  unfold insPt
  rw [List.mem_append, List.mem_append]
  constructor
  · rintro ((h | h) | h)
    · exact .inr (List.mem_of_mem_take h)
    · exact .inl (by simpa using h)
    · exact .inr (List.mem_of_mem_drop h)
  · rintro (h | h)
    · exact .inl (.inr (by simpa using h))
    · rw [← List.take_append_drop (lessN x.1 out) out, List.mem_append] at h
      rcases h with h | h
      · exact .inl (.inl h)
      · exact .inr h
theorem sortedTo_mem {l : List Pt} {y : Pt} : ∀ k, k ≤ l.length → (y ∈ sortedTo l k ↔ y ∈ l.take k) := by
  intro k
  induction k with
  | zero => intro _; simp [sortedTo]
  | succ k ih =>
    intro hk
    obtain ⟨q, hq⟩ : ∃ q, l[k]? = some q := ⟨_, List.getElem?_eq_getElem (by omega)⟩
    rw [sortedTo_succ hq, insPt_mem, ih (by omega), List.take_add_one, hq, List.mem_append]
    simp only [Option.toList, List.mem_singleton]
    constructor
    · rintro (h | h)
      · exact .inr h
      · exact .inl h
    · rintro (h | h)
      · exact .inr h
      · exact .inl h
theorem sortedL_mem {l : List Pt} {y : Pt} : y ∈ sortedL l ↔ y ∈ l := by
  unfold sortedL
  rw [sortedTo_mem _ (Nat.le_refl _), List.take_of_length_le (Nat.le_refl _)]
theorem sortedL_length (l : List Pt) : (sortedL l).length = l.length := sortedTo_length l _ (Nat.le_refl _)
end Go.Proofs.YthbbfjfekchdiaaGreat
/-
  append of points, of whatever source: a part of a row, or nothing.
-/
namespace Go.Proofs.YthbbfjfekchdiaaGreat
open Go.RowKit

/-- the source's points lie where it says -/
def SrcAt (w : World) (x : Value) (l : List Pt) : Prop :=
  (x = .slice none 0 0 ∧ l = []) ∨ ∃ ad c, x = .slice (some ad) l.length c ∧ ∀ j u, (ptCells l)[j]? = some u → w.cell? (ad.add j) = some u

theorem run_append_nilnil {P : Program} (w : World) (t ty e : TypeId) (i : TypeInfo) (ht : P.underlying t = some (.slice e)) (hi : P.info? e = some i) :
    (Builtin.append_ #[t, t] ty #[.slice none 0 0, .slice none 0 0]).run P w = .ok (.slice none 0 0) w := by
  simp [Builtin.append_, run_underlying ht, sizeOf, typeInfo, hi, Builtin.lenOf, run_firstCells_none w i.size 0 0 0]

theorem wpList_append_pts (w : World) {ops : Array Oper} {rest : List Oper} {o : Oper} {a : Act} {Q : Exit → Act → World → Prop} (hgd : o.guard = none) (s x : Operand)
    (ho : o.op = .call { callee := .builtin .append, args := #[s, x], argTypes := #[41, 41] }) (base : Nat) (v xv : Value) (os news : List Pt) (hs : a.eval s = v) (hx : a.eval x = xv) (tgt : List Pt) (htgt : Hid (tgt = os ++ news))
    (hown : w.ownsRow base 48 2 v os.length (ptCells os)) (hsrc : SrcAt w xv news) (hlen : os.length + news.length ≤ 1000) (hbase : base ≤ w.heap.size)
    (h : ∀ v' w', w'.ownsRow base 48 2 v' tgt.length (ptCells tgt) → w.grownBy w' v.ownBlock → wpList Tryz.prog ops Q rest (a.put o.dst v') w') : wpList Tryz.prog ops Q (o :: rest) a w := by
  have htgt := htgt.out
  subst htgt
  obtain ⟨q0, hi0, hz0, hz1, hz2⟩ := info_parts Tryz.infoPoint
  rcases hsrc with ⟨rfl, rfl⟩ | ⟨ad, c, rfl, hn⟩
  · have hr : ∃ w', (Builtin.append_ #[41, 41] o.type #[v, .slice none 0 0]).run Tryz.prog w = .ok v w' ∧ w' = w := by
      obtain ⟨_, ⟨hv, _⟩ | ⟨g, cap, cur, hv, _, _, hc, _⟩⟩ := hown
      · rw [hv]; exact ⟨w, run_append_nilnil w _ _ _ q0 Tryz.underlying41 hi0, rfl⟩
      · rw [hv]; exact ⟨_, run_append_room_src (P := Tryz.prog) w _ _ o.type _ q0 Tryz.underlying41 hi0 g 0 os.length cap (.slice none 0 0) 0 [] (Src.ofNil w Tryz.underlying41 0) (by omega) (fun j hj => absurd hj (by simp)) (fun j hj => absurd hj (by simp)), rfl⟩
    obtain ⟨w', hr, rfl⟩ := hr
    refine wpList_plain hgd fun _ hK => ?_
    unfold Oper.wp execOp
    simp only [ho, resolve, invoke, builtin, Sem.run_bind, Sem.run_pure, Result.andThen_ok, List.map_toArray, List.map_cons, List.map_nil, hs, hx, hr]
    exact hK _ _ (h v w' (by rw [List.append_nil]; exact hown) ⟨rfl, rfl, rfl, Nat.le_refl _, fun _ _ _ => rfl⟩)
  · refine wpList_append_own w hgd s x _ ho base 48 q0 _ 2 16 Tryz.underlying41 hi0 hz0 hz1 hz2 rfl (by decide) v os.length (ptCells os) hs hown ad news.length c (ptCells news) hx (ptCells_length news) hn (ptCells_one news) (by unfold maxLen; omega) (by omega) hbase ?_
    intro v' w' ho' hg' _
    refine h v' w' ?_ hg'
    rw [ptCells_append, List.length_append]
    exact ho'
end Go.Proofs.YthbbfjfekchdiaaGreat
namespace Go.Proofs.YthbbfjfekchdiaaGreat
open Go.RowKit
set_option linter.unusedSimpArgs false

theorem blk_drewN {w : World} {B : Nat} {o : Obj} (h : w.heap[B]? = some o) (n : Nat) : (w.drewN n).heap[B]? = some o := by simpa using h
theorem addr_addN (g t j : Nat) : (Addr.mk g t none).add j = ⟨g, t + j, none⟩ := by
  unfold Addr.add
  by_cases h : j = 0
  · subst h; simp
  · simp [h]
theorem addr_add0 (g j : Nat) : (Addr.mk g 0 none).add j = ⟨g, j, none⟩ := by rw [addr_addN]; simp
theorem src_cells {w : World} {g : Nat} {cur : Array Value} {o : List Pt} (hb : w.heap[g]? = some (.cells cur 48)) (ht : cur.toList.take (o.length * 2) = ptCells o) (j : Nat) (u : Value) (h : (ptCells o)[j]? = some u) : w.cell? ⟨g, j, none⟩ = some u := by
  rw [cell_of_blk hb, ← h, ← ht]
  have hj : j < o.length * 2 := by
    obtain ⟨x, _⟩ := List.getElem?_eq_some_iff.1 h
    rw [ptCells_length] at x; exact x
  rw [List.getElem?_take_of_lt hj]; simp
theorem src_take {w : World} {g : Nat} {cur : Array Value} {o : List Pt} {t c : Nat} (hb : w.heap[g]? = some (.cells cur 48)) (ht : cur.toList.take (o.length * 2) = ptCells o) (h : t ≤ o.length) :
    SrcAt w (.slice (some ⟨g, 0, none⟩) t c) (o.take t) := by
  refine .inr ⟨⟨g, 0, none⟩, c, by rw [List.length_take, Nat.min_eq_left h], fun j u hj => ?_⟩
  rw [ptCells_take, List.getElem?_take] at hj
  split at hj
  · have := src_cells hb ht j u hj
    rw [addr_add0]; exact this
  · cases hj
theorem src_drop {w : World} {g : Nat} {cur : Array Value} {o : List Pt} {t c : Nat} (hb : w.heap[g]? = some (.cells cur 48)) (ht : cur.toList.take (o.length * 2) = ptCells o) :
    SrcAt w (.slice (some ⟨g, t * 2, none⟩) (o.length - t) c) (o.drop t) := by
  refine .inr ⟨⟨g, t * 2, none⟩, c, by rw [List.length_drop], fun j u hj => ?_⟩
  rw [ptCells_drop, List.getElem?_drop] at hj
  have := src_cells hb ht _ u hj
  rw [addr_addN]; exact this
theorem src_one {w : World} {g : Nat} {q : Pt} {c : Nat} (hb : w.heap[g]? = some (.cells #[i64 q.1, i64 q.2] 48)) : SrcAt w (.slice (some ⟨g, 0, none⟩) 1 c) [q] := by
  refine .inr ⟨⟨g, 0, none⟩, c, rfl, fun j u hj => ?_⟩
  have : w.cell? ⟨g, j, none⟩ = some u := by
    rw [cell_of_blk hb]
    simpa [ptCells] using hj
  rw [addr_add0]; exact this

/-- what the three appends leave -/
theorem sort_end {w wo wr w1 w2 w3 : World} {O : Obj} {v1 v2 v3 : Value} {a b c : List Pt} {l : List Pt} {k : Nat} (HB : Below w.heap.size w wo) (hz : w.heap.size ≤ wo.heap.size) (hbw : Below wo.heap.size wo wr) (nq : Nat)
    (hg1 : (wr.drewN nq).grownBy w1 none) (ho1 : w1.ownsRow wr.heap.size 48 2 v1 a.length (ptCells a)) (hg2 : (w1.alloc O).grownBy w2 v1.ownBlock) (ho2 : w2.ownsRow wr.heap.size 48 2 v2 b.length (ptCells b))
    (hg3 : w2.grownBy w3 v2.ownBlock) (ho3 : w3.ownsRow wr.heap.size 48 2 v3 c.length (ptCells c)) (hc : sortedTo l k = c) :
    Below w.heap.size w w3 ∧ w3.ownsRow w.heap.size 48 2 v3 (sortedTo l k).length (ptCells (sortedTo l k)) := by
  have z1 := hbw.size
  have z2 : wr.heap.size ≤ w1.heap.size := by have := hg1.size; simpa using this
  have z3 : w1.heap.size + 1 ≤ w2.heap.size := by have := hg2.size; simpa using this
  refine ⟨?_, by rw [hc]; exact owns_base ho3 (by omega)⟩
  have h0 : Below w.heap.size w wr := HB.trans (hbw.mono (by omega))
  have h1 : Below w.heap.size w w1 := Below.grown (below_drewN h0 nq) hg1 (by simp; omega) (fun k hk => by cases hk)
  have h2 : Below w.heap.size w w2 := Below.grown (h1.alloc (by omega) O) hg2 (by simp; omega) (fun k hk => by have := (ho1.lt k hk).1; omega)
  exact Below.grown h2 hg3 (by omega) (fun k hk => by have := (ho2.lt k hk).1; omega)

set_option maxHeartbeats 4000000 in
theorem sorted_ref (p gl i n : Nat) (l : List Pt) (v : Value) (w : World) (x10 : w.cell? ⟨p, 10, none⟩ = some (.slice (some ⟨gl, 0, none⟩) n n)) (hi : i < n) (xi : w.cell? ⟨gl, i, none⟩ = some v) (hr : RowAt w v l) (hl : l.length ≤ 60) :
    Calls Tryz.prog 67 #[.pointer (some ⟨p, 0, none⟩), i64 i] w fun e w' => ∃ vo, e = .returned vo ∧ Below w.heap.size w w' ∧ w'.ownsRow w.heap.size 48 2 vo (sortedTo l l.length).length (ptCells (sortedTo l l.length)) := by
  obtain ⟨a, cap, rfl, hrow⟩ := hr
  have HR := hid hrow
  have hpz : p < w.heap.size := World.block_lt_of_cell? _ _ x10
  have hgz : gl < w.heap.size := World.block_lt_of_cell? _ _ xi
  have i0 : (0 : Int) ≤ (i : Int) := by omega
  have i1 : (i : Int) < (n : Int) := by omega
  clear hrow
  go_enter Tryz.func67, Tryz.ntmps67
  go_wp2
  go_loopw [5, 6] (fun vo k' wr => ∃ k : Nat, k ≤ l.length ∧ k' = i64 k ∧ Below w.heap.size w wr ∧ wr.ownsRow w.heap.size 48 2 vo (sortedTo l k).length (ptCells (sortedTo l k))) (fun _ k' _ => l.length - (intOf k').toNat)
  case atStart => exact ⟨0, by omega, rfl, Below.refl _ _, World.ownsRow_nil _ _ _ _⟩
  case round =>
    obtain ⟨k, hk, rfl, hb, hown⟩ := hrel
    obtain ⟨wo, hwo⟩ : ∃ wo, wo = wr := ⟨_, rfl⟩
    subst hwo
    have HB := hid hb
    have HO := hid hown
    have z10 : wo.cell? ⟨p, 10, none⟩ = some (.slice (some ⟨gl, 0, none⟩) n n) := cell_later hb x10
    have zi : wo.cell? ⟨gl, i, none⟩ = some (.slice a l.length cap) := cell_later hb xi
    have hzr := hb.size
    clear hb hown
    by_cases hlt : k < l.length
    case neg =>
      have ek : k = l.length := by omega
      subst ek
      go_wp2
      go_ret
      exact ⟨_, rfl, HB.out, HO.out⟩
    obtain ⟨q, hq⟩ : ∃ q, l[k]? = some q := ⟨_, List.getElem?_eq_getElem hlt⟩
    obtain ⟨b, rfl, hbz, c0, c1⟩ := HR.out k q hq
    have z0 : wo.cell? ⟨b, k * 2, none⟩ = some (i64 q.1) := cell_later HB.out c0
    have z1 : wo.cell? ⟨b, k * 2 + 1, none⟩ = some (i64 q.2) := cell_later HB.out c1
    have hbr : b < wo.heap.size := by omega
    have k0 : (0 : Int) ≤ (k : Int) := by omega
    have k1 : (k : Int) < (l.length : Int) := by omega
    have HSS := hid (sortedTo_succ hq)
    have hsl := sortedTo_length l k hk
    obtain ⟨o, hod⟩ : ∃ o, o = sortedTo l k := ⟨_, rfl⟩
    rw [← hod] at HO HSS hsl
    have HSL := hid hsl
    have hol : o.length ≤ 60 := by omega
    clear hq c0 c1 hod hsl
    obtain ⟨_, ⟨hv, hn⟩ | ⟨g, co, cur, hv, hg, hgb, hco, _, _, htk⟩⟩ := HO.out
    · subst hv
      have eo : o = [] := List.length_eq_zero_iff.1 hn
      subst eo
      go_wp2
      go_loopw [8] (fun t' wx => t' = i64 0 ∧ Below (wo.heap.size + 1) (wo.alloc (.cells #[i64 q.1, i64 q.2] 48)) wx) (fun _ _ => 0)
      case atStart => exact ⟨rfl, Below.refl _ _⟩
      case round =>
        obtain ⟨rfl, hbx⟩ := hrel
        have HBX := hid hbx
        have hzx : wo.heap.size < wr.heap.size := by have := hbx.size; simp at this; omega
        have hpb := blk_later hbx (by omega) (blk_new wo (.cells #[i64 q.1, i64 q.2] 48))
        have y0 : wr.cell? ⟨wo.heap.size, 0, none⟩ = some (i64 q.1) := cell_of_blk hpb 0
        have y1 : wr.cell? ⟨wo.heap.size, 1, none⟩ = some (i64 q.2) := cell_of_blk hpb 1
        have HPB := hid hpb
        have hbw : Below wo.heap.size wo wr := ((Below.refl _ wo).alloc (Nat.le_refl _) _).trans (HBX.out.mono (by omega))
        have HBW := hid hbw
        clear hbx hpb hbw
        obtain ⟨A, hA⟩ : ∃ A : List Pt, A = [] ++ [] := ⟨_, rfl⟩
        obtain ⟨B, hB⟩ : ∃ B : List Pt, B = A ++ [q] := ⟨_, rfl⟩
        obtain ⟨C, hC⟩ : ∃ C : List Pt, C = B ++ [] := ⟨_, rfl⟩
        have HC := hid (show insPt [] q = C by rw [hC, hB, hA]; rfl)
        have hAl : A.length ≤ 60 := by rw [hA]; simp
        have hBl : B.length ≤ 61 := by rw [hB, hA]; simp
        have HA := hid hA
        have HB' := hid hB
        have HC' := hid hC
        clear hA hB hC
        go_wp2_with fail
        go_quiet (fail)
        go_wp2_with (at_builtin; refine wpList_append_pts _ (by rfl) (.tmp 48) (.tmp 51) (by rfl) wr.heap.size (.slice none 0 0) (.slice none 0 0) [] [] (by rfl) (by rfl) A HA (World.ownsRow_nil _ _ _ _) (.inl ⟨rfl, rfl⟩) (by simp) (by simp) ?_)
        intro v1 w1 ho1 hg1
        have HO1 := hid ho1
        have HG1 := hid hg1
        have z1 : wr.heap.size ≤ w1.heap.size := by have := hg1.size; simpa using this
        have hp1 := (hg1.block wo.heap.size (by simp; omega) (by simp [Value.ownBlock])).trans (blk_drewN HPB.out nq)
        have y0' : w1.cell? ⟨wo.heap.size, 0, none⟩ = some (i64 q.1) := cell_of_blk hp1 0
        have y1' : w1.cell? ⟨wo.heap.size, 1, none⟩ = some (i64 q.2) := cell_of_blk hp1 1
        have hwz : wo.heap.size < w1.heap.size := by omega
        clear ho1 hg1 hp1
        go_wp2_with (at_builtin; refine wpList_append_pts _ (by rfl) (.tmp 53) (.tmp 55) (by rfl) wr.heap.size v1 (.slice (some ⟨w1.heap.size, 0, none⟩) 1 1) A [q] (by rfl) (by rfl) B HB' (owns_below HO1.out ((Below.refl _ w1).alloc (Nat.le_refl _) _)) ?_ ?_ ?_ ?_)
        · exact src_one (blk_new w1 _)
        · simp; omega
        · simp; omega
        intro v2 w2 ho2 hg2
        have HO2 := hid ho2
        have HG2 := hid hg2
        have z2 : wr.heap.size < w2.heap.size := by have := hg2.size; simp at this; omega
        clear ho2 hg2
        go_wp2_with (at_builtin; refine wpList_append_pts _ (by rfl) (.tmp 57) (.tmp 60) (by rfl) wr.heap.size v2 (.slice none 0 0) B [] (by rfl) (by rfl) C HC' HO2.out (.inl ⟨rfl, rfl⟩) (by simp; omega) (by omega) ?_)
        intro v3 w3 ho3 hg3
        have HE := hid (sort_end (l := l) (k := k + 1) HB.out hzr HBW.out nq HG1.out HO1.out HG2.out HO2.out hg3 ho3 (by rw [HSS.out]; exact HC.out))
        clear ho3 hg3
        go_wp2
        go_roundw
        case rel => exact ⟨k + 1, by omega, by go_num, HE.out⟩
        case measure => simp [intOf]; omega
    · subst hv
      have HGB := hid hgb
      have HTK := hid htk
      clear hgb htk
      go_wp2
      go_loopw [8] (fun t' wx => ∃ (t : Nat), t ≤ o.length ∧ t' = i64 t ∧ (∀ (j : Nat) (x : Pt), j < t → o[j]? = some x → x.1 < q.1) ∧ Below (wo.heap.size + 1) (wo.alloc (.cells #[i64 q.1, i64 q.2] 48)) wx) (fun t' _ => o.length - (intOf t').toNat)
      case atStart => exact ⟨0, by omega, rfl, fun j x hj => absurd hj (by omega), Below.refl _ _⟩
      case round =>
        obtain ⟨t, ht, rfl, hz, hbx⟩ := hrel
        have HZ := hid hz
        have HBX := hid hbx
        have hzx : wo.heap.size < wr.heap.size := by have := hbx.size; simp at this; omega
        have hpb := blk_later hbx (by omega) (blk_new wo (.cells #[i64 q.1, i64 q.2] 48))
        have y0 : wr.cell? ⟨wo.heap.size, 0, none⟩ = some (i64 q.1) := cell_of_blk hpb 0
        have y1 : wr.cell? ⟨wo.heap.size, 1, none⟩ = some (i64 q.2) := cell_of_blk hpb 1
        have hbw : Below wo.heap.size wo wr := ((Below.refl _ wo).alloc (Nat.le_refl _) _).trans (hbx.mono (by omega))
        have HBW := hid hbw
        have HPB := hid hpb
        have HGW := hid (blk_later hbw (blk_lt HGB.out) HGB.out)
        have hgx : g < wr.heap.size := blk_lt HGW.out
        clear hz hbx hpb hbw
        by_cases hto : t < o.length
        · obtain ⟨x, hx⟩ : ∃ x, o[t]? = some x := ⟨_, List.getElem?_eq_getElem hto⟩
          have d0 : wr.cell? ⟨g, t * 2, none⟩ = some (i64 x.1) := src_cells HGW.out HTK.out _ _ (ptCells_at o t x hx).1
          have HX := hid hx
          have t0 : (0 : Int) ≤ (t : Int) := by omega
          have t1 : (t : Int) < (o.length : Int) := by omega
          clear hx
          by_cases hxq : x.1 < q.1
          · have HZ1 := hid (show ∀ (j : Nat) (y : Pt), j < t + 1 → o[j]? = some y → y.1 < q.1 from fun j y hj hy => by
              by_cases e : j = t
              · subst e
                have : y = x := by rw [HX.out] at hy; simpa using hy.symm
                rw [this]; exact hxq
              · exact HZ.out j y (by omega) hy)
            go_wp2_with fail
            go_quiet (fail)
            go_wp2
            go_roundw
            case rel => exact ⟨t + 1, by omega, by go_num, HZ1.out, below_drewN HBX.out _⟩
            case measure => simp [intOf]; omega
          · have HL := hid (lessN_at (x := q.1) (out := o) (k := t) (by omega) HZ.out (fun y hy => by rw [HX.out] at hy; simp at hy; subst hy; exact hxq))
            have hxd : decide (x.1 < q.1) = false := decide_eq_false hxq
            obtain ⟨A, hA⟩ : ∃ A : List Pt, A = o.take t := ⟨_, rfl⟩
            obtain ⟨B, hB⟩ : ∃ B : List Pt, B = A ++ [q] := ⟨_, rfl⟩
            obtain ⟨D, hD⟩ : ∃ D : List Pt, D = o.drop t := ⟨_, rfl⟩
            obtain ⟨C, hC⟩ : ∃ C : List Pt, C = B ++ D := ⟨_, rfl⟩
            have HC := hid (show insPt o q = C by unfold insPt; rw [HL.out, hC, hB, hA, hD])
            have hAl : A.length ≤ 60 := by rw [hA, List.length_take]; omega
            have hBl : B.length ≤ 61 := by rw [hB, List.length_append]; simp; omega
            have hDl : D.length ≤ 60 := by rw [hD, List.length_drop]; omega
            have HA0 := hid hA
            have HA := hid (show A = [] ++ A from rfl)
            have HB' := hid hB
            have HC' := hid hC
            have HD := hid hD
            clear hA hB hC hD
            go_wp2_with fail
            go_quiet (fail)
            go_wp2_with (at_builtin; refine wpList_append_pts _ (by rfl) (.tmp 48) (.tmp 51) (by rfl) wr.heap.size (.slice none 0 0) (.slice (some ⟨g, 0, none⟩) t co) [] A (by rfl) (by rfl) A HA (World.ownsRow_nil _ _ _ _) ?_ ?_ ?_ ?_)
            · rw [HA0.out]; exact src_take (blk_drewN HGW.out nq) HTK.out (by omega)
            · simp; omega
            · simp
            intro v1 w1 ho1 hg1
            have HO1 := hid ho1
            have HG1 := hid hg1
            have z1 : wr.heap.size ≤ w1.heap.size := by have := hg1.size; simpa using this
            have hp1 := (hg1.block wo.heap.size (by simp; omega) (by simp [Value.ownBlock])).trans (blk_drewN HPB.out nq)
            have y0' : w1.cell? ⟨wo.heap.size, 0, none⟩ = some (i64 q.1) := cell_of_blk hp1 0
            have y1' : w1.cell? ⟨wo.heap.size, 1, none⟩ = some (i64 q.2) := cell_of_blk hp1 1
            have HGW1 := hid ((hg1.block g (by simp; omega) (by simp [Value.ownBlock])).trans (blk_drewN HGW.out nq))
            have hwz : wo.heap.size < w1.heap.size := by omega
            clear ho1 hg1 hp1
            go_wp2_with (at_builtin; refine wpList_append_pts _ (by rfl) (.tmp 53) (.tmp 55) (by rfl) wr.heap.size v1 (.slice (some ⟨w1.heap.size, 0, none⟩) 1 1) A [q] (by rfl) (by rfl) B HB' (owns_below HO1.out ((Below.refl _ w1).alloc (Nat.le_refl _) _)) ?_ ?_ ?_ ?_)
            · exact src_one (blk_new w1 _)
            · simp; omega
            · simp; omega
            intro v2 w2 ho2 hg2
            have HO2 := hid ho2
            have HG2 := hid hg2
            have HGW2 := hid ((hg2.block g (by simp; omega) (owns_not HO1.out (by omega))).trans (blk_alloc HGW1.out))
            have z2 : wr.heap.size < w2.heap.size := by have := hg2.size; simp at this; omega
            clear ho2 hg2
            go_wp2_with (at_builtin; refine wpList_append_pts _ (by rfl) (.tmp 57) (.tmp 60) (by rfl) wr.heap.size v2 (.slice (some ⟨g, t * 2, none⟩) (o.length - t) (co - t)) B D (by rfl) (by rfl) C HC' HO2.out ?_ ?_ ?_ ?_)
            · rw [HD.out]; exact src_drop HGW2.out HTK.out
            · omega
            · omega
            intro v3 w3 ho3 hg3
            have HE := hid (sort_end (l := l) (k := k + 1) HB.out hzr HBW.out nq HG1.out HO1.out HG2.out HO2.out hg3 ho3 (by rw [HSS.out]; exact HC.out))
            clear ho3 hg3
            go_wp2
            go_roundw
            case rel => exact ⟨k + 1, by omega, by go_num, HE.out⟩
            case measure => simp [intOf]; omega
        · have HL := hid (lessN_at (x := q.1) (out := o) (k := t) (by omega) HZ.out (fun y hy => by rw [List.getElem?_eq_none (by omega)] at hy; cases hy))
          have hxd : decide ((t : Int) < ((o.length : Nat) : Int)) = false := decide_eq_false (by omega)
          by_cases hct : t < co
          · obtain ⟨A, hA⟩ : ∃ A : List Pt, A = o.take t := ⟨_, rfl⟩
            obtain ⟨B, hB⟩ : ∃ B : List Pt, B = A ++ [q] := ⟨_, rfl⟩
            obtain ⟨D, hD⟩ : ∃ D : List Pt, D = o.drop t := ⟨_, rfl⟩
            obtain ⟨C, hC⟩ : ∃ C : List Pt, C = B ++ D := ⟨_, rfl⟩
            have HC := hid (show insPt o q = C by unfold insPt; rw [HL.out, hC, hB, hA, hD])
            have hAl : A.length ≤ 60 := by rw [hA, List.length_take]; omega
            have hBl : B.length ≤ 61 := by rw [hB, List.length_append]; simp; omega
            have hDl : D.length ≤ 60 := by rw [hD, List.length_drop]; omega
            have HA0 := hid hA
            have HA := hid (show A = [] ++ A from rfl)
            have HB' := hid hB
            have HC' := hid hC
            have HD := hid hD
            clear hA hB hC hD
            go_wp2_with fail
            go_quiet (fail)
            go_wp2_with (at_builtin; refine wpList_append_pts _ (by rfl) (.tmp 48) (.tmp 51) (by rfl) wr.heap.size (.slice none 0 0) (.slice (some ⟨g, 0, none⟩) t co) [] A (by rfl) (by rfl) A HA (World.ownsRow_nil _ _ _ _) ?_ ?_ ?_ ?_)
            · rw [HA0.out]; exact src_take (blk_drewN HGW.out nq) HTK.out (by omega)
            · simp; omega
            · simp
            intro v1 w1 ho1 hg1
            have HO1 := hid ho1
            have HG1 := hid hg1
            have z1 : wr.heap.size ≤ w1.heap.size := by have := hg1.size; simpa using this
            have hp1 := (hg1.block wo.heap.size (by simp; omega) (by simp [Value.ownBlock])).trans (blk_drewN HPB.out nq)
            have y0' : w1.cell? ⟨wo.heap.size, 0, none⟩ = some (i64 q.1) := cell_of_blk hp1 0
            have y1' : w1.cell? ⟨wo.heap.size, 1, none⟩ = some (i64 q.2) := cell_of_blk hp1 1
            have HGW1 := hid ((hg1.block g (by simp; omega) (by simp [Value.ownBlock])).trans (blk_drewN HGW.out nq))
            have hwz : wo.heap.size < w1.heap.size := by omega
            clear ho1 hg1 hp1
            go_wp2_with (at_builtin; refine wpList_append_pts _ (by rfl) (.tmp 53) (.tmp 55) (by rfl) wr.heap.size v1 (.slice (some ⟨w1.heap.size, 0, none⟩) 1 1) A [q] (by rfl) (by rfl) B HB' (owns_below HO1.out ((Below.refl _ w1).alloc (Nat.le_refl _) _)) ?_ ?_ ?_ ?_)
            · exact src_one (blk_new w1 _)
            · simp; omega
            · simp; omega
            intro v2 w2 ho2 hg2
            have HO2 := hid ho2
            have HG2 := hid hg2
            have HGW2 := hid ((hg2.block g (by simp; omega) (owns_not HO1.out (by omega))).trans (blk_alloc HGW1.out))
            have z2 : wr.heap.size < w2.heap.size := by have := hg2.size; simp at this; omega
            clear ho2 hg2
            go_wp2_with (at_builtin; refine wpList_append_pts _ (by rfl) (.tmp 57) (.tmp 60) (by rfl) wr.heap.size v2 (.slice (some ⟨g, t * 2, none⟩) (o.length - t) (co - t)) B D (by rfl) (by rfl) C HC' HO2.out ?_ ?_ ?_ ?_)
            · rw [HD.out]; exact src_drop HGW2.out HTK.out
            · omega
            · omega
            intro v3 w3 ho3 hg3
            have HE := hid (sort_end (l := l) (k := k + 1) HB.out hzr HBW.out nq HG1.out HO1.out HG2.out HO2.out hg3 ho3 (by rw [HSS.out]; exact HC.out))
            clear ho3 hg3
            go_wp2
            go_roundw
            case rel => exact ⟨k + 1, by omega, by go_num, HE.out⟩
            case measure => simp [intOf]; omega
          · obtain ⟨A, hA⟩ : ∃ A : List Pt, A = o.take t := ⟨_, rfl⟩
            obtain ⟨B, hB⟩ : ∃ B : List Pt, B = A ++ [q] := ⟨_, rfl⟩
            obtain ⟨D, hD⟩ : ∃ D : List Pt, D = o.drop t := ⟨_, rfl⟩
            obtain ⟨C, hC⟩ : ∃ C : List Pt, C = B ++ D := ⟨_, rfl⟩
            have HC := hid (show insPt o q = C by unfold insPt; rw [HL.out, hC, hB, hA, hD])
            have hAl : A.length ≤ 60 := by rw [hA, List.length_take]; omega
            have hBl : B.length ≤ 61 := by rw [hB, List.length_append]; simp; omega
            have hDl : D.length ≤ 60 := by rw [hD, List.length_drop]; omega
            have HA0 := hid hA
            have HA := hid (show A = [] ++ A from rfl)
            have HB' := hid hB
            have HC' := hid hC
            have HD := hid hD
            clear hA hB hC hD
            go_wp2_with fail
            go_quiet (fail)
            go_wp2_with (at_builtin; refine wpList_append_pts _ (by rfl) (.tmp 48) (.tmp 51) (by rfl) wr.heap.size (.slice none 0 0) (.slice (some ⟨g, 0, none⟩) t co) [] A (by rfl) (by rfl) A HA (World.ownsRow_nil _ _ _ _) ?_ ?_ ?_ ?_)
            · rw [HA0.out]; exact src_take (blk_drewN HGW.out nq) HTK.out (by omega)
            · simp; omega
            · simp
            intro v1 w1 ho1 hg1
            have HO1 := hid ho1
            have HG1 := hid hg1
            have z1 : wr.heap.size ≤ w1.heap.size := by have := hg1.size; simpa using this
            have hp1 := (hg1.block wo.heap.size (by simp; omega) (by simp [Value.ownBlock])).trans (blk_drewN HPB.out nq)
            have y0' : w1.cell? ⟨wo.heap.size, 0, none⟩ = some (i64 q.1) := cell_of_blk hp1 0
            have y1' : w1.cell? ⟨wo.heap.size, 1, none⟩ = some (i64 q.2) := cell_of_blk hp1 1
            have HGW1 := hid ((hg1.block g (by simp; omega) (by simp [Value.ownBlock])).trans (blk_drewN HGW.out nq))
            have hwz : wo.heap.size < w1.heap.size := by omega
            clear ho1 hg1 hp1
            go_wp2_with (at_builtin; refine wpList_append_pts _ (by rfl) (.tmp 53) (.tmp 55) (by rfl) wr.heap.size v1 (.slice (some ⟨w1.heap.size, 0, none⟩) 1 1) A [q] (by rfl) (by rfl) B HB' (owns_below HO1.out ((Below.refl _ w1).alloc (Nat.le_refl _) _)) ?_ ?_ ?_ ?_)
            · exact src_one (blk_new w1 _)
            · simp; omega
            · simp; omega
            intro v2 w2 ho2 hg2
            have HO2 := hid ho2
            have HG2 := hid hg2
            have HGW2 := hid ((hg2.block g (by simp; omega) (owns_not HO1.out (by omega))).trans (blk_alloc HGW1.out))
            have z2 : wr.heap.size < w2.heap.size := by have := hg2.size; simp at this; omega
            clear ho2 hg2
            go_wp2_with (at_builtin; refine wpList_append_pts _ (by rfl) (.tmp 57) (.tmp 60) (by rfl) wr.heap.size v2 _ B D (by rfl) (by rfl) C HC' HO2.out ?_ ?_ ?_ ?_)
            · exact .inr ⟨⟨g, 0, none⟩, _, by rw [HD.out, List.length_drop]; congr 1, fun j u hj => by rw [HD.out, List.drop_eq_nil_of_le (by omega)] at hj; simp [ptCells] at hj⟩
            · omega
            · omega
            intro v3 w3 ho3 hg3
            have HE := hid (sort_end (l := l) (k := k + 1) HB.out hzr HBW.out nq HG1.out HO1.out HG2.out HO2.out hg3 ho3 (by rw [HSS.out]; exact HC.out))
            clear ho3 hg3
            go_wp2
            go_roundw
            case rel => exact ⟨k + 1, by omega, by go_num, HE.out⟩
            case measure => simp [intOf]; omega
end Go.Proofs.YthbbfjfekchdiaaGreat
