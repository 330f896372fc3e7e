import Derived.Test.YthbbfjfekchdiaaGreatXRWrites
import Derived.Test.YthbbfjfekchdiaaGreatXRHas
import Derived.Test.YthbbfjfekchdiaaGreatXLeafWalks
import Derived.Deep.AppendSrc
import Derived.Deep.QuietTactic
import Derived.BigQuiet
namespace Go.Proofs.YthbbfjfekchdiaaGreat
def ptErr (c : Cfg) (now : Int) (q : Pt) : Int := if ¬ PtIn q then 1 else if now < q.1 then 3 else if firstI c now q.1 < 0 then 4 else 0
def errFrom (c : Cfg) (now : Int) : Nat → List Pt → Option (Int × Nat)
  | _, [] => none
  | k, q :: l => if ptErr c now q = 0 then errFrom c now (k + 1) l else some (ptErr c now q, k)
def updErr (c : Cfg) (now : Int) (l : List Pt) : Int × Nat :=
  if ¬ (0 ≤ now ∧ now ≤ 2147483647) ∨ 100 < l.length then (1, 0) else (errFrom c now 0 l).getD (0, 0)
def writesAll (d : RDb) (now : Int) (l : List Pt) : RDb := l.foldl (fun d q => writesR d now q) d
def updR (d : RDb) (now : Int) (l : List Pt) : RDb := if (updErr d.c now l).1 = 0 then writesAll d now l else d
theorem errFrom_none {c : Cfg} {now : Int} : ∀ (l : List Pt) (k : Nat), (∀ q ∈ l, ptErr c now q = 0) → errFrom c now k l = none
  | [], _, _ => rfl
  | q :: l, k, h => by rw [errFrom, if_pos (h q (by simp))]; exact errFrom_none l (k + 1) fun x hx => h x (by simp [hx])
theorem errFrom_at {c : Cfg} {now : Int} : ∀ (l : List Pt) (s k : Nat) (q : Pt), l[k]? = some q → (∀ (j : Nat) (x : Pt), j < k → l[j]? = some x → ptErr c now x = 0) → ptErr c now q ≠ 0 → errFrom c now s l = some (ptErr c now q, s + k)
  | [], _, _, _, h, _, _ => by simp at h
  | x :: l, s, 0, q, h, _, hq => by
    simp at h; subst h
    rw [errFrom, if_neg hq]; rfl
  | x :: l, s, k + 1, q, h, hz, hq => by
    rw [errFrom, if_pos (hz 0 x (by omega) rfl), errFrom_at l (s + 1) k q (by simpa using h) (fun j y hj hy => hz (j + 1) y (by omega) (by simpa using hy)) hq]
    congr 2; omega
theorem writesAll_ok {d : RDb} {now : Int} {l : List Pt} {k : Nat} {q : Pt} (h : l[k]? = some q) : writesAll d now (l.take (k + 1)) = writesR (writesAll d now (l.take k)) now q := by
  unfold writesAll
  rw [List.take_add_one, h, List.foldl_append]
  rfl
end Go.Proofs.YthbbfjfekchdiaaGreat
namespace Go.Proofs.YthbbfjfekchdiaaGreat
open Go.RowKit
def lessN (x : Int) (out : List Pt) : Nat := (out.takeWhile fun q => decide (q.1 < x)).length
def insPt (out : List Pt) (x : Pt) : List Pt := (out.take (lessN x.1 out) ++ [x]) ++ out.drop (lessN x.1 out)
def sortedTo (l : List Pt) (k : Nat) : List Pt := (l.take k).foldl insPt []
theorem lessN_at {x : Int} : ∀ {out : List Pt} {k : Nat}, k ≤ out.length → (∀ (j : Nat) (q : Pt), j < k → out[j]? = some q → q.1 < x) → (∀ q, out[k]? = some q → ¬ q.1 < x) → lessN x out = k
  | [], k, h, _, _ => by simp at h; subst h; rfl
  | q :: out, 0, _, _, h2 => by
    unfold lessN
    rw [List.takeWhile_cons_of_neg (by simpa using h2 q rfl)]; rfl
  | q :: out, k + 1, h, h1, h2 => by
    have r := lessN_at (x := x) (out := out) (k := k) (by simpa using h) (fun j q' hj hq => h1 (j + 1) q' (by omega) (by simpa using hq)) (fun q' hq => h2 q' (by simpa using hq))
    unfold lessN at r ⊢
    rw [List.takeWhile_cons_of_pos (by simpa using h1 0 q (by omega) rfl), List.length_cons, r]
theorem insPt_length (out : List Pt) (x : Pt) : (insPt out x).length = out.length + 1 := by
  unfold insPt
  rw [List.length_append, List.length_append, List.length_take, List.length_drop]
  have : lessN x.1 out ≤ out.length := by
    unfold lessN
    have h := List.takeWhile_append_dropWhile (p := fun q : Pt => decide (q.1 < x.1)) (l := out)
    have h2 := congrArg List.length h
    rw [List.length_append] at h2
    omega
  simp; omega
theorem sortedTo_succ {l : List Pt} {k : Nat} {q : Pt} (h : l[k]? = some q) : sortedTo l (k + 1) = insPt (sortedTo l k) q := by
  unfold sortedTo
  rw [List.take_add_one, h, List.foldl_append]; rfl
theorem sortedTo_length (l : List Pt) : ∀ k, k ≤ l.length → (sortedTo l k).length = k := by
  intro k
  induction k with
  | zero => intro _; simp [sortedTo]
  | succ k ih =>
    intro hk
    obtain ⟨q, hq⟩ : ∃ q, l[k]? = some q := ⟨_, List.getElem?_eq_getElem (by omega)⟩
    rw [sortedTo_succ hq, insPt_length, ih (by omega)]
theorem ptCells_append (a b : List Pt) : ptCells (a ++ b) = ptCells a ++ ptCells b := by unfold ptCells; rw [List.flatMap_append]
theorem ptCells_take (l : List Pt) (k : Nat) : ptCells (l.take k) = (ptCells l).take (k * 2) := by
  induction l generalizing k with
  | nil => simp [ptCells]
  | cons q l ih =>
    cases k with
    | zero => simp [ptCells]
    | succ k =>
      rw [List.take_succ_cons, show ptCells (q :: List.take k l) = i64 q.1 :: i64 q.2 :: ptCells (List.take k l) from rfl, ih, show ptCells (q :: l) = i64 q.1 :: i64 q.2 :: ptCells l from rfl, show (k + 1) * 2 = k * 2 + 1 + 1 by omega]
      rfl
theorem ptCells_drop (l : List Pt) (k : Nat) : ptCells (l.drop k) = (ptCells l).drop (k * 2) := by
  induction l generalizing k with
  | nil => simp [ptCells]
  | cons q l ih =>
    cases k with
    | zero => simp
    | succ k =>
      rw [List.drop_succ_cons, ih, show ptCells (q :: l) = i64 q.1 :: i64 q.2 :: ptCells l from rfl, show (k + 1) * 2 = k * 2 + 1 + 1 by omega]
      rfl
theorem ptCells_one (l : List Pt) : ∀ u ∈ ptCells l, u.oneCell' = true := by
  intro u hu
  unfold ptCells at hu
  obtain ⟨q, _, hq⟩ := List.mem_flatMap.1 hu
  simp at hq
  rcases hq with rfl | rfl <;> rfl
end Go.Proofs.YthbbfjfekchdiaaGreat
namespace Go.Proofs.YthbbfjfekchdiaaGreat
open Go.RowKit
abbrev StampIn (n : Int) : Prop := 0 ≤ n ∧ n ≤ 2147483647
def fetchErr (c : Cfg) (now fr un : Int) : Int := if ¬ (StampIn now ∧ StampIn fr ∧ StampIn un ∧ fr ≤ un) then 1 else if now < fr then 3 else if firstI c now (min un now) < 0 then 4 else 0
def fetchI (c : Cfg) (now fr : Int) : Nat := match firstO c now fr with | some i => i | none => c.many - 1
def fetchB (c : Cfg) (i : Nat) (now fr un : Int) (q : Pt) : Bool := covB c i now q.1 && (decide (fr ≤ q.1) && decide (q.1 ≤ un))
def sortedL (l : List Pt) : List Pt := sortedTo l l.length
def fetchL (d : RDb) (now fr un : Int) : List Pt := (sortedL (d.L.getD (fetchI d.c now fr) [])).filter (fetchB d.c (fetchI d.c now fr) now fr un)
def serA (d : RDb) (now fr un : Int) : Int := if fetchErr d.c now fr un = 0 then (fetchI d.c now fr : Int) else 0
def serS (d : RDb) (now fr un : Int) : Int := if fetchErr d.c now fr un = 0 then d.c.s (fetchI d.c now fr) else 0
def serP (d : RDb) (now fr un : Int) : List Pt := if fetchErr d.c now fr un = 0 then fetchL d now fr un else []
theorem firstFrom_lt {c : Cfg} {now t : Int} : ∀ (n i j : Nat), firstFrom c now t i n = some j → i ≤ j ∧ j < i + n ∧ covB c j now t = true
  | 0, _, _, h => by simp [firstFrom] at h
  | n + 1, i, j, h => by
    rw [firstFrom] at h
    split at h
    · rename_i hc
      simp at h; subst h; exact ⟨by omega, by omega, hc⟩
    · have := firstFrom_lt n (i + 1) j h
      exact ⟨by omega, by omega, this.2.2⟩
theorem firstO_in {c : Cfg} {now t : Int} {j : Nat} (h : firstO c now t = some j) : j < c.many ∧ covB c j now t = true := by
  have := firstFrom_lt c.many 0 j h
  exact ⟨by omega, this.2.2⟩
theorem firstI_some {c : Cfg} {now t : Int} (h : ¬ firstI c now t < 0) : ∃ j, firstO c now t = some j ∧ firstI c now t = (j : Int) ∧ j < c.many := by
  unfold firstI at h ⊢
  cases e : firstO c now t with
  | none => rw [e] at h; simp at h
  | some j => exact ⟨j, rfl, rfl, (firstO_in e).1⟩
theorem firstI_no {c : Cfg} {now t : Int} (h : firstI c now t < 0) : firstO c now t = none ∧ firstI c now t = -1 := by
  unfold firstI at h ⊢
  cases e : firstO c now t with
  | none => exact ⟨rfl, rfl⟩
  | some j => rw [e] at h; simp at h; omega
theorem fetchI_lt {c : Cfg} {now fr : Int} (h : 1 ≤ c.many) : fetchI c now fr < c.many := by
  unfold fetchI
  cases e : firstO c now fr with
  | none => simp; omega
  | some j => exact (firstO_in e).1
theorem filter_take_succ {α : Type} (f : α → Bool) {l : List α} {k : Nat} {q : α} (h : l[k]? = some q) : (l.take (k + 1)).filter f = (l.take k).filter f ++ (if f q then [q] else []) := by
  rw [List.take_add_one, h, List.filter_append]
  congr 1
  simp only [Option.toList]
  cases hq : f q <;> simp [hq]
theorem insPt_mem {out : List Pt} {x y : Pt} : y ∈ insPt out x ↔ y = x ∨ y ∈ out := by
  unfold insPt
  rw [List.mem_append, List.mem_append]
  constructor
  · rintro ((h | h) | h)
    · exact .inr (List.mem_of_mem_take h)
    · exact .inl (by simpa using h)
    · exact .inr (List.mem_of_mem_drop h)
  · rintro (h | h)
    · exact .inl (.inr (by simpa using h))
    · rw [← List.take_append_drop (lessN x.1 out) out, List.mem_append] at h
      rcases h with h | h
      · exact .inl (.inl h)
      · exact .inr h
theorem sortedTo_mem {l : List Pt} {y : Pt} : ∀ k, k ≤ l.length → (y ∈ sortedTo l k ↔ y ∈ l.take k) := by
  intro k
  induction k with
  | zero => intro _; simp [sortedTo]
  | succ k ih =>
    intro hk
    obtain ⟨q, hq⟩ : ∃ q, l[k]? = some q := ⟨_, List.getElem?_eq_getElem (by omega)⟩
    rw [sortedTo_succ hq, insPt_mem, ih (by omega), List.take_add_one, hq, List.mem_append]
    simp only [Option.toList, List.mem_singleton]
    constructor
    · rintro (h | h)
      · exact .inr h
      · exact .inl h
    · rintro (h | h)
      · exact .inr h
      · exact .inl h
theorem sortedL_mem {l : List Pt} {y : Pt} : y ∈ sortedL l ↔ y ∈ l := by
  unfold sortedL
  rw [sortedTo_mem _ (Nat.le_refl _), List.take_of_length_le (Nat.le_refl _)]
theorem sortedL_length (l : List Pt) : (sortedL l).length = l.length := sortedTo_length l _ (Nat.le_refl _)
end Go.Proofs.YthbbfjfekchdiaaGreat
namespace Go.Proofs.YthbbfjfekchdiaaGreat
open Go.RowKit
def SrcAt (w : World) (x : Value) (l : List Pt) : Prop :=
  (x = .slice none 0 0 ∧ l = []) ∨ ∃ ad c, x = .slice (some ad) l.length c ∧ ∀ j u, (ptCells l)[j]? = some u → w.cell? (ad.add j) = some u
theorem run_append_nilnil {P : Program} (w : World) (t ty e : TypeId) (i : TypeInfo) (ht : P.underlying t = some (.slice e)) (hi : P.info? e = some i) :
    (Builtin.append_ #[t, t] ty #[.slice none 0 0, .slice none 0 0]).run P w = .ok (.slice none 0 0) w := by
  simp [Builtin.append_, run_underlying ht, sizeOf, typeInfo, hi, Builtin.lenOf, run_firstCells_none w i.size 0 0 0]
theorem wpList_append_pts (w : World) {ops : Array Oper} {rest : List Oper} {o : Oper} {a : Act} {Q : Exit → Act → World → Prop} (hgd : o.guard = none) (s x : Operand)
    (ho : o.op = .call { callee := .builtin .append, args := #[s, x], argTypes := #[41, 41] }) (base : Nat) (v xv : Value) (os news : List Pt) (hs : a.eval s = v) (hx : a.eval x = xv) (tgt : List Pt) (htgt : Hid (tgt = os ++ news))
    (hown : w.ownsRow base 48 2 v os.length (ptCells os)) (hsrc : SrcAt w xv news) (hlen : os.length + news.length ≤ 1000) (hbase : base ≤ w.heap.size)
    (h : ∀ v' w', w'.ownsRow base 48 2 v' tgt.length (ptCells tgt) → w.grownBy w' v.ownBlock → wpList Tryz.prog ops Q rest (a.put o.dst v') w') : wpList Tryz.prog ops Q (o :: rest) a w := by
  have htgt := htgt.out
  subst htgt
  obtain ⟨q0, hi0, hz0, hz1, hz2⟩ := info_parts Tryz.infoPoint
  rcases hsrc with ⟨rfl, rfl⟩ | ⟨ad, c, rfl, hn⟩
  · have hr : ∃ w', (Builtin.append_ #[41, 41] o.type #[v, .slice none 0 0]).run Tryz.prog w = .ok v w' ∧ w' = w := by
      obtain ⟨_, ⟨hv, _⟩ | ⟨g, cap, cur, hv, _, _, hc, _⟩⟩ := hown
      · rw [hv]; exact ⟨w, run_append_nilnil w _ _ _ q0 Tryz.underlying41 hi0, rfl⟩
      · rw [hv]; exact ⟨_, run_append_room_src (P := Tryz.prog) w _ _ o.type _ q0 Tryz.underlying41 hi0 g 0 os.length cap (.slice none 0 0) 0 [] (Src.ofNil w Tryz.underlying41 0) (by omega) (fun j hj => absurd hj (by simp)) (fun j hj => absurd hj (by simp)), rfl⟩
    obtain ⟨w', hr, rfl⟩ := hr
    refine wpList_plain hgd fun _ hK => ?_
    unfold Oper.wp execOp
    simp only [ho, resolve, invoke, builtin, Sem.run_bind, Sem.run_pure, Result.andThen_ok, List.map_toArray, List.map_cons, List.map_nil, hs, hx, hr]
    exact hK _ _ (h v w' (by rw [List.append_nil]; exact hown) ⟨rfl, rfl, rfl, Nat.le_refl _, fun _ _ _ => rfl⟩)
  · refine wpList_append_own w hgd s x _ ho base 48 q0 _ 2 16 Tryz.underlying41 hi0 hz0 hz1 hz2 rfl (by decide) v os.length (ptCells os) hs hown ad news.length c (ptCells news) hx (ptCells_length news) hn (ptCells_one news) (by unfold maxLen; omega) (by omega) hbase ?_
    intro v' w' ho' hg' _
    refine h v' w' ?_ hg'
    rw [ptCells_append, List.length_append]
    exact ho'
end Go.Proofs.YthbbfjfekchdiaaGreat
namespace Go.Proofs.YthbbfjfekchdiaaGreat
open Go.RowKit
set_option linter.unusedSimpArgs false
theorem blk_drewN {w : World} {B : Nat} {o : Obj} (h : w.heap[B]? = some o) (n : Nat) : (w.drewN n).heap[B]? = some o := by simpa using h
theorem addr_addN (g t j : Nat) : (Addr.mk g t none).add j = ⟨g, t + j, none⟩ := by
  unfold Addr.add
  by_cases h : j = 0
  · subst h; simp
  · simp [h]
theorem addr_add0 (g j : Nat) : (Addr.mk g 0 none).add j = ⟨g, j, none⟩ := by rw [addr_addN]; simp
theorem src_cells {w : World} {g : Nat} {cur : Array Value} {o : List Pt} (hb : w.heap[g]? = some (.cells cur 48)) (ht : cur.toList.take (o.length * 2) = ptCells o) (j : Nat) (u : Value) (h : (ptCells o)[j]? = some u) : w.cell? ⟨g, j, none⟩ = some u := by
  rw [cell_of_blk hb, ← h, ← ht]
  have hj : j < o.length * 2 := by
    obtain ⟨x, _⟩ := List.getElem?_eq_some_iff.1 h
    rw [ptCells_length] at x; exact x
  rw [List.getElem?_take_of_lt hj]; simp
theorem src_take {w : World} {g : Nat} {cur : Array Value} {o : List Pt} {t c : Nat} (hb : w.heap[g]? = some (.cells cur 48)) (ht : cur.toList.take (o.length * 2) = ptCells o) (h : t ≤ o.length) :
    SrcAt w (.slice (some ⟨g, 0, none⟩) t c) (o.take t) := by
  refine .inr ⟨⟨g, 0, none⟩, c, by rw [List.length_take, Nat.min_eq_left h], fun j u hj => ?_⟩
  rw [ptCells_take, List.getElem?_take] at hj
  split at hj
  · have := src_cells hb ht j u hj
    rw [addr_add0]; exact this
  · cases hj
theorem src_drop {w : World} {g : Nat} {cur : Array Value} {o : List Pt} {t c : Nat} (hb : w.heap[g]? = some (.cells cur 48)) (ht : cur.toList.take (o.length * 2) = ptCells o) :
    SrcAt w (.slice (some ⟨g, t * 2, none⟩) (o.length - t) c) (o.drop t) := by
  refine .inr ⟨⟨g, t * 2, none⟩, c, by rw [List.length_drop], fun j u hj => ?_⟩
  rw [ptCells_drop, List.getElem?_drop] at hj
  have := src_cells hb ht _ u hj
  rw [addr_addN]; exact this
theorem src_one {w : World} {g : Nat} {q : Pt} {c : Nat} (hb : w.heap[g]? = some (.cells #[i64 q.1, i64 q.2] 48)) : SrcAt w (.slice (some ⟨g, 0, none⟩) 1 c) [q] := by
  refine .inr ⟨⟨g, 0, none⟩, c, rfl, fun j u hj => ?_⟩
  have : w.cell? ⟨g, j, none⟩ = some u := by
    rw [cell_of_blk hb]
    simpa [ptCells] using hj
  rw [addr_add0]; exact this
theorem sort_end {w wo wr w1 w2 w3 : World} {O : Obj} {v1 v2 v3 : Value} {a b c : List Pt} {l : List Pt} {k : Nat} (HB : Below w.heap.size w wo) (hz : w.heap.size ≤ wo.heap.size) (hbw : Below wo.heap.size wo wr) (nq : Nat)
    (hg1 : (wr.drewN nq).grownBy w1 none) (ho1 : w1.ownsRow wr.heap.size 48 2 v1 a.length (ptCells a)) (hg2 : (w1.alloc O).grownBy w2 v1.ownBlock) (ho2 : w2.ownsRow wr.heap.size 48 2 v2 b.length (ptCells b))
    (hg3 : w2.grownBy w3 v2.ownBlock) (ho3 : w3.ownsRow wr.heap.size 48 2 v3 c.length (ptCells c)) (hc : sortedTo l k = c) :
    Below w.heap.size w w3 ∧ w3.ownsRow w.heap.size 48 2 v3 (sortedTo l k).length (ptCells (sortedTo l k)) := by
  have z1 := hbw.size
  have z2 : wr.heap.size ≤ w1.heap.size := by have := hg1.size; simpa using this
  have z3 : w1.heap.size + 1 ≤ w2.heap.size := by have := hg2.size; simpa using this
  refine ⟨?_, by rw [hc]; exact owns_base ho3 (by omega)⟩
  have h0 : Below w.heap.size w wr := HB.trans (hbw.mono (by omega))
  have h1 : Below w.heap.size w w1 := Below.grown (below_drewN h0 nq) hg1 (by simp; omega) (fun k hk => by cases hk)
  have h2 : Below w.heap.size w w2 := Below.grown (h1.alloc (by omega) O) hg2 (by simp; omega) (fun k hk => by have := (ho1.lt k hk).1; omega)
  exact Below.grown h2 hg3 (by omega) (fun k hk => by have := (ho2.lt k hk).1; omega)
set_option maxHeartbeats 4000000 in
theorem sorted_ref (p gl i n : Nat) (l : List Pt) (v : Value) (w : World) (x10 : w.cell? ⟨p, 10, none⟩ = some (.slice (some ⟨gl, 0, none⟩) n n)) (hi : i < n) (xi : w.cell? ⟨gl, i, none⟩ = some v) (hr : RowAt w v l) (hl : l.length ≤ 60) :
    Calls Tryz.prog 67 #[.pointer (some ⟨p, 0, none⟩), i64 i] w fun e w' => ∃ vo, e = .returned vo ∧ Below w.heap.size w w' ∧ w'.ownsRow w.heap.size 48 2 vo (sortedTo l l.length).length (ptCells (sortedTo l l.length)) := by
  obtain ⟨a, cap, rfl, hrow⟩ := hr
  have HR := hid hrow
  have hpz : p < w.heap.size := World.block_lt_of_cell? _ _ x10
  have hgz : gl < w.heap.size := World.block_lt_of_cell? _ _ xi
  have i0 : (0 : Int) ≤ (i : Int) := by omega
  have i1 : (i : Int) < (n : Int) := by omega
  clear hrow
  go_enter Tryz.func67, Tryz.ntmps67
  go_wp2
  go_loopw [5, 6] (fun vo k' wr => ∃ k : Nat, k ≤ l.length ∧ k' = i64 k ∧ Below w.heap.size w wr ∧ wr.ownsRow w.heap.size 48 2 vo (sortedTo l k).length (ptCells (sortedTo l k))) (fun _ k' _ => l.length - (intOf k').toNat)
  case atStart => exact ⟨0, by omega, rfl, Below.refl _ _, World.ownsRow_nil _ _ _ _⟩
  case round =>
    obtain ⟨k, hk, rfl, hb, hown⟩ := hrel
    obtain ⟨wo, hwo⟩ : ∃ wo, wo = wr := ⟨_, rfl⟩
    subst hwo
    have HB := hid hb
    have HO := hid hown
    have z10 : wo.cell? ⟨p, 10, none⟩ = some (.slice (some ⟨gl, 0, none⟩) n n) := cell_later hb x10
    have zi : wo.cell? ⟨gl, i, none⟩ = some (.slice a l.length cap) := cell_later hb xi
    have hzr := hb.size
    clear hb hown
    by_cases hlt : k < l.length
    case neg =>
      have ek : k = l.length := by omega
      subst ek
      go_wp2
      go_ret
      exact ⟨_, rfl, HB.out, HO.out⟩
    obtain ⟨q, hq⟩ : ∃ q, l[k]? = some q := ⟨_, List.getElem?_eq_getElem hlt⟩
    obtain ⟨b, rfl, hbz, c0, c1⟩ := HR.out k q hq
    have z0 : wo.cell? ⟨b, k * 2, none⟩ = some (i64 q.1) := cell_later HB.out c0
    have z1 : wo.cell? ⟨b, k * 2 + 1, none⟩ = some (i64 q.2) := cell_later HB.out c1
    have hbr : b < wo.heap.size := by omega
    have k0 : (0 : Int) ≤ (k : Int) := by omega
    have k1 : (k : Int) < (l.length : Int) := by omega
    have HSS := hid (sortedTo_succ hq)
    have hsl := sortedTo_length l k hk
    obtain ⟨o, hod⟩ : ∃ o, o = sortedTo l k := ⟨_, rfl⟩
    rw [← hod] at HO HSS hsl
    have HSL := hid hsl
    have hol : o.length ≤ 60 := by omega
    clear hq c0 c1 hod hsl
    obtain ⟨_, ⟨hv, hn⟩ | ⟨g, co, cur, hv, hg, hgb, hco, _, _, htk⟩⟩ := HO.out
    · subst hv
      have eo : o = [] := List.length_eq_zero_iff.1 hn
      subst eo
      go_wp2
      go_loopw [8] (fun t' wx => t' = i64 0 ∧ Below (wo.heap.size + 1) (wo.alloc (.cells #[i64 q.1, i64 q.2] 48)) wx) (fun _ _ => 0)
      case atStart => exact ⟨rfl, Below.refl _ _⟩
      case round =>
        obtain ⟨rfl, hbx⟩ := hrel
        have HBX := hid hbx
        have hzx : wo.heap.size < wr.heap.size := by have := hbx.size; simp at this; omega
        have hpb := blk_later hbx (by omega) (blk_new wo (.cells #[i64 q.1, i64 q.2] 48))
        have y0 : wr.cell? ⟨wo.heap.size, 0, none⟩ = some (i64 q.1) := cell_of_blk hpb 0
        have y1 : wr.cell? ⟨wo.heap.size, 1, none⟩ = some (i64 q.2) := cell_of_blk hpb 1
        have HPB := hid hpb
        have hbw : Below wo.heap.size wo wr := ((Below.refl _ wo).alloc (Nat.le_refl _) _).trans (HBX.out.mono (by omega))
        have HBW := hid hbw
        clear hbx hpb hbw
        obtain ⟨A, hA⟩ : ∃ A : List Pt, A = [] ++ [] := ⟨_, rfl⟩
        obtain ⟨B, hB⟩ : ∃ B : List Pt, B = A ++ [q] := ⟨_, rfl⟩
        obtain ⟨C, hC⟩ : ∃ C : List Pt, C = B ++ [] := ⟨_, rfl⟩
        have HC := hid (show insPt [] q = C by rw [hC, hB, hA]; rfl)
        have hAl : A.length ≤ 60 := by rw [hA]; simp
        have hBl : B.length ≤ 61 := by rw [hB, hA]; simp
        have HA := hid hA
        have HB' := hid hB
        have HC' := hid hC
        clear hA hB hC
        go_wp2_with fail
        go_quiet (fail)
        go_wp2_with (at_builtin; refine wpList_append_pts _ (by rfl) (.tmp 48) (.tmp 51) (by rfl) wr.heap.size (.slice none 0 0) (.slice none 0 0) [] [] (by rfl) (by rfl) A HA (World.ownsRow_nil _ _ _ _) (.inl ⟨rfl, rfl⟩) (by simp) (by simp) ?_)
        intro v1 w1 ho1 hg1
        have HO1 := hid ho1
        have HG1 := hid hg1
        have z1 : wr.heap.size ≤ w1.heap.size := by have := hg1.size; simpa using this
        have hp1 := (hg1.block wo.heap.size (by simp; omega) (by simp [Value.ownBlock])).trans (blk_drewN HPB.out nq)
        have y0' : w1.cell? ⟨wo.heap.size, 0, none⟩ = some (i64 q.1) := cell_of_blk hp1 0
        have y1' : w1.cell? ⟨wo.heap.size, 1, none⟩ = some (i64 q.2) := cell_of_blk hp1 1
        have hwz : wo.heap.size < w1.heap.size := by omega
        clear ho1 hg1 hp1
        go_wp2_with (at_builtin; refine wpList_append_pts _ (by rfl) (.tmp 53) (.tmp 55) (by rfl) wr.heap.size v1 (.slice (some ⟨w1.heap.size, 0, none⟩) 1 1) A [q] (by rfl) (by rfl) B HB' (owns_below HO1.out ((Below.refl _ w1).alloc (Nat.le_refl _) _)) ?_ ?_ ?_ ?_)
        · exact src_one (blk_new w1 _)
        · simp; omega
        · simp; omega
        intro v2 w2 ho2 hg2
        have HO2 := hid ho2
        have HG2 := hid hg2
        have z2 : wr.heap.size < w2.heap.size := by have := hg2.size; simp at this; omega
        clear ho2 hg2
        go_wp2_with (at_builtin; refine wpList_append_pts _ (by rfl) (.tmp 57) (.tmp 60) (by rfl) wr.heap.size v2 (.slice none 0 0) B [] (by rfl) (by rfl) C HC' HO2.out (.inl ⟨rfl, rfl⟩) (by simp; omega) (by omega) ?_)
        intro v3 w3 ho3 hg3
        have HE := hid (sort_end (l := l) (k := k + 1) HB.out hzr HBW.out nq HG1.out HO1.out HG2.out HO2.out hg3 ho3 (by rw [HSS.out]; exact HC.out))
        clear ho3 hg3
        go_wp2
        go_roundw
        case rel => exact ⟨k + 1, by omega, by go_num, HE.out⟩
        case measure => simp [intOf]; omega
    · subst hv
      have HGB := hid hgb
      have HTK := hid htk
      clear hgb htk
      go_wp2
      go_loopw [8] (fun t' wx => ∃ (t : Nat), t ≤ o.length ∧ t' = i64 t ∧ (∀ (j : Nat) (x : Pt), j < t → o[j]? = some x → x.1 < q.1) ∧ Below (wo.heap.size + 1) (wo.alloc (.cells #[i64 q.1, i64 q.2] 48)) wx) (fun t' _ => o.length - (intOf t').toNat)
      case atStart => exact ⟨0, by omega, rfl, fun j x hj => absurd hj (by omega), Below.refl _ _⟩
      case round =>
        obtain ⟨t, ht, rfl, hz, hbx⟩ := hrel
        have HZ := hid hz
        have HBX := hid hbx
        have hzx : wo.heap.size < wr.heap.size := by have := hbx.size; simp at this; omega
        have hpb := blk_later hbx (by omega) (blk_new wo (.cells #[i64 q.1, i64 q.2] 48))
        have y0 : wr.cell? ⟨wo.heap.size, 0, none⟩ = some (i64 q.1) := cell_of_blk hpb 0
        have y1 : wr.cell? ⟨wo.heap.size, 1, none⟩ = some (i64 q.2) := cell_of_blk hpb 1
        have hbw : Below wo.heap.size wo wr := ((Below.refl _ wo).alloc (Nat.le_refl _) _).trans (hbx.mono (by omega))
        have HBW := hid hbw
        have HPB := hid hpb
        have HGW := hid (blk_later hbw (blk_lt HGB.out) HGB.out)
        have hgx : g < wr.heap.size := blk_lt HGW.out
        clear hz hbx hpb hbw
        by_cases hto : t < o.length
        · obtain ⟨x, hx⟩ : ∃ x, o[t]? = some x := ⟨_, List.getElem?_eq_getElem hto⟩
          have d0 : wr.cell? ⟨g, t * 2, none⟩ = some (i64 x.1) := src_cells HGW.out HTK.out _ _ (ptCells_at o t x hx).1
          have HX := hid hx
          have t0 : (0 : Int) ≤ (t : Int) := by omega
          have t1 : (t : Int) < (o.length : Int) := by omega
          clear hx
          by_cases hxq : x.1 < q.1
          · have HZ1 := hid (show ∀ (j : Nat) (y : Pt), j < t + 1 → o[j]? = some y → y.1 < q.1 from fun j y hj hy => by
              by_cases e : j = t
              · subst e
                have : y = x := by rw [HX.out] at hy; simpa using hy.symm
                rw [this]; exact hxq
              · exact HZ.out j y (by omega) hy)
            go_wp2_with fail
            go_quiet (fail)
            go_wp2
            go_roundw
            case rel => exact ⟨t + 1, by omega, by go_num, HZ1.out, below_drewN HBX.out _⟩
            case measure => simp [intOf]; omega
          · have HL := hid (lessN_at (x := q.1) (out := o) (k := t) (by omega) HZ.out (fun y hy => by rw [HX.out] at hy; simp at hy; subst hy; exact hxq))
            have hxd : decide (x.1 < q.1) = false := decide_eq_false hxq
            obtain ⟨A, hA⟩ : ∃ A : List Pt, A = o.take t := ⟨_, rfl⟩
            obtain ⟨B, hB⟩ : ∃ B : List Pt, B = A ++ [q] := ⟨_, rfl⟩
            obtain ⟨D, hD⟩ : ∃ D : List Pt, D = o.drop t := ⟨_, rfl⟩
            obtain ⟨C, hC⟩ : ∃ C : List Pt, C = B ++ D := ⟨_, rfl⟩
            have HC := hid (show insPt o q = C by unfold insPt; rw [HL.out, hC, hB, hA, hD])
            have hAl : A.length ≤ 60 := by rw [hA, List.length_take]; omega
            have hBl : B.length ≤ 61 := by rw [hB, List.length_append]; simp; omega
            have hDl : D.length ≤ 60 := by rw [hD, List.length_drop]; omega
            have HA0 := hid hA
            have HA := hid (show A = [] ++ A from rfl)
            have HB' := hid hB
            have HC' := hid hC
            have HD := hid hD
            clear hA hB hC hD
            go_wp2_with fail
            go_quiet (fail)
            go_wp2_with (at_builtin; refine wpList_append_pts _ (by rfl) (.tmp 48) (.tmp 51) (by rfl) wr.heap.size (.slice none 0 0) (.slice (some ⟨g, 0, none⟩) t co) [] A (by rfl) (by rfl) A HA (World.ownsRow_nil _ _ _ _) ?_ ?_ ?_ ?_)
            · rw [HA0.out]; exact src_take (blk_drewN HGW.out nq) HTK.out (by omega)
            · simp; omega
            · simp
            intro v1 w1 ho1 hg1
            have HO1 := hid ho1
            have HG1 := hid hg1
            have z1 : wr.heap.size ≤ w1.heap.size := by have := hg1.size; simpa using this
            have hp1 := (hg1.block wo.heap.size (by simp; omega) (by simp [Value.ownBlock])).trans (blk_drewN HPB.out nq)
            have y0' : w1.cell? ⟨wo.heap.size, 0, none⟩ = some (i64 q.1) := cell_of_blk hp1 0
            have y1' : w1.cell? ⟨wo.heap.size, 1, none⟩ = some (i64 q.2) := cell_of_blk hp1 1
            have HGW1 := hid ((hg1.block g (by simp; omega) (by simp [Value.ownBlock])).trans (blk_drewN HGW.out nq))
            have hwz : wo.heap.size < w1.heap.size := by omega
            clear ho1 hg1 hp1
            go_wp2_with (at_builtin; refine wpList_append_pts _ (by rfl) (.tmp 53) (.tmp 55) (by rfl) wr.heap.size v1 (.slice (some ⟨w1.heap.size, 0, none⟩) 1 1) A [q] (by rfl) (by rfl) B HB' (owns_below HO1.out ((Below.refl _ w1).alloc (Nat.le_refl _) _)) ?_ ?_ ?_ ?_)
            · exact src_one (blk_new w1 _)
            · simp; omega
            · simp; omega
            intro v2 w2 ho2 hg2
            have HO2 := hid ho2
            have HG2 := hid hg2
            have HGW2 := hid ((hg2.block g (by simp; omega) (owns_not HO1.out (by omega))).trans (blk_alloc HGW1.out))
            have z2 : wr.heap.size < w2.heap.size := by have := hg2.size; simp at this; omega
            clear ho2 hg2
            go_wp2_with (at_builtin; refine wpList_append_pts _ (by rfl) (.tmp 57) (.tmp 60) (by rfl) wr.heap.size v2 (.slice (some ⟨g, t * 2, none⟩) (o.length - t) (co - t)) B D (by rfl) (by rfl) C HC' HO2.out ?_ ?_ ?_ ?_)
            · rw [HD.out]; exact src_drop HGW2.out HTK.out
            · omega
            · omega
            intro v3 w3 ho3 hg3
            have HE := hid (sort_end (l := l) (k := k + 1) HB.out hzr HBW.out nq HG1.out HO1.out HG2.out HO2.out hg3 ho3 (by rw [HSS.out]; exact HC.out))
            clear ho3 hg3
            go_wp2
            go_roundw
            case rel => exact ⟨k + 1, by omega, by go_num, HE.out⟩
            case measure => simp [intOf]; omega
        · have HL := hid (lessN_at (x := q.1) (out := o) (k := t) (by omega) HZ.out (fun y hy => by rw [List.getElem?_eq_none (by omega)] at hy; cases hy))
          have hxd : decide ((t : Int) < ((o.length : Nat) : Int)) = false := decide_eq_false (by omega)
          by_cases hct : t < co
          · obtain ⟨A, hA⟩ : ∃ A : List Pt, A = o.take t := ⟨_, rfl⟩
            obtain ⟨B, hB⟩ : ∃ B : List Pt, B = A ++ [q] := ⟨_, rfl⟩
            obtain ⟨D, hD⟩ : ∃ D : List Pt, D = o.drop t := ⟨_, rfl⟩
            obtain ⟨C, hC⟩ : ∃ C : List Pt, C = B ++ D := ⟨_, rfl⟩
            have HC := hid (show insPt o q = C by unfold insPt; rw [HL.out, hC, hB, hA, hD])
            have hAl : A.length ≤ 60 := by rw [hA, List.length_take]; omega
            have hBl : B.length ≤ 61 := by rw [hB, List.length_append]; simp; omega
            have hDl : D.length ≤ 60 := by rw [hD, List.length_drop]; omega
            have HA0 := hid hA
            have HA := hid (show A = [] ++ A from rfl)
            have HB' := hid hB
            have HC' := hid hC
            have HD := hid hD
            clear hA hB hC hD
            go_wp2_with fail
            go_quiet (fail)
            go_wp2_with (at_builtin; refine wpList_append_pts _ (by rfl) (.tmp 48) (.tmp 51) (by rfl) wr.heap.size (.slice none 0 0) (.slice (some ⟨g, 0, none⟩) t co) [] A (by rfl) (by rfl) A HA (World.ownsRow_nil _ _ _ _) ?_ ?_ ?_ ?_)
            · rw [HA0.out]; exact src_take (blk_drewN HGW.out nq) HTK.out (by omega)
            · simp; omega
            · simp
            intro v1 w1 ho1 hg1
            have HO1 := hid ho1
            have HG1 := hid hg1
            have z1 : wr.heap.size ≤ w1.heap.size := by have := hg1.size; simpa using this
            have hp1 := (hg1.block wo.heap.size (by simp; omega) (by simp [Value.ownBlock])).trans (blk_drewN HPB.out nq)
            have y0' : w1.cell? ⟨wo.heap.size, 0, none⟩ = some (i64 q.1) := cell_of_blk hp1 0
            have y1' : w1.cell? ⟨wo.heap.size, 1, none⟩ = some (i64 q.2) := cell_of_blk hp1 1
            have HGW1 := hid ((hg1.block g (by simp; omega) (by simp [Value.ownBlock])).trans (blk_drewN HGW.out nq))
            have hwz : wo.heap.size < w1.heap.size := by omega
            clear ho1 hg1 hp1
            go_wp2_with (at_builtin; refine wpList_append_pts _ (by rfl) (.tmp 53) (.tmp 55) (by rfl) wr.heap.size v1 (.slice (some ⟨w1.heap.size, 0, none⟩) 1 1) A [q] (by rfl) (by rfl) B HB' (owns_below HO1.out ((Below.refl _ w1).alloc (Nat.le_refl _) _)) ?_ ?_ ?_ ?_)
            · exact src_one (blk_new w1 _)
            · simp; omega
            · simp; omega
            intro v2 w2 ho2 hg2
            have HO2 := hid ho2
            have HG2 := hid hg2
            have HGW2 := hid ((hg2.block g (by simp; omega) (owns_not HO1.out (by omega))).trans (blk_alloc HGW1.out))
            have z2 : wr.heap.size < w2.heap.size := by have := hg2.size; simp at this; omega
            clear ho2 hg2
            go_wp2_with (at_builtin; refine wpList_append_pts _ (by rfl) (.tmp 57) (.tmp 60) (by rfl) wr.heap.size v2 (.slice (some ⟨g, t * 2, none⟩) (o.length - t) (co - t)) B D (by rfl) (by rfl) C HC' HO2.out ?_ ?_ ?_ ?_)
            · rw [HD.out]; exact src_drop HGW2.out HTK.out
            · omega
            · omega
            intro v3 w3 ho3 hg3
            have HE := hid (sort_end (l := l) (k := k + 1) HB.out hzr HBW.out nq HG1.out HO1.out HG2.out HO2.out hg3 ho3 (by rw [HSS.out]; exact HC.out))
            clear ho3 hg3
            go_wp2
            go_roundw
            case rel => exact ⟨k + 1, by omega, by go_num, HE.out⟩
            case measure => simp [intOf]; omega
          · obtain ⟨A, hA⟩ : ∃ A : List Pt, A = o.take t := ⟨_, rfl⟩
            obtain ⟨B, hB⟩ : ∃ B : List Pt, B = A ++ [q] := ⟨_, rfl⟩
            obtain ⟨D, hD⟩ : ∃ D : List Pt, D = o.drop t := ⟨_, rfl⟩
            obtain ⟨C, hC⟩ : ∃ C : List Pt, C = B ++ D := ⟨_, rfl⟩
            have HC := hid (show insPt o q = C by unfold insPt; rw [HL.out, hC, hB, hA, hD])
            have hAl : A.length ≤ 60 := by rw [hA, List.length_take]; omega
            have hBl : B.length ≤ 61 := by rw [hB, List.length_append]; simp; omega
            have hDl : D.length ≤ 60 := by rw [hD, List.length_drop]; omega
            have HA0 := hid hA
            have HA := hid (show A = [] ++ A from rfl)
            have HB' := hid hB
            have HC' := hid hC
            have HD := hid hD
            clear hA hB hC hD
            go_wp2_with fail
            go_quiet (fail)
            go_wp2_with (at_builtin; refine wpList_append_pts _ (by rfl) (.tmp 48) (.tmp 51) (by rfl) wr.heap.size (.slice none 0 0) (.slice (some ⟨g, 0, none⟩) t co) [] A (by rfl) (by rfl) A HA (World.ownsRow_nil _ _ _ _) ?_ ?_ ?_ ?_)
            · rw [HA0.out]; exact src_take (blk_drewN HGW.out nq) HTK.out (by omega)
            · simp; omega
            · simp
            intro v1 w1 ho1 hg1
            have HO1 := hid ho1
            have HG1 := hid hg1
            have z1 : wr.heap.size ≤ w1.heap.size := by have := hg1.size; simpa using this
            have hp1 := (hg1.block wo.heap.size (by simp; omega) (by simp [Value.ownBlock])).trans (blk_drewN HPB.out nq)
            have y0' : w1.cell? ⟨wo.heap.size, 0, none⟩ = some (i64 q.1) := cell_of_blk hp1 0
            have y1' : w1.cell? ⟨wo.heap.size, 1, none⟩ = some (i64 q.2) := cell_of_blk hp1 1
            have HGW1 := hid ((hg1.block g (by simp; omega) (by simp [Value.ownBlock])).trans (blk_drewN HGW.out nq))
            have hwz : wo.heap.size < w1.heap.size := by omega
            clear ho1 hg1 hp1
            go_wp2_with (at_builtin; refine wpList_append_pts _ (by rfl) (.tmp 53) (.tmp 55) (by rfl) wr.heap.size v1 (.slice (some ⟨w1.heap.size, 0, none⟩) 1 1) A [q] (by rfl) (by rfl) B HB' (owns_below HO1.out ((Below.refl _ w1).alloc (Nat.le_refl _) _)) ?_ ?_ ?_ ?_)
            · exact src_one (blk_new w1 _)
            · simp; omega
            · simp; omega
            intro v2 w2 ho2 hg2
            have HO2 := hid ho2
            have HG2 := hid hg2
            have HGW2 := hid ((hg2.block g (by simp; omega) (owns_not HO1.out (by omega))).trans (blk_alloc HGW1.out))
            have z2 : wr.heap.size < w2.heap.size := by have := hg2.size; simp at this; omega
            clear ho2 hg2
            go_wp2_with (at_builtin; refine wpList_append_pts _ (by rfl) (.tmp 57) (.tmp 60) (by rfl) wr.heap.size v2 _ B D (by rfl) (by rfl) C HC' HO2.out ?_ ?_ ?_ ?_)
            · exact .inr ⟨⟨g, 0, none⟩, _, by rw [HD.out, List.length_drop]; congr 1, fun j u hj => by rw [HD.out, List.drop_eq_nil_of_le (by omega)] at hj; simp [ptCells] at hj⟩
            · omega
            · omega
            intro v3 w3 ho3 hg3
            have HE := hid (sort_end (l := l) (k := k + 1) HB.out hzr HBW.out nq HG1.out HO1.out HG2.out HO2.out hg3 ho3 (by rw [HSS.out]; exact HC.out))
            clear ho3 hg3
            go_wp2
            go_roundw
            case rel => exact ⟨k + 1, by omega, by go_num, HE.out⟩
            case measure => simp [intOf]; omega
end Go.Proofs.YthbbfjfekchdiaaGreat
namespace Go.Proofs.YthbbfjfekchdiaaGreat
open Go.RowKit
theorem below_one {w w' : World} {O : Obj} (h : Below (w.alloc O).heap.size (w.alloc O) w') : Below w.heap.size w w' := by
  have e : (w.alloc O).heap.size = w.heap.size + 1 := by simp
  rw [e] at h
  exact ((Below.refl _ _).alloc (Nat.le_refl _) _).trans (h.mono (by omega))
theorem and_false' {a b : Prop} [Decidable a] [Decidable b] (h : ¬ (a ∧ b)) : (decide a && decide b) = false := by
  by_cases x : a <;> by_cases y : b <;> simp_all
set_option maxHeartbeats 1000000 in
theorem rcheck_no (c : Cfg) (w : World) (hMf : ¬ c.Mf) :
    Calls Tryz.prog 19 #[.agg c.cells] w fun e w' => e = .returned (i64 c.err) ∧ Below w.heap.size w w' := by
  show Calls Tryz.prog 19 #[.agg #[i64 c.s0, i64 c.k0, i64 c.s1, i64 c.k1, i64 c.s2, i64 c.k2, i64 c.s3, i64 c.k3, i64 c.m, i64 c.f]] w _
  have HE := hid (c.not_ok_mf hMf)
  have HM := hid hMf
  clear hMf
  have h6 := c.many_le
  by_cases a : 1 ≤ c.m ∧ c.m ≤ 6
  · obtain ⟨a1, a2⟩ := a
    by_cases b : 0 ≤ c.f ∧ c.f ≤ 100
    · obtain ⟨b1, b2⟩ := b
      have h7 : ((c.many : Int) == 0) = true := by
        rw [beq_iff_eq]; have : ¬ 1 ≤ c.many := fun h => HM.out ⟨a1, a2, b1, b2, h⟩
        omega
      go_enter Tryz.func19, Tryz.ntmps19
      go_wp2_with (first | (go_at_call 38; refine (in_any _ _ _ _).mono ?_; rintro e w' ⟨rfl, rfl⟩) | (go_at_call 39; refine (many_any c _).mono ?_; rintro e w' ⟨rfl, hb'⟩; have HB := hid (below_one hb'); clear hb'))
      go_ret
      exact ⟨ret_int HE.out.symm, HB.out⟩
    · have b' := and_false' b
      clear b
      go_enter Tryz.func19, Tryz.ntmps19
      go_wp2_with (first | (go_at_call 38; refine (in_any _ _ _ _).mono ?_; rintro e w' ⟨rfl, rfl⟩) | (go_at_call 39; refine (many_any c _).mono ?_; rintro e w' ⟨rfl, hb'⟩; have HB := hid (below_one hb'); clear hb'))
      all_goals first | (go_ret; exact ⟨ret_int HE.out.symm, HB.out⟩) | (exfalso; simp_all)
  · have a' := and_false' a
    clear a
    go_enter Tryz.func19, Tryz.ntmps19
    go_wp2_with (first | (go_at_call 38; refine (in_any _ _ _ _).mono ?_; rintro e w' ⟨rfl, rfl⟩) | (go_at_call 39; refine (many_any c _).mono ?_; rintro e w' ⟨rfl, hb'⟩; have HB := hid (below_one hb'); clear hb'))
    all_goals first | (go_ret; exact ⟨ret_int HE.out.symm, HB.out⟩) | (exfalso; simp_all)
end Go.Proofs.YthbbfjfekchdiaaGreat
namespace Go.Proofs.YthbbfjfekchdiaaGreat
open Go.RowKit
set_option linter.unusedSimpArgs false
def RowG (w : World) (v : Value) (l : List Pt) : Prop :=
  ∃ a cap, v = .slice a l.length cap ∧ ∀ (j : Nat) (q : Pt), l[j]? = some q → ∃ b off, a = some ⟨b, off, none⟩ ∧ w.cell? ⟨b, off + j * 2, none⟩ = some (i64 q.1) ∧ w.cell? ⟨b, off + j * 2 + 1, none⟩ = some (i64 q.2)
def OutOf (In : Nat → Prop) (v : Value) : Prop := ∀ a n c, v = .slice (some a) n c → 0 < n → ¬ In a.block
theorem RowG.fr {w w' : World} {In : Nat → Prop} {v : Value} {l : List Pt} (h : RowG w v l) (ho : OutOf In v) (hf : Fr In w w') : RowG w' v l := by
  obtain ⟨a, cap, rfl, r⟩ := h
  refine ⟨a, cap, rfl, fun j q hj => ?_⟩
  obtain ⟨b, off, rfl, c0, c1⟩ := r j q hj
  have hb : ¬ In b := ho ⟨b, off, none⟩ l.length cap rfl (by obtain ⟨x, _⟩ := List.getElem?_eq_some_iff.1 hj; omega)
  have hz : b < w.heap.size := World.block_lt_of_cell? _ _ c0
  have e := hf.block b hz hb
  exact ⟨b, off, rfl, (World.cell?_of_block (a := ⟨b, off + j * 2, none⟩) e).trans c0, (World.cell?_of_block (a := ⟨b, off + j * 2 + 1, none⟩) e).trans c1⟩
theorem upd_no {c : Cfg} {now : Int} {l : List Pt} {k : Nat} {q : Pt} (n : 0 ≤ now ∧ now ≤ 2147483647) (h100 : l.length ≤ 100) (hq : l[k]? = some q) (hz : ∀ (j : Nat) (x : Pt), j < k → l[j]? = some x → ptErr c now x = 0) (he : ptErr c now q ≠ 0) : updErr c now l = (ptErr c now q, k) := by
  unfold updErr
  rw [if_neg (by omega), errFrom_at l 0 k q hq hz he]
  simp
theorem upd_yes {c : Cfg} {now : Int} {l : List Pt} (n : 0 ≤ now ∧ now ≤ 2147483647) (h100 : l.length ≤ 100) (hz : ∀ (j : Nat) (x : Pt), l[j]? = some x → ptErr c now x = 0) : updErr c now l = (0, 0) := by
  unfold updErr
  rw [if_neg (by omega), errFrom_none l 0 fun q hq => by obtain ⟨j, hj⟩ := List.mem_iff_getElem?.1 hq; exact hz j q hj]
  rfl
set_option maxHeartbeats 1000000 in
theorem update_arg (p : Nat) (now : Int) (v : Value) (l : List Pt) (d : RDb) (In : Nat → Prop) (w : World) (hrep : RRep w In p d) (hd : d.Ok) (hl : RowG w v l) (hlen : l.length ≤ 140737488351232) (he : ¬ (0 ≤ now ∧ now ≤ 2147483647) ∨ 100 < l.length) :
    Calls Tryz.prog 52 #[.pointer (some ⟨p, 0, none⟩), i64 now, v] w fun e w' => e = .returned (.tuple #[i64 (updErr d.c now l).1, i64 (updErr d.c now l).2]) ∧ RRep w' (Up In w.heap.size) p (updR d now l) ∧ (updR d now l).Ok ∧ (updR d now l).c = d.c ∧ Fr In w w' := by
  have e0 : updErr d.c now l = (1, 0) := by unfold updErr; rw [if_pos he]
  have HF := hid (show RRep w (Up In w.heap.size) p (updR d now l) ∧ (updR d now l).Ok ∧ (updR d now l).c = d.c ∧ Fr In w w by
    unfold updR; rw [e0]; exact ⟨hrep.weak fun k hk => .inl hk, hd, rfl, Fr.refl _ _⟩)
  have HE := hid e0
  obtain ⟨a, cap, rfl, _⟩ := hl
  clear hrep hd e0
  by_cases hn : 0 ≤ now ∧ now ≤ 2147483647
  · have h100 : 100 < l.length := he.resolve_left fun h => h hn
    obtain ⟨n0, n1⟩ := hn
    clear he
    go_enter Tryz.func52, Tryz.ntmps52
    go_wp2_with (go_at_call 38; refine (in_any _ _ _ _).mono ?_; rintro e w' ⟨rfl, rfl⟩)
    go_ret2
    exact ⟨by rw [HE.out]; rfl, HF.out⟩
  · have hb : (decide (0 ≤ now) && decide (now ≤ 2147483647)) = false := and_false' hn
    clear he hn
    go_enter Tryz.func52, Tryz.ntmps52
    go_wp2_with (go_at_call 38; refine (in_any _ _ _ _).mono ?_; rintro e w' ⟨rfl, rfl⟩)
    all_goals first | (go_ret2; exact ⟨by rw [HE.out]; rfl, HF.out⟩) | (exfalso; simp_all; done)
end Go.Proofs.YthbbfjfekchdiaaGreat
namespace Go.Proofs.YthbbfjfekchdiaaGreat
open Go.RowKit
set_option linter.unusedSimpArgs false
theorem in_keep (n lo hi : Int) (w : World) : Calls Tryz.prog 38 #[i64 n, i64 lo, i64 hi] w fun e w' => e = .returned (.bool (decide (lo ≤ n) && decide (n ≤ hi))) ∧ w = w' :=
  (in_any n lo hi w).mono fun _ _ h => ⟨h.1, h.2.symm⟩
theorem ptErr_zero {c : Cfg} {now : Int} {q : Pt} (h : ptErr c now q = 0) : PtIn q ∧ q.1 ≤ now ∧ 0 ≤ firstI c now q.1 := by
  unfold ptErr at h
  split at h
  · simp at h
  · split at h
    · simp at h
    · split at h
      · simp at h
      · rename_i h1 h2 h3; exact ⟨Classical.not_not.1 h1, by omega, by omega⟩
set_option maxHeartbeats 4000000 in
theorem update_go (p : Nat) (now : Int) (v : Value) (l : List Pt) (d : RDb) (In : Nat → Prop) (w : World) (hrep : RRep w In p d) (hd : d.Ok) (hl : RowG w v l) (ho : OutOf In v) (n0 : 0 ≤ now) (n1 : now ≤ 2147483647) (h100 : l.length ≤ 100) :
    Calls Tryz.prog 52 #[.pointer (some ⟨p, 0, none⟩), i64 now, v] w fun e w' => e = .returned (.tuple #[i64 (updErr d.c now l).1, i64 (updErr d.c now l).2]) ∧ RRep w' (Up In w.heap.size) p (updR d now l) ∧ (updR d now l).Ok ∧ (updR d now l).c = d.c ∧ Fr In w w' := by
  have HREP := hid hrep
  have HD := hid hd
  have HL := hid hl
  have HO := hid ho
  obtain ⟨a, cap, rfl, hrow⟩ := hl
  have HROW := hid hrow
  clear hrep hd ho hrow
  go_enter Tryz.func52, Tryz.ntmps52
  go_wp2_with (go_at_call 38; refine (in_keep _ _ _ _).mono ?_; rintro e w' ⟨rfl, rfl⟩)
  go_loopw [9] (fun i wr => ∃ k : Nat, k ≤ l.length ∧ i = i64 k ∧ (∀ (j : Nat) (x : Pt), j < k → l[j]? = some x → ptErr d.c now x = 0) ∧ Below w.heap.size w wr) (fun i _ => l.length - (intOf i).toNat)
  case atStart => exact ⟨0, by omega, rfl, fun j x hj => absurd hj (by omega), Below.refl _ _⟩
  case round =>
    obtain ⟨k, hk, rfl, hz, hb⟩ := hrel
    have HZ := hid hz
    have HB := hid hb
    have hzr := hb.size
    clear hz hb
    by_cases hlt : k < l.length
    case neg =>
      have hall : ∀ (j : Nat) (x : Pt), l[j]? = some x → ptErr d.c now x = 0 := fun j x hj => HZ.out j x (by obtain ⟨y, _⟩ := List.getElem?_eq_some_iff.1 hj; omega) hj
      have HALL := hid hall
      have HU := hid (upd_yes ⟨n0, n1⟩ h100 hall)
      have HUR := hid (show updR d now l = writesAll d now l by unfold updR; rw [upd_yes ⟨n0, n1⟩ h100 hall, if_pos rfl])
      clear hall
      go_wp2
      go_loopw [12] (fun i wx => ∃ k : Nat, k ≤ l.length ∧ i = i64 k ∧ RRep wx (Up In w.heap.size) p (writesAll d now (l.take k)) ∧ (writesAll d now (l.take k)).Ok ∧ (writesAll d now (l.take k)).c = d.c ∧ Fr In w wx) (fun i _ => l.length - (intOf i).toNat)
      case atStart => exact ⟨0, by omega, rfl, (HREP.out.later HB.out).weak (fun q hq => .inl hq), HD.out, rfl, Fr.below HB.out⟩
      case round =>
        obtain ⟨j, hj, rfl, hR, hOk, hC, hF⟩ := hrel
        have HR := hid hR
        have HOk := hid hOk
        have HC := hid hC
        have HF := hid hF
        clear hR hOk hC hF
        by_cases hlt2 : j < l.length
        case neg =>
          have ej : l.take j = l := List.take_of_length_le (by omega)
          rw [ej] at HR HOk HC
          clear ej
          go_wp2
          go_ret2
          exact ⟨by rw [HU.out]; rfl, by rw [HUR.out]; exact ⟨HR.out, HOk.out, HC.out, HF.out⟩⟩
        obtain ⟨q, hq⟩ : ∃ q, l[j]? = some q := ⟨_, List.getElem?_eq_getElem hlt2⟩
        obtain ⟨a', cap', ha, hrow⟩ := HL.out.fr HO.out HF.out
        simp only [Value.slice.injEq] at ha
        obtain ⟨rfl, _, rfl⟩ := ha
        obtain ⟨b, off, rfl, c0, c1⟩ := hrow j q hq
        have HPZ := hid (ptErr_zero (HALL.out j q hq))
        have HWA := hid (writesAll_ok (d := d) (now := now) hq)
        have j0 : (0 : Int) ≤ (j : Int) := by omega
        have j1 : (j : Int) < (l.length : Int) := by omega
        clear hrow hq
        go_wp2_with fail
        refine (writes_ref p now q _ _ _ HR.out HOk.out HPZ.out.1 n0 n1).mono ?_
        rintro e w2 ⟨rfl, hR2, hOk2, hC2, hF2⟩
        have HN := hid (show RRep w2 (Up In w.heap.size) p (writesAll d now (l.take (j + 1))) ∧ (writesAll d now (l.take (j + 1))).Ok ∧ (writesAll d now (l.take (j + 1))).c = d.c ∧ Fr In w w2 by
          have hz := HF.out.size
          rw [HWA.out]
          refine ⟨hR2.weak ?_, hOk2, hC2.trans HC.out, HF.out.trans hF2 (fun x hx => hx)⟩
          rintro x ((hx | hx) | hx)
          · exact .inl hx
          · exact .inr hx
          · exact .inr (by omega))
        clear hR2 hOk2 hC2 hF2
        go_wp2
        go_roundw
        case rel => first | exact ⟨j + 1, by omega, by go_num, HN.out⟩ | ((repeat apply Exists.intro); exact ⟨⟨j + 1, by omega, by go_num, HN.out⟩, rfl⟩)
        case measure => simp [intOf]; omega
    obtain ⟨q, hq⟩ : ∃ q, l[k]? = some q := ⟨_, List.getElem?_eq_getElem hlt⟩
    obtain ⟨b, off, rfl, c0, c1⟩ := HROW.out k q hq
    have hbz : b < w.heap.size := World.block_lt_of_cell? _ _ c0
    have z0 : wr.cell? ⟨b, off + k * 2, none⟩ = some (i64 q.1) := cell_later HB.out c0
    have z1 : wr.cell? ⟨b, off + k * 2 + 1, none⟩ = some (i64 q.2) := cell_later HB.out c1
    have hbr : b < wr.heap.size := by omega
    have k0 : (0 : Int) ≤ (k : Int) := by omega
    have k1 : (k : Int) < (l.length : Int) := by omega
    have HQ := hid hq
    have HNO := hid (show ptErr d.c now q ≠ 0 → updErr d.c now l = (ptErr d.c now q, k) from upd_no ⟨n0, n1⟩ h100 hq HZ.out)
    have HBK := hid (show ∀ wx, Below w.heap.size w wx → ptErr d.c now q ≠ 0 → RRep wx (Up In w.heap.size) p (updR d now l) ∧ (updR d now l).Ok ∧ (updR d now l).c = d.c ∧ Fr In w wx from fun wx hb he => by
      have e : updR d now l = d := by unfold updR; rw [HNO.out he, if_neg he]
      rw [e]; exact ⟨(HREP.out.later hb).weak (fun q hq => .inl hq), HD.out, rfl, Fr.below hb⟩)
    clear hq c0 c1
    by_cases e1 : PtIn q
    case neg =>
      have HP := hid (show ptErr d.c now q = 1 by unfold ptErr; rw [if_pos e1])
      have HE := hid (show ptErr d.c now q ≠ 0 by rw [HP.out]; decide)
      have hnp : ¬ (0 ≤ q.1 ∧ q.1 ≤ 2147483647 ∧ -1000000000 ≤ q.2 ∧ q.2 ≤ 1000000000) := e1
      clear e1
      by_cases f1 : 0 ≤ q.1 ∧ q.1 ≤ 2147483647
      · have f2 : (decide (-1000000000 ≤ q.2) && decide (q.2 ≤ 1000000000)) = false := and_false' fun h => hnp ⟨f1.1, f1.2, h.1, h.2⟩
        obtain ⟨f3, f4⟩ := f1
        clear hnp
        go_wp2_with (go_at_call 38; refine (in_keep _ _ _ _).mono ?_; rintro e w' ⟨rfl, rfl⟩)
        all_goals first | (go_ret2; exact ⟨by rw [HNO.out HE.out, HP.out]; rfl, HBK.out _ HB.out HE.out⟩) | (exfalso; simp_all; done)
      · have f2 : (decide (0 ≤ q.1) && decide (q.1 ≤ 2147483647)) = false := and_false' f1
        clear hnp f1
        go_wp2_with (go_at_call 38; refine (in_keep _ _ _ _).mono ?_; rintro e w' ⟨rfl, rfl⟩)
        all_goals first | (go_ret2; exact ⟨by rw [HNO.out HE.out, HP.out]; rfl, HBK.out _ HB.out HE.out⟩) | (exfalso; simp_all; done)
    have HPI := hid e1
    obtain ⟨p0, p1, p2, p3⟩ := (show 0 ≤ q.1 ∧ q.1 ≤ 2147483647 ∧ -1000000000 ≤ q.2 ∧ q.2 ≤ 1000000000 from e1)
    clear e1
    by_cases e2 : now < q.1
    · have HP := hid (show ptErr d.c now q = 3 by unfold ptErr; rw [if_neg (by simpa using HPI.out), if_pos e2])
      have HE := hid (show ptErr d.c now q ≠ 0 by rw [HP.out]; decide)
      go_wp2_with (go_at_call 38; refine (in_keep _ _ _ _).mono ?_; rintro e w' ⟨rfl, rfl⟩)
      go_ret2
      exact ⟨by rw [HNO.out HE.out, HP.out]; rfl, HBK.out _ HB.out HE.out⟩
    go_wp2_with (go_at_call 38; refine (in_keep _ _ _ _).mono ?_; rintro e w' ⟨rfl, rfl⟩)
    refine (first_ref p d.c now q.1 _ ((HREP.out.later HB.out).arc HD.out) n0 n1 p0 p1).mono ?_
    rintro e w1 ⟨rfl, hb1⟩
    have HB1 := hid (HB.out.trans (hb1.mono hzr))
    clear hb1
    by_cases e3 : firstI d.c now q.1 < 0
    · have HP := hid (show ptErr d.c now q = 4 by unfold ptErr; rw [if_neg (by simpa using HPI.out), if_neg (by omega), if_pos e3])
      have HE := hid (show ptErr d.c now q ≠ 0 by rw [HP.out]; decide)
      go_wp2
      go_ret2
      exact ⟨by rw [HNO.out HE.out, HP.out]; rfl, HBK.out _ HB1.out HE.out⟩
    · have HP := hid (show ptErr d.c now q = 0 by unfold ptErr; rw [if_neg (by simpa using HPI.out), if_neg (by omega), if_neg e3])
      have HZ1 := hid (show ∀ (j : Nat) (x : Pt), j < k + 1 → l[j]? = some x → ptErr d.c now x = 0 from fun j x hj hx => by
        by_cases e : j = k
        · subst e
          have : x = q := by rw [HQ.out] at hx; simpa using hx.symm
          rw [this]; exact HP.out
        · exact HZ.out j x (by omega) hx)
      go_wp2
      go_roundw
      case rel => first | exact ⟨k + 1, by omega, by go_num, HZ1.out, HB1.out⟩ | ((repeat apply Exists.intro); exact ⟨⟨k + 1, by omega, by go_num, HZ1.out, HB1.out⟩, rfl⟩)
      case measure => simp [intOf]; omega
theorem update_ref (p : Nat) (now : Int) (v : Value) (l : List Pt) (d : RDb) (In : Nat → Prop) (w : World) (hrep : RRep w In p d) (hd : d.Ok) (hl : RowG w v l) (ho : OutOf In v) (hlen : l.length ≤ 140737488351232) :
    Calls Tryz.prog 52 #[.pointer (some ⟨p, 0, none⟩), i64 now, v] w fun e w' => e = .returned (.tuple #[i64 (updErr d.c now l).1, i64 (updErr d.c now l).2]) ∧ RRep w' (Up In w.heap.size) p (updR d now l) ∧ (updR d now l).Ok ∧ (updR d now l).c = d.c ∧ Fr In w w' := by
  by_cases he : ¬ (0 ≤ now ∧ now ≤ 2147483647) ∨ 100 < l.length
  · exact update_arg p now v l d In w hrep hd hl hlen he
  · have h1 : 0 ≤ now ∧ now ≤ 2147483647 := Classical.not_not.1 fun h => he (.inl h)
    exact update_go p now v l d In w hrep hd hl ho h1.1 h1.2 (by omega)
end Go.Proofs.YthbbfjfekchdiaaGreat
namespace Go.Proofs.YthbbfjfekchdiaaGreat
open Go.RowKit
set_option linter.unusedSimpArgs false
theorem Fr.alloc {In : Nat → Prop} {w w' : World} (h : Fr In w w') (O : Obj) : Fr In w (w'.alloc O) :=
  h.trans (Fr.below (In := In) ((Below.refl w'.heap.size w').alloc (Nat.le_refl _) O)) fun _ hx => .inl hx
theorem Fr.drewN {In : Nat → Prop} {w w' : World} (h : Fr In w w') (n : Nat) : Fr In w (w'.drewN n) :=
  h.trans (Fr.below (In := In) (below_drewN (Below.refl w'.heap.size w') n)) fun _ hx => .inl hx
theorem Fr.grown {In : Nat → Prop} {w w1 w2 : World} {row : Option Nat} (h : Fr In w w1) (hg : w1.grownBy w2 row) (hr : ∀ k, row = some k → w.heap.size ≤ k) : Fr In w w2 := by
  refine ⟨hg.os.trans h.os, hg.tape.trans h.tape, hg.output.trans h.output, Nat.le_trans h.size hg.size, fun k hk hn => ?_⟩
  rw [hg.block k (Nat.lt_of_lt_of_le hk h.size) fun e => by have := hr k e.symm; omega]
  exact h.block k hk hn
structure FI (w wS wr : World) (B : Nat) (i s : Int) (v : Value) (o : List Pt) : Prop where
  old : Below w.heap.size w wS
  hB : w.heap.size < B ∧ B < wS.heap.size
  fr : Fr (fun k => k = B) wS wr
  res : wS.heap[w.heap.size]? = some (.cells #[i64 0, i64 0, .slice none 0 0] 108)
  blk : wr.heap[B]? = some (.cells #[i64 i, i64 s, v] 108)
  own : wr.ownsRow wS.heap.size 48 2 v o.length (ptCells o)
theorem FI.drewN {w wS wr : World} {B : Nat} {i s : Int} {v : Value} {o : List Pt} (h : FI w wS wr B i s v o) (n : Nat) : FI w wS (wr.drewN n) B i s v o :=
  ⟨h.old, h.hB, h.fr.drewN n, h.res, blk_drewN h.blk n, owns_far h.own fun b _ hb => by simp⟩
theorem FI.later {w wS wr wx : World} {B : Nat} {i s : Int} {v : Value} {o : List Pt} (h : FI w wS wr B i s v o) (hb : Below wr.heap.size wr wx) : FI w wS wx B i s v o :=
  ⟨h.old, h.hB, h.fr.trans (Fr.below (In := fun k => k = B) hb) fun _ hx => .inl hx, h.res, blk_later hb (blk_lt h.blk) h.blk, owns_below h.own hb⟩
theorem FI.app {w wS wr w3 : World} {B : Nat} {i s : Int} {v : Value} {o : List Pt} {q : Pt} {O : Obj} {g cap : Nat} (h : FI w wS wr B i s v o)
    (hown : w3.ownsRow wS.heap.size 48 2 (.slice (some ⟨g, 0, none⟩) (o.length + 1) cap) (o.length + 1) (ptCells o ++ [i64 q.1, i64 q.2])) (hg : (wr.alloc O).grownBy w3 v.ownBlock) :
    FI w wS (w3.setCell ⟨B, 2, none⟩ (.slice (some ⟨g, 0, none⟩) (o.length + 1) cap)) B i s (.slice (some ⟨g, 0, none⟩) (o.length + 1) cap) (o ++ [q]) := by
  have hz := h.hB
  have hzz := h.fr.size
  have f1 : Fr (fun k => k = B) wS w3 := (h.fr.alloc O).grown hg fun k hk => (h.own.lt k hk).1
  have hb3 : w3.heap[B]? = some (.cells #[i64 i, i64 s, v] 108) := (hg.block B (by have := blk_lt h.blk; simp; omega) (owns_not h.own (by omega))).trans (blk_alloc h.blk)
  refine ⟨h.old, h.hB, f1.setCell (b := B) rfl 2 _, h.res, blk_setCell hb3 2 _, ?_⟩
  rw [ptCells_snoc, List.length_append]
  exact ownsRow_setCell_below hown hz.2 _
theorem FI.below {w wS wr : World} {B : Nat} {i s : Int} {v : Value} {o : List Pt} (h : FI w wS wr B i s v o) : Below w.heap.size w wr := by
  have hz := h.hB
  have := h.old.size
  have := h.fr.size
  refine ⟨h.fr.os.trans h.old.os, h.fr.tape.trans h.old.tape, h.fr.output.trans h.old.output, by omega, fun k hk => ?_⟩
  rw [h.fr.block k (by omega) (by show ¬ k = B; omega)]
  exact h.old.block k hk
theorem fetch_arg_err {c : Cfg} {now fr un : Int} (h : ¬ (StampIn now ∧ StampIn fr ∧ StampIn un ∧ fr ≤ un)) : fetchErr c now fr un = 1 := by unfold fetchErr; rw [if_pos h]
theorem fetch_none {d : RDb} {now fr un e : Int} (h : fetchErr d.c now fr un = e) (he : e ≠ 0) : serA d now fr un = 0 ∧ serS d now fr un = 0 ∧ serP d now fr un = [] := by
  subst h
  unfold serA serS serP
  rw [if_neg he, if_neg he, if_neg he]
  exact ⟨rfl, rfl, rfl⟩
theorem fetch_err {d : RDb} {now fr un e : Int} {w w' : World} (h : fetchErr d.c now fr un = e) (he : e ≠ 0) (hb : Below w.heap.size w w') :
    ∃ v, Ending.returned (.tuple #[.agg #[i64 0, i64 0, .slice none 0 0], i64 e]) = .returned (.tuple #[.agg #[i64 (serA d now fr un), i64 (serS d now fr un), v], i64 (fetchErr d.c now fr un)]) ∧ Below w.heap.size w w' ∧ w'.ownsRow w.heap.size 48 2 v (serP d now fr un).length (ptCells (serP d now fr un)) := by
  obtain ⟨a, b, c⟩ := fetch_none h he
  refine ⟨.slice none 0 0, by rw [a, b, h], hb, ?_⟩
  rw [c]
  exact World.ownsRow_nil _ _ _ _
set_option maxHeartbeats 4000000 in
theorem fetch_arg (p : Nat) (now fr un : Int) (d : RDb) (w : World) (h : ¬ (StampIn now ∧ StampIn fr ∧ StampIn un ∧ fr ≤ un)) :
    Calls Tryz.prog 55 #[.pointer (some ⟨p, 0, none⟩), i64 now, i64 fr, i64 un] w fun e w' => ∃ v, e = .returned (.tuple #[.agg #[i64 (serA d now fr un), i64 (serS d now fr un), v], i64 (fetchErr d.c now fr un)]) ∧ Below w.heap.size w w' ∧ w'.ownsRow w.heap.size 48 2 v (serP d now fr un).length (ptCells (serP d now fr un)) := by
  have HE := hid (fetch_arg_err (c := d.c) h)
  by_cases a : 0 ≤ now ∧ now ≤ 2147483647
  · by_cases b : 0 ≤ fr ∧ fr ≤ 2147483647
    · by_cases c : 0 ≤ un ∧ un ≤ 2147483647
      · have e : un < fr := Int.not_le.1 fun x => h ⟨a, b, c, x⟩
        obtain ⟨a0, a1⟩ := a
        obtain ⟨b0, b1⟩ := b
        obtain ⟨c0, c1⟩ := c
        clear h
        go_enter Tryz.func55, Tryz.ntmps55
        go_wp2_with (go_at_call 38; refine (in_keep _ _ _ _).mono ?_; rintro e w' ⟨rfl, rfl⟩)
        refine bodyPost_ret (v := .tuple #[.agg #[i64 0, i64 0, .slice none 0 0], i64 1]) (by simp [results, Tryz.results55, go_sem]) rfl ?_
        exact fetch_err HE.out (by decide) ((Below.refl _ _).alloc (Nat.le_refl _) _)
      · have c' : (decide (0 ≤ un) && decide (un ≤ 2147483647)) = false := and_false' c
        obtain ⟨a0, a1⟩ := a
        obtain ⟨b0, b1⟩ := b
        clear h c
        go_enter Tryz.func55, Tryz.ntmps55
        go_wp2_with (go_at_call 38; refine (in_keep _ _ _ _).mono ?_; rintro e w' ⟨rfl, rfl⟩)
        refine bodyPost_ret (v := .tuple #[.agg #[i64 0, i64 0, .slice none 0 0], i64 1]) (by simp [results, Tryz.results55, go_sem]) rfl ?_
        exact fetch_err HE.out (by decide) ((Below.refl _ _).alloc (Nat.le_refl _) _)
    · have b' : (decide (0 ≤ fr) && decide (fr ≤ 2147483647)) = false := and_false' b
      obtain ⟨a0, a1⟩ := a
      clear h b
      go_enter Tryz.func55, Tryz.ntmps55
      go_wp2_with (go_at_call 38; refine (in_keep _ _ _ _).mono ?_; rintro e w' ⟨rfl, rfl⟩)
      refine bodyPost_ret (v := .tuple #[.agg #[i64 0, i64 0, .slice none 0 0], i64 1]) (by simp [results, Tryz.results55, go_sem]) rfl ?_
      exact fetch_err HE.out (by decide) ((Below.refl _ _).alloc (Nat.le_refl _) _)
  · have a' : (decide (0 ≤ now) && decide (now ≤ 2147483647)) = false := and_false' a
    clear h a
    go_enter Tryz.func55, Tryz.ntmps55
    go_wp2_with (go_at_call 38; refine (in_keep _ _ _ _).mono ?_; rintro e w' ⟨rfl, rfl⟩)
    refine bodyPost_ret (v := .tuple #[.agg #[i64 0, i64 0, .slice none 0 0], i64 1]) (by simp [results, Tryz.results55, go_sem]) rfl ?_
    exact fetch_err HE.out (by decide) ((Below.refl _ _).alloc (Nat.le_refl _) _)
end Go.Proofs.YthbbfjfekchdiaaGreat
