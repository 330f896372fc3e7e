import Derived.Test.YthbbfjfekchdiaaXLeafWalks
import Derived.WalkKit
import Derived.WalkSpells
import Derived.WalkLawsBesides
import Derived.Deep.AppendLies
import Derived.Deep.QuietTactic
import Derived.BigQuiet
import Derived.Deep.RegionWith
import Derived.Laws.BitsLemmas
/-
  Own small facts on worlds: a block that is known whole, behind stores, new blocks and appends.
-/
namespace Go.Proofs.Ythbbfjfekchdiaa
open Go.RowKit

theorem cell_of_blk {w : World} {B : Nat} {cs : Array Value} {t : TypeId} (h : w.heap[B]? = some (.cells cs t)) (j : Nat) : w.cell? ⟨B, j, none⟩ = cs[j]? := by
  simp [World.cell?, h]
theorem frozen_of_blk {w : World} {B : Nat} {cs : Array Value} {t : TypeId} (h : w.heap[B]? = some (.cells cs t)) (j : Nat) : w.frozen? ⟨B, j, none⟩ = false := by
  simp [World.frozen?, h]
theorem blk_setCell {w : World} {B : Nat} {cs : Array Value} {t : TypeId} (h : w.heap[B]? = some (.cells cs t)) (o : Nat) (u : Value) :
    (w.setCell ⟨B, o, none⟩ u).heap[B]? = some (.cells (cs.setIfInBounds o u) t) := by
  simp [World.setCell, Array.getElem?_modify, h]
theorem blk_setCell_far {w : World} {B : Nat} {a : Addr} {u : Value} (h : B ≠ a.block) : (w.setCell a u).heap[B]? = w.heap[B]? := Below.heap_setCell w a u B h
theorem size_setCell (w : World) (a : Addr) (u : Value) : (w.setCell a u).heap.size = w.heap.size := by simp [World.setCell]
theorem blk_lt {w : World} {B : Nat} {o : Obj} (h : w.heap[B]? = some o) : B < w.heap.size := by
  obtain ⟨hlt, _⟩ := Array.getElem?_eq_some_iff.1 h
  exact hlt
theorem blk_later {w w' : World} {n B : Nat} {o : Obj} (hb : Below n w w') (hn : B < n) (h : w.heap[B]? = some o) : w'.heap[B]? = some o := (hb.block B hn).trans h
theorem blk_alloc {w : World} {B : Nat} {o o' : Obj} (h : w.heap[B]? = some o) : (w.alloc o').heap[B]? = some o := by
  rw [Below.heap_alloc w o' B (blk_lt h)]; exact h
theorem blk_new (w : World) (o : Obj) : (w.alloc o).heap[w.heap.size]? = some o := heap_alloc_new w o
theorem owns_below {w w' : World} {base e size n : Nat} {v : Value} {xs : List Value} (h : w.ownsRow base e size v n xs) (hb : Below w.heap.size w w') : w'.ownsRow base e size v n xs := by
  obtain ⟨hl, h | ⟨g, cap, cur, hv, hg, hblk, r⟩⟩ := h
  · exact ⟨hl, .inl h⟩
  · exact ⟨hl, .inr ⟨g, cap, cur, hv, hg, blk_later hb (blk_lt hblk) hblk, r⟩⟩
theorem owns_base {w : World} {base base' e size n : Nat} {v : Value} {xs : List Value} (h : w.ownsRow base e size v n xs) (hb : base' ≤ base) : w.ownsRow base' e size v n xs := by
  obtain ⟨hl, h | ⟨g, cap, cur, hv, hg, r⟩⟩ := h
  · exact ⟨hl, .inl h⟩
  · exact ⟨hl, .inr ⟨g, cap, cur, hv, Nat.le_trans hb hg, r⟩⟩
/-- the block of a row that is not empty -/
theorem owns_block {w : World} {base e size n : Nat} {v : Value} {xs : List Value} (h : w.ownsRow base e size v n xs) (hn : 0 < n) :
    ∃ g cap cur, v = .slice (some ⟨g, 0, none⟩) n cap ∧ base ≤ g ∧ w.heap[g]? = some (.cells cur e) ∧ cur.toList.take (n * size) = xs ∧ n * size ≤ cur.size := by
  obtain ⟨_, ⟨_, h0⟩ | ⟨g, cap, cur, hv, hg, hblk, hc, hm, hs, ht⟩⟩ := h
  · omega
  · exact ⟨g, cap, cur, hv, hg, hblk, ht, by rw [hs]; exact Nat.mul_le_mul_right _ hc⟩
theorem owns_not {w : World} {base e size n : Nat} {v : Value} {xs : List Value} (h : w.ownsRow base e size v n xs) {k : Nat} (hk : k < base) : some k ≠ v.ownBlock := by
  intro x
  have := (h.lt k x.symm).1
  omega
end Go.Proofs.Ythbbfjfekchdiaa
namespace Go.Proofs.Ythbbfjfekchdiaa
open Go.RowKit
set_option linter.unusedSimpArgs false

theorem rb {a b : Bool} (h : a = b) : Ending.returned (.bool a) = .returned (.bool b) := by rw [h]

theorem ret_i {a b : Int} (h : a = b) : Ending.returned (i64 a) = .returned (i64 b) := by rw [h]

end Go.Proofs.Ythbbfjfekchdiaa
namespace Go.Proofs.Ythbbfjfekchdiaa
open Go.RowKit
set_option linter.unusedSimpArgs false

/-- the cells of points -/
def ptCells (l : List Pt) : List Value := l.flatMap fun q => [i64 q.1, i64 q.2]
theorem ptCells_length (l : List Pt) : (ptCells l).length = l.length * 2 := by
  induction l with
  | nil => rfl
  | cons q l ih => rw [show ptCells (q :: l) = [i64 q.1, i64 q.2] ++ ptCells l from rfl, List.length_append, ih]; simp; omega
theorem ptCells_at : ∀ (l : List Pt) (j : Nat) (q : Pt), l[j]? = some q → (ptCells l)[j * 2]? = some (i64 q.1) ∧ (ptCells l)[j * 2 + 1]? = some (i64 q.2)
  | [], j, q, h => by simp at h
  | x :: l, 0, q, h => by
    simp at h; subst h
    exact ⟨rfl, rfl⟩
  | x :: l, j + 1, q, h => by
    have r := ptCells_at l j q (by simpa using h)
    rw [show ptCells (x :: l) = i64 x.1 :: i64 x.2 :: ptCells l from rfl, show (j + 1) * 2 = j * 2 + 1 + 1 by omega]
    exact r

/-- a list of points in memory -/
def RowAt (w : World) (v : Value) (l : List Pt) : Prop :=
  ∃ a cap, v = .slice a l.length cap ∧ ∀ (j : Nat) (q : Pt), l[j]? = some q → ∃ b, a = some ⟨b, 0, none⟩ ∧ b < w.heap.size ∧ w.cell? ⟨b, j * 2, none⟩ = some (i64 q.1) ∧ w.cell? ⟨b, j * 2 + 1, none⟩ = some (i64 q.2)

theorem rowAt_of {w : World} {base : Nat} {v : Value} {l : List Pt} (h : w.ownsRow base 39 2 v l.length (ptCells l)) : RowAt w v l := by
  obtain ⟨_, ⟨hv, hn⟩ | ⟨g, cap, cur, hv, _, hg, _, _, hs, ht⟩⟩ := h
  · have e : l = [] := List.length_eq_zero_iff.1 hn
    subst e
    exact ⟨_, _, hv, fun j q hj => by simp at hj⟩
  · refine ⟨_, _, hv, fun j q hj => ⟨g, rfl, blk_lt hg, ?_⟩⟩
    have hlt : j < l.length := by
      obtain ⟨x, _⟩ := List.getElem?_eq_some_iff.1 hj
      exact x
    obtain ⟨c0, c1⟩ := ptCells_at l j q hj
    have hc : ∀ o, o < l.length * 2 → w.cell? ⟨g, o, none⟩ = (ptCells l)[o]? := by
      intro o ho
      rw [cell_of_blk hg, ← ht, List.getElem?_take_of_lt ho]
      simp
    exact ⟨(hc _ (by omega)).trans c0, (hc _ (by omega)).trans c1⟩
theorem RowAt.later {w w' : World} {v : Value} {l : List Pt} (h : RowAt w v l) (hb : Below w.heap.size w w') : RowAt w' v l := by
  obtain ⟨a, cap, hv, r⟩ := h
  refine ⟨a, cap, hv, fun j q hj => ?_⟩
  obtain ⟨b, ha, hz, c0, c1⟩ := r j q hj
  exact ⟨b, ha, Nat.lt_of_lt_of_le hz hb.size, cell_later hb c0, cell_later hb c1⟩

theorem hasL_none {t : Int} {l : List Pt} (h : ∀ (j : Nat) (q : Pt), l[j]? = some q → (q.1 == t) = false) : hasL t l = none := by
  unfold hasL
  rw [List.find?_eq_none]
  intro x hx
  obtain ⟨j, hj⟩ := List.mem_iff_getElem?.1 hx
  rw [h j x hj]; simp
theorem hasL_at {t : Int} : ∀ {l : List Pt} {k : Nat} {q : Pt}, l[k]? = some q → (∀ (j : Nat) (q' : Pt), j < k → l[j]? = some q' → (q'.1 == t) = false) → (q.1 == t) = true → hasL t l = some q
  | [], k, q, h, _, _ => by simp at h
  | x :: l, 0, q, h, _, hq => by
    simp at h; subst h
    unfold hasL
    rw [List.find?_cons_of_pos (p := fun q : Pt => q.1 == t) hq]
  | x :: l, k + 1, q, h, hz, hq => by
    unfold hasL
    rw [List.find?_cons_of_neg (p := fun q : Pt => q.1 == t) (by rw [hz 0 x (by omega) rfl]; simp)]
    exact hasL_at (l := l) (k := k) (by simpa using h) (fun j q' hj h' => hz (j + 1) q' (by omega) (by simpa using h')) hq

def hasP (t : Int) (l : List Pt) : Pt := (hasL t l).getD (0, 0)

end Go.Proofs.Ythbbfjfekchdiaa
/-
  What a method makes of values, as plain mathematics.
-/
namespace Go.Proofs.Ythbbfjfekchdiaa

def distI (x : Int) : Int := max x (-x)
def cutI (x : Int) : Int := max (-1000000000) (min 1000000000 x)
def outStep (m out v : Int) : Int :=
  if m = 3 then v else if m = 4 then max out v else if m = 5 then min out v
  else if m = 6 then (if distI out < distI v ∨ (distI v = distI out ∧ out < v) then v else out) else out
def outTo (m : Int) (l : List Int) (k : Nat) : Int := (l.take k).foldl (outStep m) (l.headD 0)
def sumTo (l : List Int) (k : Nat) : Int := (l.take k).sum
def VIn (v : Int) : Prop := -1000000000 ≤ v ∧ v ≤ 1000000000
/-- what the method m makes of values (there is one at least) -/
def makesI (m : Int) (l : List Int) : Int :=
  if m = 1 then sumTo l l.length / (l.length : Int) else if m = 2 then cutI (sumTo l l.length) else outTo m l l.length

theorem sumTo_zero (l : List Int) : sumTo l 0 = 0 := by simp [sumTo]
theorem outTo_zero (m : Int) (l : List Int) : outTo m l 0 = l.headD 0 := by simp [outTo]
theorem sumTo_succ {l : List Int} {k : Nat} {v : Int} (h : l[k]? = some v) : sumTo l (k + 1) = sumTo l k + v := by
  unfold sumTo
  rw [List.take_add_one, h]
  simp
theorem outTo_succ {m : Int} {l : List Int} {k : Nat} {v : Int} (h : l[k]? = some v) : outTo m l (k + 1) = outStep m (outTo m l k) v := by
  unfold outTo
  rw [List.take_add_one, h]
  simp
theorem outStep_in {m a v : Int} (ha : VIn a) (hv : VIn v) : VIn (outStep m a v) := by
  unfold outStep VIn at *
  repeat' split
  all_goals omega
theorem sumTo_in {l : List Int} (h : ∀ v ∈ l, VIn v) : ∀ k, k ≤ l.length → -(1000000000 * (k : Int)) ≤ sumTo l k ∧ sumTo l k ≤ 1000000000 * (k : Int) := by
  intro k
  induction k with
  | zero => intro _; rw [sumTo_zero]; omega
  | succ k ih =>
    intro hk
    obtain ⟨v, hv⟩ : ∃ v, l[k]? = some v := ⟨_, List.getElem?_eq_getElem (by omega)⟩
    have := ih (by omega)
    have hin := h v (List.mem_iff_getElem?.2 ⟨k, hv⟩)
    unfold VIn at hin
    rw [sumTo_succ hv]
    omega
theorem outTo_in {m : Int} {l : List Int} (h : ∀ v ∈ l, VIn v) (hl : l ≠ []) : ∀ k, k ≤ l.length → VIn (outTo m l k) := by
  intro k
  induction k with
  | zero =>
    intro _
    rw [outTo_zero]
    cases l with
    | nil => exact absurd rfl hl
    | cons a l => exact h a (by simp)
  | succ k ih =>
    intro hk
    obtain ⟨v, hv⟩ : ∃ v, l[k]? = some v := ⟨_, List.getElem?_eq_getElem (by omega)⟩
    rw [outTo_succ hv]
    exact outStep_in (ih (by omega)) (h v (List.mem_iff_getElem?.2 ⟨k, hv⟩))
/-- a quotient cut towards 0, made into one rounded down -/
theorem floor_down {a n : Int} (hn : 0 < n) : (if a.tdiv n * n > a then a.tdiv n - 1 else a.tdiv n) = a / n := by
  by_cases h : 0 ≤ a
  · rw [Int.tdiv_eq_ediv_of_nonneg h]
    have h1 := Int.ediv_mul_le a (show n ≠ 0 by omega)
    rw [if_neg (by omega)]
  · have hb : 0 ≤ -a := by omega
    have e : a.tdiv n = -((-a) / n) := by
      rw [← Int.tdiv_eq_ediv_of_nonneg hb, Int.neg_tdiv, Int.neg_neg]
    obtain ⟨q, hq⟩ : ∃ q, q = (-a) / n := ⟨_, rfl⟩
    have h1 : q * n ≤ -a := by rw [hq]; exact Int.ediv_mul_le _ (by omega)
    have h2 : -a < (q + 1) * n := by rw [hq]; exact Int.lt_ediv_add_one_mul_self _ hn
    rw [e, ← hq]
    have h3 : (q + 1) * n = q * n + n := by rw [Int.add_mul, Int.one_mul]
    have h4 : -q * n = -(q * n) := Int.neg_mul _ _
    by_cases x : -q * n > a
    · rw [if_pos x]
      refine ((Int.ediv_eq_iff_of_pos hn).2 ⟨?_, ?_⟩).symm
      · rw [Int.sub_mul, Int.one_mul, h4]; omega
      · rw [Int.sub_mul, Int.one_mul, h4]; omega
    · rw [if_neg x]
      refine ((Int.ediv_eq_iff_of_pos hn).2 ⟨?_, ?_⟩).symm
      · rw [h4]; omega
      · rw [h4]; omega
theorem tdiv_bd {a n : Int} (hn : 0 < n) (h1 : -1000000000000 ≤ a) (h2 : a ≤ 1000000000000) : (-1000000000000 ≤ a.tdiv n ∧ a.tdiv n ≤ 1000000000000) ∧ (-1000000000000 ≤ a.tdiv n * n ∧ a.tdiv n * n ≤ 1000000000000) := by
  by_cases h : 0 ≤ a
  · rw [Int.tdiv_eq_ediv_of_nonneg h]
    have q0 : 0 ≤ a / n := Int.ediv_nonneg h (by omega)
    have q1 := Int.ediv_mul_le a (show n ≠ 0 by omega)
    have q2 : a / n ≤ a / n * n := by
      have := Int.mul_le_mul_of_nonneg_left (show (1 : Int) ≤ n by omega) q0
      omega
    omega
  · have hb : 0 ≤ -a := by omega
    have e : a.tdiv n = -((-a) / n) := by
      rw [← Int.tdiv_eq_ediv_of_nonneg hb, Int.neg_tdiv, Int.neg_neg]
    have q0 : 0 ≤ (-a) / n := Int.ediv_nonneg hb (by omega)
    have q1 := Int.ediv_mul_le (-a) (show n ≠ 0 by omega)
    have q2 : (-a) / n ≤ (-a) / n * n := by
      have := Int.mul_le_mul_of_nonneg_left (show (1 : Int) ≤ n by omega) q0
      omega
    rw [e, Int.neg_mul]
    omega
end Go.Proofs.Ythbbfjfekchdiaa
namespace Go.Proofs.Ythbbfjfekchdiaa
open Go.RowKit
set_option linter.unusedSimpArgs false

end Go.Proofs.Ythbbfjfekchdiaa
namespace Go.Proofs.Ythbbfjfekchdiaa
open Go.RowKit
set_option linter.unusedSimpArgs false

end Go.Proofs.Ythbbfjfekchdiaa
/-
  The document's database in memory: a block, its list of lists, the lists; 'In': the blocks that are its own.
-/
namespace Go.Proofs.Ythbbfjfekchdiaa
open Go.RowKit

/-- as Below, but for the blocks of a set -/
structure Fr (In : Nat → Prop) (w w' : World) : Prop where
  os : w'.os = w.os
  tape : w'.tape = w.tape
  output : w'.output = w.output
  size : w.heap.size ≤ w'.heap.size
  block : ∀ k, k < w.heap.size → ¬ In k → w'.heap[k]? = w.heap[k]?

theorem Fr.refl (In : Nat → Prop) (w : World) : Fr In w w := ⟨rfl, rfl, rfl, Nat.le_refl _, fun _ _ _ => rfl⟩
theorem Fr.below {In : Nat → Prop} {w w' : World} (h : Below w.heap.size w w') : Fr In w w' := ⟨h.os, h.tape, h.output, h.size, fun k hk _ => h.block k hk⟩
theorem Fr.trans {In In' : Nat → Prop} {a b c : World} (h : Fr In a b) (k : Fr In' b c) (hs : ∀ x, In' x → In x ∨ a.heap.size ≤ x) : Fr In a c := by
  refine ⟨k.os.trans h.os, k.tape.trans h.tape, k.output.trans h.output, Nat.le_trans h.size k.size, fun x hx hn => ?_⟩
  rw [k.block x (Nat.lt_of_lt_of_le hx h.size) fun y => (hs x y).elim hn (fun z => by omega)]
  exact h.block x hx hn
theorem Fr.setCell {In : Nat → Prop} {w w' : World} (h : Fr In w w') {b : Nat} (hb : In b) (o : Nat) (u : Value) : Fr In w (w'.setCell ⟨b, o, none⟩ u) := by
  refine ⟨h.os, h.tape, h.output, by rw [size_setCell]; exact h.size, fun k hk hn => ?_⟩
  have hkb : k ≠ b := fun e => hn (by rw [e]; exact hb)
  rw [blk_setCell_far (a := ⟨b, o, none⟩) hkb]
  exact h.block k hk hn
/-- old blocks of the set, and all new ones -/
def Up (In : Nat → Prop) (n : Nat) : Nat → Prop := fun k => In k ∨ n ≤ k

/-- what holds of the document's data at all times: bounds -/
structure RDb.Ok (d : RDb) : Prop where
  cfg : d.c.Ok
  len : d.L.length = d.c.many
  pts : ∀ (i : Nat) (l : List Pt), d.L[i]? = some l → (∀ q ∈ l, PtIn q) ∧ l.length ≤ 60
  apart : ∀ (i : Nat) (l : List Pt), d.L[i]? = some l → (l.map fun q => slotOf d.c i q.1).Nodup

theorem owns_far {w w' : World} {base e size n : Nat} {v : Value} {xs : List Value} (h : w.ownsRow base e size v n xs) (hf : ∀ b, v.ownBlock = some b → b < w.heap.size → w'.heap[b]? = w.heap[b]?) : w'.ownsRow base e size v n xs := by
  obtain ⟨hl, h | ⟨g, cap, cur, hv, hg, hblk, r⟩⟩ := h
  · exact ⟨hl, .inl h⟩
  · exact ⟨hl, .inr ⟨g, cap, cur, hv, hg, (hf g (by rw [hv]; rfl) (blk_lt hblk)).trans hblk, r⟩⟩
/-- one list anew -/
def RDb.put (d : RDb) (i : Nat) (l : List Pt) : RDb := { d with L := d.L.set i l }

end Go.Proofs.Ythbbfjfekchdiaa
/-
  Numbers as bytes, in the program: Write, Read.
-/
namespace Go.Proofs.Ythbbfjfekchdiaa
open Go.RowKit
set_option linter.unusedSimpArgs false

def bs (l : List Int) : List Value := l.map fun b => .int .u8 b
theorem bs_len (l : List Int) : (bs l).length = l.length := by unfold bs; rw [List.length_map]
theorem bs_app (l m : List Int) : bs (l ++ m) = bs l ++ bs m := by unfold bs; rw [List.map_append]
theorem bs_one (l : List Int) : ∀ u ∈ bs l, u.oneCell' = true := by
  intro u hu
  unfold bs at hu
  obtain ⟨b, _, rfl⟩ := List.mem_map.1 hu
  rfl

/-- an 'or' of a multiple of 256 and a byte -/
theorem or_low (x y : Int) (hx : x % 256 = 0) (hy0 : 0 ≤ y) (hy1 : y < 256) : bits .or .i64 x y = IntKind.i64.wrap (x + y) := by
  obtain ⟨b, rfl⟩ := Int.eq_ofNat_of_zero_le hy0
  obtain ⟨a, ha⟩ : ∃ a : Nat, x % 18446744073709551616 = (a : Int) := Int.eq_ofNat_of_zero_le (Int.emod_nonneg _ (by omega))
  have h1 : (BitVec.ofInt 64 x).toNat = a := by
    rw [BitVec.toNat_ofInt]
    have : x % ((2 ^ 64 : Nat) : Int) = (a : Int) := ha
    rw [this]
    rfl
  have h2 : (BitVec.ofInt 64 (b : Int)).toNat = b := by
    rw [BitVec.ofInt_natCast, BitVec.toNat_ofNat]; exact Nat.mod_eq_of_lt (by omega)
  show IntKind.i64.wrap ((BitVec.ofInt 64 x ||| BitVec.ofInt 64 (b : Int)).toNat : Int) = _
  have hd : a % 256 = 0 := by omega
  have hq : a = 2 ^ 8 * (a / 2 ^ 8) := by omega
  have ho : a ||| b = a + b := by
    have := Nat.two_pow_add_eq_or_of_lt (i := 8) (b := b) (by omega) (a / 2 ^ 8)
    rw [← hq] at this
    exact this.symm
  rw [BitVec.toNat_or, h1, h2, ho, IntKind.wrap_i64, IntKind.wrap_i64]
  omega

theorem mul_low (r : Int) : wrap64 (r * 256) % 256 = 0 := by
  unfold wrap64
  omega
theorem wrap_step (r x : Int) : IntKind.i64.wrap (wrap64 (wrap64 r * 256) + x) = IntKind.i64.wrap (r * 256 + x) := by
  simp only [IntKind.wrap_i64]
  unfold wrap64
  omega
theorem readN_wrap {l : List Int} (hb : ByteL l) (hn : l.length ≤ 8) : readN l = IntKind.i64.wrap (readU l) := by
  rw [IntKind.wrap_i64]
  obtain ⟨r0, r1⟩ := readU_bd hb
  by_cases h8 : l.length = 8
  · have hh := head_readU hb h8
    rw [h8, show (256 : Int) ^ 8 = 18446744073709551616 from by decide] at r1
    unfold readN
    by_cases hx : 127 < l.headD 0
    · rw [if_pos ⟨hx, h8⟩]
      have := hh.1 hx
      omega
    · rw [if_neg (fun x => hx x.1)]
      have : ¬ 9223372036854775808 ≤ readU l := fun y => hx (hh.2 y)
      omega
  · rw [readN_short h8]
    have : (256 : Int) ^ l.length ≤ 256 ^ 7 := by
      have h7 : l.length = 0 ∨ l.length = 1 ∨ l.length = 2 ∨ l.length = 3 ∨ l.length = 4 ∨ l.length = 5 ∨ l.length = 6 ∨ l.length = 7 := by omega
      rcases h7 with e | e | e | e | e | e | e | e <;> rw [e] <;> decide
    rw [show (256 : Int) ^ 7 = 72057594037927936 from by decide] at this
    omega

/-- the higher bytes of a number, and the lower ones -/
theorem numL_add : ∀ (m a : Nat) (x : Int), numL x (a + m) = numL (x / 256 ^ m) a ++ numL x m
  | 0, a, x => by simp [numL]
  | m + 1, a, x => by
    show numL (x / 256) (a + m) ++ [x % 256] = numL (x / 256 ^ (m + 1)) a ++ (numL (x / 256) m ++ [x % 256])
    rw [numL_add m a (x / 256), ← List.append_assoc, Int.pow_succ, Int.mul_comm, ← Int.ediv_ediv_of_nonneg (by omega)]
theorem numL_front (m : Nat) (x : Int) : numL x (m + 1) = (x / 256 ^ m % 256) :: numL x m := by
  rw [Nat.add_comm, numL_add m 1 x]
  rfl

/-- bytes are written from the last on -/
def wrTo (A X C : List Value) (x : Int) (n m : Nat) : List Value := A ++ (X.take (n - m) ++ (bs (numL x m) ++ C))
theorem wrTo_zero {A X C : List Value} {x : Int} {n : Nat} (h : X.length = n) : wrTo A X C x n 0 = A ++ (X ++ C) := by
  unfold wrTo
  rw [Nat.sub_zero, List.take_of_length_le (by omega)]
  rfl
theorem wrTo_all {A X C : List Value} {x : Int} {n : Nat} : wrTo A X C x n n = A ++ (bs (numL x n) ++ C) := by
  unfold wrTo
  rw [Nat.sub_self]
  rfl
theorem wrTo_len {A X C : List Value} {x : Int} {n m : Nat} (h : X.length = n) (hm : m ≤ n) : (wrTo A X C x n m).length = A.length + n + C.length := by
  unfold wrTo
  rw [List.length_append, List.length_append, List.length_append, List.length_take, bs_len, numL_len]
  omega
theorem wrTo_succ {A X C : List Value} {x : Int} {n m : Nat} (h : X.length = n) (hm : m < n) : (wrTo A X C x n m).set (A.length + (n - m - 1)) (.int .u8 (x / 256 ^ m % 256)) = wrTo A X C x n (m + 1) := by
  unfold wrTo
  rw [List.set_append_right _ _ (by omega), Nat.add_sub_cancel_left]
  congr 1
  obtain ⟨k, hk⟩ : ∃ k, n - m = k + 1 := ⟨n - m - 1, by omega⟩
  obtain ⟨y, hy⟩ : ∃ y, X[k]? = some y := ⟨_, List.getElem?_eq_getElem (by omega)⟩
  have hl : (X.take k).length = k := by rw [List.length_take]; omega
  rw [hk, show n - (m + 1) = k by omega, Nat.add_sub_cancel, List.take_add_one, hy, List.append_assoc, List.set_append_right _ _ (by omega), hl, Nat.sub_self, numL_front]
  rfl

set_option maxHeartbeats 1000000 in
theorem write_num (b t cap : Nat) (A X C : List Value) (x : Int) (n : Nat) (w : World) (hb : w.heap[b]? = some (.cells (A ++ (X ++ C)).toArray t)) (hx : X.length = n) (hn : n ≤ 8) :
    Calls Try.prog 51 #[.slice (some ⟨b, A.length, none⟩) n cap, i64 x] w fun e w' => e = .returned (.tuple #[]) ∧ w'.heap[b]? = some (.cells (A ++ (bs (numL x n) ++ C)).toArray t) ∧ Fr (fun k => k = b) w w' ∧ w'.heap.size = w.heap.size := by
  have HB := hid hb
  have HX := hid hx
  clear hb hx
  go_enter Try.func51, Try.ntmps51
  go_wp2
  go_loopw [1, 4] (fun x' i' wr => ∃ m : Nat, m ≤ n ∧ x' = i64 (x / 256 ^ m) ∧ i' = i64 ((n : Int) - 1 - m) ∧ wr.heap[b]? = some (.cells (wrTo A X C x n m).toArray t) ∧ Fr (fun k => k = b) w wr ∧ wr.heap.size = w.heap.size) (fun _ i' _ => (intOf i' + 1).toNat)
  case atStart => exact ⟨0, by omega, by simp, by simp, by rw [wrTo_zero HX.out]; exact HB.out, Fr.refl _ _, rfl⟩
  case round =>
    obtain ⟨m, hm, rfl, rfl, hwb, hwf, hws⟩ := hrel
    have HWB := hid hwb
    have HWF := hid hwf
    have HWS := hid hws
    by_cases hlt : m < n
    · obtain ⟨y, hy⟩ : ∃ y, y = x / 256 ^ m := ⟨_, rfl⟩
      obtain ⟨k, hk⟩ : ∃ k, n = m + 1 + k := ⟨n - m - 1, by omega⟩
      have e : (n : Int) - 1 - m = (k : Int) := by omega
      have HY := hid hy
      have hb2 : b < wr.heap.size := blk_lt hwb
      obtain ⟨v0, hv0⟩ : ∃ v, wr.cell? ⟨b, A.length + k, none⟩ = some v := by
        rw [cell_of_blk hwb]
        exact ⟨_, Array.getElem?_eq_getElem (by simp only [List.size_toArray]; rw [wrTo_len HX.out hm]; omega)⟩
      have f0 : wr.frozen? ⟨b, A.length + k, none⟩ = false := frozen_of_blk hwb _
      have k0 : (0 : Int) ≤ (k : Int) := by omega
      have k1 : (k : Int) < (n : Int) := by omega
      have HN := hid (show (wr.setCell ⟨b, A.length + k, none⟩ (.int .u8 (y % 256))).heap[b]? = some (.cells (wrTo A X C x n (m + 1)).toArray t) ∧ Fr (fun k => k = b) w (wr.setCell ⟨b, A.length + k, none⟩ (.int .u8 (y % 256))) ∧ (wr.setCell ⟨b, A.length + k, none⟩ (.int .u8 (y % 256))).heap.size = w.heap.size by
        refine ⟨?_, HWF.out.setCell rfl _ _, (size_setCell _ _ _).trans HWS.out⟩
        rw [blk_setCell HWB.out, ← wrTo_succ HX.out hlt, HY.out, show n - m - 1 = k by omega]
        simp)
      have HD := hid (show y / 256 = x / 256 ^ (m + 1) by rw [HY.out, Int.pow_succ, Int.ediv_ediv_of_nonneg (Int.le_of_lt (Int.pow_pos (by omega)))])
      have yb : y.fdiv 256 = y / 256 := Int.fdiv_eq_ediv_of_nonneg _ (by omega)
      rw [← hy, e]
      clear hwb hwf hws hy hk
      go_wp2
      refine ⟨⟨m + 1, by omega, by rw [HD.out], by rw [show (n : Int) - 1 - (m + 1 : Nat) = (k : Int) - 1 by omega], HN.out⟩, by simp [intOf]⟩
    · clear hwb hwf hws
      have em : m = n := by omega
      subst em
      rw [wrTo_all] at HWB
      go_wp2
      go_end0
      exact ⟨rfl, HWB.out, HWF.out, HWS.out⟩

set_option maxHeartbeats 1000000 in
theorem read_num (b o cap : Nat) (l : List Int) (w : World) (hl : ∀ j v, (bs l)[j]? = some v → w.cell? ⟨b, o + j, none⟩ = some v) (hb : ByteL l) (hn : l.length ≤ 8) (hn1 : 1 ≤ l.length) :
    Calls Try.prog 63 #[.slice (some ⟨b, o, none⟩) l.length cap] w fun e w' => e = .returned (i64 (readN l)) ∧ w' = w := by
  have HL := hid hl
  have HB := hid hb
  clear hl hb
  go_enter Try.func63, Try.ntmps63
  go_wp2
  go_loop [3, 8] (fun x' i' => ∃ k : Nat, k ≤ l.length ∧ i' = i64 k ∧ x' = i64 (IntKind.i64.wrap (readU (l.take k)))) (fun _ i' => l.length - (intOf i').toNat)
  case atStart => exact ⟨0, by omega, rfl, rfl⟩
  case round =>
    obtain ⟨k, hk, rfl, rfl⟩ := hrel
    by_cases hlt : k < l.length
    · obtain ⟨x, hx⟩ : ∃ x, l[k]? = some x := ⟨_, List.getElem?_eq_getElem hlt⟩
      have c0 : w.cell? ⟨b, o + k, none⟩ = some (.int .u8 x) := HL.out k _ (by unfold bs; rw [List.getElem?_map, hx]; rfl)
      obtain ⟨x0, x1⟩ := HB.out x (List.mem_iff_getElem?.2 ⟨k, hx⟩)
      have hbz : b < w.heap.size := World.block_lt_of_cell? _ _ c0
      have k0 : (0 : Int) ≤ (k : Int) := by omega
      have k1 : (k : Int) < (l.length : Int) := by omega
      have hrb := readU_bd (l := l.take k) fun y hy => HB.out y (List.mem_of_mem_take hy)
      go_wp2
      refine ⟨⟨k + 1, by omega, by go_num, ?_⟩, by simp [intOf]; omega⟩
      rw [readU_take hx, or_low _ _ (mul_low _) x0 x1, wrap_step]
    · have ek : k = l.length := by omega
      subst ek
      go_wp2
      go_ret
      rw [readN_wrap HB.out hn]
      exact ⟨rfl, rfl⟩
end Go.Proofs.Ythbbfjfekchdiaa
