import Derived.Test.YthbbfjfekchdiaaGreatXLeafWalks
import Derived.WalkKit
import Derived.WalkSpells
import Derived.WalkLawsBesides
import Derived.Deep.AppendLies
namespace Go.Proofs.YthbbfjfekchdiaaGreat
open Go.RowKit
theorem cell_of_blk {w : World} {B : Nat} {cs : Array Value} {t : TypeId} (h : w.heap[B]? = some (.cells cs t)) (j : Nat) : w.cell? ⟨B, j, none⟩ = cs[j]? := by
  simp [World.cell?, h]
theorem frozen_of_blk {w : World} {B : Nat} {cs : Array Value} {t : TypeId} (h : w.heap[B]? = some (.cells cs t)) (j : Nat) : w.frozen? ⟨B, j, none⟩ = false := by
  simp [World.frozen?, h]
theorem blk_setCell {w : World} {B : Nat} {cs : Array Value} {t : TypeId} (h : w.heap[B]? = some (.cells cs t)) (o : Nat) (u : Value) :
    (w.setCell ⟨B, o, none⟩ u).heap[B]? = some (.cells (cs.setIfInBounds o u) t) := by
  simp [World.setCell, Array.getElem?_modify, h]
theorem blk_setCell_far {w : World} {B : Nat} {a : Addr} {u : Value} (h : B ≠ a.block) : (w.setCell a u).heap[B]? = w.heap[B]? := Below.heap_setCell w a u B h
theorem size_setCell (w : World) (a : Addr) (u : Value) : (w.setCell a u).heap.size = w.heap.size := by simp [World.setCell]
theorem blk_lt {w : World} {B : Nat} {o : Obj} (h : w.heap[B]? = some o) : B < w.heap.size := by
  obtain ⟨hlt, _⟩ := Array.getElem?_eq_some_iff.1 h
  exact hlt
theorem blk_later {w w' : World} {n B : Nat} {o : Obj} (hb : Below n w w') (hn : B < n) (h : w.heap[B]? = some o) : w'.heap[B]? = some o := (hb.block B hn).trans h
theorem blk_alloc {w : World} {B : Nat} {o o' : Obj} (h : w.heap[B]? = some o) : (w.alloc o').heap[B]? = some o := by
  rw [Below.heap_alloc w o' B (blk_lt h)]; exact h
theorem blk_new (w : World) (o : Obj) : (w.alloc o).heap[w.heap.size]? = some o := heap_alloc_new w o
theorem owns_below {w w' : World} {base e size n : Nat} {v : Value} {xs : List Value} (h : w.ownsRow base e size v n xs) (hb : Below w.heap.size w w') : w'.ownsRow base e size v n xs := by
  obtain ⟨hl, h | ⟨g, cap, cur, hv, hg, hblk, r⟩⟩ := h
  · exact ⟨hl, .inl h⟩
  · exact ⟨hl, .inr ⟨g, cap, cur, hv, hg, blk_later hb (blk_lt hblk) hblk, r⟩⟩
theorem owns_base {w : World} {base base' e size n : Nat} {v : Value} {xs : List Value} (h : w.ownsRow base e size v n xs) (hb : base' ≤ base) : w.ownsRow base' e size v n xs := by
  obtain ⟨hl, h | ⟨g, cap, cur, hv, hg, r⟩⟩ := h
  · exact ⟨hl, .inl h⟩
  · exact ⟨hl, .inr ⟨g, cap, cur, hv, Nat.le_trans hb hg, r⟩⟩
theorem owns_block {w : World} {base e size n : Nat} {v : Value} {xs : List Value} (h : w.ownsRow base e size v n xs) (hn : 0 < n) :
    ∃ g cap cur, v = .slice (some ⟨g, 0, none⟩) n cap ∧ base ≤ g ∧ w.heap[g]? = some (.cells cur e) ∧ cur.toList.take (n * size) = xs ∧ n * size ≤ cur.size := by
  obtain ⟨_, ⟨_, h0⟩ | ⟨g, cap, cur, hv, hg, hblk, hc, hm, hs, ht⟩⟩ := h
  · omega
  · exact ⟨g, cap, cur, hv, hg, hblk, ht, by rw [hs]; exact Nat.mul_le_mul_right _ hc⟩
theorem owns_not {w : World} {base e size n : Nat} {v : Value} {xs : List Value} (h : w.ownsRow base e size v n xs) {k : Nat} (hk : k < base) : some k ≠ v.ownBlock := by
  intro x
  have := (h.lt k x.symm).1
  omega
end Go.Proofs.YthbbfjfekchdiaaGreat
namespace Go.Proofs.YthbbfjfekchdiaaGreat
open Go.RowKit
set_option linter.unusedSimpArgs false
theorem rb {a b : Bool} (h : a = b) : Ending.returned (.bool a) = .returned (.bool b) := by rw [h]
set_option maxHeartbeats 1000000 in
theorem covers_any (s k now t : Int) (w : World) (h0 : 0 ≤ s * k) (h1 : s * k ≤ 1000000000) (n0 : 0 ≤ now) (n1 : now ≤ 2147483647) (t0 : 0 ≤ t) (t1 : t ≤ 2147483647) :
    Calls Tryz.prog 68 #[.agg #[i64 s, i64 k], i64 now, i64 t] w fun e w' => e = .returned (.bool (decide (t ≤ now) && decide (now - t < s * k))) ∧ Below w.heap.size w w' := by
  obtain ⟨r, hr⟩ : ∃ r, r = s * k := ⟨_, rfl⟩
  rw [← hr] at h0 h1 ⊢
  have HR := hid hr
  clear hr
  by_cases hle : t ≤ now
  · have HE := hid (show (decide (t ≤ now) && decide (now - t < r)) = decide (now - t < r) by simp [hle])
    go_enter Tryz.func68, Tryz.ntmps68
    go_wp2_with (go_at_call 40; refine (reach_val s k r _ HR h0 h1).mono ?_; rintro e w1 ⟨rfl, hb⟩)
    have e : (w.alloc (.cells #[i64 s, i64 k] 37)).heap.size = w.heap.size + 1 := by simp
    go_ret
    exact ⟨rb HE.out.symm, ((Below.refl _ _).alloc (Nat.le_refl _) _).trans (hb.mono (by rw [e]; omega))⟩
  · have HE := hid (show (decide (t ≤ now) && decide (now - t < r)) = false by simp [hle])
    go_enter Tryz.func68, Tryz.ntmps68
    go_wp2
    go_ret
    exact ⟨rb HE.out.symm, (Below.refl _ _).alloc (Nat.le_refl _) _⟩
structure RArc (w : World) (p : Nat) (c : Cfg) : Prop where
  ok : c.Ok
  cells : ∃ gl, w.heap[p]? = some (.cells #[i64 c.s0, i64 c.k0, i64 c.s1, i64 c.k1, i64 c.s2, i64 c.k2, i64 c.s3, i64 c.k3, i64 c.m, i64 c.f, .slice (some ⟨gl, 0, none⟩) c.many c.many] 70)
theorem cfg_cell {w : World} {p : Nat} {c : Cfg} {u : Value} (h : w.heap[p]? = some (.cells #[i64 c.s0, i64 c.k0, i64 c.s1, i64 c.k1, i64 c.s2, i64 c.k2, i64 c.s3, i64 c.k3, i64 c.m, i64 c.f, u] 70)) (i : Nat) (hi : i < 4) :
    w.cell? ⟨p, i * 2, none⟩ = some (i64 (c.s i)) ∧ w.cell? ⟨p, i * 2 + 1, none⟩ = some (i64 (c.k i)) := by
  have h4 : i = 0 ∨ i = 1 ∨ i = 2 ∨ i = 3 := by omega
  rcases h4 with rfl | rfl | rfl | rfl
  all_goals exact ⟨cell_of_blk h _, cell_of_blk h _⟩
theorem ret_i {a b : Int} (h : a = b) : Ending.returned (i64 a) = .returned (i64 b) := by rw [h]
set_option maxHeartbeats 1000000 in
theorem first_ref (p : Nat) (c : Cfg) (now t : Int) (w : World) (hr : RArc w p c) (n0 : 0 ≤ now) (n1 : now ≤ 2147483647) (t0 : 0 ≤ t) (t1 : t ≤ 2147483647) :
    Calls Tryz.prog 81 #[.pointer (some ⟨p, 0, none⟩), i64 now, i64 t] w fun e w' => e = .returned (i64 (firstI c now t)) ∧ Below w.heap.size w w' := by
  obtain ⟨hok, gl, hp⟩ := hr
  have HBD := hid (bdB_all (c.ok_iff.1 hok).2.2.2.2.1)
  have h4 := c.many_le
  have HP := hid hp
  have hz := blk_lt hp
  clear hp hok
  go_enter Tryz.func81, Tryz.ntmps81
  go_wp2
  go_loopw [7] (fun i wr => ∃ k : Nat, k ≤ c.many ∧ i = i64 k ∧ (∀ j, j < k → covB c j now t = false) ∧ Below w.heap.size w wr) (fun i _ => c.many - (intOf i).toNat)
  case atStart => exact ⟨0, by omega, rfl, fun j hj => absurd hj (by omega), Below.refl _ _⟩
  case round =>
    obtain ⟨k, hk, rfl, hcov, hb⟩ := hrel
    have HC := hid hcov
    have HB := hid hb
    have hzr := hb.size
    have hp := blk_later hb hz HP.out
    have x10 : wr.cell? ⟨p, 10, none⟩ = some (.slice (some ⟨gl, 0, none⟩) c.many c.many) := cell_of_blk hp 10
    have hpz : p < wr.heap.size := blk_lt hp
    by_cases hlt : k < c.many
    case neg =>
      clear hcov hb hp
      go_wp2
      go_ret
      exact ⟨ret_i (firstI_none fun j hj => HC.out j (by omega)).symm, HB.out⟩
    obtain ⟨y0, y1⟩ := cfg_cell hp k (by omega)
    have hbd := HBD.out k hlt
    obtain ⟨r0, r1⟩ := Cfg.prod_bd hbd
    have k0 : (0 : Int) ≤ (k : Int) := by omega
    have k1 : (k : Int) < 4 := by omega
    clear hcov hb hp hbd
    go_wp2_with fail
    refine (covers_any (c.s k) (c.k k) now t _ r0 r1 n0 n1 t0 t1).mono ?_
    rintro e w1 ⟨rfl, hb1⟩
    have HB1 := hid (HB.out.trans (hb1.mono hzr))
    clear hb1
    cases hcv : covB c k now t with
    | true =>
      have hcv' : (decide (t ≤ now) && decide (now - t < c.s k * c.k k)) = true := hcv
      have HX := hid hcv
      rw [hcv']
      clear hcv hcv'
      go_wp2
      go_ret
      exact ⟨ret_i (firstI_at hlt HC.out HX.out).symm, HB1.out⟩
    | false =>
      have hcv' : (decide (t ≤ now) && decide (now - t < c.s k * c.k k)) = false := hcv
      have HX := hid (show ∀ j, j < k + 1 → covB c j now t = false from fun j hj => by
        by_cases e : j = k
        · subst e; exact hcv
        · exact HC.out j (by omega))
      rw [hcv']
      clear hcv hcv'
      go_wp2
      go_roundw
      case rel => first | exact ⟨k + 1, by omega, by go_num, HX.out, HB1.out⟩ | ((repeat apply Exists.intro); exact ⟨⟨k + 1, by omega, by go_num, HX.out, HB1.out⟩, rfl⟩)
      case measure => simp [intOf]; omega
end Go.Proofs.YthbbfjfekchdiaaGreat
namespace Go.Proofs.YthbbfjfekchdiaaGreat
open Go.RowKit
set_option linter.unusedSimpArgs false
def ptCells (l : List Pt) : List Value := l.flatMap fun q => [i64 q.1, i64 q.2]
theorem ptCells_length (l : List Pt) : (ptCells l).length = l.length * 2 := by
  induction l with
  | nil => rfl
  | cons q l ih => rw [show ptCells (q :: l) = [i64 q.1, i64 q.2] ++ ptCells l from rfl, List.length_append, ih]; simp; omega
theorem ptCells_at : ∀ (l : List Pt) (j : Nat) (q : Pt), l[j]? = some q → (ptCells l)[j * 2]? = some (i64 q.1) ∧ (ptCells l)[j * 2 + 1]? = some (i64 q.2)
  | [], j, q, h => by simp at h
  | x :: l, 0, q, h => by
    simp at h; subst h
    exact ⟨rfl, rfl⟩
  | x :: l, j + 1, q, h => by
    have r := ptCells_at l j q (by simpa using h)
    rw [show ptCells (x :: l) = i64 x.1 :: i64 x.2 :: ptCells l from rfl, show (j + 1) * 2 = j * 2 + 1 + 1 by omega]
    exact r
def RowAt (w : World) (v : Value) (l : List Pt) : Prop :=
  ∃ a cap, v = .slice a l.length cap ∧ ∀ (j : Nat) (q : Pt), l[j]? = some q → ∃ b, a = some ⟨b, 0, none⟩ ∧ b < w.heap.size ∧ w.cell? ⟨b, j * 2, none⟩ = some (i64 q.1) ∧ w.cell? ⟨b, j * 2 + 1, none⟩ = some (i64 q.2)
theorem rowAt_of {w : World} {base : Nat} {v : Value} {l : List Pt} (h : w.ownsRow base 48 2 v l.length (ptCells l)) : RowAt w v l := by
  obtain ⟨_, ⟨hv, hn⟩ | ⟨g, cap, cur, hv, _, hg, _, _, hs, ht⟩⟩ := h
  · have e : l = [] := List.length_eq_zero_iff.1 hn
    subst e
    exact ⟨_, _, hv, fun j q hj => by simp at hj⟩
  · refine ⟨_, _, hv, fun j q hj => ⟨g, rfl, blk_lt hg, ?_⟩⟩
    have hlt : j < l.length := by
      obtain ⟨x, _⟩ := List.getElem?_eq_some_iff.1 hj
      exact x
    obtain ⟨c0, c1⟩ := ptCells_at l j q hj
    have hc : ∀ o, o < l.length * 2 → w.cell? ⟨g, o, none⟩ = (ptCells l)[o]? := by
      intro o ho
      rw [cell_of_blk hg, ← ht, List.getElem?_take_of_lt ho]
      simp
    exact ⟨(hc _ (by omega)).trans c0, (hc _ (by omega)).trans c1⟩
theorem RowAt.later {w w' : World} {v : Value} {l : List Pt} (h : RowAt w v l) (hb : Below w.heap.size w w') : RowAt w' v l := by
  obtain ⟨a, cap, hv, r⟩ := h
  refine ⟨a, cap, hv, fun j q hj => ?_⟩
  obtain ⟨b, ha, hz, c0, c1⟩ := r j q hj
  exact ⟨b, ha, Nat.lt_of_lt_of_le hz hb.size, cell_later hb c0, cell_later hb c1⟩
theorem hasL_none {t : Int} {l : List Pt} (h : ∀ (j : Nat) (q : Pt), l[j]? = some q → (q.1 == t) = false) : hasL t l = none := by
  unfold hasL
  rw [List.find?_eq_none]
  intro x hx
  obtain ⟨j, hj⟩ := List.mem_iff_getElem?.1 hx
  rw [h j x hj]; simp
theorem hasL_at {t : Int} : ∀ {l : List Pt} {k : Nat} {q : Pt}, l[k]? = some q → (∀ (j : Nat) (q' : Pt), j < k → l[j]? = some q' → (q'.1 == t) = false) → (q.1 == t) = true → hasL t l = some q
  | [], k, q, h, _, _ => by simp at h
  | x :: l, 0, q, h, _, hq => by
    simp at h; subst h
    unfold hasL
    rw [List.find?_cons_of_pos (p := fun q : Pt => q.1 == t) hq]
  | x :: l, k + 1, q, h, hz, hq => by
    unfold hasL
    rw [List.find?_cons_of_neg (p := fun q : Pt => q.1 == t) (by rw [hz 0 x (by omega) rfl]; simp)]
    exact hasL_at (l := l) (k := k) (by simpa using h) (fun j q' hj h' => hz (j + 1) q' (by omega) (by simpa using h')) hq
def hasP (t : Int) (l : List Pt) : Pt := (hasL t l).getD (0, 0)
set_option maxHeartbeats 1000000 in
theorem has_ref (p gl i n : Nat) (t : Int) (l : List Pt) (v : Value) (w : World) (x10 : w.cell? ⟨p, 10, none⟩ = some (.slice (some ⟨gl, 0, none⟩) n n)) (hi : i < n) (xi : w.cell? ⟨gl, i, none⟩ = some v) (hr : RowAt w v l) (hl : l.length ≤ 1000) :
    Calls Tryz.prog 105 #[.pointer (some ⟨p, 0, none⟩), i64 i, i64 t] w fun e w' => e = .returned (.tuple #[.agg #[i64 (hasP t l).1, i64 (hasP t l).2], .bool (hasL t l).isSome]) ∧ Below w.heap.size w w' := by
  obtain ⟨a, cap, rfl, hrow⟩ := hr
  have HR := hid hrow
  have hpz : p < w.heap.size := World.block_lt_of_cell? _ _ x10
  have hgz : gl < w.heap.size := World.block_lt_of_cell? _ _ xi
  have i0 : (0 : Int) ≤ (i : Int) := by omega
  have i1 : (i : Int) < (n : Int) := by omega
  clear hrow
  go_enter Tryz.func105, Tryz.ntmps105
  go_wp2
  go_loop [8] (fun k' => ∃ k : Nat, k ≤ l.length ∧ k' = i64 k ∧ ∀ (j : Nat) (q : Pt), j < k → l[j]? = some q → (q.1 == t) = false) (fun k' => l.length - (intOf k').toNat)
  case atStart => exact ⟨0, by omega, rfl, fun j q hj => absurd hj (by omega)⟩
  case round =>
    obtain ⟨k, hk, rfl, hz⟩ := hrel
    have HZ := hid hz
    clear hz
    by_cases hlt : k < l.length
    case neg =>
      have HN := hid (hasL_none (t := t) (l := l) fun j q hj => HZ.out j q (by have := List.getElem?_eq_some_iff.1 hj; obtain ⟨x, _⟩ := this; omega) hj)
      go_wp2
      refine bodyPost_ret (v := .tuple #[.agg #[i64 0, i64 0], .bool false]) (by simp [results, Tryz.results105, go_sem]) rfl ⟨?_, ?_⟩
      · unfold hasP; rw [HN.out]; rfl
      · exact (Below.refl _ _).alloc (Nat.le_refl _) _
    obtain ⟨q, hq⟩ : ∃ q, l[k]? = some q := ⟨_, List.getElem?_eq_getElem hlt⟩
    obtain ⟨b, rfl, hbz, c0, c1⟩ := HR.out k q hq
    have HQ := hid hq
    have k0 : (0 : Int) ≤ (k : Int) := by omega
    have k1 : (k : Int) < (l.length : Int) := by omega
    clear hq
    cases hqt : (q.1 == t) with
    | true =>
      have HX := hid (hasL_at HQ.out HZ.out hqt)
      go_wp2
      refine bodyPost_ret (v := .tuple #[.agg #[i64 q.1, i64 q.2], .bool true]) (by simp [results, Tryz.results105, go_sem]) rfl ⟨?_, ?_⟩
      · unfold hasP; rw [HX.out]; rfl
      · exact (Below.refl _ _).alloc (Nat.le_refl _) _
    | false =>
      have HX := hid (show ∀ (j : Nat) (q' : Pt), j < k + 1 → l[j]? = some q' → (q'.1 == t) = false from fun j q' hj h' => by
        by_cases e : j = k
        · subst e
          have : q' = q := by rw [HQ.out] at h'; simpa using h'.symm
          rw [this]; exact hqt
        · exact HZ.out j q' (by omega) h')
      go_wp2
      go_round
      case rel => exact ⟨k + 1, by omega, by go_num, HX.out⟩
      case measure => simp [intOf]; omega
end Go.Proofs.YthbbfjfekchdiaaGreat
