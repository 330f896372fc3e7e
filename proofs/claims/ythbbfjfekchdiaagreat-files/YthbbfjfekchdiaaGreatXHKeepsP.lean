import Derived.Test.YthbbfjfekchdiaaGreatXRFetch
import Derived.Test.YthbbfjfekchdiaaGreatXRFetch2
import Derived.Deep.AppendLies
import Derived.Deep.AppendSrc
import Derived.Deep.DeepCutAuto
namespace Go.Proofs.YthbbfjfekchdiaaGreat
open Go.RowKit
def marks (mc : List Value) (n : Nat) : List Value := (List.replicate n mc).flatten
theorem marks_zero (mc : List Value) : marks mc 0 = [] := rfl
theorem marks_succ (mc : List Value) (n : Nat) : marks mc (n + 1) = mc ++ marks mc n := by unfold marks; rw [List.replicate_succ, List.flatten_cons]
theorem marks_add (mc : List Value) (a b : Nat) : marks mc (a + b) = marks mc a ++ marks mc b := by
  unfold marks; rw [← List.flatten_append, List.replicate_append_replicate]
theorem marks_length (mc : List Value) (n : Nat) : (marks mc n).length = n * mc.length := by
  induction n with
  | zero => simp [marks]
  | succ n ih => rw [marks_succ, List.length_append, ih, Nat.succ_mul]; omega
theorem marks_take (mc : List Value) {m n : Nat} (h : m ≤ n) : (marks mc n).take (m * mc.length) = marks mc m := by
  obtain ⟨k, rfl⟩ : ∃ k, n = m + k := ⟨n - m, by omega⟩
  rw [marks_add, List.take_append_of_le_length (by rw [marks_length]; omega), List.take_of_length_le (by rw [marks_length]; omega)]
theorem marks_mem {mc : List Value} {n : Nat} {u : Value} (h : u ∈ marks mc n) : u ∈ mc := by
  unfold marks at h
  obtain ⟨l, hl, hu⟩ := List.mem_flatten.1 h
  rw [(List.mem_replicate.1 hl).2] at hu
  exact hu
theorem marks_one (mc : List Value) : marks mc 1 = mc := by rw [marks_succ, marks_zero, List.append_nil]
theorem marks_at (mc : List Value) : ∀ (n j r : Nat), j < n → r < mc.length → (marks mc n)[j * mc.length + r]? = mc[r]?
  | 0, _, _, h, _ => absurd h (by omega)
  | n + 1, 0, r, _, hr => by rw [marks_succ, Nat.zero_mul, Nat.zero_add, List.getElem?_append_left hr]
  | n + 1, j + 1, r, h, hr => by
    rw [marks_succ, List.getElem?_append_right (by rw [Nat.succ_mul]; omega), show (j + 1) * mc.length + r - mc.length = j * mc.length + r by rw [Nat.succ_mul]; omega]
    exact marks_at mc n j r (by omega) hr
section
variable {P : Program} (w : World)
theorem run_append_mark (t ty : TypeId) (base : Nat) (e : TypeId) (i : TypeInfo) (z : Value) (size bytes : Nat) (ht : P.underlying t = some (.slice e)) (hi : P.info? e = some i) (hz : i.zero = some z)
    (hsize : i.size = size) (hby : i.bytes = bytes) (hzs : z.cells.size = size) (hsz : 0 < size) (mc : List Value) (hmc : mc.length = size) (h1 : ∀ u ∈ mc, u.oneCell' = true)
    (v : Value) (n : Nat) (hown : w.ownsRow base e size v n (marks mc n)) (ad : Addr) (k c : Nat) (hnews : ∀ j u, (marks mc k)[j]? = some u → w.cell? (ad.add j) = some u)
    (hk : 0 < k) (h63 : n + k ≤ maxLen) (hbytes : (n + k) * bytes ≤ 140737488355328) (hbase : base ≤ w.heap.size) :
    ∃ v' w', (Builtin.append_ #[t, t] ty #[v, .slice (some ad) k c]).run P w = .ok v' w' ∧ w'.ownsRow base e size v' (n + k) (marks mc (n + k)) ∧ w.grownBy w' v.ownBlock ∧
      ∀ b u n', n' ≤ n + k → w.ownsRow b e size u n' (marks mc n') → w'.ownsRow b e size u n' (marks mc n') := by
  have hml : (marks mc k).length = k * size := by rw [marks_length, hmc]
  have hm1 : ∀ u ∈ marks mc k, u.oneCell' = true := fun u hu => h1 u (marks_mem hu)
  obtain ⟨g, cap, w', hr, h2, h3, h4, h5⟩ := run_append_lies (P := P) w t ty base e i z size bytes ht hi hz hsize hby hzs hsz v n (marks mc n) hown ad k c (marks mc k) hml hnews hm1 hk h63 hbytes hbase w.heap.size rfl
  rw [← marks_add] at h2
  refine ⟨_, w', hr, h2, h3, fun b u n' hn' hu => ?_⟩
  by_cases hsame : u.ownBlock = none ∨ u.ownBlock ≠ v.ownBlock
  · exact hu.kept h3 hsame
  have hub : ∃ g0, u.ownBlock = some g0 ∧ v.ownBlock = some g0 := by
    cases hx : u.ownBlock with
    | none => exact absurd (.inl hx) hsame
    | some g0 => exact ⟨g0, rfl, Classical.byContradiction fun hne => hsame (.inr (by rw [hx]; exact fun e => hne e.symm))⟩
  obtain ⟨g0, hu0, hv0⟩ := hub
  obtain ⟨_, ⟨rfl, _⟩ | ⟨g1, cap1, cur, rfl, hb1, hg1, hc1, hm1', hs1, ht1⟩⟩ := hown
  · simp [Value.ownBlock] at hv0
  simp only [Value.ownBlock, Option.some.injEq] at hv0
  subst hv0
  obtain ⟨hul, ⟨rfl, _⟩ | ⟨g2, cap2, cur2, rfl, hb2, hg2, hc2, hm2', hs2, ht2⟩⟩ := hu
  · simp [Value.ownBlock] at hu0
  simp only [Value.ownBlock, Option.some.injEq] at hu0
  subst hu0
  rw [hg1] at hg2
  simp only [Option.some.injEq, Obj.cells.injEq, and_true] at hg2
  subst hg2
  have ecap : cap1 = cap2 := Nat.eq_of_mul_eq_mul_right hsz (by rw [← hs1, ← hs2])
  subst ecap
  have hsrc := Src.ofSlice (P := P) w (size := i.size) ht ad k c (marks mc k) (by rw [hsize]; exact hml) hnews hm1
  refine ⟨hul, .inr ⟨g2, cap1, ?_⟩⟩
  by_cases hroom : n + k ≤ cap1
  · have hcell : ∀ j, j < (marks mc k).length → (w.cell? ⟨g2, 0 + n * i.size + j, none⟩).isSome = true := by
      intro j hj
      rw [hml] at hj
      rw [cell_of_blk hg1, Array.getElem?_eq_getElem (show 0 + n * i.size + j < cur.size from ?_)]; · rfl
      rw [hs1, hsize]
      have : (n + k) * size ≤ cap1 * size := Nat.mul_le_mul_right _ hroom
      rw [Nat.add_mul] at this
      omega
    have hrm := run_append_room_src (P := P) w t t ty e i ht hi g2 0 n cap1 (.slice (some ad) k c) k (marks mc k) hsrc hroom hcell (fun j _ => frozen_of_blk hg1 _)
    rw [hrm] at hr
    simp only [Result.ok.injEq, Value.slice.injEq, Option.some.injEq, Addr.mk.injEq, and_true, true_and] at hr
    obtain ⟨⟨hgg, hcc⟩, _⟩ := hr
    subst hgg
    obtain ⟨_, ⟨hbad, _⟩ | ⟨g3, cap3, cur3, hv3, hb3, hg3, hc3, hm3, hs3, ht3⟩⟩ := h2
    · cases hbad
    simp only [Value.slice.injEq, Option.some.injEq, Addr.mk.injEq, and_true, true_and] at hv3
    obtain ⟨rfl, rfl⟩ := hv3
    subst hcc
    refine ⟨cur3, rfl, hb2, hg3, hc2, hm2', hs3, ?_⟩
    have : cur3.toList.take (n' * size) = (cur3.toList.take ((n + k) * size)).take (n' * size) := by
      rw [List.take_take, Nat.min_eq_left (Nat.mul_le_mul_right _ hn')]
    rw [this, ht3, ← hmc]
    exact marks_take mc hn'
  · have hold : (Builtin.firstCells i.size n (.slice (some ⟨g2, 0, none⟩) n cap1)).run P w.drew = .ok (marks mc n).toArray w.drew :=
      run_firstCells_some w.drew i.size n ⟨g2, 0, none⟩ n cap1 (marks mc n) (by rw [marks_length, hmc, hsize]) (fun j u hj => by
        have := World.ownsRow.cells (w := w) (base := base) (e := e) (size := size) (v := .slice (some ⟨g2, 0, none⟩) n cap1) (n := n) (xs := marks mc n) ⟨by rw [marks_length, hmc], .inr ⟨g2, cap1, cur, rfl, hb1, hg1, hc1, hm1', hs1, ht1⟩⟩ rfl j u hj
        simpa using this)
    have hfit : Builtin.nextslicecap (n + k) cap1 * i.bytes ≤ 281474976710656 := by
      have := Nat.mul_le_mul_right i.bytes (nextslicecap_le (need := n + k) (old := cap1) (by omega))
      rw [Nat.mul_assoc, hby] at this
      rw [hby]
      omega
    have hgr := run_append_grow_src (P := P) w t t ty e i z ht hi hz (some ⟨g2, 0, none⟩) n cap1 (marks mc n) hold (.slice (some ad) k c) k (marks mc k) hsrc (by omega) (by unfold maxLen at h63; omega) hfit
    rw [hgr] at hr
    simp only [Result.ok.injEq] at hr
    obtain ⟨_, hw⟩ := hr
    refine ⟨cur, rfl, hb2, ?_, hc2, hm2', hs2, ht2⟩
    rw [← hw]
    exact blk_alloc (w := w.drew) hg1
theorem wpList_append_mark {ops : Array Oper} {rest : List Oper} {o : Oper} {a : Act} {Q : Exit → Act → World → Prop} (hgd : o.guard = none) (s x : Operand) (t : TypeId)
    (ho : o.op = .call { callee := .builtin .append, args := #[s, x], argTypes := #[t, t] }) (base : Nat) (e : TypeId) (i : TypeInfo) (z : Value) (size bytes : Nat) (ht : P.underlying t = some (.slice e)) (hi : P.info? e = some i) (hz : i.zero = some z)
    (hsize : i.size = size) (hby : i.bytes = bytes) (hzs : z.cells.size = size) (hsz : 0 < size) (mc : List Value) (hmc : mc.length = size) (h1 : ∀ u ∈ mc, u.oneCell' = true)
    (v : Value) (n : Nat) (hs : a.eval s = v) (hown : w.ownsRow base e size v n (marks mc n)) (ad : Addr) (k c : Nat) (hx : a.eval x = .slice (some ad) k c) (hnews : ∀ j u, (marks mc k)[j]? = some u → w.cell? (ad.add j) = some u)
    (hk : 0 < k) (h63 : n + k ≤ maxLen) (hbytes : (n + k) * bytes ≤ 140737488355328) (hbase : base ≤ w.heap.size)
    (h : ∀ v' w', w'.ownsRow base e size v' (n + k) (marks mc (n + k)) → w.grownBy w' v.ownBlock → (∀ b u n', n' ≤ n + k → w.ownsRow b e size u n' (marks mc n') → w'.ownsRow b e size u n' (marks mc n')) → wpList P ops Q rest (a.put o.dst v') w') :
    wpList P ops Q (o :: rest) a w := by
  obtain ⟨v', w', hr, h2, h3, h4⟩ := run_append_mark (P := P) w t o.type base e i z size bytes ht hi hz hsize hby hzs hsz mc hmc h1 v n hown ad k c hnews hk h63 hbytes hbase
  refine wpList_plain hgd fun _ hK => ?_
  unfold Oper.wp execOp
  simp only [ho, resolve, invoke, builtin, Sem.run_bind, Sem.run_pure, Result.andThen_ok, List.map_toArray, List.map_cons, List.map_nil, hs, hx, hr]
  exact hK _ _ (h v' w' h2 h3 h4)
end
end Go.Proofs.YthbbfjfekchdiaaGreat
namespace Go.Proofs.YthbbfjfekchdiaaGreat
open Go.RowKit
theorem owns_setCell {w : World} {base e size n : Nat} {v : Value} {xs : List Value} (h : w.ownsRow base e size v n xs) {g : Nat} (hg : v.ownBlock = some g) (j : Nat) (u : Value) : (w.setCell ⟨g, j, none⟩ u).ownsRow base e size v n (xs.set j u) := by
  obtain ⟨hl, ⟨rfl, _⟩ | ⟨g1, cap, cur, rfl, hb, hblk, hc, hm, hs, ht⟩⟩ := h
  · simp [Value.ownBlock] at hg
  simp only [Value.ownBlock, Option.some.injEq] at hg
  subst hg
  refine ⟨by rw [List.length_set]; exact hl, .inr ⟨g1, cap, _, rfl, hb, blk_setCell hblk j u, hc, hm, by simpa using hs, ?_⟩⟩
  rw [← ht, Array.toList_setIfInBounds, List.take_set]
theorem owns_set_far {w : World} {base e size n : Nat} {v : Value} {xs : List Value} (h : w.ownsRow base e size v n xs) {g : Nat} (hg : v.ownBlock ≠ some g) (j : Nat) (u : Value) : (w.setCell ⟨g, j, none⟩ u).ownsRow base e size v n xs :=
  owns_far h fun b hb _ => blk_setCell_far (a := ⟨g, j, none⟩) (fun e => hg (by rw [hb]; exact congrArg some e))
theorem owns_type {w : World} {b1 b2 e1 e2 s1 s2 n1 n2 : Nat} {v1 v2 : Value} {x1 x2 : List Value} (h1 : w.ownsRow b1 e1 s1 v1 n1 x1) (h2 : w.ownsRow b2 e2 s2 v2 n2 x2) (he : e1 ≠ e2) : v1.ownBlock = none ∨ v1.ownBlock ≠ v2.ownBlock := by
  obtain ⟨_, ⟨rfl, _⟩ | ⟨g1, _, _, rfl, _, hb1, _⟩⟩ := h1
  · exact .inl rfl
  obtain ⟨_, ⟨rfl, _⟩ | ⟨g2, _, _, rfl, _, hb2, _⟩⟩ := h2
  · exact .inr (by simp [Value.ownBlock])
  · refine .inr fun e => ?_
    simp only [Value.ownBlock, Option.some.injEq] at e
    subst e
    rw [hb1] at hb2
    simp only [Option.some.injEq, Obj.cells.injEq] at hb2
    exact he hb2.2.1
theorem owns_blk {w : World} {b1 e1 s1 n1 : Nat} {v1 : Value} {x1 : List Value} (h1 : w.ownsRow b1 e1 s1 v1 n1 x1) {B e2 : Nat} {cs : Array Value} (h2 : w.heap[B]? = some (.cells cs e2)) (he : e1 ≠ e2) : v1.ownBlock ≠ some B := by
  obtain ⟨_, ⟨rfl, _⟩ | ⟨g1, _, _, rfl, _, hb1, _⟩⟩ := h1
  · simp [Value.ownBlock]
  · intro e
    simp only [Value.ownBlock, Option.some.injEq] at e
    subst e
    rw [hb1] at h2
    simp only [Option.some.injEq, Obj.cells.injEq] at h2
    exact he h2.2.1
theorem Fr.grown' {In : Nat → Prop} {w w1 w2 : World} {row : Option Nat} (h : Fr In w w1) (hg : w1.grownBy w2 row) (hr : ∀ k, row = some k → In k ∨ w.heap.size ≤ k) : Fr In w w2 := by
  refine ⟨hg.os.trans h.os, hg.tape.trans h.tape, hg.output.trans h.output, Nat.le_trans h.size hg.size, fun k hk hn => ?_⟩
  rw [hg.block k (Nat.lt_of_lt_of_le hk h.size) fun e => by rcases hr k e.symm with x | x; · exact hn x
                                                            · omega]
  exact h.block k hk hn
theorem Fr.weak {In In' : Nat → Prop} {w w' : World} (h : Fr In w w') (hs : ∀ k, k < w.heap.size → In k → In' k) : Fr In' w w' :=
  ⟨h.os, h.tape, h.output, h.size, fun k hk hn => h.block k hk fun x => hn (hs k hk x)⟩
theorem Fr.set {In : Nat → Prop} {w w' : World} (h : Fr In w w') {b : Nat} (hb : In b ∨ w.heap.size ≤ b) (o : Nat) (u : Value) : Fr In w (w'.setCell ⟨b, o, none⟩ u) := by
  refine ⟨h.os, h.tape, h.output, by rw [size_setCell]; exact h.size, fun k hk hn => ?_⟩
  have hkb : k ≠ b := fun e => by subst e; rcases hb with x | x; · exact hn x
                                  · omega
  rw [blk_setCell_far (a := ⟨b, o, none⟩) hkb]
  exact h.block k hk hn
def markTo (mc xs : List Value) (i : Nat) : List Value := marks mc i ++ xs.drop (i * mc.length)
theorem markTo_zero (mc xs : List Value) : markTo mc xs 0 = xs := by unfold markTo; rw [marks_zero, Nat.zero_mul, List.drop_zero, List.nil_append]
theorem markTo_end (mc xs : List Value) {n : Nat} (h : xs.length = n * mc.length) : markTo mc xs n = marks mc n := by unfold markTo; rw [List.drop_of_length_le (by omega), List.append_nil]
theorem markTo_two (a b : Value) (xs : List Value) {i n : Nat} (h : xs.length = n * 2) (hi : i < n) : ((markTo [a, b] xs i).set (i * 2) a).set (i * 2 + 1) b = markTo [a, b] xs (i + 1) := by
  unfold markTo
  have hl : (marks [a, b] i).length = i * 2 := marks_length _ _
  obtain ⟨x, y, rest, hd⟩ : ∃ x y rest, xs.drop (i * 2) = x :: y :: rest := by
    have : 2 ≤ (xs.drop (i * 2)).length := by rw [List.length_drop]; omega
    match h : xs.drop (i * 2) with
    | [] => rw [h] at this; simp at this
    | [x] => rw [h] at this; simp at this
    | x :: y :: rest => exact ⟨x, y, rest, rfl⟩
  have hd2 : xs.drop ((i + 1) * 2) = rest := by
    rw [show (i + 1) * 2 = i * 2 + 2 by omega, ← List.drop_drop, hd]; rfl
  show ((marks [a, b] i ++ xs.drop (i * 2)).set (i * 2) a).set (i * 2 + 1) b = marks [a, b] (i + 1) ++ xs.drop ((i + 1) * 2)
  rw [hd, hd2, List.set_append_right _ _ (by omega), hl, Nat.sub_self, List.set_append_right _ _ (by omega), hl, show i * 2 + 1 - i * 2 = 1 by omega, marks_add, marks_one, List.append_assoc]
  rfl
end Go.Proofs.YthbbfjfekchdiaaGreat
namespace Go.Proofs.YthbbfjfekchdiaaGreat
open Go.RowKit
abbrev Rep := World → (Nat → Prop) → Nat → RDb → Prop
def RDb.new (c : Cfg) : RDb := ⟨c, List.replicate c.many []⟩
structure ProgOk (R : Rep) : Prop where
  weak : ∀ {w : World} {In In' : Nat → Prop} {p : Nat} {d : RDb}, R w In p d → (∀ k, In k → In' k) → R w In' p d
  lim : ∀ {w : World} {In : Nat → Prop} {p : Nat} {d : RDb}, R w In p d → R w (fun k => In k ∧ k < w.heap.size) p d
  fr : ∀ {w w' : World} {In Out : Nat → Prop} {p : Nat} {d : RDb}, R w In p d → Fr Out w w' → (∀ k, In k → ¬ Out k) → R w' In p d
  check : ∀ (c : Cfg) (w : World), Calls Tryz.prog 20 #[.agg c.cells] w fun e w' => e = .returned (i64 c.err) ∧ Below w.heap.size w w'
  createNo : ∀ (c : Cfg) (w : World), ¬ c.Ok → Calls Tryz.prog 21 #[.agg c.cells] w fun e w' => e = .returned (.tuple #[.pointer none, i64 2]) ∧ Below w.heap.size w w'
  create : ∀ (c : Cfg) (w : World), c.Ok → Calls Tryz.prog 21 #[.agg c.cells] w fun e w' => ∃ p, e = .returned (.tuple #[.pointer (some ⟨p, 0, none⟩), i64 0]) ∧ Below w.heap.size w w' ∧ R w' (fun k => w.heap.size ≤ k) p (RDb.new c)
  config : ∀ (p : Nat) (d : RDb) (In : Nat → Prop) (w : World), R w In p d → d.Ok → Calls Tryz.prog 28 #[.pointer (some ⟨p, 0, none⟩)] w fun e w' => e = .returned (.agg d.c.cells) ∧ Below w.heap.size w w'
  update : ∀ (p : Nat) (now : Int) (v : Value) (l : List Pt) (d : RDb) (In : Nat → Prop) (w : World), R w In p d → d.Ok → RowG w v l → OutOf In v → l.length ≤ 140737488351232 →
    Calls Tryz.prog 51 #[.pointer (some ⟨p, 0, none⟩), i64 now, v] w fun e w' => e = .returned (.tuple #[i64 (updErr d.c now l).1, i64 (updErr d.c now l).2]) ∧ R w' (Up In w.heap.size) p (updR d now l) ∧ Fr In w w'
  fetch : ∀ (p : Nat) (now fr un : Int) (d : RDb) (In : Nat → Prop) (w : World), R w In p d → d.Ok →
    Calls Tryz.prog 54 #[.pointer (some ⟨p, 0, none⟩), i64 now, i64 fr, i64 un] w fun e w' => ∃ v, e = .returned (.tuple #[.agg #[i64 (serA d now fr un), i64 (serS d now fr un), v], i64 (fetchErr d.c now fr un)]) ∧ Below w.heap.size w w' ∧ w'.ownsRow w.heap.size 48 2 v (serP d now fr un).length (ptCells (serP d now fr un)) ∧ (fetchErr d.c now fr un ≠ 0 → v = .slice none 0 0)
theorem RRep.lim {w : World} {In : Nat → Prop} {p : Nat} {d : RDb} (h : RRep w In p d) : RRep w (fun k => In k ∧ k < w.heap.size) p d := by
  obtain ⟨gl, vs, a, b, c, e, f⟩ := h.mem
  refine ⟨⟨h.inp, blk_lt a⟩, gl, vs, a, b, c, ⟨e, blk_lt b⟩, fun i l hl => ?_⟩
  obtain ⟨v, x, y, z⟩ := f i l hl
  exact ⟨v, x, y, fun b hb => ⟨z b hb, (y.lt b hb).2⟩⟩
structure Two (R : Rep) (w : World) (P Q : Nat → Prop) (pd pr : Nat) (d : RDb) : Prop where
  p : R w P pd d
  r : RRep w Q pr d
  ok : d.Ok
  dis : ∀ k, P k → ¬ Q k
  ltp : ∀ k, P k → k < w.heap.size
  ltr : ∀ k, Q k → k < w.heap.size
def Both (R : Rep) (w : World) (In : Nat → Prop) (pd pr : Nat) (d : RDb) : Prop := ∃ P Q, Two R w P Q pd pr d ∧ ∀ k, P k ∨ Q k → In k
theorem Both.fr {R : Rep} (H : ProgOk R) {w w' : World} {In Out : Nat → Prop} {pd pr : Nat} {d : RDb} (h : Both R w In pd pr d) (hf : Fr Out w w') (hd : ∀ k, k < w.heap.size → In k → ¬ Out k) : Both R w' In pd pr d := by
  obtain ⟨P, Q, h, hi⟩ := h
  refine ⟨P, Q, ⟨H.fr h.p hf fun k hk => hd k (h.ltp k hk) (hi k (.inl hk)), h.r.fr hf fun k hk => hd k (h.ltr k hk) (hi k (.inr hk)), h.ok, h.dis, fun k hk => Nat.lt_of_lt_of_le (h.ltp k hk) hf.size, fun k hk => Nat.lt_of_lt_of_le (h.ltr k hk) hf.size⟩, hi⟩
theorem Both.weak {R : Rep} {w : World} {In In' : Nat → Prop} {pd pr : Nat} {d : RDb} (h : Both R w In pd pr d) (hs : ∀ k, k < w.heap.size → In k → In' k) : Both R w In' pd pr d := by
  obtain ⟨P, Q, h, hi⟩ := h
  exact ⟨P, Q, h, fun k hk => hs k (hk.elim (h.ltp k) (h.ltr k)) (hi k hk)⟩
theorem Both.below {R : Rep} (H : ProgOk R) {w w' : World} {In : Nat → Prop} {pd pr : Nat} {d : RDb} (h : Both R w In pd pr d) (hb : Below w.heap.size w w') : Both R w' In pd pr d :=
  h.fr H (Fr.below (In := fun _ => False) hb) fun _ _ _ x => x
theorem Both.ok {R : Rep} {w : World} {In : Nat → Prop} {pd pr : Nat} {d : RDb} (h : Both R w In pd pr d) : d.Ok := by obtain ⟨_, _, h, _⟩ := h; exact h.ok
theorem Both.mk' {R : Rep} (H : ProgOk R) {w w1 w2 : World} {pd pr : Nat} {d : RDb} (hw : w.heap.size ≤ w1.heap.size) (h1 : R w1 (fun k => w.heap.size ≤ k) pd d) (hb : Below w1.heap.size w1 w2) (h2 : RRep w2 (fun k => w1.heap.size ≤ k) pr d) (hok : d.Ok) : Both R w2 (fun k => w.heap.size ≤ k) pd pr d := by
  refine ⟨fun k => w.heap.size ≤ k ∧ k < w1.heap.size, fun k => w1.heap.size ≤ k ∧ k < w2.heap.size, ⟨?_, ?_, hok, ?_, ?_, ?_⟩, ?_⟩
  · exact H.fr (H.lim h1) (Fr.below (In := fun _ => False) hb) fun _ _ x => x
  · exact h2.lim
  · rintro k ⟨_, a⟩ ⟨b, _⟩; omega
  · rintro k ⟨_, a⟩; have := hb.size; omega
  · rintro k ⟨_, a⟩; exact a
  · rintro k (⟨a, _⟩ | ⟨a, _⟩)
    · exact a
    · exact Nat.le_trans hw a
end Go.Proofs.YthbbfjfekchdiaaGreat
namespace Go.Proofs.YthbbfjfekchdiaaGreat
open Go.RowKit
set_option linter.unusedSimpArgs false
theorem Tryz.infoPtRow : (Tryz.prog.info? 41).map (fun i => (i.zero, i.size, i.bytes)) = some (some (.slice none 0 0), 1, 24) := by kernel_rfl
def mkP (n : Nat) : List Value := [i64 (-1000 - (n : Int) / 4), i64 0]
theorem mkP_one (n : Nat) : ∀ u ∈ mkP n, u.oneCell' = true := by intro u hu; simp [mkP] at hu; rcases hu with rfl | rfl <;> rfl
theorem slice_form {w : World} {base e size n : Nat} {v : Value} {xs : List Value} (h : w.ownsRow base e size v n xs) : ∃ a c, v = .slice a n c := by
  obtain ⟨_, ⟨hv, h0⟩ | ⟨g, cap, cur, hv, _⟩⟩ := h
  · exact ⟨none, 0, by rw [hv, h0]⟩
  · exact ⟨_, _, hv⟩
structure KI (B base : Nat) (c0 c1 c2 : Value) (w wr : World) (vl pv0 : Value) (pv : Value) (es : List Value) (rows : List (Value × Nat)) (mc : List Value) (m0 : Value) : Prop where
  blk : wr.heap[B]? = some (.cells #[c0, c1, c2, pv] 35)
  own : wr.ownsRow (B + 1) 41 1 pv es.length es
  rows : ∀ r ∈ rows, wr.ownsRow base 48 2 r.1 r.2 (marks mc r.2)
  mb : wr.heap[w.heap.size]? = some (.cells #[m0, i64 0] 48)
  fr : Fr (fun k => k = B ∨ pv0.ownBlock = some k ∨ vl.ownBlock = some k) w wr
  pvb : ∀ k, pv.ownBlock = some k → pv0.ownBlock = some k ∨ w.heap.size < k
  vlb : ∀ k, vl.ownBlock = some k → k < w.heap.size
  pvl : vl.ownBlock = none ∨ vl.ownBlock ≠ pv.ownBlock
theorem KI.alloc {B base : Nat} {c0 c1 c2 : Value} {w wr : World} {vl pv0 pv : Value} {es : List Value} {rows : List (Value × Nat)} {mc : List Value} {m0 : Value} (h : KI B base c0 c1 c2 w wr vl pv0 pv es rows mc m0) (O : Obj) : KI B base c0 c1 c2 w (wr.alloc O) vl pv0 pv es rows mc m0 :=
  ⟨blk_alloc h.blk, h.own.alloc O, fun r hr => (h.rows r hr).alloc O, blk_alloc h.mb, h.fr.alloc O, h.pvb, h.vlb, h.pvl⟩
theorem KI.mark {B base : Nat} {c0 c1 c2 : Value} {w wr w' : World} {vl pv0 pv : Value} {es : List Value} {rows : List (Value × Nat)} {mc : List Value} {m0 : Value} (h : KI B base c0 c1 c2 w wr vl pv0 pv es rows mc m0) {v' : Value} {n' : Nat}
    (hn : ∀ r ∈ rows, r.2 ≤ n') (ho : w'.ownsRow base 48 2 v' n' (marks mc n')) (hg : wr.grownBy w' vl.ownBlock) (hm : ∀ b u k, k ≤ n' → wr.ownsRow b 48 2 u k (marks mc k) → w'.ownsRow b 48 2 u k (marks mc k)) {kl : Nat} {xl : List Value} (hvl : wr.ownsRow base 48 2 vl kl xl) :
    KI B base c0 c1 c2 w w' vl pv0 pv es (rows ++ [(v', n')]) mc m0 := by
  refine ⟨?_, ?_, ?_, ?_, ?_, h.pvb, h.vlb, h.pvl⟩
  · exact (hg.block B (blk_lt h.blk) (fun e => owns_blk hvl h.blk (by decide) e.symm)).trans h.blk
  · exact h.own.kept hg (owns_type h.own hvl (by decide))
  · intro r hr
    rw [List.mem_append] at hr
    rcases hr with hr | hr
    · exact hm _ _ _ (hn r hr) (h.rows r hr)
    · simp at hr; subst hr; exact ho
  · exact (hg.block _ (blk_lt h.mb) (fun e => by have := h.vlb _ e.symm; omega)).trans h.mb
  · exact h.fr.grown' hg fun k hk => .inl (.inr (.inr hk))
theorem KI.book {B base : Nat} {c0 c1 c2 : Value} {w wr w' : World} {vl pv0 pv : Value} {es : List Value} {rows : List (Value × Nat)} {mc : List Value} {m0 : Value} (h : KI B base c0 c1 c2 w wr vl pv0 pv es rows mc m0) {O : Obj} {g cap : Nat} {u : Value}
    (ho : w'.ownsRow (B + 1) 41 1 (.slice (some ⟨g, 0, none⟩) (es.length + 1) cap) (es.length + 1) (es ++ [u])) (hg : (wr.alloc O).grownBy w' pv.ownBlock) (hat : pv.ownBlock = some g ∨ g = wr.heap.size + 1) :
    KI B base c0 c1 c2 w (w'.setCell ⟨B, 3, none⟩ (.slice (some ⟨g, 0, none⟩) (es.length + 1) cap)) vl pv0 (.slice (some ⟨g, 0, none⟩) (es.length + 1) cap) (es ++ [u]) rows mc m0 := by
  have ha := h.alloc O
  have hz : w.heap.size < wr.heap.size := blk_lt h.mb
  have hb' : w'.heap[B]? = some (.cells #[c0, c1, c2, pv] 35) := (hg.block B (blk_lt ha.blk) (owns_not h.own (by omega))).trans ha.blk
  have hrow : ∀ r ∈ rows, (w'.setCell ⟨B, 3, none⟩ (.slice (some ⟨g, 0, none⟩) (es.length + 1) cap)).ownsRow base 48 2 r.1 r.2 (marks mc r.2) := fun r hr => by
    have h1 := (ha.rows r hr).kept hg (owns_type (ha.rows r hr) ha.own (by decide))
    exact owns_set_far h1 (owns_blk h1 hb' (by decide)) _ _
  refine ⟨blk_setCell hb' 3 _, ?_, hrow, ?_, ?_, ?_, h.vlb, ?_⟩
  · rw [List.length_append]
    exact ownsRow_setCell_below ho (by simp) _
  · have hm : w'.heap[w.heap.size]? = some (.cells #[m0, i64 0] 48) := (hg.block _ (blk_lt ha.mb) (fun e => by
      rcases h.pvb _ e.symm with x | x
      · exact absurd (blk_lt h.mb) (by
          have hown := h.own
          have := owns_blk hown h.mb (by decide)
          exact absurd e.symm this)
      · omega)).trans ha.mb
    rw [blk_setCell_far (a := ⟨B, 3, none⟩) (fun e => by
      have e' : w.heap.size = B := e
      have := h.mb
      rw [e', h.blk] at this
      simp at this)]
    exact hm
  · refine Fr.set (h.fr.alloc O |>.grown' hg fun k hk => ?_) (.inl (.inl rfl)) 3 _
    rcases h.pvb k hk with x | x
    · exact .inl (.inr (.inl x))
    · exact .inr (by omega)
  · intro k hk
    simp only [Value.ownBlock, Option.some.injEq] at hk
    subst hk
    rcases hat with x | x
    · exact h.pvb _ x
    · exact .inr (by omega)
  · rcases hat with x | x
    · rcases h.pvl with y | y
      · exact .inl y
      · exact .inr (by rw [x] at y; exact y)
    · refine .inr fun e => ?_
      have := h.vlb g (by rw [e]; rfl)
      omega
set_option maxRecDepth 4000 in
set_option maxHeartbeats 4000000 in
theorem keepsPoints_any (B base : Nat) (c0 c1 c2 pv vl : Value) (es xs : List Value) (n : Nat) (w : World) (hB : w.heap[B]? = some (.cells #[c0, c1, c2, pv] 35)) (hpv : w.ownsRow (B + 1) 41 1 pv es.length es)
    (hvl : w.ownsRow base 48 2 vl n xs) (hn : n ≤ 1000) (hes : (es.length + 4) * 24 ≤ 140737488355328) (hbase : base ≤ w.heap.size) :
    Calls Tryz.prog 56 #[.pointer (some ⟨B, 1, none⟩), vl] w fun e w' => e = .returned (.tuple #[]) ∧ ∃ pv' v1 v2 v3, KI B base c0 c1 c2 w w' vl pv pv' ((((es ++ [vl]) ++ [v1]) ++ [v2]) ++ [v3]) [(vl, n), (v1, n + 1), (v2, n + 2), (v3, n + 3)] (mkP es.length) (i64 (-1000 - (es.length : Int) / 4)) := by
  have HB := hid hB
  have HPV := hid hpv
  have HVL := hid hvl
  obtain ⟨ap, cp, rfl⟩ : ∃ a c, pv = .slice a es.length c := by
    obtain ⟨_, ⟨hv, h0⟩ | ⟨g, cap, cur, hv, _⟩⟩ := hpv
    · exact ⟨none, 0, by rw [hv, h0]⟩
    · exact ⟨_, _, hv⟩
  obtain ⟨al, cl, rfl⟩ : ∃ a c, vl = .slice a n c := by
    obtain ⟨_, ⟨hv, h0⟩ | ⟨g, cap, cur, hv, _⟩⟩ := hvl
    · exact ⟨none, 0, by rw [hv, h0]⟩
    · exact ⟨_, _, hv⟩
  have b3 : w.cell? ⟨B, 3, none⟩ = some (.slice ap es.length cp) := cell_of_blk hB 3
  have hBz : B < w.heap.size := blk_lt hB
  clear hB hpv hvl
  go_enter Tryz.func56, Tryz.ntmps56
  go_wp2
  go_loopw [5] (fun i' wr => ∃ i : Nat, i ≤ n ∧ i' = i64 i ∧ wr.heap[w.heap.size]? = some (.cells #[i64 (-1000 - (es.length : Int) / 4), i64 0] 48) ∧ wr.ownsRow base 48 2 (.slice al n cl) n (markTo (mkP es.length) xs i) ∧ Fr (fun k => (Value.slice al n cl).ownBlock = some k) w wr) (fun i' _ => n - (intOf i').toNat)
  case atStart => exact ⟨0, by omega, rfl, blk_new w _, by rw [markTo_zero]; exact HVL.out.alloc _, (Fr.refl _ _).alloc _⟩
  case round =>
    obtain ⟨i, hi, rfl, hm, ho, hf⟩ := hrel
    have HM := hid hm
    have HO := hid ho
    have HF := hid hf
    have m0 : wr.cell? ⟨w.heap.size, 0, none⟩ = some (i64 (-1000 - (es.length : Int) / 4)) := cell_of_blk hm 0
    have m1 : wr.cell? ⟨w.heap.size, 1, none⟩ = some (i64 0) := cell_of_blk hm 1
    have hzr : w.heap.size < wr.heap.size := blk_lt hm
    clear hm ho hf
    by_cases hlt : i < n
    · obtain ⟨g, c', cur, hv, hgb, hblk, hc, hm', hs, ht⟩ : ∃ g cap cur, Value.slice al n cl = .slice (some ⟨g, 0, none⟩) n cap ∧ base ≤ g ∧ wr.heap[g]? = some (.cells cur 48) ∧ n ≤ cap ∧ cap ≤ maxLen ∧ cur.size = cap * 2 ∧ cur.toList.take (n * 2) = markTo (mkP es.length) xs i := by
        obtain ⟨_, ⟨_, h0⟩ | h⟩ := HO.out
        · omega
        · exact h
      simp only [Value.slice.injEq, true_and] at hv
      obtain ⟨rfl, rfl⟩ := hv
      have hgz : g < wr.heap.size := blk_lt hblk
      have hgw : g < w.heap.size := by
        have := (HVL.out.lt g rfl).2
        exact this
      have s0 : (wr.cell? ⟨g, i * 2, none⟩).isSome = true := by rw [cell_of_blk hblk, Array.getElem?_eq_getElem (by omega)]; rfl
      have s1 : (wr.cell? ⟨g, i * 2 + 1, none⟩).isSome = true := by rw [cell_of_blk hblk, Array.getElem?_eq_getElem (by omega)]; rfl
      have f0 : wr.frozen? ⟨g, i * 2, none⟩ = false := frozen_of_blk hblk _
      have f1 : wr.frozen? ⟨g, i * 2 + 1, none⟩ = false := frozen_of_blk hblk _
      obtain ⟨x0, hx0⟩ := Option.isSome_iff_exists.1 s0
      obtain ⟨x1, hx1⟩ := Option.isSome_iff_exists.1 s1
      have i0 : (0 : Int) ≤ (i : Int) := by omega
      have i1 : (i : Int) < (n : Int) := by omega
      have HL := hid (show xs.length = n * 2 from HVL.out.1)
      clear hblk hc hm' hs ht s0 s1
      have HN := hid (show ((wr.setCell ⟨g, i * 2, none⟩ (i64 (-1000 - (es.length : Int) / 4))).setCell ⟨g, i * 2 + 1, none⟩ (i64 0)).heap[w.heap.size]? = some (.cells #[i64 (-1000 - (es.length : Int) / 4), i64 0] 48) ∧ ((wr.setCell ⟨g, i * 2, none⟩ (i64 (-1000 - (es.length : Int) / 4))).setCell ⟨g, i * 2 + 1, none⟩ (i64 0)).ownsRow base 48 2 (.slice (some ⟨g, 0, none⟩) n cl) n (markTo (mkP es.length) xs (i + 1)) ∧ Fr (fun k => (Value.slice (some ⟨g, 0, none⟩) n cl).ownBlock = some k) w ((wr.setCell ⟨g, i * 2, none⟩ (i64 (-1000 - (es.length : Int) / 4))).setCell ⟨g, i * 2 + 1, none⟩ (i64 0)) by
        refine ⟨?_, ?_, ?_⟩
        · rw [blk_setCell_far (by show w.heap.size ≠ g; omega), blk_setCell_far (by show w.heap.size ≠ g; omega)]
          exact HM.out
        · have h := owns_setCell (owns_setCell HO.out (g := g) rfl (i * 2) (i64 (-1000 - (es.length : Int) / 4))) (g := g) rfl (i * 2 + 1) (i64 0)
          rw [show mkP es.length = [i64 (-1000 - (es.length : Int) / 4), i64 0] from rfl] at h ⊢
          rw [markTo_two _ _ xs HL.out hlt] at h
          exact h
        · exact (HF.out.set (.inl rfl) _ _).set (.inl rfl) _ _)
      go_wp2
      exact ⟨⟨i + 1, by omega, by go_num, HN.out⟩, by simp [intOf]; omega⟩
    · have ei : i = n := by omega
      subst ei
      have HK0 := hid (show KI B base c0 c1 c2 w wr (.slice al i cl) (.slice ap es.length cp) (.slice ap es.length cp) es [(.slice al i cl, i)] (mkP es.length) (i64 (-1000 - (es.length : Int) / 4)) from by
        have hne := owns_blk HVL.out HB.out (by decide)
        refine ⟨(HF.out.block B hBz hne).trans HB.out, owns_far HPV.out fun b hb hlt => HF.out.block b hlt ?_, ?_, HM.out, HF.out.weak fun k _ h => .inr (.inr h), fun k h => .inl h, fun k hk => (HVL.out.lt k hk).2, owns_type HVL.out HPV.out (by decide)⟩
        · rcases owns_type HVL.out HPV.out (by decide) with y | y
          · rw [y]; simp
          · rw [← hb]; exact y
        · intro r hr
          simp at hr
          subst hr
          have h := HO.out
          rw [markTo_end (mkP es.length) xs HVL.out.1] at h
          exact h)
      have HLT := hid (show ∀ k, (Value.slice al i cl).ownBlock = some k → k < w.heap.size from fun k hk => (HVL.out.lt k hk).2)
      clear HO HF HM HVL hlt hi
      obtain ⟨q9, hi0, hz0, hz1', hz2'⟩ := info_parts Tryz.infoPoint
      have HI0 := hid (And.intro hi0 (And.intro hz0 (And.intro hz1' hz2')))
      obtain ⟨p9, pi0, pz0, pz1', pz2'⟩ := info_parts Tryz.infoPtRow
      have PI0 := hid (And.intro pi0 (And.intro pz0 (And.intro pz1' pz2')))
      clear hi0 hz0 hz1' hz2' pi0 pz0 pz1' pz2'
      go_wp2_with (at_builtin; refine wpList_append_mark _ (by rfl) (.tmp 27) (.tmp 29) 41 (by rfl) base 48 q9 _ 2 16 Tryz.underlying41 HI0.out.1 HI0.out.2.1 HI0.out.2.2.1 HI0.out.2.2.2 rfl (by decide) (mkP es.length) rfl (mkP_one _) (.slice al i cl) i (by rfl) ((HK0.out.alloc _).rows (_, i) (by simp)) ⟨wr.heap.size, 0, none⟩ 1 1 (by rfl) (World.news_of_block (blk_new wr _)) (by decide) ?_ ?_ ?_ ?_)
      · unfold maxLen; omega
      · omega
      · simp; omega
      intro v1 w1 ho1 hg1 hm1
      have HK1 := hid ((HK0.out.alloc _).mark (by intro r hr; simp at hr; subst hr; simp) ho1 hg1 hm1 ((HK0.out.alloc _).rows (_, i) (by simp)))
      obtain ⟨a1, d1, rfl⟩ := slice_form ho1
      have x0 : w1.cell? ⟨w.heap.size, 0, none⟩ = some (i64 (-1000 - (es.length : Int) / 4)) := cell_of_blk HK1.out.mb 0
      have x1 : w1.cell? ⟨w.heap.size, 1, none⟩ = some (i64 0) := cell_of_blk HK1.out.mb 1
      have hz1 : w.heap.size < w1.heap.size := blk_lt HK1.out.mb
      clear ho1 hg1 hm1 m0 m1 HK0
      go_wp2_with (at_builtin; refine wpList_append_mark _ (by rfl) (.tmp 31) (.tmp 34) 41 (by rfl) base 48 q9 _ 2 16 Tryz.underlying41 HI0.out.1 HI0.out.2.1 HI0.out.2.2.1 HI0.out.2.2.2 rfl (by decide) (mkP es.length) rfl (mkP_one _) (.slice al i cl) i (by rfl) ((HK1.out.alloc _).rows (_, i) (by simp)) ⟨w1.heap.size, 0, none⟩ 2 2 (by rfl) (World.news_of_block (blk_new w1 _)) (by decide) ?_ ?_ ?_ ?_)
      · unfold maxLen; omega
      · omega
      · simp; omega
      intro v2 w2 ho2 hg2 hm2
      have HK2 := hid ((HK1.out.alloc _).mark (by intro r hr; simp at hr; rcases hr with rfl | rfl <;> simp) ho2 hg2 hm2 ((HK1.out.alloc _).rows (_, i) (by simp)))
      obtain ⟨a2, d2, rfl⟩ := slice_form ho2
      have x20 : w2.cell? ⟨w.heap.size, 0, none⟩ = some (i64 (-1000 - (es.length : Int) / 4)) := cell_of_blk HK2.out.mb 0
      have x21 : w2.cell? ⟨w.heap.size, 1, none⟩ = some (i64 0) := cell_of_blk HK2.out.mb 1
      have hz2 : w.heap.size < w2.heap.size := blk_lt HK2.out.mb
      clear ho2 hg2 hm2 x0 x1 HK1
      go_wp2_with (at_builtin; refine wpList_append_mark _ (by rfl) (.tmp 36) (.tmp 40) 41 (by rfl) base 48 q9 _ 2 16 Tryz.underlying41 HI0.out.1 HI0.out.2.1 HI0.out.2.2.1 HI0.out.2.2.2 rfl (by decide) (mkP es.length) rfl (mkP_one _) (.slice al i cl) i (by rfl) ((HK2.out.alloc _).rows (_, i) (by simp)) ⟨w2.heap.size, 0, none⟩ 3 3 (by rfl) (World.news_of_block (blk_new w2 _)) (by decide) ?_ ?_ ?_ ?_)
      · unfold maxLen; omega
      · omega
      · simp; omega
      intro v3 w3 ho3 hg3 hm3
      have HK3 := hid ((HK2.out.alloc _).mark (by intro r hr; simp at hr; rcases hr with rfl | rfl | rfl <;> simp) ho3 hg3 hm3 ((HK2.out.alloc _).rows (_, i) (by simp)))
      obtain ⟨a3, d3, rfl⟩ := slice_form ho3
      have x30 : w3.cell? ⟨w.heap.size, 0, none⟩ = some (i64 (-1000 - (es.length : Int) / 4)) := cell_of_blk HK3.out.mb 0
      have x31 : w3.cell? ⟨w.heap.size, 1, none⟩ = some (i64 0) := cell_of_blk HK3.out.mb 1
      have hz3 : w.heap.size < w3.heap.size := blk_lt HK3.out.mb
      clear ho3 hg3 hm3 x20 x21 HK2
      clear x30 x31
      have b0 : w3.cell? ⟨B, 3, none⟩ = some (.slice ap es.length cp) := cell_of_blk HK3.out.blk 3
      have e0 : w3.frozen? ⟨B, 3, none⟩ = false := frozen_of_blk HK3.out.blk 3
      have hB0 : B < w3.heap.size := blk_lt HK3.out.blk
      go_wp2_with (at_builtin; refine wpList_append_lies _ (by rfl) (.tmp 46) (.tmp 48) 31 (by rfl) (B + 1) 41 p9 _ 1 24 Tryz.underlying31 PI0.out.1 PI0.out.2.1 PI0.out.2.2.1 PI0.out.2.2.2 rfl (by decide) (.slice ap es.length cp) es.length es (by rfl) (HK3.out.own.alloc _) ⟨w3.heap.size, 0, none⟩ 1 1 [.slice al i cl] (by rfl) rfl (World.news_of_block (blk_new w3 _)) (by simp [Value.oneCell']) (by decide) ?_ ?_ ?_ (w3.heap.size + 1) (by simp) ?_)
      · unfold maxLen; omega
      · omega
      · simp; omega
      intro g0 cap0 t4 ho hg hat hlt'
      obtain ⟨es0, hes0⟩ : ∃ l, l = es ++ [.slice al i cl] := ⟨_, rfl⟩
      have HK4 := hid (HK3.out.book (u := .slice al i cl) ho hg hat)
      rw [← hes0] at HK4
      have HE0 := hid hes0
      have hl0 : es0.length ≤ es.length + 1 := by rw [hes0]; simp
      have q0 : t4.cell? ⟨B, 3, none⟩ = some (.slice ap es.length cp) := cell_of_blk ((hg.block B (by simp; omega) (owns_not HK3.out.own (by omega))).trans (blk_alloc HK3.out.blk)) 3
      have r0 : t4.frozen? ⟨B, 3, none⟩ = false := frozen_of_blk ((hg.block B (by simp; omega) (owns_not HK3.out.own (by omega))).trans (blk_alloc HK3.out.blk)) 3
      have hB0' : B < t4.heap.size := World.block_lt_of_cell? _ _ q0
      clear ho hg hat hlt' b0 e0 hes0
      go_upto_region 9 with fail
      generalize hw4 : t4.setCell ⟨B, 3, none⟩ (.slice (some ⟨g0, 0, none⟩) (es.length + 1) cap0) = w4 at HK4 ⊢
      clear hw4 q0 r0 hB0' HK3
      have b1 : w4.cell? ⟨B, 3, none⟩ = some (.slice (some ⟨g0, 0, none⟩) (es.length + 1) cap0) := cell_of_blk HK4.out.blk 3
      have e1 : w4.frozen? ⟨B, 3, none⟩ = false := frozen_of_blk HK4.out.blk 3
      have hB1 : B < w4.heap.size := blk_lt HK4.out.blk
      go_wp2_with (at_builtin; refine wpList_append_lies _ (by rfl) (.tmp 56) (.tmp 58) 31 (by rfl) (B + 1) 41 p9 _ 1 24 Tryz.underlying31 PI0.out.1 PI0.out.2.1 PI0.out.2.2.1 PI0.out.2.2.2 rfl (by decide) (.slice (some ⟨g0, 0, none⟩) (es.length + 1) cap0) es0.length es0 (by rfl) (HK4.out.own.alloc _) ⟨w4.heap.size, 0, none⟩ 1 1 [.slice a1 (i + 1) d1] (by rfl) rfl (World.news_of_block (blk_new w4 _)) (by simp [Value.oneCell']) (by decide) ?_ ?_ ?_ (w4.heap.size + 1) (by simp) ?_)
      · unfold maxLen; omega
      · omega
      · simp; omega
      intro g1 cap1 t5 ho hg hat hlt'
      obtain ⟨es1, hes1⟩ : ∃ l, l = es0 ++ [.slice a1 (i + 1) d1] := ⟨_, rfl⟩
      have HK5 := hid (HK4.out.book (u := .slice a1 (i + 1) d1) ho hg hat)
      rw [← hes1] at HK5
      have HE1 := hid hes1
      have hl1 : es1.length ≤ es0.length + 1 := by rw [hes1]; simp
      have q1 : t5.cell? ⟨B, 3, none⟩ = some (.slice (some ⟨g0, 0, none⟩) (es.length + 1) cap0) := cell_of_blk ((hg.block B (by simp; omega) (owns_not HK4.out.own (by omega))).trans (blk_alloc HK4.out.blk)) 3
      have r1 : t5.frozen? ⟨B, 3, none⟩ = false := frozen_of_blk ((hg.block B (by simp; omega) (owns_not HK4.out.own (by omega))).trans (blk_alloc HK4.out.blk)) 3
      have hB1' : B < t5.heap.size := World.block_lt_of_cell? _ _ q1
      clear ho hg hat hlt' b1 e1 hes1
      go_upto_region 10 with fail
      generalize hw5 : t5.setCell ⟨B, 3, none⟩ (.slice (some ⟨g1, 0, none⟩) (es0.length + 1) cap1) = w5 at HK5 ⊢
      clear hw5 q1 r1 hB1' HK4
      have b2 : w5.cell? ⟨B, 3, none⟩ = some (.slice (some ⟨g1, 0, none⟩) (es0.length + 1) cap1) := cell_of_blk HK5.out.blk 3
      have e2 : w5.frozen? ⟨B, 3, none⟩ = false := frozen_of_blk HK5.out.blk 3
      have hB2 : B < w5.heap.size := blk_lt HK5.out.blk
      go_wp2_with (at_builtin; refine wpList_append_lies _ (by rfl) (.tmp 66) (.tmp 68) 31 (by rfl) (B + 1) 41 p9 _ 1 24 Tryz.underlying31 PI0.out.1 PI0.out.2.1 PI0.out.2.2.1 PI0.out.2.2.2 rfl (by decide) (.slice (some ⟨g1, 0, none⟩) (es0.length + 1) cap1) es1.length es1 (by rfl) (HK5.out.own.alloc _) ⟨w5.heap.size, 0, none⟩ 1 1 [.slice a2 (i + 2) d2] (by rfl) rfl (World.news_of_block (blk_new w5 _)) (by simp [Value.oneCell']) (by decide) ?_ ?_ ?_ (w5.heap.size + 1) (by simp) ?_)
      · unfold maxLen; omega
      · omega
      · simp; omega
      intro g2 cap2 t6 ho hg hat hlt'
      obtain ⟨es2, hes2⟩ : ∃ l, l = es1 ++ [.slice a2 (i + 2) d2] := ⟨_, rfl⟩
      have HK6 := hid (HK5.out.book (u := .slice a2 (i + 2) d2) ho hg hat)
      rw [← hes2] at HK6
      have HE2 := hid hes2
      have hl2 : es2.length ≤ es1.length + 1 := by rw [hes2]; simp
      have q2 : t6.cell? ⟨B, 3, none⟩ = some (.slice (some ⟨g1, 0, none⟩) (es0.length + 1) cap1) := cell_of_blk ((hg.block B (by simp; omega) (owns_not HK5.out.own (by omega))).trans (blk_alloc HK5.out.blk)) 3
      have r2 : t6.frozen? ⟨B, 3, none⟩ = false := frozen_of_blk ((hg.block B (by simp; omega) (owns_not HK5.out.own (by omega))).trans (blk_alloc HK5.out.blk)) 3
      have hB2' : B < t6.heap.size := World.block_lt_of_cell? _ _ q2
      clear ho hg hat hlt' b2 e2 hes2
      go_upto_region 11 with fail
      generalize hw6 : t6.setCell ⟨B, 3, none⟩ (.slice (some ⟨g2, 0, none⟩) (es1.length + 1) cap2) = w6 at HK6 ⊢
      clear hw6 q2 r2 hB2' HK5
      have b3 : w6.cell? ⟨B, 3, none⟩ = some (.slice (some ⟨g2, 0, none⟩) (es1.length + 1) cap2) := cell_of_blk HK6.out.blk 3
      have e3 : w6.frozen? ⟨B, 3, none⟩ = false := frozen_of_blk HK6.out.blk 3
      have hB3 : B < w6.heap.size := blk_lt HK6.out.blk
      go_wp2_with (at_builtin; refine wpList_append_lies _ (by rfl) (.tmp 76) (.tmp 78) 31 (by rfl) (B + 1) 41 p9 _ 1 24 Tryz.underlying31 PI0.out.1 PI0.out.2.1 PI0.out.2.2.1 PI0.out.2.2.2 rfl (by decide) (.slice (some ⟨g2, 0, none⟩) (es1.length + 1) cap2) es2.length es2 (by rfl) (HK6.out.own.alloc _) ⟨w6.heap.size, 0, none⟩ 1 1 [.slice a3 (i + 3) d3] (by rfl) rfl (World.news_of_block (blk_new w6 _)) (by simp [Value.oneCell']) (by decide) ?_ ?_ ?_ (w6.heap.size + 1) (by simp) ?_)
      · unfold maxLen; omega
      · omega
      · simp; omega
      intro g3 cap3 t7 ho hg hat hlt'
      obtain ⟨es3, hes3⟩ : ∃ l, l = es2 ++ [.slice a3 (i + 3) d3] := ⟨_, rfl⟩
      have HK7 := hid (HK6.out.book (u := .slice a3 (i + 3) d3) ho hg hat)
      rw [← hes3] at HK7
      have HE3 := hid hes3
      have hl3 : es3.length ≤ es2.length + 1 := by rw [hes3]; simp
      have q3 : t7.cell? ⟨B, 3, none⟩ = some (.slice (some ⟨g2, 0, none⟩) (es1.length + 1) cap2) := cell_of_blk ((hg.block B (by simp; omega) (owns_not HK6.out.own (by omega))).trans (blk_alloc HK6.out.blk)) 3
      have r3 : t7.frozen? ⟨B, 3, none⟩ = false := frozen_of_blk ((hg.block B (by simp; omega) (owns_not HK6.out.own (by omega))).trans (blk_alloc HK6.out.blk)) 3
      have hB3' : B < t7.heap.size := World.block_lt_of_cell? _ _ q3
      clear ho hg hat hlt' b3 e3 hes3
      go_wp2
      go_end0
      refine ⟨rfl, .slice (some ⟨g3, 0, none⟩) (es2.length + 1) cap3, .slice a1 (i + 1) d1, .slice a2 (i + 2) d2, .slice a3 (i + 3) d3, ?_⟩
      rw [← HE0.out, ← HE1.out, ← HE2.out, ← HE3.out]
      exact HK7.out
end Go.Proofs.YthbbfjfekchdiaaGreat
