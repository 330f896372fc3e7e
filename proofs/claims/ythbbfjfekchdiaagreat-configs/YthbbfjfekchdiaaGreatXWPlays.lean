import Derived.Test.YthbbfjfekchdiaaGreatXWStep3
import Derived.Test.YthbbfjfekchdiaaGreatXWBook
import Derived.Test.YthbbfjfekchdiaaGreatXWRow
import Derived.Deep.AppendSrc
import Derived.Deep.MidRow
namespace Go.Proofs.YthbbfjfekchdiaaGreat
open Go.RowKit
set_option linter.unusedSimpArgs false

theorem wpList_append_nil {P : Program} (w : World) {ops : Array Oper} {rest : List Oper} {o : Oper} {a : Act} {Q : Exit → Act → World → Prop} (hgd : o.guard = none) (s x : Operand) (t : TypeId)
    (ho : o.op = .call { callee := .builtin .append, args := #[s, x], argTypes := #[t, t] }) (e : TypeId) (i : TypeInfo) (ht : P.underlying t = some (.slice e)) (hi : P.info? e = some i)
    (b n cap : Nat) (hs : a.eval s = .slice (some ⟨b, 0, none⟩) n cap) (hx : a.eval x = .slice none 0 0) (hn : n ≤ cap)
    (h : wpList P ops Q rest (a.put o.dst (.slice (some ⟨b, 0, none⟩) n cap)) w) : wpList P ops Q (o :: rest) a w :=
  wpList_plain hgd fun _ hK => by
    have hr := run_append_room_src (P := P) w t t o.type e i ht hi b 0 n cap (.slice none 0 0) 0 [] (Src.ofNil w ht 0) (by omega) (fun j hj => absurd hj (by simp)) (fun j hj => absurd hj (by simp))
    unfold Oper.wp execOp
    simp only [ho, resolve, invoke, builtin, Sem.run_bind, Sem.run_pure, Result.andThen_ok, List.map_toArray, List.map_cons, List.map_nil, hs, hx, hr]
    exact hK _ _ h

theorem step_any (kd oa ob od oe : Int) (c : Cfg) (la : Option Addr) (ln lc : Nat) (ss : ByteArray) (B : Nat) (cs : List Cfg) (w : World) (hk : kd = 1 ∨ kd = 2 ∨ kd = 3) (hI : Inv w B cs) (hn : cs.length ≤ 1000000000000) (ha1 : -9223372036854775808 ≤ oa) (ha2 : oa ≤ 9223372036854775807) :
    Calls Tryz.prog 11 #[.pointer (some ⟨B, 0, none⟩), (.agg #[i64 kd, i64 oa, i64 ob, i64 od, i64 oe, i64 c.s0, i64 c.k0, i64 c.s1, i64 c.k1, i64 c.s2, i64 c.k2, i64 c.s3, i64 c.k3, i64 c.m, i64 c.f, .slice la ln lc, .string ss])] w fun e w' => e = .returned (.bool true) ∧ Left w w' B cs := by
  rcases hk with h | h | h
  · exact step_12 kd oa ob od oe c la ln lc ss B cs w (.inl h) hI hn
  · exact step_12 kd oa ob od oe c la ln lc ss B cs w (.inr h) hI hn
  · cases cs with
    | nil => exact step_3none kd oa ob od oe c la ln lc ss B w h hI
    | cons x l => exact step_3some kd oa ob od oe c la ln lc ss B (x :: l) w h hI (by simp) hn ha1 ha2

theorem Tryz.infoOp : (Tryz.prog.info? 43).map (fun i => (i.zero, i.size, i.bytes)) = some (some (.agg #[.int .i64 0, .int .i64 0, .int .i64 0, .int .i64 0, .int .i64 0, .int .i64 0, .int .i64 0, .int .i64 0, .int .i64 0, .int .i64 0, .int .i64 0, .int .i64 0, .int .i64 0, .int .i64 0, .int .i64 0, .slice none 0 0, .string ⟨#[]⟩]), 17, 160) := by kernel_rfl

/-- the list of all steps lies in block g -/
structure AllRow (w : World) (g N : Nat) : Prop where
  row : ∃ cur xs, w.heap[g]? = some (.cells cur 43) ∧ cur.toList.take (N * 17) = xs ∧ OpRow N xs
theorem AllRow.keep {w w' : World} {g N : Nat} (h : AllRow w g N) (k : Keep w w') : AllRow w' g N := by
  obtain ⟨cur, xs, a, b, d⟩ := h.row
  exact ⟨cur, xs, k.blk _ _ _ _ a (by decide) (by decide), b, d⟩
theorem AllRow.at {w : World} {g N : Nat} (h : AllRow w g N) (k : Nat) (hk : k < N) : ∃ l, OpCells l ∧ ∀ i, i < 17 → w.cell? ⟨g, k * 17 + i, none⟩ = l[i]? := by
  obtain ⟨cur, xs, a, b, d⟩ := h.row
  obtain ⟨l, hl, r⟩ := d.at k hk
  refine ⟨l, hl, fun i hi => ?_⟩
  rw [cell_of_blk a, ← r i hi, ← b, List.getElem?_take_of_lt (by omega)]
  simp
theorem allrow_of {w : World} {base N : Nat} {v : Value} {xs : List Value} (h : w.ownsRow base 43 17 v N xs) (hN : 0 < N) (hr : OpRow N xs) : ∃ g cap, v = .slice (some ⟨g, 0, none⟩) N cap ∧ AllRow w g N := by
  obtain ⟨g, cap, cur, hv, _, hg, ht, _⟩ := owns_block h hN
  exact ⟨g, cap, hv, ⟨cur, xs, hg, ht, hr⟩⟩

theorem first_ex (w : World) : Calls Tryz.prog 9 #[] w fun e w' => ∃ g xs, e = .returned (.slice (some ⟨g, 0, none⟩) 8 8) ∧ Below w.heap.size w w' ∧ w'.ownsRow w.heap.size 43 17 (.slice (some ⟨g, 0, none⟩) 8 8) 8 xs ∧ OpRow 8 xs :=
  (first_any w).mono fun _ _ ⟨xs, h⟩ => ⟨_, xs, h⟩
theorem allrow_first {w : World} {base g N cap : Nat} {xs : List Value} (h : w.ownsRow base 43 17 (.slice (some ⟨g, 0, none⟩) N cap) N xs) (hN : 0 < N) (hr : OpRow N xs) : AllRow w g N := by
  obtain ⟨g', cap', hv, a⟩ := allrow_of h hN hr
  cases hv
  exact a

/-- the loop's head -/
structure PI (wA wr : World) (B k : Nat) (cs : List Cfg) : Prop where
  inv : Inv wr B cs
  len : cs.length ≤ k
  keep : Keep wA wr
  old : Below B wA wr
theorem pi_start (w : World) : PI (w.alloc (.cells #[.slice none 0 0, .slice none 0 0, .slice none 0 0, .slice none 0 0] 35)) (w.alloc (.cells #[.slice none 0 0, .slice none 0 0, .slice none 0 0, .slice none 0 0] 35)) w.heap.size 0 [] where
  inv := ⟨_, [], blk_new w _, World.ownsRow_nil _ _ _ _, .nil⟩
  len := Nat.le_refl _
  keep := Keep.refl _
  old := Below.refl _ _
theorem pi_skip {wA wr : World} {B k : Nat} {cs : List Cfg} (h : PI wA wr B k cs) (o : Obj) : PI wA (wr.alloc o) B (k + 1) cs where
  inv := h.inv.new o
  len := by have := h.len; omega
  keep := h.keep.trans (Keep.below ((Below.refl _ _).alloc (Nat.le_refl _) _))
  old := h.old.alloc (by have := h.inv.lt; omega) o
theorem pi_step {wA wr w' : World} {B k : Nat} {cs : List Cfg} (h : PI wA wr B k cs) {o : Obj} (hl : Left (wr.alloc o) w' B cs) : ∃ cs', PI wA w' B (k + 1) cs' := by
  obtain ⟨⟨cs', hI, hn⟩, hK, hB⟩ := hl
  have s := pi_skip h o
  exact ⟨cs', hI, by have := h.len; omega, s.keep.trans hK, s.old.trans hB⟩
theorem Inv.book {w : World} {B : Nat} {cs : List Cfg} (h : Inv w B cs) : w.cell? ⟨B, 1, none⟩ = some (.slice none 0 0) ∧ w.cell? ⟨B, 2, none⟩ = some (.slice none 0 0) ∧ w.cell? ⟨B, 3, none⟩ = some (.slice none 0 0) := by
  obtain ⟨v, ps, hB, _⟩ := h
  exact ⟨cell_of_blk hB 1, cell_of_blk hB 2, cell_of_blk hB 3⟩

theorem play_cell {w wA wr : World} {p o : Nat} {v : Value} {O : Obj} (hA : Below w.heap.size w wA) (hr : Below wA.heap.size (wA.alloc O) wr) (h : w.cell? ⟨p, o, none⟩ = some v) : wr.cell? ⟨p, o, none⟩ = some v := by
  have hp : p < w.heap.size := World.block_lt_of_cell? _ _ h
  have := hA.size
  rw [hr.cell (p := ⟨p, o, none⟩) (by show p < wA.heap.size; omega)]
  exact cell_later ((Below.refl wA.heap.size wA).alloc (Nat.le_refl _) O) (cell_later hA h)

set_option maxRecDepth 100000 in
set_option maxHeartbeats 4000000 in
theorem plays_nil (p : Nat) (w : World) (h0 : w.cell? ⟨p, 0, none⟩ = some (i64 1)) (h1 : w.cell? ⟨p, 1, none⟩ = some (i64 2)) (h2 : w.cell? ⟨p, 2, none⟩ = some (i64 3)) :
    Calls Tryz.prog 8 #[.slice none 0 0, .slice (some ⟨p, 0, none⟩) 3 3] w fun e w' => e = .returned (.bool true) ∧ Below w.heap.size w w' := by
  obtain ⟨i0, hi, hz0, hz1, hz2⟩ := info_parts Tryz.infoOp
  have HI0 := hid (And.intro hi (And.intro hz0 (And.intro hz1 hz2)))
  clear hi hz0 hz1 hz2
  go_enter Tryz.func8, Tryz.ntmps8
  go_wp2_with fail
  refine (first_ex _).mono ?_
  rintro e wA ⟨g, xs, rfl, hbA, hown, hrow⟩
  have HA := hid hbA
  have HR := hid (allrow_first hown (by decide) hrow)
  have hzA := hbA.size
  clear hbA hown hrow
  go_wp2_with (at_builtin; refine wpList_append_nil _ rfl (.tmp 13) (.tmp 14) 22 rfl 43 i0 Tryz.underlying22 HI0.out.1 _ 8 8 rfl rfl (Nat.le_refl _) ?_)
  go_loopw [7] (fun i wr => ∃ (k : Nat) (cs : List Cfg), k ≤ 8 ∧ i = i64 k ∧ PI (wA.alloc (.cells #[.slice none 0 0, .slice none 0 0, .slice none 0 0, .slice none 0 0] 35)) wr wA.heap.size k cs) (fun i _ => 8 - (intOf i).toNat)
  case atStart => exact ⟨0, [], by omega, rfl, pi_start wA⟩
  case round =>
    obtain ⟨k, cs, hk, rfl, I⟩ := hrel
    have HI := hid I
    have hz : wA.heap.size < wr.heap.size := I.inv.lt
    clear I
    by_cases hlt : k < 8
    case neg =>
      obtain ⟨x1, x2, x3⟩ := HI.out.inv.book
      clear x2 x3
      go_wp2_with (go_at_call 13; refine (apart_none wA.heap.size _ x1).mono ?_; rintro e w' ⟨rfl, rfl⟩)
      go_ret
      exact ⟨rfl, HA.out.trans (((Below.refl wA.heap.size wA).alloc (Nat.le_refl _) _).trans HI.out.old |>.mono hzA)⟩
    have hkb : k < 1000000000000 := by omega
    generalize hM : (144115188075855872 : Int) = M
    have hbig : (k : Int) < M := by omega
    clear hM
    obtain ⟨l, hl, hq⟩ := ((HR.out.keep (Keep.below ((Below.refl wA.heap.size wA).alloc (Nat.le_refl _) _))).keep HI.out.keep).at k hlt
    obtain ⟨kd, oa, ob, od, oe, c, la, ln, lc, ss, ⟨ha1, ha2⟩, rfl⟩ := hl
    have HG := hid (show wr.rangeAt g (k * 17) [i64 kd, i64 oa, i64 ob, i64 od, i64 oe, i64 c.s0, i64 c.k0, i64 c.s1, i64 c.k1, i64 c.s2, i64 c.k2, i64 c.s3, i64 c.k3, i64 c.m, i64 c.f, .slice la ln lc, .string ss] from fun j v hv => by
      have hj : j < 17 := by
        have := List.getElem?_eq_some_iff.1 hv
        obtain ⟨h, _⟩ := this
        simpa using h
      exact (hq j hj).trans hv)
    have m0 := play_cell HA.out HI.out.old h0
    have m1 := play_cell HA.out HI.out.old h1
    have m2 := play_cell HA.out HI.out.old h2
    have hpw : p < w.heap.size := World.block_lt_of_cell? _ _ h0
    have hpr : p < wr.heap.size := by omega
    clear hq
    go_wp2_with (refine wpList_load_mid (by rfl) 43 (.tmp 30) (by rfl) g (k * 17) (by rfl) _ _ HG.out Tryz.underlying43 (by rfl) (by kernel_rfl) ?_)
    refine (among_any p _ _ ?_ ?_ ?_).mono ?_
    · exact cell_later ((Below.refl _ _).alloc (Nat.le_refl _) _) m0
    · exact cell_later ((Below.refl _ _).alloc (Nat.le_refl _) _) m1
    · exact cell_later ((Below.refl _ _).alloc (Nat.le_refl _) _) m2
    rintro e w' ⟨rfl, rfl⟩
    clear m0 m1 m2
    by_cases hin : kd = 1 ∨ kd = 2 ∨ kd = 3
    case neg =>
      have hd : decide (kd = 1 ∨ kd = 2 ∨ kd = 3) = false := decide_eq_false hin
      clear hin
      rw [hd]
      clear hd
      go_wp2
      go_roundw
      case rel => first | exact ⟨k + 1, cs, by omega, by go_num, pi_skip HI.out _⟩ | ((repeat apply Exists.intro); exact ⟨⟨k + 1, cs, by omega, by go_num, pi_skip HI.out _⟩, rfl⟩)
      case measure => simp [intOf]; omega
    have hd : decide (kd = 1 ∨ kd = 2 ∨ kd = 3) = true := decide_eq_true hin
    have HK := hid hin
    clear hin
    rw [hd]
    clear hd
    go_wp2_with fail
    refine (step_any kd oa ob od oe c la ln lc ss wA.heap.size cs _ HK.out (HI.out.inv.new _) (by have := HI.out.len; omega) ha1 ha2).mono ?_
    rintro e w1 ⟨rfl, hl1⟩
    obtain ⟨cs', hP⟩ := pi_step HI.out hl1
    have HS := hid hP
    have hz1 : wA.heap.size < w1.heap.size := hP.inv.lt
    obtain ⟨x1, x2, x3⟩ := hP.inv.book
    clear hl1 hP
    go_wp2_with fail
    refine (looks_none wA.heap.size _ x1 x2 x3).mono ?_
    rintro e w2 ⟨rfl, rfl⟩
    go_wp2
    go_roundw
    case rel => first | exact ⟨k + 1, cs', by omega, by go_num, HS.out⟩ | ((repeat apply Exists.intro); exact ⟨⟨k + 1, cs', by omega, by go_num, HS.out⟩, rfl⟩)
    case measure => simp [intOf]; omega
end Go.Proofs.YthbbfjfekchdiaaGreat
