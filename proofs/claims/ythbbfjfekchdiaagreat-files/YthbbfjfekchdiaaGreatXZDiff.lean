import Derived.Test.YthbbfjfekchdiaaGreatXZHead
import Derived.Test.YthbbfjfekchdiaaGreatXTk
import Derived.Test.YthbbfjfekchdiaaGreatXZSave
import Derived.Test.YthbbfjfekchdiaaGreatXZValues
namespace Go.Proofs.YthbbfjfekchdiaaGreat
theorem diffFrom_snoc : ∀ (l m : List (Option Pt)) (n : Nat) (a b : Option Pt), l.length = m.length → diffFrom n (l ++ [a]) (m ++ [b]) = diffFrom n l m ++ (if a = b then [] else [((n + l.length : Nat) : Int)])
  | [], [], n, a, b, _ => by simp [diffFrom]
  | [], _ :: _, _, _, _, h => by simp at h
  | _ :: _, [], _, _, _, h => by simp at h
  | x :: l, y :: m, n, a, b, h => by
    rw [List.cons_append, List.cons_append, diffFrom, diffFrom, diffFrom_snoc l m (n + 1) a b (by simpa using h), List.append_assoc, List.length_cons, show n + 1 + l.length = n + (l.length + 1) by omega]
theorem diffFrom_len : ∀ (l m : List (Option Pt)) (n : Nat), (diffFrom n l m).length ≤ l.length
  | [], _, n => by simp [diffFrom]
  | _ :: _, [], n => by simp [diffFrom]
  | x :: l, y :: m, n => by
    rw [diffFrom, List.length_append, List.length_cons]
    have := diffFrom_len l m (n + 1)
    split <;> simp <;> omega
def dA (d : RDb) (i j : Nat) : List (Option Pt) := ((arcsOf d).take i).flatten ++ (((arcsOf d)[i]?).getD []).take j
theorem dA_zero (d : RDb) : dA d 0 0 = [] := by unfold dA; simp
theorem arcs_at {d : RDb} {i : Nat} (hi : i < d.c.many) : (arcsOf d)[i]? = some (slotsL d.c i ((d.L[i]?).getD []) (d.c.k i).toNat) := by
  unfold arcsOf
  rw [List.getElem?_map, List.getElem?_range hi, Option.map_some]
theorem dA_next {d : RDb} {i : Nat} (hi : i < d.c.many) : dA d (i + 1) 0 = dA d i (d.c.k i).toNat := by
  unfold dA
  rw [List.take_zero, List.append_nil, List.take_add_one, List.flatten_append, arcs_at hi, Option.getD_some, List.take_of_length_le (l := slotsL d.c i ((d.L[i]?).getD []) (d.c.k i).toNat) (by rw [slotsL_len]; exact Nat.le_refl _)]
  simp
theorem dA_all (d : RDb) : dA d d.c.many 0 = allSlots d := by
  unfold dA allSlots
  rw [List.take_zero, List.append_nil, List.take_of_length_le (by unfold arcsOf; simp)]
theorem dA_succ {d : RDb} {i j : Nat} (hi : i < d.c.many) (hj : j < (d.c.k i).toNat) : dA d i (j + 1) = dA d i j ++ [slotAt d.c i ((d.L[i]?).getD []) j] := by
  unfold dA
  rw [arcs_at hi, Option.getD_some, List.take_add_one, ← List.append_assoc]
  unfold slotsL
  rw [List.getElem?_map, List.getElem?_range hj]
  rfl
theorem many_arcs {c e : Cfg} (h : sameArcs c e) : c.many = e.many := by
  have z : ∀ i, i < 4 → (c.Zero i ↔ e.Zero i) := fun i hi => by
    unfold Cfg.Zero
    rw [(h i hi).1, (h i hi).2]
  unfold Cfg.many
  simp only [z 0 (by omega), z 1 (by omega), z 2 (by omega), z 3 (by omega)]
def lenA (c : Cfg) (i : Nat) : Nat := ((List.range i).map fun j => (c.k j).toNat).sum
theorem lenA_succ (c : Cfg) (i : Nat) : lenA c (i + 1) = lenA c i + (c.k i).toNat := by
  unfold lenA
  rw [List.range_succ, List.map_append, List.sum_append]
  simp
theorem dA_len {d : RDb} {j : Nat} : ∀ {i : Nat}, i < d.c.many → j ≤ (d.c.k i).toNat → (dA d i j).length = lenA d.c i + j := by
  have h0 : ∀ i, i ≤ d.c.many → (((arcsOf d).take i).flatten).length = lenA d.c i := by
    intro i
    induction i with
    | zero => intro _; simp [lenA]
    | succ i ih =>
      intro h
      rw [List.take_add_one, List.flatten_append, List.length_append, ih (by omega), arcs_at (by omega), lenA_succ]
      simp [slotsL_len]
  intro i hi hj
  unfold dA
  rw [List.length_append, h0 i (by omega), arcs_at hi, Option.getD_some, List.length_take, slotsL_len]
  omega
theorem lenA_le {c : Cfg} (h : ∀ i, i < c.many → (c.k i).toNat ≤ 60) : ∀ i, i ≤ c.many → lenA c i ≤ 60 * i
  | 0, _ => by simp [lenA]
  | i + 1, hi => by
    rw [lenA_succ]
    have := lenA_le h i (by omega)
    have := h i (by omega)
    omega
theorem lenA_same {c e : Cfg} (h : sameArcs c e) : ∀ i, i ≤ 4 → lenA c i = lenA e i
  | 0, _ => rfl
  | i + 1, hi => by rw [lenA_succ, lenA_succ, lenA_same h i (by omega), (h i (by omega)).2]
theorem dA_same {d o : RDb} (h : sameArcs d.c o.c) {i j : Nat} (hi : i < d.c.many) (hj : j ≤ (d.c.k i).toNat) : (dA d i j).length = (dA o i j).length := by
  have h4 := d.c.many_le
  rw [dA_len hi hj, dA_len (by rw [← many_arcs h]; exact hi) (by rw [← (h i (by omega)).2]; exact hj), lenA_same h i (by omega)]
def diffA (d o : RDb) (i j : Nat) : List Int := diffFrom 0 (dA d i j) (dA o i j)
theorem diffA_zero (d o : RDb) : diffA d o 0 0 = [] := by unfold diffA; rw [dA_zero]; rfl
theorem diffA_next {d o : RDb} (h : sameArcs d.c o.c) {i : Nat} (hi : i < d.c.many) : diffA d o (i + 1) 0 = diffA d o i (d.c.k i).toNat := by
  have h4 := d.c.many_le
  unfold diffA
  rw [dA_next hi, dA_next (by rw [← many_arcs h]; exact hi), (h i (by omega)).2]
theorem diffA_all {d o : RDb} (h : sameArcs d.c o.c) : diffA d o d.c.many 0 = diffL d o := by
  unfold diffA diffL
  rw [dA_all, many_arcs h, dA_all]
theorem diffA_succ {d o : RDb} (h : sameArcs d.c o.c) {i j : Nat} (hi : i < d.c.many) (hj : j < (d.c.k i).toNat) :
    diffA d o i (j + 1) = diffA d o i j ++ (if slotAt d.c i ((d.L[i]?).getD []) j = slotAt o.c i ((o.L[i]?).getD []) j then [] else [((lenA d.c i + j : Nat) : Int)]) := by
  have h4 := d.c.many_le
  unfold diffA
  rw [dA_succ hi hj, dA_succ (by rw [← many_arcs h]; exact hi) (by rw [← (h i (by omega)).2]; exact hj), diffFrom_snoc _ _ _ _ _ (dA_same h hi (by omega)), Nat.zero_add, dA_len hi (by omega)]
theorem diffA_len {d o : RDb} {i j : Nat} (hi : i < d.c.many) (hj : j ≤ (d.c.k i).toNat) : (diffA d o i j).length ≤ lenA d.c i + j := by
  unfold diffA
  rw [← dA_len hi hj]
  exact diffFrom_len _ _ _
theorem slotBytes_inj {a b : Option Pt} (ha : ∀ q, a = some q → PtIn q) (hb : ∀ q, b = some q → PtIn q) : slotBytes a = slotBytes b ↔ a = b := by
  refine ⟨fun h => ?_, fun h => by rw [h]⟩
  have e4 : (256 : Int) ^ 4 = 4294967296 := by decide
  unfold slotBytes at h
  obtain ⟨h1, h2⟩ := List.append_inj h (by rw [numL_len, numL_len])
  have bd : ∀ o : Option Pt, (∀ q, o = some q → PtIn q) → 0 ≤ (optPt o).1 ∧ (optPt o).1 < 4294967296 ∧ -1000000000 ≤ (optPt o).2 ∧ (optPt o).2 ≤ 1000000000 := by
    intro o ho
    cases o with
    | none => decide
    | some q => obtain ⟨x1, x2, x3, x4⟩ := ho q rfl; exact ⟨x1, by simp only [optPt]; omega, x3, x4⟩
  obtain ⟨a1, a2, a3, a4⟩ := bd a ha
  obtain ⟨b1, b2, b3, b4⟩ := bd b hb
  have t : (optPt a).1 = (optPt b).1 := by
    have := congrArg readU h1
    rw [readU_num, readU_num, e4, Int.emod_eq_of_lt a1 a2, Int.emod_eq_of_lt b1 b2] at this
    exact this
  have v : (optPt a).2 = (optPt b).2 := by
    have := congrArg readN h2
    rw [readN_num (by omega) (by omega), readN_num (by omega) (by omega)] at this
    exact this
  cases a with
  | none =>
    cases b with
    | none => rfl
    | some q => obtain ⟨x1, x2, _⟩ := hb q rfl; simp only [optPt] at t; omega
  | some p =>
    cases b with
    | none => obtain ⟨x1, x2, _⟩ := ha p rfl; simp only [optPt] at t; omega
    | some q => simp only [optPt] at t v; rw [show p = q from Prod.ext t v]
theorem slotAt_in {d : RDb} (hd : d.Ok) (i j : Nat) : ∀ q, slotAt d.c i ((d.L[i]?).getD []) j = some q → PtIn q := by
  intro q hq
  cases hl : d.L[i]? with
  | none => rw [hl] at hq; simp [slotAt] at hq
  | some l =>
    rw [hl, Option.getD_some] at hq
    exact (hd.pts i l hl).1 q (slotAt_some hq).1
def arcs8 (c : Cfg) : List Int := [c.s0, c.k0, c.s1, c.k1, c.s2, c.k2, c.s3, c.k3]
theorem sameArcs_iff {c e : Cfg} : arcs8 c = arcs8 e ↔ sameArcs c e := by
  unfold arcs8 sameArcs
  simp only [List.cons.injEq, and_true]
  constructor
  · rintro ⟨a, b, c, d, e, f, g, h⟩ i hi
    have : i = 0 ∨ i = 1 ∨ i = 2 ∨ i = 3 := by omega
    rcases this with rfl | rfl | rfl | rfl
    · exact ⟨a, b⟩
    · exact ⟨c, d⟩
    · exact ⟨e, f⟩
    · exact ⟨g, h⟩
  · intro h
    exact ⟨(h 0 (by omega)).1, (h 0 (by omega)).2, (h 1 (by omega)).1, (h 1 (by omega)).2, (h 2 (by omega)).1, (h 2 (by omega)).2, (h 3 (by omega)).1, (h 3 (by omega)).2⟩
def diffErr (d o : RDb) : Int := if arcs8 d.c = arcs8 o.c then 0 else 1
def diffN (d o : RDb) : List Int := if arcs8 d.c = arcs8 o.c then diffL d o else []
end Go.Proofs.YthbbfjfekchdiaaGreat
namespace Go.Proofs.YthbbfjfekchdiaaGreat
open Go.RowKit
set_option linter.unusedSimpArgs false
attribute [local go_sem] Go.wp_at_zero Go.wp_at_succ
set_option maxRecDepth 8000 in
set_option maxHeartbeats 2000000 in
theorem eq_arcs8 (x0 x1 x2 x3 x4 x5 x6 x7 y0 y1 y2 y3 y4 y5 y6 y7 : Int) (w : World) : (Op.equalIn 10000 38 (.agg #[i64 x0, i64 x1, i64 x2, i64 x3, i64 x4, i64 x5, i64 x6, i64 x7]) (.agg #[i64 y0, i64 y1, i64 y2, i64 y3, i64 y4, i64 y5, i64 y6, i64 y7])).run Tryz.prog w = .ok (decide ([x0, x1, x2, x3, x4, x5, x6, x7] = [y0, y1, y2, y3, y4, y5, y6, y7])) w := by
  rw [show (10000 : Nat) = 9999 + 1 from rfl, Op.equalIn]
  simp only [Sem.run_bind, run_underlying Tryz.underlying38, Result.andThen_ok]
  simp only [Std.Legacy.Range.forIn_eq_forIn_range', Std.Legacy.Range.size, Nat.sub_zero, Nat.add_sub_cancel, Nat.div_one, List.range'_succ, List.range'_zero, List.forIn_cons, List.forIn_nil]
  go_simp
  by_cases h0 : x0 = y0
  case neg => simp [h0]
  by_cases h1 : x1 = y1
  case neg => simp [h0, h1]
  by_cases h2 : x2 = y2
  case neg => simp [h0, h1, h2]
  by_cases h3 : x3 = y3
  case neg => simp [h0, h1, h2, h3]
  by_cases h4 : x4 = y4
  case neg => simp [h0, h1, h2, h3, h4]
  by_cases h5 : x5 = y5
  case neg => simp [h0, h1, h2, h3, h4, h5]
  by_cases h6 : x6 = y6
  case neg => simp [h0, h1, h2, h3, h4, h5, h6]
  by_cases h7 : x7 = y7
  case neg => simp [h0, h1, h2, h3, h4, h5, h6, h7]
  simp [h0, h1, h2, h3, h4, h5, h6, h7]
theorem field_arcs (x0 x1 x2 x3 x4 x5 x6 x7 x8 x9 : Int) (w : World) : (Instr.field 40 (.agg #[i64 x0, i64 x1, i64 x2, i64 x3, i64 x4, i64 x5, i64 x6, i64 x7, i64 x8, i64 x9]) 0).run Tryz.prog w = .ok (.agg #[i64 x0, i64 x1, i64 x2, i64 x3, i64 x4, i64 x5, i64 x6, i64 x7]) w := by kernel_rfl
structure DfI (w wr : World) (v : Value) (l : List Int) : Prop where
  old : Below w.heap.size w wr
  own : wr.ownsRow w.heap.size 3 1 v l.length (l.map i64)
theorem DfI.below {w wr w' : World} {v : Value} {l : List Int} (h : DfI w wr v l) (hb : Below wr.heap.size wr w') : DfI w w' v l :=
  ⟨h.old.trans (hb.mono h.old.size), owns_below h.own hb⟩
theorem DfI.form {w wr : World} {v : Value} {l : List Int} (h : DfI w wr v l) : ∃ a c, v = .slice a l.length c := by
  obtain ⟨_, ⟨h, h0⟩ | ⟨g, cap, cur, h, _⟩⟩ := h.own
  · exact ⟨none, 0, by rw [h, h0]⟩
  · exact ⟨_, _, h⟩
theorem zconfig_cells (p : Nat) (d : RDb) (In : Nat → Prop) (w : World) (h : ZRep w In p d) : Calls Tryz.prog 28 #[.pointer (some ⟨p, 0, none⟩)] w fun e w' => e = .returned (.agg #[i64 d.c.s0, i64 d.c.k0, i64 d.c.s1, i64 d.c.k1, i64 d.c.s2, i64 d.c.k2, i64 d.c.s3, i64 d.c.k3, i64 d.c.m, i64 d.c.f]) ∧ Below w.heap.size w w' := zconfig_any p d In w h
set_option maxRecDepth 4000 in
set_option maxHeartbeats 4000000 in
theorem zdiff_any (p q : Nat) (d o : RDb) (In Jn : Nat → Prop) (w : World) (h : ZRep w In p d) (h2 : ZRep w Jn q o) :
    Calls Tryz.prog 70 #[.pointer (some ⟨p, 0, none⟩), .pointer (some ⟨q, 0, none⟩)] w fun e w' => ∃ v, e = .returned (.tuple #[v, i64 (diffErr d o)]) ∧ DfI w w' v (diffN d o) ∧ (diffErr d o ≠ 0 → v = .slice none 0 0) := by
  have h4 := d.c.many_le
  have HZ := hid h
  have HZ2 := hid h2
  obtain ⟨_, _, _, _, hbd, _⟩ := d.c.ok_iff.1 h.ok.cfg
  have HBD := hid (bdB_all hbd)
  have HOK := hid h.ok
  have HOK2 := hid h2.ok
  obtain ⟨gl, cap, x0, _, _, harc⟩ := h.read
  obtain ⟨gl2, cap2, y0, _, _, harc2⟩ := h2.read
  have HARC := hid harc
  have HARC2 := hid harc2
  have hpz : p < w.heap.size := World.block_lt_of_cell? _ _ x0
  have hqz : q < w.heap.size := World.block_lt_of_cell? _ _ y0
  have heq := fun (w : World) => eq_arcs8 d.c.s0 d.c.k0 d.c.s1 d.c.k1 d.c.s2 d.c.k2 d.c.s3 d.c.k3 o.c.s0 o.c.k0 o.c.s1 o.c.k1 o.c.s2 o.c.k2 o.c.s3 o.c.k3 w
  obtain ⟨b, hb⟩ : ∃ b, b = decide (arcs8 d.c = arcs8 o.c) := ⟨_, rfl⟩
  rw [show decide ([d.c.s0, d.c.k0, d.c.s1, d.c.k1, d.c.s2, d.c.k2, d.c.s3, d.c.k3] = [o.c.s0, o.c.k0, o.c.s1, o.c.k1, o.c.s2, o.c.k2, o.c.s3, o.c.k3]) = b from hb.symm] at heq
  have HEB := hid hb
  have hfd1 := fun (w : World) => field_arcs d.c.s0 d.c.k0 d.c.s1 d.c.k1 d.c.s2 d.c.k2 d.c.s3 d.c.k3 d.c.m d.c.f w
  have hfd2 := fun (w : World) => field_arcs o.c.s0 o.c.k0 o.c.s1 o.c.k1 o.c.s2 o.c.k2 o.c.s3 o.c.k3 o.c.m o.c.f w
  clear h h2 hbd harc harc2 hb
  go_enter Tryz.func70, Tryz.ntmps70
  go_wp2_with fail
  refine (zconfig_cells p d In w HZ.out).mono ?_
  rintro e w1 ⟨rfl, hb1⟩
  have HB1 := hid hb1
  clear hb1
  go_wp2_with fail
  refine (zconfig_cells q o Jn w1 (HZ2.out.fr (Fr.below (In := fun _ => False) HB1.out) (fun _ _ x => x))).mono ?_
  rintro e w2 ⟨rfl, hb2⟩
  have HB2 := hid (HB1.out.trans (hb2.mono HB1.out.size))
  clear hb2 HB1 HZ HZ2
  cases b with
  | false =>
    have hne : ¬ arcs8 d.c = arcs8 o.c := of_decide_eq_false HEB.out.symm
    have HE := hid (show diffErr d o = 1 by unfold diffErr; rw [if_neg hne])
    have HN := hid (show diffN d o = [] by unfold diffN; rw [if_neg hne])
    clear hne
    go_wp2
    refine bodyPost_ret (v := .tuple #[.slice none 0 0, i64 1]) (by simp [results, Tryz.results70, go_sem]) rfl ?_
    exact ⟨_, by rw [HE.out], ⟨HB2.out, by rw [HN.out]; exact World.ownsRow_nil _ _ _ _⟩, fun _ => rfl⟩
  | true =>
    have heqa : arcs8 d.c = arcs8 o.c := of_decide_eq_true HEB.out.symm
    have HSA := hid (sameArcs_iff.1 heqa)
    have HE := hid (show diffErr d o = 0 by unfold diffErr; rw [if_pos heqa])
    have HND := hid (show diffN d o = diffA d o d.c.many 0 by unfold diffN; rw [if_pos heqa, diffA_all HSA.out])
    obtain ⟨n, hn⟩ : ∃ n, n = d.c.many := ⟨_, rfl⟩
    have HNM := hid hn
    have hno : o.c.many = n := by rw [hn]; exact (many_arcs HSA.out).symm
    rw [← hn] at h4 x0 HND
    rw [hno] at y0
    have HNO := hid hno
    have z0 : w2.cell? ⟨p, 0, none⟩ = some (.slice (some ⟨gl, 0, none⟩) n cap) := cell_later HB2.out x0
    have hpz2 : p < w2.heap.size := World.block_lt_of_cell? _ _ z0
    clear heqa hn hno
    go_wp2
    clear heq hfd1 hfd2
    go_loopw [6, 7, 24] (fun v' m' i' wr => ∃ i N : Nat, i ≤ n ∧ i' = i64 i ∧ m' = i64 N ∧ N = lenA d.c i ∧ DfI w wr v' (diffA d o i 0)) (fun _ _ i' _ => n - (intOf i').toNat)
    case atStart => exact ⟨0, 0, by omega, rfl, rfl, rfl, HB2.out, by rw [diffA_zero]; exact World.ownsRow_nil _ _ _ _⟩
    clear z0 hpz2 HB2
    case round =>
      obtain ⟨i, N, hi, rfl, rfl, hN, I⟩ := hrel
      have HI := hid I
      obtain ⟨a6, c6, rfl⟩ := I.form
      clear I
      by_cases hlt : i < n
      case neg =>
        have ei : i = n := by omega
        subst ei
        rw [← HND.out] at HI
        go_wp2
        refine bodyPost_ret (v := .tuple #[.slice a6 (diffA d o i 0).length c6, i64 0]) (by simp [results, Tryz.results70, go_sem]) rfl ?_
        exact ⟨_, by rw [HE.out, HND.out], HI.out, fun x => absurd HE.out x⟩
      obtain ⟨g, r1, r2, r3⟩ := HARC.out i (by rw [← HNM.out]; exact hlt)
      obtain ⟨g2, t1, t2, t3⟩ := HARC2.out i (by rw [HNO.out]; exact hlt)
      obtain ⟨b1, b2, b3, b4⟩ := (show 1 ≤ d.c.s i ∧ d.c.s i ≤ 86400 ∧ 1 ≤ d.c.k i ∧ d.c.k i ≤ 60 from HBD.out i (by rw [← HNM.out]; exact hlt))
      obtain ⟨_, sk⟩ := HSA.out i (by omega)
      have v0 : wr.cell? ⟨gl, i * 2, none⟩ = some (i64 (d.c.s i)) := cell_later HI.out.old r1
      have v1 : wr.cell? ⟨gl, i * 2 + 1, none⟩ = some (.slice (some ⟨g, 0, none⟩) (d.c.k i).toNat (d.c.k i).toNat) := cell_later HI.out.old r2
      have hgz : gl < wr.heap.size := World.block_lt_of_cell? _ _ v0
      have k0 : (0 : Int) ≤ (i : Int) := by omega
      have k1 : (i : Int) < (n : Int) := by omega
      rw [← sk] at t2 t3
      obtain ⟨s, hs⟩ : ∃ s, s = d.c.s i := ⟨_, rfl⟩
      obtain ⟨c, hc⟩ : ∃ c, c = (d.c.k i).toNat := ⟨_, rfl⟩
      have HLL := hid (lenA_le (c := d.c) (fun j hj => by have := HBD.out j hj; omega) i (by rw [← HNM.out]; exact hi))
      have HLS := hid (lenA_succ d.c i)
      have HDN := hid (diffA_next HSA.out (show i < d.c.many by rw [← HNM.out]; exact hlt))
      have HDS := hid (fun (j : Nat) (hj : j < c) => diffA_succ HSA.out (i := i) (j := j) (by rw [← HNM.out]; exact hlt) (by rw [← hc]; exact hj))
      have HDL := hid (fun (j : Nat) (hj : j ≤ c) => diffA_len (o := o) (i := i) (j := j) (show i < d.c.many by rw [← HNM.out]; exact hlt) (by rw [← hc]; exact hj))
      rw [← hs] at v0
      rw [← hc] at v1 r3 t2 t3 HLS HDN
      have hc60 : c ≤ 60 := by omega
      have HR3 := hid r3
      have HT3 := hid t3
      have HT2 := hid t2
      have hgw : g < w.heap.size := blk_lt r3
      have hgw2 : g2 < w.heap.size := blk_lt t3
      rw [← hN] at HLL HLS HDS HDL
      have HN4 : N ≤ 240 := by have := HLL.out; omega
      clear r1 r2 r3 t1 t2 t3 hs hc b1 b2 b3 b4 sk hN
      go_upto_region 9 with fail
      have HI1 := hid (HI.out.below ((Below.refl _ wr).alloc (Nat.le_refl _) (.cells #[i64 s, .slice (some ⟨g, 0, none⟩) c c] 94)))
      clear HI
      go_loopw [6, 7, 32] (fun v' m' j' wx => ∃ j M : Nat, j ≤ c ∧ j' = i64 j ∧ m' = i64 M ∧ M = N + j ∧ DfI w wx v' (diffA d o i j)) (fun _ _ j' _ => c - (intOf j').toNat)
      case atStart => exact ⟨0, N, by omega, rfl, rfl, rfl, HI1.out⟩
      clear HI1 v0 v1 hgz
      case round =>
        obtain ⟨j, M, hj, rfl, rfl, hM, I⟩ := hrel
        have HM := hid hM
        have HI := hid I
        obtain ⟨a6, c6, rfl⟩ := I.form
        clear I
        by_cases hlj : j < c
        case neg =>
          have ej : j = c := by omega
          subst ej
          have HI' := hid (show DfI w wr (.slice a6 (diffA d o i j).length c6) (diffA d o (i + 1) 0) by rw [HDN.out]; exact HI.out)
          clear hM
          go_wp2
          go_roundw
          case rel => exact ⟨i + 1, M, by omega, by go_num, rfl, by rw [HLS.out]; exact HM.out, HI'.out⟩
          case measure => simp [intOf]; omega
        obtain ⟨o1, ho1⟩ : ∃ x, x = slotAt d.c i ((d.L[i]?).getD []) j := ⟨_, rfl⟩
        obtain ⟨o2, ho2⟩ : ∃ x, x = slotAt o.c i ((o.L[i]?).getD []) j := ⟨_, rfl⟩
        have HSS := hid (HDS.out j hlj)
        rw [← ho1, ← ho2, ← HM.out] at HSS
        have hinj : slotBytes o1 = slotBytes o2 ↔ o1 = o2 := slotBytes_inj (by rw [ho1]; exact slotAt_in HOK.out i j) (by rw [ho2]; exact slotAt_in HOK2.out i j)
        have HINJ := hid hinj
        have hat1 : (slotsL d.c i ((d.L[i]?).getD []) c)[j]? = some o1 := by
          unfold slotsL
          rw [List.getElem?_map, List.getElem?_range hlj, Option.map_some, ho1]
        have hat2 : (slotsL o.c i ((o.L[i]?).getD []) c)[j]? = some o2 := by
          unfold slotsL
          rw [List.getElem?_map, List.getElem?_range hlj, Option.map_some, ho2]
        obtain ⟨f1, a1, b1, hf1⟩ := slotCells_form o1
        obtain ⟨f2, a2, b2, hf2⟩ := slotCells_form o2
        have cellsAt : ∀ (G : Nat) (L : List (Option Pt)) (x : Option Pt) (f : Bool) (a b : Int) (wz : World), wz.heap[G]? = some (.cells (slotBlk L) 116) → L[j]? = some x → slotCells x = [.bool f, i64 a, i64 b] → wz.cell? ⟨G, j * 3, none⟩ = some (.bool f) ∧ wz.cell? ⟨G, j * 3 + 1, none⟩ = some (i64 a) ∧ wz.cell? ⟨G, j * 3 + 2, none⟩ = some (i64 b) := by
          intro G L x f a b wz hG hL hx
          refine ⟨?_, ?_, ?_⟩
          · have := slotBlk_at hL 0 (by omega)
            rw [hx] at this; rw [cell_of_blk hG]; simpa using this
          · have := slotBlk_at hL 1 (by omega)
            rw [hx] at this; rw [cell_of_blk hG]; simpa using this
          · have := slotBlk_at hL 2 (by omega)
            rw [hx] at this; rw [cell_of_blk hG]; simpa using this
        obtain ⟨s0, s1, s2⟩ := cellsAt _ _ _ _ _ _ _ (blk_later HI.out.old hgw HR3.out) hat1 hf1
        obtain ⟨u0, u1, u2⟩ := cellsAt _ _ _ _ _ _ _ (blk_later HI.out.old hgw2 HT3.out) hat2 hf2
        have q0 : wr.cell? ⟨q, 0, none⟩ = some (.slice (some ⟨gl2, 0, none⟩) n cap2) := cell_later HI.out.old y0
        have q1 : wr.cell? ⟨gl2, i * 2 + 1, none⟩ = some (.slice (some ⟨g2, 0, none⟩) c c) := cell_later HI.out.old HT2.out
        have hgr : g < wr.heap.size := World.block_lt_of_cell? _ _ s0
        have hgr2 : g2 < wr.heap.size := World.block_lt_of_cell? _ _ u0
        have hqr : q < wr.heap.size := World.block_lt_of_cell? _ _ q0
        have hlr : gl2 < wr.heap.size := World.block_lt_of_cell? _ _ q1
        have j0 : (0 : Int) ≤ (j : Int) := by omega
        have j1 : (j : Int) < (c : Int) := by omega
        have HC1 := hid (fun (w : World) => slot_bytes_any o1 w)
        have HC2 := hid (fun (w : World) => slot_bytes_any o2 w)
        rw [hf1] at HC1
        rw [hf2] at HC2
        have heq := fun (w : World) => eq_bytes (slotBytes_len o1) (slotBytes_len o2) w
        obtain ⟨bq, hbq⟩ : ∃ b, b = decide (slotBytes o1 = slotBytes o2) := ⟨_, rfl⟩
        rw [← hbq] at heq
        have HBQ := hid hbq
        obtain ⟨S1, hS1⟩ : ∃ S, S = (bs (slotBytes o1)).toArray := ⟨_, rfl⟩
        obtain ⟨S2, hS2⟩ : ∃ S, S = (bs (slotBytes o2)).toArray := ⟨_, rfl⟩
        rw [← hS1] at HC1 heq
        rw [← hS2] at HC2 heq
        have HDLj := hid (HDL.out j hj)
        have hM2 : M ≤ 300 := by omega
        clear ho1 ho2 hinj hat1 hat2 hf1 hf2 cellsAt hbq hS1 hS2 hM
        go_upto_region 11 with fail
        have HA := hid ((Below.refl wr.heap.size wr).alloc (Nat.le_refl _) (.cells #[.bool f1, i64 a1, i64 b1] 116))
        have HNB := hid (blk_new wr (.cells #[.bool f1, i64 a1, i64 b1] 116))
        generalize hwA : wr.alloc (.cells #[.bool f1, .int .i64 a1, .int .i64 b1] 116) = wA at HA HNB ⊢
        clear hwA
        have e0 := cell_of_blk HNB.out 0
        have e1 := cell_of_blk HNB.out 1
        have e2 := cell_of_blk HNB.out 2
        have v0 := cell_later HA.out u0
        have v1 := cell_later HA.out u1
        have v2 := cell_later HA.out u2
        have p0 := cell_later HA.out q0
        have p1 := cell_later HA.out q1
        simp at e0 e1 e2
        have hzA := HA.out.size
        have hwz : wr.heap.size < wA.heap.size := blk_lt HNB.out
        clear s0 s1 s2 u0 u1 u2 q0 q1
        refine wp_region_held_drew (S := (fun w' => (w'.cell? ⟨wr.heap.size, 0, none⟩ = some (.bool f1) ∧ w'.cell? ⟨wr.heap.size, 1, none⟩ = some (i64 a1) ∧ w'.cell? ⟨wr.heap.size, 2, none⟩ = some (i64 b1)) ∧ w'.cell? ⟨q, 0, none⟩ = some (.slice (some ⟨gl2, 0, none⟩) n cap2) ∧ w'.cell? ⟨gl2, i * 2 + 1, none⟩ = some (.slice (some ⟨g2, 0, none⟩) c c) ∧ w'.cell? ⟨g2, j * 3, none⟩ = some (.bool f2) ∧ w'.cell? ⟨g2, j * 3 + 1, none⟩ = some (i64 a2) ∧ w'.cell? ⟨g2, j * 3 + 2, none⟩ = some (i64 b2))) (by kernel_rfl) ?_ (fun hHeld => ?_)
        · go_keep
        refine tkI (i := 0) (oi := ⟨some 37, .load 116 (.tmp 11), 116, _, #[], none⟩) ?_
        try simp only [Act.put, tkA, tkB, tkC]
        refine tkI (i := 2) (oi := ⟨some 39, .move (.tmp 1), 50, _, #[], none⟩) ?_
        try simp only [Act.put, tkA, tkB, tkC]
        refine tkI (i := 3) (oi := ⟨some 40, .nilCheck (.tmp 39), 0, _, #[⟨2, .data⟩], none⟩) ?_
        try simp only [Act.put, tkA, tkB, tkC]
        refine tkI (i := 4) (oi := ⟨some 41, .fieldAddr 89 (.tmp 40) 0, 0, _, #[⟨3, .data⟩], none⟩) ?_
        try simp only [Act.put, tkA, tkB, tkC]
        refine tkI (i := 5) (oi := ⟨some 42, .load 87 (.tmp 41), 87, _, #[⟨4, .data⟩], none⟩) ?_
        try simp only [Act.put, tkA, tkB, tkC]
        refine tkI (i := 6) (oi := ⟨some 43, .move (.tmp 8), 3, _, #[], none⟩) ?_
        try simp only [Act.put, tkA, tkB, tkC]
        refine tkI (i := 7) (oi := ⟨some 44, .indexAddr 87 (.tmp 42) (.tmp 43), 0, _, #[⟨5, .data⟩, ⟨6, .data⟩], none⟩) ?_
        try simp only [Act.put, tkA, tkB, tkC]
        refine tkI (i := 8) (oi := ⟨some 45, .fieldAddr 94 (.tmp 44) 1, 0, _, #[⟨7, .data⟩], none⟩) ?_
        try simp only [Act.put, tkA, tkB, tkC]
        refine tkI (i := 9) (oi := ⟨some 46, .load 92 (.tmp 45), 92, _, #[⟨8, .data⟩], none⟩) ?_
        try simp only [Act.put, tkA, tkB, tkC]
        refine tkI (i := 10) (oi := ⟨some 47, .move (.tmp 10), 3, _, #[], none⟩) ?_
        try simp only [Act.put, tkA, tkB, tkC]
        refine tkI (i := 11) (oi := ⟨some 48, .indexAddr 92 (.tmp 46) (.tmp 47), 0, _, #[⟨9, .data⟩, ⟨10, .data⟩], none⟩) ?_
        try simp only [Act.put, tkA, tkB, tkC]
        refine tkI (i := 12) (oi := ⟨some 49, .load 116 (.tmp 48), 116, _, #[⟨11, .data⟩], none⟩) ?_
        try simp only [Act.put, tkA, tkB, tkC]
        refine wpAnyH_ready (rs := [1]) (by kernel_rfl) (by simp) ?_
        refine AllReadyH.cons rfl (fun K' hK => ?_) AllReadyH.nil
        go_simp
        refine (HC1.out _).mono ?_
        rintro e w2 ⟨rfl, hb2⟩
        go_wp2_with fail
        refine hK.out _ _ ⟨⟨cell_later hb2 hHeld.1.1, cell_later hb2 hHeld.1.2.1, cell_later hb2 hHeld.1.2.2⟩, cell_later hb2 hHeld.2.1, cell_later hb2 hHeld.2.2.1, cell_later hb2 hHeld.2.2.2.1, cell_later hb2 hHeld.2.2.2.2.1, cell_later hb2 hHeld.2.2.2.2.2⟩ (fun hHeld => ?_)
        clear hK K'
        have HB2 := hid (show Below wr.heap.size wr w2 from HA.out.drew.trans (hb2.mono (by show wr.heap.size ≤ wA.heap.size; omega)))
        clear hb2
        refine wpAnyH_ready (rs := [13]) (by kernel_rfl) (by simp) ?_
        refine AllReadyH.cons rfl (fun K' hK => ?_) AllReadyH.nil
        go_simp
        refine (HC2.out _).mono ?_
        rintro e w3 ⟨rfl, hb3⟩
        go_wp2_with fail
        refine hK.out _ _ ⟨⟨cell_later hb3 hHeld.1.1, cell_later hb3 hHeld.1.2.1, cell_later hb3 hHeld.1.2.2⟩, cell_later hb3 hHeld.2.1, cell_later hb3 hHeld.2.2.1, cell_later hb3 hHeld.2.2.2.1, cell_later hb3 hHeld.2.2.2.2.1, cell_later hb3 hHeld.2.2.2.2.2⟩ (fun hHeld => ?_)
        clear hK K'
        have HI3 := hid (HI.out.below (HB2.out.trans (hb3.mono HB2.out.size)))
        clear hb3 HB2
        refine tkI (i := 14) (oi := ⟨some 51, .binOp .neq 118 (.tmp 38) (.tmp 50) 118, 4, _, #[⟨1, .data⟩, ⟨13, .data⟩], none⟩) ?_
        try simp only [Act.put, tkA, tkB, tkC]
        refine wpAnyH_done (by kernel_rfl) ?_ _
        clear heq hHeld e0 e1 e2 v0 v1 v2 p0 p1 hzA hwz HNB HA
        cases bq with
        | true =>
          have ho : o1 = o2 := HINJ.out.1 (of_decide_eq_true HBQ.out.symm)
          rw [if_pos ho, List.append_nil] at HSS
          have HX := hid (show DfI w w3 (.slice a6 (diffA d o i j).length c6) (diffA d o i (j + 1)) by rw [HSS.out]; exact HI3.out)
          clear ho
          go_wp2
          go_roundw
          case rel => first | exact ⟨j + 1, M + 1, by omega, by go_num, by go_num, by have := HM.out; omega, HX.out⟩ | ((repeat apply Exists.intro); exact ⟨⟨j + 1, M + 1, by omega, by go_num, by go_num, by have := HM.out; omega, HX.out⟩, rfl⟩)
          case measure => simp [intOf]; omega
        | false =>
          have ho : ¬ o1 = o2 := fun x => of_decide_eq_false HBQ.out.symm (HINJ.out.2 x)
          rw [if_neg ho] at HSS
          clear ho
          have hol : (diffA d o i j).length ≤ 1000 := by have := HDLj.out; omega
          obtain ⟨os, hos⟩ : ∃ os, os = diffA d o i j := ⟨_, rfl⟩
          obtain ⟨tg, htg⟩ : ∃ t, t = diffA d o i (j + 1) := ⟨_, rfl⟩
          rw [← hos] at hol HI3 HSS ⊢
          rw [← htg] at HSS
          have HTG := hid htg
          have hz3 := HI3.out.old.size
          clear hos htg
          go_wp2_with (at_builtin; go_must (refine wpList_append_int _ (by rfl) (.tmp 52) (.tmp 54) (by rfl) w.heap.size _ _ os M (by rfl) (by rfl) tg HSS (HI3.out.own.alloc _) w3.heap.size 1 (by rfl) (by simp) hol (by simp; omega) ?_))
          intro v' w4 hown hgrow
          have HI4 := hid (show DfI w w4 v' (diffA d o i (j + 1)) from by
            rw [← HTG.out]
            exact ⟨Below.grown (HI3.out.old.alloc hz3 _) hgrow (by simp; omega) (fun j hj => (HI3.out.own.lt j hj).1), hown⟩)
          clear hown hgrow
          go_wp2
          go_roundw
          case rel => first | exact ⟨j + 1, M + 1, by omega, by go_num, by go_num, by have := HM.out; omega, HI4.out⟩ | ((repeat apply Exists.intro); exact ⟨⟨j + 1, M + 1, by omega, by go_num, by go_num, by have := HM.out; omega, HI4.out⟩, rfl⟩)
          case measure => simp [intOf]; omega
end Go.Proofs.YthbbfjfekchdiaaGreat
