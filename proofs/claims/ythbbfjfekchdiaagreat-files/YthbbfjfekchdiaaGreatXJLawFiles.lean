import Derived.Test.YthbbfjfekchdiaaGreatXRHas
import Derived.Test.YthbbfjfekchdiaaGreatXLeafWalks
import Derived.Test.YthbbfjfekchdiaaGreatXHAmong
import Derived.Test.YthbbfjfekchdiaaGreatXJOps
import Derived.Test.YthbbfjfekchdiaaGreatXJPlays2
import Derived.ProofKit
import Derived.OpenShut
import Derived.SizedLaws
import Derived.Deep.Slices
namespace Go.Proofs.YthbbfjfekchdiaaGreat
open Go.RowKit
def OpCells (l : List Value) : Prop :=
  ∃ (kd oa ob od oe : Int) (c : Cfg) (la : Option Addr) (ln lc : Nat) (ss : ByteArray), (-9223372036854775808 ≤ oa ∧ oa ≤ 9223372036854775807) ∧ l = [i64 kd, i64 oa, i64 ob, i64 od, i64 oe, i64 c.s0, i64 c.k0, i64 c.s1, i64 c.k1, i64 c.s2, i64 c.k2, i64 c.s3, i64 c.k3, i64 c.m, i64 c.f, .slice la ln lc, .string ss]
def OpRow (n : Nat) (xs : List Value) : Prop :=
  xs.length = n * 17 ∧ ∀ j, j < n → ∃ l, OpCells l ∧ ∀ i, i < 17 → xs[j * 17 + i]? = l[i]?
theorem OpCells.length {l : List Value} (h : OpCells l) : l.length = 17 := by
  obtain ⟨kd, oa, ob, od, oe, c, la, ln, lc, ss, _, rfl⟩ := h; rfl
theorem OpCells.one {l : List Value} (h : OpCells l) : ∀ u ∈ l, u.oneCell' = true := by
  obtain ⟨kd, oa, ob, od, oe, c, la, ln, lc, ss, _, rfl⟩ := h
  simp [Value.oneCell']
theorem OpRow.nil : OpRow 0 [] := ⟨rfl, fun j hj => absurd hj (by omega)⟩
theorem OpRow.snoc {n : Nat} {xs l : List Value} (h : OpRow n xs) (hl : OpCells l) : OpRow (n + 1) (xs ++ l) := by
  obtain ⟨hlen, hr⟩ := h
  refine ⟨by rw [List.length_append, hlen, hl.length]; omega, fun j hj => ?_⟩
  by_cases e : j = n
  · subst e
    refine ⟨l, hl, fun i hi => ?_⟩
    rw [List.getElem?_append_right (by omega), hlen]
    congr 1; omega
  · obtain ⟨l', hl', r⟩ := hr j (by omega)
    refine ⟨l', hl', fun i hi => ?_⟩
    rw [List.getElem?_append_left (by omega)]
    exact r i hi
theorem OpRow.length {n : Nat} {xs : List Value} (h : OpRow n xs) : xs.length = n * 17 := h.1
theorem OpRow.at {n : Nat} {xs : List Value} (h : OpRow n xs) : ∀ j, j < n → ∃ l, OpCells l ∧ ∀ i, i < 17 → xs[j * 17 + i]? = l[i]? := h.2
theorem OpRow.one {n : Nat} {xs : List Value} (h : OpRow n xs) : ∀ u ∈ xs, u.oneCell' = true := by
  intro u hu
  obtain ⟨k, hk⟩ := List.mem_iff_getElem?.1 hu
  have hlt : k < n * 17 := by
    obtain ⟨x, _⟩ := List.getElem?_eq_some_iff.1 hk
    rw [h.1] at x; exact x
  obtain ⟨l, hl, r⟩ := h.2 (k / 17) (by omega)
  have e := r (k % 17) (by omega)
  rw [show k / 17 * 17 + k % 17 = k by omega, hk] at e
  exact hl.one u (List.mem_iff_getElem?.2 ⟨_, e.symm⟩)
theorem OpRow.append {n m : Nat} {xs ys : List Value} (h : OpRow n xs) (k : OpRow m ys) : OpRow (n + m) (xs ++ ys) := by
  refine ⟨by rw [List.length_append, h.1, k.1]; omega, fun j hj => ?_⟩
  have hl := h.1
  by_cases e : j < n
  · obtain ⟨l, hc, r⟩ := h.2 j e
    refine ⟨l, hc, fun i hi => ?_⟩
    rw [List.getElem?_append_left (by omega)]
    exact r i hi
  · obtain ⟨l, hc, r⟩ := k.2 (j - n) (by omega)
    refine ⟨l, hc, fun i hi => ?_⟩
    rw [List.getElem?_append_right (by omega), hl, ← r i hi]
    congr 1; omega
end Go.Proofs.YthbbfjfekchdiaaGreat
namespace Go.Proofs.YthbbfjfekchdiaaGreat
open Go.ChangeShapes Go.WideShapes Go.ChangeAt Go.RowKit
theorem Tryz.cellsInt : Tryz.prog.cellsOf 3 = 1 := by kernel_rfl
theorem Tryz.cellsCfg : Tryz.prog.cellsOf 40 = 10 := by kernel_rfl
theorem Tryz.cellsArr : Tryz.prog.cellsOf 38 = 8 := by kernel_rfl
theorem Tryz.cellsArc : Tryz.prog.cellsOf 37 = 2 := by kernel_rfl
theorem Tryz.cellsPts : Tryz.prog.cellsOf 41 = 1 := by kernel_rfl
theorem Tryz.cellsStr : Tryz.prog.cellsOf 9 = 1 := by kernel_rfl
theorem Tryz.cellsOp : Tryz.prog.cellsOf 43 = 17 := by kernel_rfl
theorem list2 {α : Type} {l : List α} (h : l.length = 2) : ∃ a0 a1, l = [a0, a1] := by
  obtain _ | ⟨a0, l⟩ := l
  · simp at h
  obtain _ | ⟨a1, l⟩ := l
  · simp at h
  obtain _ | ⟨b, l⟩ := l
  · exact ⟨a0, a1, rfl⟩
  · simp at h
theorem list17 {α : Type} {l : List α} (h : l.length = 17) : ∃ a0 a1 a2 a3 a4 a5 a6 a7 a8 a9 a10 a11 a12 a13 a14 a15 a16, l = [a0, a1, a2, a3, a4, a5, a6, a7, a8, a9, a10, a11, a12, a13, a14, a15, a16] := by
  obtain _ | ⟨a0, l⟩ := l
  · simp at h
  obtain _ | ⟨a1, l⟩ := l
  · simp at h
  obtain _ | ⟨a2, l⟩ := l
  · simp at h
  obtain _ | ⟨a3, l⟩ := l
  · simp at h
  obtain _ | ⟨a4, l⟩ := l
  · simp at h
  obtain _ | ⟨a5, l⟩ := l
  · simp at h
  obtain _ | ⟨a6, l⟩ := l
  · simp at h
  obtain _ | ⟨a7, l⟩ := l
  · simp at h
  obtain _ | ⟨a8, l⟩ := l
  · simp at h
  obtain _ | ⟨a9, l⟩ := l
  · simp at h
  obtain _ | ⟨a10, l⟩ := l
  · simp at h
  obtain _ | ⟨a11, l⟩ := l
  · simp at h
  obtain _ | ⟨a12, l⟩ := l
  · simp at h
  obtain _ | ⟨a13, l⟩ := l
  · simp at h
  obtain _ | ⟨a14, l⟩ := l
  · simp at h
  obtain _ | ⟨a15, l⟩ := l
  · simp at h
  obtain _ | ⟨a16, l⟩ := l
  · simp at h
  obtain _ | ⟨b, l⟩ := l
  · exact ⟨a0, a1, a2, a3, a4, a5, a6, a7, a8, a9, a10, a11, a12, a13, a14, a15, a16, rfl⟩
  · simp at h
section
variable {H : Type} {enc : TypeId × Value → H} {w : World} {base : Nat} {spare : Nat → Bool} {held : Bool}
theorem int_at {n i : Nat} {c : Value} {xs : List (DataW H × List MemPlace)} (hi : i < xs.length) (h : DataW.trod enc Tryz.prog w base spare held n 3 [c] = xs[i]?) : ∃ z, c = i64 z ∧ (Lit.int .i64 z).wf = true := by
  rw [List.getElem?_eq_getElem hi] at h
  obtain ⟨z, h1, _, h2⟩ := DataW.trod_int Tryz.underlying3 h
  exact ⟨z, by simpa using h1, h2⟩
theorem arc_read {n : Nat} {a b : Value} {x : DataW H × List MemPlace} (h : DataW.trod enc Tryz.prog w base spare held n 37 [a, b] = some x) : ∃ s k, a = i64 s ∧ b = i64 k := by
  obtain ⟨xs, m, _, _, _, hl, hf⟩ := DataW.trod_struct Tryz.underlying37 h
  have hl' : xs.length = 2 := hl
  have f0 : DataW.trod enc Tryz.prog w base spare held m 3 (([a, b].drop 0).take (Tryz.prog.cellsOf 3)) = xs[0]? := hf 0 _ rfl
  rw [Tryz.cellsInt] at f0
  have f1 : DataW.trod enc Tryz.prog w base spare held m 3 (([a, b].drop 1).take (Tryz.prog.cellsOf 3)) = xs[1]? := hf 1 _ rfl
  rw [Tryz.cellsInt] at f1
  obtain ⟨s, hs, _⟩ := int_at (by omega) f0
  obtain ⟨k, hk, _⟩ := int_at (by omega) f1
  exact ⟨s, k, hs, hk⟩
theorem arr_read {n : Nat} {a0 a1 a2 a3 a4 a5 a6 a7 : Value} {x : DataW H × List MemPlace} (h : DataW.trod enc Tryz.prog w base spare held n 38 [a0, a1, a2, a3, a4, a5, a6, a7] = some x) :
    ∃ s0 k0 s1 k1 s2 k2 s3 k3, a0 = i64 s0 ∧ a1 = i64 k0 ∧ a2 = i64 s1 ∧ a3 = i64 k1 ∧ a4 = i64 s2 ∧ a5 = i64 k2 ∧ a6 = i64 s3 ∧ a7 = i64 k3 := by
  obtain ⟨xs, m, _, _, _, hl, hf⟩ := DataW.trod_array Tryz.underlying38 h
  have f0 := hf 0 (by omega)
  have f1 := hf 1 (by omega)
  have f2 := hf 2 (by omega)
  have f3 := hf 3 (by omega)
  simp only [Tryz.cellsArc] at f0 f1 f2 f3
  rw [List.getElem?_eq_getElem (by omega)] at f0 f1 f2 f3
  obtain ⟨s0, k0, e0, e1⟩ := arc_read f0
  obtain ⟨s1, k1, e2, e3⟩ := arc_read f1
  obtain ⟨s2, k2, e4, e5⟩ := arc_read f2
  obtain ⟨s3, k3, e6, e7⟩ := arc_read f3
  exact ⟨s0, k0, s1, k1, s2, k2, s3, k3, e0, e1, e2, e3, e4, e5, e6, e7⟩
theorem cfg_read {n : Nat} {a0 a1 a2 a3 a4 a5 a6 a7 a8 a9 : Value} {x : DataW H × List MemPlace} (h : DataW.trod enc Tryz.prog w base spare held n 40 [a0, a1, a2, a3, a4, a5, a6, a7, a8, a9] = some x) :
    ∃ c : Cfg, a0 = i64 c.s0 ∧ a1 = i64 c.k0 ∧ a2 = i64 c.s1 ∧ a3 = i64 c.k1 ∧ a4 = i64 c.s2 ∧ a5 = i64 c.k2 ∧ a6 = i64 c.s3 ∧ a7 = i64 c.k3 ∧ a8 = i64 c.m ∧ a9 = i64 c.f := by
  obtain ⟨xs, m, _, _, _, hl, hf⟩ := DataW.trod_struct Tryz.underlying40 h
  have hl' : xs.length = 3 := hl
  have f0 : DataW.trod enc Tryz.prog w base spare held m 38 (([a0, a1, a2, a3, a4, a5, a6, a7, a8, a9].drop 0).take (Tryz.prog.cellsOf 38)) = xs[0]? := hf 0 _ rfl
  rw [Tryz.cellsArr] at f0
  have f1 : DataW.trod enc Tryz.prog w base spare held m 3 (([a0, a1, a2, a3, a4, a5, a6, a7, a8, a9].drop 8).take (Tryz.prog.cellsOf 3)) = xs[1]? := hf 1 _ rfl
  rw [Tryz.cellsInt] at f1
  have f2 : DataW.trod enc Tryz.prog w base spare held m 3 (([a0, a1, a2, a3, a4, a5, a6, a7, a8, a9].drop 9).take (Tryz.prog.cellsOf 3)) = xs[2]? := hf 2 _ rfl
  rw [Tryz.cellsInt] at f2
  rw [List.getElem?_eq_getElem (by omega)] at f0
  obtain ⟨s0, k0, s1, k1, s2, k2, s3, k3, e0, e1, e2, e3, e4, e5, e6, e7⟩ := arr_read f0
  obtain ⟨m', e8, _⟩ := int_at (by omega) f1
  obtain ⟨f', e9, _⟩ := int_at (by omega) f2
  exact ⟨⟨s0, k0, s1, k1, s2, k2, s3, k3, m', f'⟩, e0, e1, e2, e3, e4, e5, e6, e7, e8, e9⟩
theorem op_read {n : Nat} {cs : List Value} {x : DataW H × List MemPlace} (h : DataW.trod enc Tryz.prog w base spare held n 43 cs = some x) : OpCells cs := by
  obtain ⟨xs, m, _, _, hc, hl, hf⟩ := DataW.trod_struct Tryz.underlying43 h
  have hl' : xs.length = 8 := hl
  rw [Tryz.cellsOp] at hc
  obtain ⟨a0, a1, a2, a3, a4, a5, a6, a7, a8, a9, a10, a11, a12, a13, a14, a15, a16, rfl⟩ := list17 hc
  have f0 : DataW.trod enc Tryz.prog w base spare held m 3 (([a0, a1, a2, a3, a4, a5, a6, a7, a8, a9, a10, a11, a12, a13, a14, a15, a16].drop 0).take (Tryz.prog.cellsOf 3)) = xs[0]? := hf 0 _ rfl
  rw [Tryz.cellsInt] at f0
  have f1 : DataW.trod enc Tryz.prog w base spare held m 3 (([a0, a1, a2, a3, a4, a5, a6, a7, a8, a9, a10, a11, a12, a13, a14, a15, a16].drop 1).take (Tryz.prog.cellsOf 3)) = xs[1]? := hf 1 _ rfl
  rw [Tryz.cellsInt] at f1
  have f2 : DataW.trod enc Tryz.prog w base spare held m 3 (([a0, a1, a2, a3, a4, a5, a6, a7, a8, a9, a10, a11, a12, a13, a14, a15, a16].drop 2).take (Tryz.prog.cellsOf 3)) = xs[2]? := hf 2 _ rfl
  rw [Tryz.cellsInt] at f2
  have f3 : DataW.trod enc Tryz.prog w base spare held m 3 (([a0, a1, a2, a3, a4, a5, a6, a7, a8, a9, a10, a11, a12, a13, a14, a15, a16].drop 3).take (Tryz.prog.cellsOf 3)) = xs[3]? := hf 3 _ rfl
  rw [Tryz.cellsInt] at f3
  have f4 : DataW.trod enc Tryz.prog w base spare held m 3 (([a0, a1, a2, a3, a4, a5, a6, a7, a8, a9, a10, a11, a12, a13, a14, a15, a16].drop 4).take (Tryz.prog.cellsOf 3)) = xs[4]? := hf 4 _ rfl
  rw [Tryz.cellsInt] at f4
  have f5 : DataW.trod enc Tryz.prog w base spare held m 40 (([a0, a1, a2, a3, a4, a5, a6, a7, a8, a9, a10, a11, a12, a13, a14, a15, a16].drop 5).take (Tryz.prog.cellsOf 40)) = xs[5]? := hf 5 _ rfl
  rw [Tryz.cellsCfg] at f5
  have f6 : DataW.trod enc Tryz.prog w base spare held m 41 (([a0, a1, a2, a3, a4, a5, a6, a7, a8, a9, a10, a11, a12, a13, a14, a15, a16].drop 15).take (Tryz.prog.cellsOf 41)) = xs[6]? := hf 6 _ rfl
  rw [Tryz.cellsPts] at f6
  have f7 : DataW.trod enc Tryz.prog w base spare held m 9 (([a0, a1, a2, a3, a4, a5, a6, a7, a8, a9, a10, a11, a12, a13, a14, a15, a16].drop 16).take (Tryz.prog.cellsOf 9)) = xs[7]? := hf 7 _ rfl
  rw [Tryz.cellsStr] at f7
  obtain ⟨kd, rfl, _⟩ := int_at (by omega) f0
  obtain ⟨oa, rfl, wa⟩ := int_at (by omega) f1
  obtain ⟨ob, rfl, _⟩ := int_at (by omega) f2
  obtain ⟨od, rfl, _⟩ := int_at (by omega) f3
  obtain ⟨oe, rfl, _⟩ := int_at (by omega) f4
  rw [List.getElem?_eq_getElem (by omega)] at f5 f6 f7
  obtain ⟨c, rfl, rfl, rfl, rfl, rfl, rfl, rfl, rfl, rfl, rfl⟩ := cfg_read f5
  have hL : ∃ la ln lc, a15 = .slice la ln lc := by
    rcases DataW.trod_slice Tryz.underlying41 f6 with ⟨e, _⟩ | ⟨a, len, cap, _, _, _, _, e, _⟩
    · exact ⟨none, 0, 0, by simpa using e⟩
    · exact ⟨some a, len, cap, by simpa using e⟩
  obtain ⟨la, ln, lc, rfl⟩ := hL
  obtain ⟨ss, e, _⟩ := DataW.trod_string Tryz.underlying9 f7
  have e' : a16 = .string ss := by simpa using e
  subst e'
  have hr : -9223372036854775808 ≤ oa ∧ oa ≤ 9223372036854775807 := by
    have h1 : IntKind.i64.min = -9223372036854775808 := rfl
    have h2 : IntKind.i64.max = 9223372036854775807 := rfl
    simp only [Lit.wf, Bool.and_eq_true, decide_eq_true_eq] at wa
    omega
  exact ⟨kd, oa, ob, od, oe, c, la, ln, lc, ss, hr, rfl⟩
end
end Go.Proofs.YthbbfjfekchdiaaGreat
namespace Go.Proofs.YthbbfjfekchdiaaGreat
open Go.ChangeShapes Go.WideShapes Go.ChangeAt Go.RowKit
theorem Tryz.cellsPt : Tryz.prog.cellsOf 48 = 2 := by kernel_rfl
theorem Tryz.bytesPt : Tryz.prog.bytesOf 48 = 16 := by kernel_rfl
theorem list_choose {α : Type} {p : Nat → α → Prop} : ∀ (n : Nat), (∀ i, i < n → ∃ q, p i q) → ∃ l : List α, l.length = n ∧ ∀ (i : Nat) (q : α), l[i]? = some q → p i q
  | 0, _ => ⟨[], rfl, fun i q h => by simp at h⟩
  | n + 1, h => by
    obtain ⟨l, hl, hp⟩ := list_choose n fun i hi => h i (by omega)
    obtain ⟨q, hq⟩ := h n (by omega)
    refine ⟨l ++ [q], by simp [hl], fun i x hx => ?_⟩
    by_cases e : i < n
    · rw [List.getElem?_append_left (by omega)] at hx
      exact hp i x hx
    · have hi : i = n := by
        obtain ⟨y, _⟩ := List.getElem?_eq_some_iff.1 hx
        simp at y; omega
      subst hi
      rw [List.getElem?_append_right (by omega), hl] at hx
      simp at hx
      subst hx
      exact hq
theorem weights_mem_all {H : Type} {P : Program} {e : TypeId} : ∀ {l : List (DataW H)} {d : DataW H}, d ∈ l → ∀ n ∈ d.weights P e, n ∈ DataW.weightsAll P e l
  | [], _, h, _, _ => by simp at h
  | x :: l, d, h, n, hn => by
    simp only [DataW.weightsAll, List.mem_append]
    rcases List.mem_cons.1 h with rfl | h
    · exact .inl hn
    · exact .inr (weights_mem_all h n hn)
section
variable {H : Type} {enc : TypeId × Value → H} {w : World} {base : Nat} {spare : Nat → Bool} {held : Bool}
theorem pt_read {n : Nat} {cs : List Value} {x : DataW H × List MemPlace} (h : DataW.trod enc Tryz.prog w base spare held n 48 cs = some x) : ∃ q : Pt, cs = [i64 q.1, i64 q.2] := by
  obtain ⟨xs, m, _, _, hc, hl, hf⟩ := DataW.trod_struct Tryz.underlying48 h
  rw [Tryz.cellsPt] at hc
  obtain ⟨a, b, rfl⟩ := list2 hc
  have hl' : xs.length = 2 := hl
  have f0 : DataW.trod enc Tryz.prog w base spare held m 3 (([a, b].drop 0).take (Tryz.prog.cellsOf 3)) = xs[0]? := hf 0 _ rfl
  rw [Tryz.cellsInt] at f0
  have f1 : DataW.trod enc Tryz.prog w base spare held m 3 (([a, b].drop 1).take (Tryz.prog.cellsOf 3)) = xs[1]? := hf 1 _ rfl
  rw [Tryz.cellsInt] at f1
  obtain ⟨s, hs, _⟩ := int_at (by omega) f0
  obtain ⟨k, hk, _⟩ := int_at (by omega) f1
  exact ⟨(s, k), by rw [hs, hk]⟩
theorem cell_plain {w : World} {a : Addr} {v : Value} (h : w.cell? a = some v) : a = ⟨a.block, a.off, none⟩ := by
  unfold World.cell? at h
  split at h
  · split at h
    · cases h
    · rename_i hs
      cases a with
      | mk b o s => cases s with
        | none => rfl
        | some _ => simp at hs
  · cases h
theorem pts_read {n : Nat} {v : Value} {x : DataW H × List MemPlace} (h : DataW.trod enc Tryz.prog w base spare held n 41 [v] = some x) (hw : ∀ k ∈ x.1.weights Tryz.prog 41, k ≤ reachBytes) : ∃ la ln lc, v = .slice la ln lc ∧ LOk w w.heap.size la ln lc := by
  rcases Go.Deep.open_slice Tryz.underlying41 h with ⟨e, _⟩ | ⟨a, len, cap, m, k, D, Pl, e, _, hl, hm, hmm, rfl, hx⟩
  · exact ⟨none, 0, 0, by simpa using e, ⟨[], none, 0, rfl, fun j q hj => by simp at hj⟩, fun _ => ⟨rfl, rfl⟩, fun a n c e hn => (by cases e), by omega⟩
  · have hlm : len ≤ m := by rw [hmm]; split <;> omega
    have each : ∀ i, i < len → ∃ q : Pt, w.cell? (a.add (i * 2)) = some (i64 q.1) ∧ w.cell? (a.add (i * 2 + 1)) = some (i64 q.2) := by
      intro i hi
      obtain ⟨cs', h1, h2⟩ := hx i (by omega)
      rw [Tryz.cellsPt] at h1
      obtain ⟨q, rfl⟩ := pt_read h2
      have h3 := (World.cells?_some h1).2.2
      have r0 := h3 0 (by omega)
      have r1 := h3 1 (by omega)
      rw [Go.Deep.add_add] at r0 r1
      exact ⟨q, by simpa using r0, by simpa using r1⟩
    obtain ⟨l, hll, hp⟩ := list_choose len each
    refine ⟨some a, len, cap, by simpa using e, ⟨l, some a, cap, by rw [hll], fun j q hj => ?_⟩, fun x => (by cases x), fun a' n' c' e' hn hge => ?_, ?_⟩
    · have h0 : 0 < len := by obtain ⟨y, _⟩ := List.getElem?_eq_some_iff.1 hj; omega
      obtain ⟨q0, z0, _⟩ := each 0 h0
      have ea : a = ⟨a.block, a.off, none⟩ := cell_plain (by simpa [Addr.add] using z0)
      obtain ⟨p0, p1⟩ := hp j q hj
      refine ⟨a.block, a.off, by rw [← ea], ?_⟩
      rw [ea, addr_addN] at p0 p1
      exact ⟨p0, by rw [Nat.add_assoc]; exact p1⟩
    · simp only [Value.slice.injEq, Option.some.injEq] at e'
      obtain ⟨rfl, rfl, rfl⟩ := e'
      obtain ⟨q0, z0, _⟩ := each 0 hn
      have := World.block_lt_of_cell? _ _ z0
      have ez : (a.add (0 * 2)).block = a.block := by simp [Addr.add]
      rw [ez] at this
      exact absurd hge (by show ¬ w.heap.size ≤ a.block; omega)
    · have := hw (((List.range len).map D).length + ((List.range (m - len)).map fun j => D (len + j)).length |> (· * Tryz.prog.bytesOf 48)) (by simp [DataW.weights, Tryz.underlying41])
      rw [Tryz.bytesPt] at this
      simp only [List.length_map, List.length_range, reachBytes] at this
      omega
end
end Go.Proofs.YthbbfjfekchdiaaGreat
namespace Go.Proofs.YthbbfjfekchdiaaGreat
open Go.ChangeShapes Go.WideShapes Go.ChangeAt Go.RowKit
section
variable {H : Type} {enc : TypeId × Value → H} {w : World} {base : Nat} {spare : Nat → Bool} {held : Bool}
theorem op_read3 {n : Nat} {cs : List Value} {x : DataW H × List MemPlace} (h : DataW.trod enc Tryz.prog w base spare held n 43 cs = some x) (hw : ∀ k ∈ x.1.weights Tryz.prog 43, k ≤ reachBytes) : OpIn3 w w.heap.size cs := by
  obtain ⟨kd, oa, ob, od, oe, c, la, ln, lc, ss, hr, rfl⟩ := op_read h
  obtain ⟨xs, m, _, hxe, hc, hl, hf⟩ := DataW.trod_struct Tryz.underlying43 h
  have hl' : xs.length = 8 := hl
  have f2 : DataW.trod enc Tryz.prog w base spare held m 3 (([i64 kd, i64 oa, i64 ob, i64 od, i64 oe, i64 c.s0, i64 c.k0, i64 c.s1, i64 c.k1, i64 c.s2, i64 c.k2, i64 c.s3, i64 c.k3, i64 c.m, i64 c.f, .slice la ln lc, .string ss].drop 2).take (Tryz.prog.cellsOf 3)) = xs[2]? := hf 2 _ rfl
  rw [Tryz.cellsInt] at f2
  obtain ⟨ob', eb, wb⟩ := int_at (by omega) f2
  have eb' : ob = ob' := by simpa using eb
  subst eb'
  have hrb : -9223372036854775808 ≤ ob ∧ ob ≤ 9223372036854775807 := by
    have h1 : IntKind.i64.min = -9223372036854775808 := rfl
    have h2 : IntKind.i64.max = 9223372036854775807 := rfl
    simp only [Lit.wf, Bool.and_eq_true, decide_eq_true_eq] at wb
    omega
  have f6 : DataW.trod enc Tryz.prog w base spare held m 41 (([i64 kd, i64 oa, i64 ob, i64 od, i64 oe, i64 c.s0, i64 c.k0, i64 c.s1, i64 c.k1, i64 c.s2, i64 c.k2, i64 c.s3, i64 c.k3, i64 c.m, i64 c.f, .slice la ln lc, .string ss].drop 15).take (Tryz.prog.cellsOf 41)) = xs[6]? := hf 6 _ rfl
  rw [Tryz.cellsPts, List.getElem?_eq_getElem (by omega)] at f6
  have f7 : DataW.trod enc Tryz.prog w base spare held m 9 (([i64 kd, i64 oa, i64 ob, i64 od, i64 oe, i64 c.s0, i64 c.k0, i64 c.s1, i64 c.k1, i64 c.s2, i64 c.k2, i64 c.s3, i64 c.k3, i64 c.m, i64 c.f, .slice la ln lc, .string ss].drop 16).take (Tryz.prog.cellsOf 9)) = xs[7]? := hf 7 _ rfl
  rw [Tryz.cellsStr, List.getElem?_eq_getElem (by omega)] at f7
  subst hxe
  have hwj : ∀ (j : Nat) (t : TypeId) (hj : j < xs.length), (#[3, 3, 3, 3, 3, 40, 41, 9] : Array TypeId).toList[j]? = some t → ∀ k ∈ xs[j].1.weights Tryz.prog t, k ≤ reachBytes := by
    intro j t hj ht k hk
    refine hw k ?_
    simp only [DataW.weights, Tryz.underlying43]
    refine DataW.weights_mem_each (j := j) (t := t) ht ?_ k hk
    rw [List.getElem?_map, List.getElem?_eq_getElem hj]; rfl
  obtain ⟨la', ln', lc', e, hL⟩ := pts_read f6 (hwj 6 _ (by omega) rfl)
  simp only [Value.slice.injEq] at e
  obtain ⟨rfl, rfl, rfl⟩ := e
  obtain ⟨s, es, hz, _⟩ := DataW.trod_string Tryz.underlying9 f7
  have es' : ss = s := by simp only [List.drop, List.take, List.cons.injEq, Value.string.injEq, and_true] at es; exact es
  subst es'
  have h7 := hwj 7 9 (by omega) rfl ss.data.toList.length (by rw [hz]; simp [DataW.weights])
  have hsz : ss.size ≤ 140737488355328 := by
    have : ss.data.toList.length = ss.size := Array.length_toList
    unfold reachBytes at h7
    omega
  exact ⟨kd, oa, ob, od, oe, c, la, ln, lc, ss, ⟨hL, hr, hrb, hsz⟩, rfl⟩
theorem row_read3 {a : Addr} {m : Nat} (h : ∀ i, i < m → ∃ l, OpIn3 w w.heap.size l ∧ ∀ j, j < 17 → w.cell? (a.add (i * 17 + j)) = l[j]?) : ∃ news, OpRow3 w w.heap.size m news ∧ ∀ j u, news[j]? = some u → w.cell? (a.add j) = some u := by
  induction m with
  | zero => exact ⟨[], .nil, fun j u hj => by simp at hj⟩
  | succ m ih =>
    obtain ⟨news, hr, hc⟩ := ih fun i hi => h i (by omega)
    obtain ⟨l, hl, hq⟩ := h m (by omega)
    refine ⟨news ++ l, .snoc hr hl, fun j u hj => ?_⟩
    have hn := hr.1
    by_cases e : j < m * 17
    · rw [List.getElem?_append_left (by omega)] at hj
      exact hc j u hj
    · rw [List.getElem?_append_right (by omega), hn] at hj
      have hlt : j - m * 17 < 17 := by
        obtain ⟨hh, _⟩ := List.getElem?_eq_some_iff.1 hj
        have := hl.length
        omega
      have := hq (j - m * 17) hlt
      rw [show m * 17 + (j - m * 17) = j by omega] at this
      exact this.trans hj
end
end Go.Proofs.YthbbfjfekchdiaaGreat
namespace Go.Proofs.YthbbfjfekchdiaaGreat
open Go.ChangeShapes Go.WideShapes Go.ChangeAt Go.RowKit
theorem playL {w : World} {p : Nat} {t : TypeId} (l : List Int) (cs : Array Value) (hb : w.heap[p]? = some (.cells cs t)) (hcs : cs.toList = l.map i64) : ∀ (i : Nat) (x : Int), l[i]? = some x → w.cell? ⟨p, i, none⟩ = some (i64 x) := by
  intro i x hx
  rw [cell_of_blk hb, ← Array.getElem?_toList, hcs, List.getElem?_map, hx]
  rfl
theorem Tryz.ownJ : ownKnob Tryz.prog.godebug = none := by kernel_rfl
theorem Tryz.laidOutJ : laidOutB Tryz.prog = true := by kernel_rfl
theorem Tryz.bytesOpJ : Tryz.prog.bytesOf 43 = 160 := by kernel_rfl
end Go.Proofs.YthbbfjfekchdiaaGreat
namespace Go.Proofs.YthbbfjfekchdiaaGreat
open Go.ChangeShapes Go.WideShapes Go.ChangeAt Go.RowKit
set_option maxHeartbeats 1000000 in
theorem files_nil {R : Rep} (H2 : ProgOk2 R) (HTY : ProgTy R) (w : World) :
    Calls Tryz.prog 5 #[.slice none 0 0] w fun e w' => e = .returned (.bool true) ∧ Below w.heap.size w w' := by
  go_enter Tryz.func5, Tryz.ntmps5
  go_wp2_with fail
  refine (plays3_nil H2 HTY w.heap.size [2, 4, 5, 6, 7, 8] _ (playL [2, 4, 5, 6, 7, 8] _ (blk_new w _) (by rfl)) (by decide) (by intro k hk; simp at hk; omega)).mono ?_
  rintro e w1 ⟨rfl, hb⟩
  have HB := hid (below_one hb)
  clear hb
  go_wp2
  go_ret
  exact ⟨rfl, HB.out⟩
set_option maxHeartbeats 1000000 in
theorem files_some {R : Rep} (H2 : ProgOk2 R) (HTY : ProgTy R) (ad : Addr) (m sc : Nat) (news : List Value) (w : World) (hsz : m * 160 ≤ 140737488351232) (hrow : OpRow3 w w.heap.size m news) (hnews : ∀ j u, news[j]? = some u → w.cell? (ad.add j) = some u) :
    Calls Tryz.prog 5 #[.slice (some ad) m sc] w fun e w' => e = .returned (.bool true) ∧ Below w.heap.size w w' := by
  have HR := hid hrow
  have HN := hid hnews
  have HA := hid (fun (o : Obj) => (Below.refl w.heap.size w).alloc (Nat.le_refl _) o)
  clear hrow hnews
  go_enter Tryz.func5, Tryz.ntmps5
  go_wp2_with fail
  refine (plays3_some H2 HTY w.heap.size [2, 4, 5, 6, 7, 8] ad m sc news _ hsz ((HR.out.below (HA.out _)).mono (HA.out _).size) (fun j u hj => cell_later (HA.out _) (HN.out j u hj)) (playL [2, 4, 5, 6, 7, 8] _ (blk_new w _) (by rfl)) (by decide) (by intro k hk; simp at hk; omega)).mono ?_
  rintro e w1 ⟨rfl, hb⟩
  have HB := hid (below_one hb)
  clear hb
  go_wp2
  go_ret
  exact ⟨rfl, HB.out⟩
set_option maxRecDepth 100000 in
theorem files_lifted {R : Rep} (HP : ProgOk2 R) (HTY : ProgTy R) (os : Os) (started : os.Started) (H : Type) (enc : TypeId × Value → H) :
    ReturnsInHanded {} Tryz.checked os 5 .any (Rows.filesSpec.pre6 enc Tryz.prog Tryz.f5 Rows.filesRow.domain false) (Rows.filesSpec.post enc Tryz.prog Tryz.f5 false true false false) := by
  refine returnsInHanded_of_change_sized (C := Tryz.checked) Tryz.ownJ started (by kernel_rfl) Tryz.func5
    (ChangeSpec.witness6 (enc := enc) (C := Tryz.checked) false ⟨#[], #[.slice none 0 0], []⟩ 8 (by kernel_rfl) (by kernel_rfl) (by kernel_rfl) (by kernel_rfl)) ?_
  intro W base args ds gs before hval0 hW _ hsz0 _
  have hsz : (DataW.weightsEach Tryz.prog (Tryz.f5.params.toList ++ Rows.filesSpec.plain.varTypes Tryz.prog) (ds ++ gs)).all (· ≤ reachBytes) = true := hsz0
  clear hsz0
  have hval : ∀ (j : Nat) t v, Tryz.f5.params[j]? = some t → args[j]? = some v → Value.okWide Tryz.prog W .any base t v := hval0
  have hW' := hW
  obtain ⟨p, q, hA0, hV, rfl, _, _⟩ := hW
  have hA : DataW.TrodAll enc Tryz.prog W 0 (fun _ => true) true Tryz.f5.params.toList args.toList ds p := hA0
  rw [Tryz.params5] at hA hval hsz
  obtain ⟨v0, d0, rfl, rfl, h0⟩ := trodAll_one hA
  obtain ⟨rfl, rfl⟩ := trodVars_none hV
  obtain ⟨a0, len, cap, rfl⟩ := okWide_slice Tryz.underlying22 (hval 0 22 v0 rfl rfl)
  have h0k := h0
  obtain ⟨fuel, hf⟩ := h0
  clear hA0 hval0
  simp only [List.append_nil] at hW'
  have hlt : ∀ x ∈ p, x.block < W.heap.size := fun x hx => by simpa using hW'.lt x hx
  have hargs : ∀ (W' : World), Below W.heap.size W W' → DataW.Trod enc Tryz.prog W' 0 (fun b => decide (b < W.heap.size)) true 22 (.slice a0 len cap) d0 p :=
    fun W' hn => Below.trod Tryz.laidOutJ (by kernel_rfl) (of_decide_eq_true (by kernel_rfl)) h0k hn hlt
  have fin : (Calls Tryz.prog 5 #[.slice a0 len cap] W fun e w' => e = .returned (.bool true) ∧ Below W.heap.size W w') →
      Calls Tryz.checked.prog 5 #[.slice a0 len cap] W fun e W' => ∃ v, e = Ending.returned v ∧ Rows.filesSpec.post enc Tryz.checked.prog Tryz.f5 false true false false W #[.slice a0 len cap] v W' := by
    intro hc
    refine hc.mono fun e W' ⟨he, hnx⟩ => ?_
    subst he
    refine ⟨_, rfl, _, _, _, [], p, [], hW', ?_, ?_, rfl, hnx.frame _, fun h => by cases h⟩
    · exact trodAll_mk1 (shut_bool Tryz.underlying4 true)
    · exact trodAll_mk1 (hargs _ hnx)
  rcases Go.Deep.open_slice Tryz.underlying22 hf with ⟨hcs, hx⟩ | ⟨a, len', cap', k, n, D, Pl, hcs, _, hl, hm, hk, hx, hel⟩
  · simp [Value.cells] at hcs
    obtain ⟨rfl, rfl, rfl⟩ := hcs
    exact fin (files_nil HP HTY W)
  · simp [Value.cells] at hcs
    obtain ⟨rfl, rfl, rfl⟩ := hcs
    simp only [if_true] at hk
    subst hk
    have hd : d0 = .slice ((List.range len).map D) ((List.range (k - len)).map fun j => D (len + j)) := congrArg Prod.fst hx
    rw [hd] at hsz
    have hby := sized_slice hsz (j := 0) (t := 22) (e := 43) rfl rfl Tryz.underlying22
    rw [Tryz.bytesOpJ] at hby
    simp only [List.length_map, List.length_range, reachBytes] at hby
    have hwt : ∀ i, i < len → ∀ n ∈ (D i).weights Tryz.prog 43, n ≤ reachBytes := by
      intro i hi n hn
      have hm := DataW.weights_mem_each (P := Tryz.prog) (ts := [22] ++ Rows.filesSpec.plain.varTypes Tryz.prog) (ds := [.slice ((List.range len).map D) ((List.range (k - len)).map fun j => D (len + j))] ++ []) (j := 0) (t := 22) rfl rfl n (by
        simp only [DataW.weights, Tryz.underlying22, List.mem_cons, List.mem_append]
        exact .inr (.inl (weights_mem_all (List.mem_map.2 ⟨i, List.mem_range.2 hi, rfl⟩) n hn)))
      have := List.all_eq_true.1 hsz n hm
      simpa using this
    have hops : ∀ i, i < len → ∃ l, OpIn3 W W.heap.size l ∧ ∀ j, j < 17 → W.cell? (a.add (i * 17 + j)) = l[j]? := by
      intro i hi
      obtain ⟨cs', h1, h2⟩ := hel i (by omega)
      rw [Tryz.cellsOp] at h1
      refine ⟨cs', op_read3 h2 (hwt i hi), fun j hj => ?_⟩
      have h3 := (World.cells?_some h1).2.2 j hj
      rwa [Go.Deep.add_add] at h3
    obtain ⟨news, hrow, hnews⟩ := row_read3 hops
    exact fin (files_some HP HTY a len k news W (by omega) hrow hnews)
theorem files_of {R : Rep} (HP : ProgOk2 R) (HTY : ProgTy R) : Rows.FilesSaid :=
  OpenClaim.holds_of_wide 5 Tryz.f5 rfl rfl rfl rfl rfl rfl rfl ⟨rfl, rfl, rfl, rfl, rfl⟩ rfl rfl rfl rfl rfl (by kernel_rfl) Tryz.func5 (by kernel_rfl)
    (of_decide_eq_true (by kernel_rfl)) (by unfold Func.isWrapper; first | (rw [if_pos (by decide +kernel)]; kernel_rfl) | (rw [if_neg (by decide +kernel)]; exact ⟨rfl, rfl⟩))
    (fun os started H enc _ => files_lifted HP HTY os started H enc)
end Go.Proofs.YthbbfjfekchdiaaGreat
