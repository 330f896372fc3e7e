import Derived.Test.YthbbfjfekchdiaaGreatXZBytes
import Derived.Test.YthbbfjfekchdiaaGreatXZMay
import Derived.Test.YthbbfjfekchdiaaGreatXTk
import Derived.Test.YthbbfjfekchdiaaGreatXCGood0
import Derived.Laws.BytesArg
import Derived.Deep.DeepCutAuto
namespace Go.Proofs.YthbbfjfekchdiaaGreat
def covL (d : RDb) (now : Int) (i : Nat) : List Pt := (sortedL ((d.L[i]?).getD [])).filter fun q => covB d.c i now q.1
def resizeTo (d : RDb) (now : Int) : Nat → RDb → RDb
  | 0, e => e
  | n + 1, e => resizeTo d now n (writesAll e now (covL d now n))
def resizeR (d : RDb) (now : Int) (c : Cfg) : RDb := resizeTo d now d.c.many (RDb.new c)
def resizeErr (now : Int) (c : Cfg) : Int := if ¬ (0 ≤ now ∧ now ≤ 2147483647) then 1 else c.err
theorem covL_in {d : RDb} (hd : d.Ok) {now : Int} {i : Nat} : ∀ q ∈ covL d now i, PtIn q := by
  intro q hq
  have h1 := sortedL_mem.1 (List.mem_filter.1 hq).1
  cases hl : d.L[i]? with
  | none => rw [hl] at h1; simp at h1
  | some l =>
    rw [hl] at h1
    exact (hd.pts i l hl).1 q h1
theorem new_okT {c : Cfg} (h : c.Ok) : (RDb.new c).Ok ∧ (RDb.new c).Al := by
  refine ⟨⟨h, by simp [RDb.new], fun i l hl => ?_, fun i l hl => ?_⟩, new_al c _ fun l hl => (List.mem_replicate.1 hl).2⟩
  · have : l = [] := (List.mem_replicate.1 (List.mem_iff_getElem?.2 ⟨i, hl⟩)).2
    subst this
    exact ⟨fun q hq => by simp at hq, by simp⟩
  · have : l = [] := (List.mem_replicate.1 (List.mem_iff_getElem?.2 ⟨i, hl⟩)).2
    subst this
    simp
def allSlots (d : RDb) : List (Option Pt) := (arcsOf d).flatten
def diffFrom : Nat → List (Option Pt) → List (Option Pt) → List Int
  | _, [], _ => []
  | _, _, [] => []
  | n, a :: l, b :: m => (if a = b then [] else [(n : Int)]) ++ diffFrom (n + 1) l m
def diffL (d o : RDb) : List Int := diffFrom 0 (allSlots d) (allSlots o)
def sameArcs (c e : Cfg) : Prop := ∀ i, i < 4 → c.s i = e.s i ∧ c.k i = e.k i
end Go.Proofs.YthbbfjfekchdiaaGreat
namespace Go.Proofs.YthbbfjfekchdiaaGreat
theorem slotsRead_add {c : Cfg} {i : Nat} : ∀ (m n k : Nat) (b : List Int), slotsRead c i k (m + n) b = (slotsRead c i k m b).bind fun z => (slotsRead c i (k + m) n z.2).map fun y => (z.1 ++ y.1, y.2)
  | 0, n, k, b => by
    rw [Nat.zero_add, slotsRead]
    simp
  | m + 1, n, k, b => by
    rw [show m + 1 + n = (m + n) + 1 by omega, slotsRead, slotsRead]
    cases slotRead c i k (readU (b.take 4)) (readN ((b.drop 4).take 8)) with
    | none => rfl
    | some o =>
      simp only
      rw [slotsRead_add m n (k + 1) (b.drop 12), show k + 1 + m = k + (m + 1) by omega]
      cases slotsRead c i (k + 1) m (b.drop 12) with
      | none => rfl
      | some z =>
        simp only [Option.bind_some, Option.map_some]
        cases slotsRead c i (k + (m + 1)) n z.2 with
        | none => rfl
        | some y => rfl
theorem slotsRead_one {c : Cfg} {i k : Nat} (b : List Int) : slotsRead c i k 1 b = (slotRead c i k (readU (b.take 4)) (readN ((b.drop 4).take 8))).map fun o => ([o], b.drop 12) := by
  rw [slotsRead]
  cases slotRead c i k (readU (b.take 4)) (readN ((b.drop 4).take 8)) with
  | none => rfl
  | some o => rw [slotsRead]; rfl
theorem slotsRead_rest {c : Cfg} {i : Nat} : ∀ (n k : Nat) (b : List Int) (L : List (Option Pt)) (r : List Int), slotsRead c i k n b = some (L, r) → L.length = n ∧ r = b.drop (12 * n)
  | 0, k, b, L, r, h => by
    rw [slotsRead] at h
    cases h
    exact ⟨rfl, rfl⟩
  | n + 1, k, b, L, r, h => by
    rw [slotsRead] at h
    cases ho : slotRead c i k (readU (b.take 4)) (readN ((b.drop 4).take 8)) with
    | none => rw [ho] at h; cases h
    | some o =>
      rw [ho] at h
      simp only at h
      cases hs : slotsRead c i (k + 1) n (b.drop 12) with
      | none => rw [hs] at h; cases h
      | some z =>
        rw [hs] at h
        simp only [Option.map_some, Option.some.injEq, Prod.mk.injEq] at h
        obtain ⟨rfl, rfl⟩ := h
        obtain ⟨h1, h2⟩ := slotsRead_rest n (k + 1) (b.drop 12) z.1 z.2 hs
        refine ⟨by rw [List.length_cons, h1], ?_⟩
        rw [h2, List.drop_drop]
        congr 1
        omega
theorem arcsRead_add {c : Cfg} : ∀ (m n i : Nat) (b : List Int), arcsRead c i (m + n) b = (arcsRead c i m b).bind fun z => (arcsRead c (i + m) n z.2).map fun y => (z.1 ++ y.1, y.2)
  | 0, n, i, b => by
    rw [Nat.zero_add, arcsRead]
    simp
  | m + 1, n, i, b => by
    rw [show m + 1 + n = (m + n) + 1 by omega, arcsRead, arcsRead]
    cases slotsRead c i 0 (c.k i).toNat b with
    | none => rfl
    | some r =>
      simp only
      rw [arcsRead_add m n (i + 1) r.2, show i + 1 + m = i + (m + 1) by omega]
      cases arcsRead c (i + 1) m r.2 with
      | none => rfl
      | some z =>
        simp only [Option.bind_some, Option.map_some]
        cases arcsRead c (i + (m + 1)) n z.2 with
        | none => rfl
        | some y => rfl
theorem arcsRead_one {c : Cfg} {i : Nat} (b : List Int) : arcsRead c i 1 b = (slotsRead c i 0 (c.k i).toNat b).map fun z => ([z.1], z.2) := by
  rw [arcsRead]
  cases slotsRead c i 0 (c.k i).toNat b with
  | none => rfl
  | some z => rfl
theorem slotLen_add {c : Cfg} : ∀ (m n i : Nat), slotLen c i (m + n) = slotLen c i m + slotLen c (i + m) n
  | 0, n, i => by simp [slotLen]
  | m + 1, n, i => by
    rw [show m + 1 + n = (m + n) + 1 by omega, slotLen, slotLen, slotLen_add m n (i + 1), show i + 1 + m = i + (m + 1) by omega]
    omega
theorem slotLen_one (c : Cfg) (i : Nat) : slotLen c i 1 = 12 * (c.k i).toNat := by rw [slotLen, slotLen]; omega
theorem arcsRead_rest {c : Cfg} : ∀ (n i : Nat) (b : List Int) (A : List (List (Option Pt))) (r : List Int), arcsRead c i n b = some (A, r) → A.length = n ∧ r = b.drop (slotLen c i n)
  | 0, i, b, A, r, h => by
    rw [arcsRead] at h
    cases h
    exact ⟨rfl, rfl⟩
  | n + 1, i, b, A, r, h => by
    rw [arcsRead] at h
    cases hs : slotsRead c i 0 (c.k i).toNat b with
    | none => rw [hs] at h; cases h
    | some z =>
      rw [hs] at h
      simp only at h
      cases hr : arcsRead c (i + 1) n z.2 with
      | none => rw [hr] at h; cases h
      | some y =>
        rw [hr] at h
        simp only [Option.map_some, Option.some.injEq, Prod.mk.injEq] at h
        obtain ⟨rfl, rfl⟩ := h
        obtain ⟨h1, h2⟩ := slotsRead_rest _ 0 b z.1 z.2 hs
        obtain ⟨h3, h4⟩ := arcsRead_rest n (i + 1) z.2 y.1 y.2 hr
        refine ⟨by rw [List.length_cons, h3], ?_⟩
        rw [h4, h2, List.drop_drop, slotLen]
structure Got (c : Cfg) (b : List Int) (i j : Nat) (A : List (List (Option Pt))) (L : List (Option Pt)) (r : List Int) : Prop where
  arcs : ∃ r0, arcsRead c 0 i b = some (A, r0) ∧ slotsRead c i 0 j r0 = some (L, r)
theorem Got.start (c : Cfg) (b : List Int) : Got c b 0 0 [] [] b := ⟨b, by rw [arcsRead], by rw [slotsRead]⟩
theorem Got.len {c : Cfg} {b : List Int} {i j : Nat} {A : List (List (Option Pt))} {L : List (Option Pt)} {r : List Int} (h : Got c b i j A L r) : A.length = i ∧ L.length = j ∧ r = b.drop (slotLen c 0 i + 12 * j) := by
  obtain ⟨r0, h1, h2⟩ := h.arcs
  obtain ⟨a1, a2⟩ := arcsRead_rest _ _ _ _ _ h1
  obtain ⟨b1, b2⟩ := slotsRead_rest _ _ _ _ _ h2
  refine ⟨a1, b1, ?_⟩
  rw [b2, a2, List.drop_drop]
theorem Got.slot {c : Cfg} {b : List Int} {i j : Nat} {A : List (List (Option Pt))} {L : List (Option Pt)} {r : List Int} {o : Option Pt} (h : Got c b i j A L r) (ho : slotRead c i j (readU (r.take 4)) (readN ((r.drop 4).take 8)) = some o) : Got c b i (j + 1) A (L ++ [o]) (r.drop 12) := by
  obtain ⟨r0, h1, h2⟩ := h.arcs
  refine ⟨r0, h1, ?_⟩
  rw [slotsRead_add j 1 0 r0, h2]
  simp only [Option.bind_some, Nat.zero_add]
  rw [slotsRead_one, ho]
  rfl
theorem Got.arc {c : Cfg} {b : List Int} {i : Nat} {A : List (List (Option Pt))} {L : List (Option Pt)} {r : List Int} (h : Got c b i (c.k i).toNat A L r) : Got c b (i + 1) 0 (A ++ [L]) [] r := by
  obtain ⟨r0, h1, h2⟩ := h.arcs
  refine ⟨r, ?_, by rw [slotsRead]⟩
  rw [arcsRead_add i 1 0 b, h1]
  simp only [Option.bind_some, Nat.zero_add]
  rw [arcsRead_one, h2]
  rfl
theorem Got.bad {c : Cfg} {b : List Int} {i j n : Nat} {A : List (List (Option Pt))} {L : List (Option Pt)} {r : List Int} (h : Got c b i j A L r) (ho : slotRead c i j (readU (r.take 4)) (readN ((r.drop 4).take 8)) = none) (hi : i < n) (hj : j < (c.k i).toNat) : arcsRead c 0 n b = none := by
  obtain ⟨r0, h1, h2⟩ := h.arcs
  obtain ⟨m, rfl⟩ : ∃ m, n = i + (1 + m) := ⟨n - i - 1, by omega⟩
  obtain ⟨e, he⟩ : ∃ e, (c.k i).toNat = j + (1 + e) := ⟨(c.k i).toNat - j - 1, by omega⟩
  rw [arcsRead_add i (1 + m) 0 b, h1]
  simp only [Option.bind_some, Nat.zero_add]
  rw [arcsRead_add 1 m i r0, arcsRead_one, he, slotsRead_add j (1 + e) 0 r0, h2]
  simp only [Option.bind_some, Nat.zero_add]
  rw [slotsRead_add 1 e j r, slotsRead_one, ho]
  rfl
theorem Got.done {c : Cfg} {b : List Int} {n : Nat} {A : List (List (Option Pt))} {L : List (Option Pt)} {r : List Int} (h : Got c b n 0 A L r) : arcsRead c 0 n b = some (A, r) := by
  obtain ⟨r0, h1, h2⟩ := h.arcs
  rw [slotsRead] at h2
  cases h2
  exact h1
theorem listOf_snoc (L : List (Option Pt)) (o : Option Pt) : listOf (L ++ [o]) = listOf L ++ (match o with | some q => [q] | none => []) := by
  unfold listOf
  rw [List.filterMap_append]
  cases o <;> rfl
theorem arcs_ok {c : Cfg} (hc : c.Ok) {A : List (List (Option Pt))} (h1 : A.length = c.many) (h2 : ∀ (j : Nat) (L : List (Option Pt)), A[j]? = some L → SlotsIn c j L) : (RDb.mk c (A.map listOf)).Ok ∧ (RDb.mk c (A.map listOf)).Al := by
  have hat : ∀ (i : Nat) (l : List Pt), (A.map listOf)[i]? = some l → ∃ L, A[i]? = some L ∧ SlotsIn c i L ∧ l = listOf L := fun i l hl => by
    rw [List.getElem?_map] at hl
    cases hx : A[i]? with
    | none => rw [hx] at hl; cases hl
    | some L => rw [hx] at hl; exact ⟨L, rfl, h2 i L hx, (Option.some.inj hl).symm⟩
  refine ⟨⟨hc, by show (A.map listOf).length = c.many; rw [List.length_map, h1], fun i l hl => ?_, fun i l hl => ?_⟩, fun i l hl q hq => ?_⟩
  · obtain ⟨L, hx, hL, rfl⟩ := hat i l hl
    refine ⟨fun q hq => ?_, ?_⟩
    · obtain ⟨j, hj⟩ := listOf_mem.1 hq
      exact (hL.2 j _ hj).1
    · unfold listOf
      refine Nat.le_trans (List.length_filterMap_le _ _) ?_
      rw [hL.1]
      have hi : i < c.many := by
        obtain ⟨x, _⟩ := List.getElem?_eq_some_iff.1 hx
        omega
      have := (Cfg.bd hc hi).2.2.2
      omega
  · obtain ⟨L, _, hL, rfl⟩ := hat i l hl
    exact listOf_apart hL
  · obtain ⟨L, _, hL, rfl⟩ := hat i l hl
    obtain ⟨j, hj⟩ := listOf_mem.1 hq
    exact (hL.2 j _ hj).2.1
theorem Got.short {c : Cfg} {b : List Int} {i j n : Nat} {A : List (List (Option Pt))} {L : List (Option Pt)} {r : List Int} (h : Got c b i j A L r) (hs : r.length < 12) (hi : i < n) (hj : j < (c.k i).toNat) : b.length < slotLen c 0 n := by
  have := h.len.2.2
  rw [this, List.length_drop] at hs
  obtain ⟨m, rfl⟩ : ∃ m, n = i + (1 + m) := ⟨n - i - 1, by omega⟩
  rw [slotLen_add i (1 + m) 0, Nat.zero_add, slotLen_add 1 m i, slotLen_one]
  omega
end Go.Proofs.YthbbfjfekchdiaaGreat
namespace Go.Proofs.YthbbfjfekchdiaaGreat
open Go.RowKit
def RowB (w : World) (v : Value) (l : List Int) : Prop := ∃ a cap, v = .slice a l.length cap ∧ l.length ≤ cap ∧ (a = none → l = []) ∧ ∀ b o s, a = some ⟨b, o, s⟩ → l ≠ [] → s = none ∧ w.rangeAt b o (bs l)
theorem RowB.some' {w : World} {v : Value} {l : List Int} (h : RowB w v l) (hl : l ≠ []) : ∃ b o cap, v = .slice (some ⟨b, o, none⟩) l.length cap ∧ l.length ≤ cap ∧ w.rangeAt b o (bs l) := by
  obtain ⟨a, cap, h1, h2, h3, h4⟩ := h
  cases a with
  | none => exact absurd (h3 rfl) hl
  | some ad =>
    obtain ⟨b, o, s⟩ := ad
    obtain ⟨rfl, h5⟩ := h4 b o s rfl hl
    exact ⟨b, o, cap, h1, h2, h5⟩
theorem RowB.mk' {w : World} {b o cap : Nat} {l : List Int} (h : w.rangeAt b o (bs l)) (hc : l.length ≤ cap) : RowB w (.slice (some ⟨b, o, none⟩) l.length cap) l :=
  ⟨_, cap, rfl, hc, (fun e => by cases e), fun b' o' s' e _ => by cases e; exact ⟨rfl, h⟩⟩
theorem RowB.nil (w : World) (a : Option Addr) (cap : Nat) : RowB w (.slice a 0 cap) [] := ⟨a, cap, rfl, Nat.zero_le _, fun _ => rfl, fun _ _ _ _ h => absurd rfl h⟩
theorem RowB.of {w : World} {base : Nat} {v : Value} {l : List Int} (h : w.ownsRow base 5 1 v l.length (bs l)) : RowB w v l := by
  obtain ⟨_, ⟨rfl, h0⟩ | ⟨g, cap, cur, rfl, _, hg, hc, _, hs, ht⟩⟩ := h
  · have : l = [] := List.length_eq_zero_iff.1 h0
    subst this
    exact RowB.nil w none 0
  · refine RowB.mk' ?_ hc
    intro j u hj
    rw [Nat.zero_add, cell_of_blk hg]
    have hjl : j < l.length * 1 := by
      have := (List.getElem?_eq_some_iff.1 hj).1
      rw [bs_len] at this
      omega
    rw [← ht, List.getElem?_take_of_lt hjl] at hj
    simpa using hj
theorem range_fr {w w' : World} {b o : Nat} {cs : List Value} (h : w.rangeAt b o cs) {Out : Nat → Prop} (hf : Fr Out w w') (hb : cs ≠ [] → ¬ Out b) : w'.rangeAt b o cs := by
  intro j v hv
  have hc := h j v hv
  have hne : cs ≠ [] := fun e => by rw [e] at hv; simp at hv
  rw [World.cell?_of_block (a := ⟨b, o + j, none⟩) (hf.block b (World.block_lt_of_cell? _ _ hc) (hb hne))]
  exact hc
def OutB (In : Nat → Prop) (v : Value) : Prop := ∀ a n c, v = .slice (some a) n c → 0 < n → ¬ In a.block
theorem RowB.fr {w w' : World} {v : Value} {l : List Int} (h : RowB w v l) {Out : Nat → Prop} (hf : Fr Out w w') (ho : OutB Out v) : RowB w' v l := by
  obtain ⟨a, cap, h1, h2, h3, h4⟩ := h
  refine ⟨a, cap, h1, h2, h3, fun b o s e hl => ?_⟩
  obtain ⟨e1, e2⟩ := h4 b o s e hl
  refine ⟨e1, range_fr e2 hf fun _ => ?_⟩
  exact ho ⟨b, o, s⟩ l.length cap (by rw [h1, e]) (List.length_pos_iff.2 hl)
theorem RowB.later {w w' : World} {v : Value} {l : List Int} (h : RowB w v l) (hb : Below w.heap.size w w') : RowB w' v l :=
  h.fr (Fr.below (In := fun _ => False) hb) fun _ _ _ _ _ x => x
theorem RowB.from' {w : World} {b o cap : Nat} {l : List Int} (h : RowB w (.slice (some ⟨b, o, none⟩) l.length cap) l) (lo : Nat) (hlo : lo ≤ l.length) :
    RowB w (.slice (if cap = lo then some ⟨b, o, none⟩ else some ⟨b, o + lo, none⟩) (l.length - lo) (cap - lo)) (l.drop lo) ∧ (∀ In, OutB In (.slice (some ⟨b, o, none⟩) l.length cap) → OutB In (.slice (if cap = lo then some ⟨b, o, none⟩ else some ⟨b, o + lo, none⟩) (l.length - lo) (cap - lo))) := by
  obtain ⟨a, cap', e, h2, h3, h4⟩ := h
  simp only [Value.slice.injEq, true_and] at e
  obtain ⟨rfl, rfl⟩ := e
  refine ⟨⟨_, _, by rw [List.length_drop], by rw [List.length_drop]; omega, ?_, ?_⟩, ?_⟩
  · intro hn
    split at hn <;> cases hn
  · intro b' o' s hn hl
    have hlt : lo < l.length := by
      have := List.length_pos_iff.2 hl
      rw [List.length_drop] at this
      omega
    rw [if_neg (by omega)] at hn
    obtain ⟨_, h5⟩ := h4 b o none rfl (fun e => by rw [e] at hlt; simp at hlt)
    cases hn
    refine ⟨rfl, ?_⟩
    rw [← bs_drop]
    exact range_drop h5 lo
  · intro In ho ad n c hv hn
    simp only [Value.slice.injEq] at hv
    obtain ⟨ha, hn', _⟩ := hv
    have hlt : lo < l.length := by omega
    rw [if_neg (by omega)] at ha
    have := ho ⟨b, o, none⟩ l.length cap rfl (by omega)
    cases ha
    exact this
section
variable {P : Program}
theorem run_array_at (w : World) (t e : TypeId) (n : Nat) (ht : P.underlying t = some (.array n e)) (ad : Addr) (len cap : Nat) (h : n ≤ len) : (Instr.arrayAt t (.slice (some ad) len cap)).run P w = .ok (.pointer (some ad)) w := by
  have h' : ¬ len < n := by omega
  simp [Instr.arrayAt, run_underlying ht, h']
end
theorem strOfNums_inj {l m : List Int} (hl : ByteL l) (hm : ByteL m) (h : strOfNums l = strOfNums m) : l = m := by
  have h1 : (l.map fun n => UInt8.ofNat n.toNat) = m.map fun n => UInt8.ofNat n.toNat := by
    rw [← strOfNums_data, ← strOfNums_data, h]
  clear h
  induction l generalizing m with
  | nil => cases m with
    | nil => rfl
    | cons b m => simp at h1
  | cons a l ih =>
    cases m with
    | nil => simp at h1
    | cons b m =>
      simp only [List.map_cons, List.cons.injEq] at h1
      have ha := hl a (by simp)
      have hb := hm b (by simp)
      have e := congrArg UInt8.toNat h1.1
      rw [UInt8.toNat_ofNat', UInt8.toNat_ofNat'] at e
      have : a = b := by omega
      rw [this, ih (fun x hx => hl x (by simp [hx])) (fun x hx => hm x (by simp [hx])) h1.2]
end Go.Proofs.YthbbfjfekchdiaaGreat
namespace Go.Proofs.YthbbfjfekchdiaaGreat
open Go.RowKit
set_option linter.unusedSimpArgs false
attribute [local go_sem] Go.wp_at_zero Go.wp_at_succ
def sunL : List Int := [83, 85, 78, 1]
theorem sunL_byte : ByteL sunL := by intro x hx; simp [sunL] at hx; omega
theorem mark_iff {m : List Int} (hm : ByteL m) : (strOfNums m).toList = [83, 85, 78, 1] ↔ m = sunL := by
  constructor
  · intro h
    refine strOfNums_inj hm sunL_byte ?_
    have h1 : (strOfNums m).data.toList = (strOfNums sunL).data.toList := by
      rw [← ByteArray.toList_eq, h]
      rfl
    have h2 : (strOfNums m).data = (strOfNums sunL).data := Array.ext' h1
    exact ByteArray.ext h2
  · rintro rfl
    rw [ByteArray.toList_eq]
    rfl
def zero10 : Array Value := #[i64 0, i64 0, i64 0, i64 0, i64 0, i64 0, i64 0, i64 0, i64 0, i64 0]
theorem Tryz.infoU8S : (Tryz.prog.info? 5).map (fun i => (i.zero, i.size, i.bytes)) = some (some (.int .u8 0), 1, 1) := by kernel_rfl
set_option maxRecDepth 4000 in
set_option maxHeartbeats 2000000 in
theorem head_short (v : Value) (l : List Int) (w : World) (hr : RowB w v l) (h7 : l.length < 7) :
    Calls Tryz.prog 45 #[v] w fun e w' => e = .returned (.tuple #[.agg zero10, .slice none 0 0, .bool false]) ∧ Below w.heap.size w w' := by
  obtain ⟨a, cap, rfl, h2, _⟩ := hr
  have h7' : (l.length : Int) < 7 := by omega
  go_enter Tryz.func45, Tryz.ntmps45
  go_wp2
  refine bodyPost_ret (v := .tuple #[.agg zero10, .slice none 0 0, .bool false]) (by simp [results, Tryz.results45, go_sem, zero10]) rfl ⟨rfl, ?_⟩
  repeat (first | (with_reducible refine Below.setCell ?_ (by dsimp only; omega) _) | (with_reducible refine Below.alloc ?_ (by simp; try omega) _))
  exact Below.refl _ _
set_option maxRecDepth 4000 in
set_option maxHeartbeats 2000000 in
theorem head_mark (v : Value) (l : List Int) (w : World) (hr : RowB w v l) (hb : ByteL l) (h7 : 7 ≤ l.length) (hm : l.take 4 ≠ sunL) :
    Calls Tryz.prog 45 #[v] w fun e w' => e = .returned (.tuple #[.agg zero10, .slice none 0 0, .bool false]) ∧ Below w.heap.size w w' := by
  obtain ⟨b, o, cap, rfl, h2, hrg⟩ := hr.some' (fun e => by rw [e] at h7; simp at h7)
  have h7' : ¬ (l.length : Int) < 7 := by omega
  have hcv := fun (O : Obj) => run_convert_bytes_arg (P := Tryz.prog) (w.alloc O) 57 5 Tryz.underlying57 Tryz.underlying5 b o 4 cap (l.take 4) (by rw [List.length_take]; omega) (fun i hi => by
    have : (bs l)[i]? = some (.int .u8 ((l.take 4).getD i 0)) := by
      unfold bs
      rw [List.getElem?_map, List.getElem?_eq_getElem (show i < l.length by omega)]
      simp [List.getD, List.getElem?_take_of_lt hi, List.getElem?_eq_getElem (show i < l.length by omega)]
    exact cell_later ((Below.refl w.heap.size w).alloc (Nat.le_refl _) O) (hrg i _ this)) 9 Tryz.underlying9
  have hne : ((strOfNums (l.take 4)).toList == [83, 85, 78, 1]) = false :=
    beq_eq_false_iff_ne.2 fun e => hm ((mark_iff fun x hx => hb x (List.mem_of_mem_take hx)).1 e)
  have c4 : (4 : Int) ≤ (cap : Int) := by omega
  have c4' : ¬ (cap : Int) < 4 := by omega
  clear hrg hm hb
  go_enter Tryz.func45, Tryz.ntmps45
  go_wp2
  refine bodyPost_ret (v := .tuple #[.agg zero10, .slice none 0 0, .bool false]) (by simp [results, Tryz.results45, go_sem, zero10]) rfl ⟨rfl, ?_⟩
  repeat (first | (with_reducible refine Below.setCell ?_ (by dsimp only; omega) _) | (with_reducible refine Below.alloc ?_ (by simp; try omega) _))
  exact Below.refl _ _
structure HeadI (w wr : World) (v v' : Value) (l : List Int) (k : Nat) : Prop where
  old : Below w.heap.size w wr
  row : RowB wr v' (l.drop (7 + 8 * k))
  out : ∀ In, OutB In v → OutB In v'
  res : wr.heap[w.heap.size]? = some (.cells zero10 40)
  cfg : wr.heap[w.heap.size + 1]? = some (.cells (cfgRead l k).cells 40)
theorem blk_two' (w : World) (O1 O2 : Obj) : ((w.alloc O1).alloc O2).heap[w.heap.size + 1]? = some O2 := by
  have := blk_new (w.alloc O1) O2
  simpa using this
theorem HeadI.start {w : World} {l : List Int} {v : Value} {O : Obj} {a7 : Option Addr} {n7 c7 : Nat} {A : Array Value} (hr : RowB w (.slice a7 n7 c7) (l.drop 7)) (ho : ∀ In, OutB In v → OutB In (.slice a7 n7 c7)) (hc : (cfgRead l 0).cells = A) (hO : O = .cells zero10 40) :
    HeadI w ((w.alloc O).alloc (.cells A 40)).drew v (.slice a7 n7 c7) l 0 := by
  have hb : Below w.heap.size w ((w.alloc O).alloc (.cells A 40)).drew := (((Below.refl _ w).alloc (Nat.le_refl _) O).alloc (by simp) _).drew
  refine ⟨hb, hr.later hb, ho, ?_, ?_⟩
  · rw [← hO]; exact blk_alloc (blk_new w O)
  · rw [hc]; exact blk_two' w _ _
theorem cfgRead_next {l : List Int} {k : Nat} (hk : k < 4) : ((cfgRead l k).cells.setIfInBounds (k * 2) (i64 (readU ((l.drop (7 + 8 * k)).take 4)))).setIfInBounds (k * 2 + 1) (i64 (readU ((l.drop (7 + 8 * k + 4)).take 4))) = (cfgRead l (k + 1)).cells := by
  have h : k = 0 ∨ k = 1 ∨ k = 2 ∨ k = 3 := by omega
  rcases h with rfl | rfl | rfl | rfl <;> rfl
theorem cfgRead_zero (l : List Int) : (cfgRead l 0).cells = #[i64 0, i64 0, i64 0, i64 0, i64 0, i64 0, i64 0, i64 0, i64 (l.getD 4 0), i64 (l.getD 5 0)] := rfl
set_option maxRecDepth 4000 in
set_option maxHeartbeats 4000000 in
theorem head_rest (v : Value) (l : List Int) (w : World) (hr : RowB w v l) (hb : ByteL l) (h7 : 7 ≤ l.length) (hm : l.take 4 = sunL) (Q : Ending → World → Prop)
    (hbad : (4 < l.getD 6 0 ∨ l.length < 7 + 8 * (l.getD 6 0).toNat) → ∀ w', Below w.heap.size w w' → Q (.returned (.tuple #[.agg zero10, .slice none 0 0, .bool false])) w')
    (hok : ¬ (4 < l.getD 6 0 ∨ l.length < 7 + 8 * (l.getD 6 0).toNat) → ∀ v' w', Below w.heap.size w w' → RowB w' v' (l.drop (7 + 8 * (l.getD 6 0).toNat)) → (∀ In, OutB In v → OutB In v') → Q (.returned (.tuple #[.agg (cfgRead l (l.getD 6 0).toNat).cells, v', .bool ((cfgRead l (l.getD 6 0).toNat).many == (l.getD 6 0).toNat)])) w') :
    Calls Tryz.prog 45 #[v] w Q := by
  have HR := hid hr
  obtain ⟨b, o, cap, rfl, h2, hrg⟩ := hr.some' (fun e => by rw [e] at h7; simp at h7)
  have h7' : ¬ (l.length : Int) < 7 := by omega
  have hcell : ∀ j x, l[j]? = some x → w.cell? ⟨b, o + j, none⟩ = some (.int .u8 x) := fun j x hx => hrg j _ (by unfold bs; rw [List.getElem?_map, hx]; rfl)
  have HCELL := hid hcell
  have hcv := fun (O : Obj) => run_convert_bytes_arg (P := Tryz.prog) (w.alloc O) 57 5 Tryz.underlying57 Tryz.underlying5 b o 4 cap (l.take 4) (by rw [List.length_take]; omega) (fun i hi => by
    refine cell_later ((Below.refl w.heap.size w).alloc (Nat.le_refl _) O) (hcell i _ ?_)
    simp [List.getD, List.getElem?_take_of_lt hi, List.getElem?_eq_getElem (show i < l.length by omega)]) 9 Tryz.underlying9
  have hne : ((strOfNums (l.take 4)).toList == [83, 85, 78, 1]) = true :=
    beq_iff_eq.2 ((mark_iff fun x hx => hb x (List.mem_of_mem_take hx)).2 hm)
  have c4 : (4 : Int) ≤ (cap : Int) := by omega
  obtain ⟨x4, hx4⟩ : ∃ x, l[4]? = some x := ⟨_, List.getElem?_eq_getElem (by omega)⟩
  obtain ⟨x5, hx5⟩ : ∃ x, l[5]? = some x := ⟨_, List.getElem?_eq_getElem (by omega)⟩
  obtain ⟨x6, hx6⟩ : ∃ x, l[6]? = some x := ⟨_, List.getElem?_eq_getElem (by omega)⟩
  have e6 : l.getD 6 0 = x6 := by rw [List.getD, hx6]; rfl
  rw [e6] at hbad hok
  have HBAD := hid hbad
  have HOK := hid hok
  have y4 := hcell 4 x4 hx4
  have y5 := hcell 5 x5 hx5
  have y6 := hcell 6 x6 hx6
  obtain ⟨p4, q4⟩ := hb x4 (List.mem_iff_getElem?.2 ⟨4, hx4⟩)
  obtain ⟨p5, q5⟩ := hb x5 (List.mem_iff_getElem?.2 ⟨5, hx5⟩)
  obtain ⟨p6, q6⟩ := hb x6 (List.mem_iff_getElem?.2 ⟨6, hx6⟩)
  have hbz : b < w.heap.size := World.block_lt_of_cell? _ _ y4
  have HB := hid hb
  have HX4 := hid hx4
  have HX5 := hid hx5
  have i4 : (4 : Int) < (l.length : Int) := by omega
  have i5 : (5 : Int) < (l.length : Int) := by omega
  have i6 : (6 : Int) < (l.length : Int) := by omega
  obtain ⟨q0, hi0, hz0, hz1, hz2⟩ := info_parts Tryz.infoU8S
  obtain ⟨hr7, ho7⟩ := HR.out.from' 7 h7
  have HR7 := hid hr7
  have HO7 := hid ho7
  have HI0 := hid (And.intro hi0 hz1)
  have HC0 := hid (show (cfgRead l 0).cells = #[i64 0, i64 0, i64 0, i64 0, i64 0, i64 0, i64 0, i64 0, i64 x4, i64 x5] by rw [cfgRead_zero, List.getD, hx4, List.getD, hx5]; rfl)
  clear hr7 ho7 hi0 hz0 hz1 hz2
  clear hrg hm hb hcell hbad hok hr hx4 hx5 hx6 e6
  go_enter Tryz.func45, Tryz.ntmps45
  go_upto_region 3 with fail
  clear hcv
  refine wp_region_held_drew (S := (fun w' => w'.cell? ⟨b, o + 4, none⟩ = some (.int .u8 x4) ∧ w'.cell? ⟨b, o + 5, none⟩ = some (.int .u8 x5))) (by kernel_rfl) ?_ (fun hHeld => ?_)
  · exact ⟨cell_later ((Below.refl w.heap.size w).alloc (Nat.le_refl _) _).drew y4, cell_later ((Below.refl w.heap.size w).alloc (Nat.le_refl _) _).drew y5⟩
  refine tkI (i := 0) (oi := ⟨some 18, .move (.tmp 0), 57, _, #[], none⟩) ?_
  try simp only [Act.put, tkA, tkB, tkC]
  refine tkI (i := 1) (oi := ⟨some 19, .indexAddr 57 (.tmp 18) (.const (Value.int .i64 4)), 0, _, #[⟨0, .data⟩], none⟩) ?_
  try simp only [Act.put, tkA, tkB, tkC]
  refine tkI (i := 2) (oi := ⟨some 20, .load 5 (.tmp 19), 5, _, #[⟨1, .data⟩], none⟩) ?_
  try simp only [Act.put, tkA, tkB, tkC]
  refine tkI (i := 3) (oi := ⟨some 21, .convert 5 3 (.tmp 20), 3, _, #[⟨2, .data⟩], none⟩) ?_
  try simp only [Act.put, tkA, tkB, tkC]
  refine tkI (i := 4) (oi := ⟨some 22, .move (.tmp 0), 57, _, #[], none⟩) ?_
  try simp only [Act.put, tkA, tkB, tkC]
  refine tkI (i := 5) (oi := ⟨some 23, .indexAddr 57 (.tmp 22) (.const (Value.int .i64 5)), 0, _, #[⟨4, .data⟩], none⟩) ?_
  try simp only [Act.put, tkA, tkB, tkC]
  refine tkI (i := 6) (oi := ⟨some 24, .load 5 (.tmp 23), 5, _, #[⟨5, .data⟩], none⟩) ?_
  try simp only [Act.put, tkA, tkB, tkC]
  refine tkI (i := 7) (oi := ⟨some 25, .convert 5 3 (.tmp 24), 3, _, #[⟨6, .data⟩], none⟩) ?_
  try simp only [Act.put, tkA, tkB, tkC]
  refine tkI (i := 8) (oi := ⟨some 26, .build 40 #[(1, .tmp 21), (2, .tmp 25)], 40, _, #[⟨3, .data⟩, ⟨7, .data⟩], none⟩) ?_
  try simp only [Act.put, tkA, tkB, tkC]
  refine wpAnyH_ready (rs := [9]) (by kernel_rfl) (by simp) ?_
  refine AllReadyH.cons rfl (fun K' hK => ?_) AllReadyH.nil
  go_simp
  refine hK.out _ _ ?_ (fun hHeld => ?_)
  · go_keep
  clear hK K'
  refine wpAnyH_ready (rs := [10]) (by kernel_rfl) (by simp) ?_
  refine AllReadyH.cons rfl (fun K' hK => ?_) AllReadyH.nil
  go_simp
  refine hK.out _ _ ?_ (fun hHeld => ?_)
  · go_keep
  clear hK K'
  refine wpAnyH_done (by kernel_rfl) ?_ _
  go_upto_region 6 with fail
  have wx4 : IntKind.i64.wrap x4 = x4 := by rw [IntKind.wrap_i64]; omega
  have wx5 : IntKind.i64.wrap x5 = x5 := by rw [IntKind.wrap_i64]; omega
  rw [wx4, wx5]
  generalize (if cap = 7 then some (⟨b, o, none⟩ : Addr) else some ⟨b, o + 7, none⟩) = a7 at HR7 HO7 ⊢
  have HB0 := hid (fun (O1 O2 : Obj) => show Below w.heap.size w ((w.alloc O1).alloc O2).drew from (((Below.refl _ w).alloc (Nat.le_refl _) O1).alloc (by simp) O2).drew)
  have HW0 := hid (fun (O1 O2 : Obj) => show ((w.alloc O1).alloc O2).drew.heap[w.heap.size]? = some O1 from blk_alloc (blk_new w O1))
  have HW1 := hid (fun (O1 O2 : Obj) => show ((w.alloc O1).alloc O2).drew.heap[w.heap.size + 1]? = some O2 from blk_two' w O1 O2)
  have e7 : (l.drop 7).length = l.length - 7 := List.length_drop
  by_cases hbad : 4 < x6 ∨ l.length < 7 + 8 * x6.toNat
  · have HF := hid (HBAD.out hbad)
    by_cases h4 : 4 < x6
    · go_wp2
      refine bodyPost_ret (v := .tuple #[.agg zero10, .slice none 0 0, .bool false]) (by simp [results, Tryz.results45, go_sem, zero10]) rfl (HF.out _ ?_)
      repeat (first | (with_reducible refine Below.setCell ?_ (by dsimp only; omega) _))
      exact HB0.out _ _
    · have h8 : ((l.length - 7 : Nat) : Int) < x6 * 8 := by omega
      go_wp2
      refine bodyPost_ret (v := .tuple #[.agg zero10, .slice none 0 0, .bool false]) (by simp [results, Tryz.results45, go_sem, zero10]) rfl (HF.out _ ?_)
      repeat (first | (with_reducible refine Below.setCell ?_ (by dsimp only; omega) _))
      exact HB0.out _ _
  · have HF := hid (HOK.out hbad)
    obtain ⟨n, rfl⟩ : ∃ n : Nat, x6 = (n : Int) := ⟨x6.toNat, by omega⟩
    simp only [Int.toNat_natCast] at HF hbad
    have hn4 : n ≤ 4 := by omega
    have hnl : 7 + 8 * n ≤ l.length := by omega
    have h4 : ¬ (4 : Int) < (n : Int) := by omega
    have h8 : ¬ ((l.length - 7 : Nat) : Int) < (n : Int) * 8 := by omega
    have HI7 := hid (HR7.out)
    go_wp2
    have HST := hid (HeadI.start (w := w) (l := l) (v := .slice (some ⟨b, o, none⟩) l.length cap) (O := .cells zero10 40) HR7.out HO7.out HC0.out rfl)
    clear hbad HBAD HOK y4 y5 y6 hne HB0 HW0 HW1 HR7 HO7 HI7 HR HC0 HX4 HX5 wx4 wx5 h8
    go_loopw [0, 44] (fun v' i' wr => ∃ k : Nat, k ≤ n ∧ i' = i64 k ∧ HeadI w wr (.slice (some ⟨b, o, none⟩) l.length cap) v' l k) (fun _ i' _ => n - (intOf i').toNat)
    case atStart => exact ⟨0, by omega, rfl, HST.out⟩
    clear HST
    case round =>
      obtain ⟨k, hk, rfl, I⟩ := hrel
      have HI := hid I
      clear I
      by_cases hlt : k < n
      · have hM : (l.drop (7 + 8 * k)).length = l.length - (7 + 8 * k) := List.length_drop
        obtain ⟨b1, o1, cap1, hu, hc1, hrg⟩ := HI.out.row.some' (fun e => by rw [e] at hM; simp at hM; omega)
        have HRW := hid HI.out.row
        have HOT := hid HI.out.out
        rw [hu] at HRW HOT
        obtain ⟨hr8, ho8⟩ := HRW.out.from' 8 (by omega)
        have hl8 : ((l.drop (7 + 8 * k)).take 8).length = 8 := by rw [List.length_take]; omega
        have HSH := hid (fun (w : World) => shape_read ((l.drop (7 + 8 * k)).take 8) w hl8 (fun x hx => HB.out x (List.mem_of_mem_drop (List.mem_of_mem_take hx))))
        have t1 : ((l.drop (7 + 8 * k)).take 8).take 4 = (l.drop (7 + 8 * k)).take 4 := by rw [List.take_take]; rfl
        have t2 : ((l.drop (7 + 8 * k)).take 8).drop 4 = (l.drop (7 + 8 * k + 4)).take 4 := by rw [List.drop_take, List.drop_drop]
        rw [t1, t2] at HSH
        have HNX := hid (cfgRead_next (l := l) (k := k) (by omega))
        obtain ⟨ss, hss⟩ : ∃ x, x = readU ((l.drop (7 + 8 * k)).take 4) := ⟨_, rfl⟩
        obtain ⟨kk, hkk⟩ : ∃ x, x = readU ((l.drop (7 + 8 * k + 4)).take 4) := ⟨_, rfl⟩
        rw [← hss, ← hkk] at HSH HNX
        obtain ⟨cs, hcs⟩ : ∃ x, x = bs ((l.drop (7 + 8 * k)).take 8) := ⟨_, rfl⟩
        rw [← hcs] at HSH
        have HRG := hid (show wr.rangeAt b1 o1 cs by rw [hcs, ← bs_take]; exact range_take hrg 8)
        have HSZ := hid (show (Tryz.prog.info? 113).map (·.size) = some cs.length by rw [hcs, bs_len, hl8]; exact Tryz.infoShapeB)
        have HD8 := hid (show (l.drop (7 + 8 * k)).drop 8 = l.drop (7 + 8 * (k + 1)) by rw [List.drop_drop]; congr 1)
        obtain ⟨M, hMM⟩ : ∃ x, x = (l.drop (7 + 8 * k)).length := ⟨_, rfl⟩
        rw [← hMM] at hu hr8 ho8 hM HOT hc1
        have harr := fun (w : World) => run_array_at (P := Tryz.prog) w 113 5 8 Tryz.underlying113 ⟨b1, o1, none⟩ 8 cap1 (by omega)
        have HR8 := hid hr8
        have HO8 := hid ho8
        have m8 : (8 : Int) ≤ (cap1 : Int) := by omega
        have m8' : 8 ≤ M := by omega
        have hkI : (k : Int) < (n : Int) := by omega
        have k0 : (0 : Int) ≤ (k : Int) := by omega
        have k4 : (k : Int) < 4 := by omega
        have hBz : w.heap.size + 1 < wr.heap.size := blk_lt HI.out.cfg
        have hsz : (cfgRead l k).cells.size = 10 := rfl
        have d0 : ∃ x, wr.cell? ⟨w.heap.size + 1, k * 2, none⟩ = some x := ⟨_, by rw [cell_of_blk HI.out.cfg, Array.getElem?_eq_getElem (by omega)]⟩
        have d1 : ∃ x, wr.cell? ⟨w.heap.size + 1, k * 2 + 1, none⟩ = some x := ⟨_, by rw [cell_of_blk HI.out.cfg, Array.getElem?_eq_getElem (by omega)]⟩
        obtain ⟨z0, hz0⟩ := d0
        obtain ⟨z1, hz1⟩ := d1
        have hb1z : b1 < wr.heap.size := World.block_lt_of_cell? _ _ (hrg 0 _ (by unfold bs; rw [List.getElem?_map, List.getElem?_eq_getElem (by omega)]; rfl))
        subst hu
        clear hr8 ho8 hl8 t1 t2 hss hkk hcs hMM hrg hsz HRW
        go_wp2_with (refine wpList_load_mid (by rfl) 113 (.tmp 50) (by rfl) b1 o1 (by rfl) cs _ HRG.out Tryz.underlying113 (by rfl) HSZ.out ?_)
        refine (HSH.out _).mono ?_
        rintro e w2 ⟨rfl, hb2⟩
        have e0 : w2.cell? ⟨w.heap.size + 1, k * 2, none⟩ = some z0 := cell_later hb2 hz0
        have e1 : w2.cell? ⟨w.heap.size + 1, k * 2 + 1, none⟩ = some z1 := cell_later hb2 hz1
        have f0 : w2.frozen? ⟨w.heap.size + 1, k * 2, none⟩ = false := (hb2.frozen (p := ⟨w.heap.size + 1, k * 2, none⟩) hBz).trans (frozen_of_blk HI.out.cfg _)
        have f1 : w2.frozen? ⟨w.heap.size + 1, k * 2 + 1, none⟩ = false := (hb2.frozen (p := ⟨w.heap.size + 1, k * 2 + 1, none⟩) hBz).trans (frozen_of_blk HI.out.cfg _)
        have hBz2 : w.heap.size + 1 < w2.heap.size := Nat.lt_of_lt_of_le hBz hb2.size
        have HNI := hid (show Below w.heap.size w ((w2.setCell ⟨w.heap.size + 1, k * 2, none⟩ (i64 ss)).setCell ⟨w.heap.size + 1, k * 2 + 1, none⟩ (i64 kk)) ∧ Fr (fun j => j = w.heap.size + 1) wr ((w2.setCell ⟨w.heap.size + 1, k * 2, none⟩ (i64 ss)).setCell ⟨w.heap.size + 1, k * 2 + 1, none⟩ (i64 kk)) ∧ ((w2.setCell ⟨w.heap.size + 1, k * 2, none⟩ (i64 ss)).setCell ⟨w.heap.size + 1, k * 2 + 1, none⟩ (i64 kk)).heap[w.heap.size]? = some (.cells zero10 40) ∧ ((w2.setCell ⟨w.heap.size + 1, k * 2, none⟩ (i64 ss)).setCell ⟨w.heap.size + 1, k * 2 + 1, none⟩ (i64 kk)).heap[w.heap.size + 1]? = some (.cells (cfgRead l (k + 1)).cells 40) from by
          have hbw : Below w.heap.size w w2 := HI.out.old.trans (hb2.mono HI.out.old.size)
          refine ⟨Below.setCell (p := ⟨w.heap.size + 1, k * 2 + 1, none⟩) (Below.setCell (p := ⟨w.heap.size + 1, k * 2, none⟩) hbw (by dsimp only; omega) _) (by dsimp only; omega) _, Fr.setCell (In := fun j => j = w.heap.size + 1) (Fr.setCell (In := fun j => j = w.heap.size + 1) (Fr.below hb2) rfl _ _) rfl _ _, ?_, ?_⟩
          · rw [blk_setCell_far (by show w.heap.size ≠ w.heap.size + 1; omega), blk_setCell_far (by show w.heap.size ≠ w.heap.size + 1; omega)]
            exact blk_later hb2 (blk_lt HI.out.res) HI.out.res
          · rw [← HNX.out]
            exact blk_setCell (blk_setCell (blk_later hb2 hBz HI.out.cfg) _ _) _ _)
        clear hb2 hz0 hz1 HI HSH HRG harr
        have HROW := hid (HR8.out.fr HNI.out.2.1 (HO8.out _ (HOT.out _ (show OutB (fun j => j = w.heap.size + 1) (.slice (some ⟨b, o, none⟩) l.length cap) from fun a m c e _ h => by
          cases e
          have h' : b = w.heap.size + 1 := h
          omega))))
        have HOUT := hid (fun In (h : OutB In (.slice (some ⟨b, o, none⟩) l.length cap)) => HO8.out In (HOT.out In h))
        rw [HD8.out] at HROW
        clear HR8 HO8 HOT HD8
        go_wp2
        subst hM
        exact ⟨⟨k + 1, by omega, by go_num, HNI.out.1, HROW.out, HOUT.out, HNI.out.2.2.1, HNI.out.2.2.2⟩, by simp [intOf]; omega⟩
      · have ek : n = k := by omega
        subst ek
        have HROW := hid HI.out.row
        have HOUT := hid HI.out.out
        have HOLD := hid HI.out.old
        have bC := HI.out.cfg
        have bR := HI.out.res
        obtain ⟨c, hc⟩ : ∃ c, c = cfgRead l n := ⟨_, rfl⟩
        rw [← hc] at bC HF
        have BC := hid bC
        have BR := hid bR
        have x0 : wr.cell? ⟨w.heap.size + 1, 0, none⟩ = some (i64 c.s0) := cell_of_blk bC 0
        have x1 : wr.cell? ⟨w.heap.size + 1, 1, none⟩ = some (i64 c.k0) := cell_of_blk bC 1
        have x2 : wr.cell? ⟨w.heap.size + 1, 2, none⟩ = some (i64 c.s1) := cell_of_blk bC 2
        have x3 : wr.cell? ⟨w.heap.size + 1, 3, none⟩ = some (i64 c.k1) := cell_of_blk bC 3
        have x4 : wr.cell? ⟨w.heap.size + 1, 4, none⟩ = some (i64 c.s2) := cell_of_blk bC 4
        have x5 : wr.cell? ⟨w.heap.size + 1, 5, none⟩ = some (i64 c.k2) := cell_of_blk bC 5
        have x6 : wr.cell? ⟨w.heap.size + 1, 6, none⟩ = some (i64 c.s3) := cell_of_blk bC 6
        have x7 : wr.cell? ⟨w.heap.size + 1, 7, none⟩ = some (i64 c.k3) := cell_of_blk bC 7
        have x8 : wr.cell? ⟨w.heap.size + 1, 8, none⟩ = some (i64 c.m) := cell_of_blk bC 8
        have x9 : wr.cell? ⟨w.heap.size + 1, 9, none⟩ = some (i64 c.f) := cell_of_blk bC 9
        have hzC : w.heap.size + 1 < wr.heap.size := blk_lt bC
        have hzR : w.heap.size < wr.heap.size := blk_lt bR
        have hm4 := c.many_le
        have r0 : wr.cell? ⟨w.heap.size, 0, none⟩ = some (i64 0) := cell_of_blk bR 0
        have z0 : wr.frozen? ⟨w.heap.size, 0, none⟩ = false := frozen_of_blk bR 0
        have r1 : wr.cell? ⟨w.heap.size, 1, none⟩ = some (i64 0) := cell_of_blk bR 1
        have z1 : wr.frozen? ⟨w.heap.size, 1, none⟩ = false := frozen_of_blk bR 1
        have r2 : wr.cell? ⟨w.heap.size, 2, none⟩ = some (i64 0) := cell_of_blk bR 2
        have z2 : wr.frozen? ⟨w.heap.size, 2, none⟩ = false := frozen_of_blk bR 2
        have r3 : wr.cell? ⟨w.heap.size, 3, none⟩ = some (i64 0) := cell_of_blk bR 3
        have z3 : wr.frozen? ⟨w.heap.size, 3, none⟩ = false := frozen_of_blk bR 3
        have r4 : wr.cell? ⟨w.heap.size, 4, none⟩ = some (i64 0) := cell_of_blk bR 4
        have z4 : wr.frozen? ⟨w.heap.size, 4, none⟩ = false := frozen_of_blk bR 4
        have r5 : wr.cell? ⟨w.heap.size, 5, none⟩ = some (i64 0) := cell_of_blk bR 5
        have z5 : wr.frozen? ⟨w.heap.size, 5, none⟩ = false := frozen_of_blk bR 5
        have r6 : wr.cell? ⟨w.heap.size, 6, none⟩ = some (i64 0) := cell_of_blk bR 6
        have z6 : wr.frozen? ⟨w.heap.size, 6, none⟩ = false := frozen_of_blk bR 6
        have r7 : wr.cell? ⟨w.heap.size, 7, none⟩ = some (i64 0) := cell_of_blk bR 7
        have z7 : wr.frozen? ⟨w.heap.size, 7, none⟩ = false := frozen_of_blk bR 7
        have r8 : wr.cell? ⟨w.heap.size, 8, none⟩ = some (i64 0) := cell_of_blk bR 8
        have z8 : wr.frozen? ⟨w.heap.size, 8, none⟩ = false := frozen_of_blk bR 8
        have r9 : wr.cell? ⟨w.heap.size, 9, none⟩ = some (i64 0) := cell_of_blk bR 9
        have z9 : wr.frozen? ⟨w.heap.size, 9, none⟩ = false := frozen_of_blk bR 9
        have HMN := hid (show ((c.many : Int) == (n : Int)) = (c.many == n) by
          rw [Bool.eq_iff_iff, beq_iff_eq, beq_iff_eq]; omega)
        have HOB := hid (show OutB (fun j => j = w.heap.size) (.slice (some ⟨b, o, none⟩) l.length cap) from fun a m c e _ h => by
          cases e
          have h' : b = w.heap.size := h
          omega)
        clear bC bR HI hc
        go_wp2_with fail
        refine wp_region_held_drew (S := (fun w' => w'.cell? ⟨w.heap.size + 1, 0, none⟩ = some (i64 c.s0) ∧ w'.cell? ⟨w.heap.size + 1, 1, none⟩ = some (i64 c.k0) ∧ w'.cell? ⟨w.heap.size + 1, 2, none⟩ = some (i64 c.s1) ∧ w'.cell? ⟨w.heap.size + 1, 3, none⟩ = some (i64 c.k1) ∧ w'.cell? ⟨w.heap.size + 1, 4, none⟩ = some (i64 c.s2) ∧ w'.cell? ⟨w.heap.size + 1, 5, none⟩ = some (i64 c.k2) ∧ w'.cell? ⟨w.heap.size + 1, 6, none⟩ = some (i64 c.s3) ∧ w'.cell? ⟨w.heap.size + 1, 7, none⟩ = some (i64 c.k3) ∧ w'.cell? ⟨w.heap.size + 1, 8, none⟩ = some (i64 c.m) ∧ w'.cell? ⟨w.heap.size + 1, 9, none⟩ = some (i64 c.f))) (by kernel_rfl) ?_ (fun hHeld => ?_)
        · go_keep
        refine tkI (i := 0) (oi := ⟨some 58, .load 40 (.tmp 5), 40, _, #[], none⟩) ?_
        try simp only [Act.put, tkA, tkB, tkC]
        refine tkI (i := 1) (oi := ⟨some 59, .move (.tmp 0), 57, _, #[{ on := 7, ground := Ground.gcOnly Departure.lateStores }], none⟩) ?_
        try simp only [Act.put, tkA, tkB, tkC]
        refine tkI (i := 2) (oi := ⟨some 60, .load 40 (.tmp 5), 40, _, #[], none⟩) ?_
        try simp only [Act.put, tkA, tkB, tkC]
        refine tkI (i := 5) (oi := ⟨some 63, .move (.tmp 6), 3, _, #[{ on := 8, ground := Ground.gcOnly Departure.lateStores }], none⟩) ?_
        try simp only [Act.put, tkA, tkB, tkC]
        refine wpAnyH_ready (rs := [3]) (by kernel_rfl) (by simp) ?_
        refine AllReadyH.cons rfl (fun K' hK => ?_) AllReadyH.nil
        go_simp
        refine (used_any c _).mono ?_
        rintro e w2 ⟨rfl, rfl⟩
        go_wp2_with fail
        refine hK.out _ _ ?_ (fun hHeld => ?_)
        · go_keep
        clear hK K'
        refine tkI (i := 4) (oi := ⟨some 62, .call { callee := .builtin .len, args := #[.tmp 61], argTypes := #[90] }, 3, _, #[⟨3, .data⟩], none⟩) ?_
        try simp only [Act.put, tkA, tkB, tkC]
        refine tkI (i := 6) (oi := ⟨some 64, .binOp .eql 3 (.tmp 62) (.tmp 63) 3, 4, _, #[⟨4, .data⟩, ⟨5, .data⟩, { on := 8, ground := Ground.gcOnly Departure.lateStores }], none⟩) ?_
        try simp only [Act.put, tkA, tkB, tkC]
        refine wpAnyH_ready (rs := [7]) (by kernel_rfl) (by simp) ?_
        refine AllReadyH.cons rfl (fun K' hK => ?_) AllReadyH.nil
        go_simp
        refine hK.out _ _ ?_ (fun hHeld => ?_)
        · go_keep
        clear hK K'
        refine tkI (i := 8) (oi := ⟨some 3, .assign (.tmp 59), 57, _, #[⟨1, .data⟩, ⟨7, .chain⟩, ⟨0, .phase⟩, ⟨1, .phase⟩, { on := 2, ground := Ground.textOnly Departure.lateStores }, { on := 3, ground := Ground.textOnly Departure.lateStoresUnsure }, { on := 4, ground := Ground.textOnly Departure.lateStoresUnsure }, { on := 5, ground := Ground.textOnly Departure.lateStores }, { on := 6, ground := Ground.textOnly Departure.lateStores }, ⟨7, .phase⟩], none⟩) ?_
        try simp only [Act.put, tkA, tkB, tkC]
        refine tkI (i := 9) (oi := ⟨some 4, .assign (.tmp 64), 4, _, #[⟨6, .data⟩, ⟨8, .chain⟩, ⟨0, .phase⟩, ⟨1, .phase⟩, ⟨2, .phase⟩, ⟨3, .phase⟩, ⟨4, .phase⟩, ⟨5, .phase⟩, ⟨6, .phase⟩, ⟨7, .phase⟩, ⟨8, .phase⟩], none⟩) ?_
        try simp only [Act.put, tkA, tkB, tkC]
        refine wpAnyH_done (by kernel_rfl) ?_ _
        go_wp2
        rw [HMN.out]
        refine bodyPost_ret (v := .tuple #[.agg #[i64 c.s0, i64 c.k0, i64 c.s1, i64 c.k1, i64 c.s2, i64 c.k2, i64 c.s3, i64 c.k3, i64 c.m, i64 c.f], u0, .bool (c.many == n)]) (by simp [results, Tryz.results45, go_sem, r0, r1, r2, r3, r4, r5, r6, r7, r8, r9, hzR]) rfl (HF.out _ _ ?_ ?_ HOUT.out)
        · refine Below.drew (Below.alloc ?_ (by simp; omega) _)
          repeat (with_reducible refine Below.setCell ?_ (by dsimp only; omega) _)
          exact HOLD.out
        · refine HROW.out.fr (Out := fun j => j = w.heap.size) (Fr.drewN (Fr.alloc ?_ _) 1) (HOUT.out _ HOB.out)
          repeat (with_reducible refine Fr.setCell (In := fun j => j = w.heap.size) ?_ rfl _ _)
          exact Fr.refl _ _
end Go.Proofs.YthbbfjfekchdiaaGreat
