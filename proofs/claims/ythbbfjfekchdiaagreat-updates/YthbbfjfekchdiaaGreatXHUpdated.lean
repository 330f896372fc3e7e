import Derived.Test.YthbbfjfekchdiaaGreatXHKeepsP
import Derived.Test.YthbbfjfekchdiaaGreatXHWhole
namespace Go.Proofs.YthbbfjfekchdiaaGreat
open Go.RowKit
set_option linter.unusedSimpArgs false

theorem rowG_cells {w : World} {ad : Addr} {n c : Nat} {l : List Pt} (h : RowG w (.slice (some ad) n c) l) : n = l.length ∧ ∀ j u, (ptCells l)[j]? = some u → w.cell? (ad.add j) = some u := by
  obtain ⟨a, cap, hv, r⟩ := h
  simp only [Value.slice.injEq] at hv
  obtain ⟨rfl, hn, rfl⟩ := hv
  refine ⟨hn, fun j u hj => ?_⟩
  have hjl : j < l.length * 2 := by
    obtain ⟨x, _⟩ := List.getElem?_eq_some_iff.1 hj
    rw [ptCells_length] at x; exact x
  obtain ⟨q, hq⟩ : ∃ q, l[j / 2]? = some q := ⟨_, List.getElem?_eq_getElem (by omega)⟩
  obtain ⟨b, off, hab, c0, c1⟩ := r (j / 2) q hq
  simp only [Option.some.injEq] at hab
  subst hab
  obtain ⟨p0, p1⟩ := ptCells_at l (j / 2) q hq
  rw [addr_addN]
  rcases Nat.mod_two_eq_zero_or_one j with e | e
  · have ej : j = j / 2 * 2 := by omega
    rw [← ej, hj] at p0
    simp only [Option.some.injEq] at p0
    rw [p0, show off + j = off + j / 2 * 2 by omega]
    exact c0
  · have ej : j = j / 2 * 2 + 1 := by omega
    rw [← ej, hj] at p1
    simp only [Option.some.injEq] at p1
    rw [p1, show off + j = off + j / 2 * 2 + 1 by omega]
    exact c1
theorem rowG_of_owns {w : World} {base : Nat} {v : Value} {g n : Nat} {l : List Pt} {X : List Value} (h : w.ownsRow base 48 2 v n (ptCells l ++ X)) (hv : v.ownBlock = some g) (c' : Nat) : RowG w (.slice (some ⟨g, 0, none⟩) l.length c') l := by
  refine ⟨some ⟨g, 0, none⟩, c', rfl, fun j q hj => ⟨g, 0, rfl, ?_⟩⟩
  have hjl : j < l.length := by obtain ⟨x, _⟩ := List.getElem?_eq_some_iff.1 hj; exact x
  obtain ⟨p0, p1⟩ := ptCells_at l j q hj
  have r := World.ownsRow.cells h hv
  have hlen := ptCells_length l
  have q0 := r (j * 2) (i64 q.1) (by rw [List.getElem?_append_left (by omega)]; exact p0)
  have q1 := r (j * 2 + 1) (i64 q.2) (by rw [List.getElem?_append_left (by omega)]; exact p1)
  rw [addr_add0] at q0 q1
  exact ⟨by simpa using q0, by simpa using q1⟩

/-- a step's cells -/
abbrev opV (kd oa ob od oe : Int) (c : Cfg) (la : Option Addr) (ln lc : Nat) (ss : ByteArray) : Value := .agg #[i64 kd, i64 oa, i64 ob, i64 od, i64 oe, i64 c.s0, i64 c.k0, i64 c.s1, i64 c.k1, i64 c.s2, i64 c.k2, i64 c.s3, i64 c.k3, i64 c.m, i64 c.f, .slice la ln lc, .string ss]

theorem Fr.cell {In : Nat → Prop} {w w' : World} (h : Fr In w w') {a : Addr} {v : Value} (hn : ¬ In a.block) (hc : w.cell? a = some v) : w'.cell? a = some v :=
  (World.cell?_of_block (h.block a.block (World.block_lt_of_cell? _ _ hc) hn)).trans hc

/-- what the two Updates leave -/
theorem both_upd {R : Rep} (H : ProgOk R) {w w1 w2 w3 w4 : World} {P Q In G : Nat → Prop} {pd pr : Nat} {d d' : RDb} (h : Two R w P Q pd pr d) (hi : ∀ k, P k ∨ Q k → In k) (z1 : w.heap.size ≤ w1.heap.size)
    (h2 : R w2 (Up P w1.heap.size) pd d') (f2 : Fr P w1 w2) (h3 : RRep w3 (Up Q w2.heap.size) pr d') (f3 : Fr Q w2 w3) (hok : d'.Ok) (f4 : Fr G w3 w4) (hG : ∀ k, G k → w.heap.size ≤ k ∧ k < w1.heap.size) (f01 : Below w.heap.size w w1) :
    Both R w4 (Up In w.heap.size) pd pr d' ∧ Fr In w w4 := by
  have z2 := f2.size
  have z3 := f3.size
  have z4 := f4.size
  have pg : ∀ k, Up P w1.heap.size k ∧ k < w2.heap.size → ¬ G k := by
    rintro k ⟨hk | hk, _⟩ hg
    · have := h.ltp k hk; have := hG k hg; omega
    · have := hG k hg; omega
  have qg : ∀ k, Up Q w2.heap.size k ∧ k < w3.heap.size → ¬ G k := by
    rintro k ⟨hk | hk, _⟩ hg
    · have := h.ltr k hk; have := hG k hg; omega
    · have := hG k hg; omega
  refine ⟨⟨fun k => Up P w1.heap.size k ∧ k < w2.heap.size, fun k => Up Q w2.heap.size k ∧ k < w3.heap.size, ⟨?_, ?_, hok, ?_, ?_, ?_⟩, ?_⟩, ?_⟩
  · refine H.fr (H.fr (H.lim h2) f3 ?_) f4 pg
    rintro k ⟨hk | hk, _⟩ hq
    · exact h.dis k hk hq
    · have := h.ltr k hq; omega
  · exact h3.lim.fr f4 qg
  · rintro k ⟨hk, hk2⟩ ⟨hq, _⟩
    rcases hq with hq | hq
    · rcases hk with hk | hk
      · exact h.dis k hk hq
      · have := h.ltr k hq; omega
    · omega
  · rintro k ⟨_, hk⟩; omega
  · rintro k ⟨_, hk⟩; omega
  · rintro k (⟨hk | hk, _⟩ | ⟨hk | hk, _⟩)
    · exact .inl (hi k (.inl hk))
    · exact .inr (by omega)
    · exact .inl (hi k (.inr hk))
    · exact .inr (by omega)
  · have g1 : Fr In w w1 := Fr.below f01
    have g2 : Fr In w w2 := g1.trans f2 fun k hk => .inl (hi k (.inl hk))
    have g3 : Fr In w w3 := g2.trans f3 fun k hk => .inl (hi k (.inr hk))
    exact g3.trans f4 fun k hk => .inr (hG k hk).1

set_option maxRecDepth 4000 in
set_option maxHeartbeats 4000000 in
theorem updated_any {R : Rep} (H : ProgOk R) (kd oa ob od oe : Int) (c : Cfg) (la : Option Addr) (ln lc : Nat) (ss : ByteArray) (l : List Pt) (pd pr : Nat) (d : RDb) (In : Nat → Prop) (w : World) (hb : Both R w In pd pr d) (hl : RowG w (.slice la ln lc) l) (hnil : la = none → ln = 0 ∧ lc = 0) (ho : OutOf In (.slice la ln lc)) (hlt : OutOf (fun k => w.heap.size ≤ k) (.slice la ln lc)) (hlen : ln ≤ 8796093022208) :
    Calls Tryz.prog 29 #[.agg #[.pointer (some ⟨pd, 0, none⟩), .pointer (some ⟨pr, 0, none⟩)], opV kd oa ob od oe c la ln lc ss] w fun e w' => e = .returned (.bool true) ∧ Both R w' (Up In w.heap.size) pd pr (updR d ob l) ∧ Fr In w w' := by
  obtain ⟨P, Q, h, hi⟩ := hb
  have HT := hid h
  have HI := hid hi
  have HL := hid hl
  have HO := hid ho
  have HLT := hid hlt
  clear h hi hl ho hlt
  cases la with
  | none =>
    obtain ⟨rfl, rfl⟩ := hnil rfl
    have hl0 : l = [] := by
      obtain ⟨a, cap, hv, _⟩ := HL.out
      simp only [Value.slice.injEq] at hv
      exact List.length_eq_zero_iff.1 hv.2.1.symm
    subst hl0
    go_enter Tryz.func29, Tryz.ntmps29
    go_wp2_with fail
    refine (lent_nil 0 _).mono ?_
    rintro e w1 ⟨rfl, hb1⟩
    have m0 : w1.cell? ⟨w.heap.size, 0, none⟩ = some (.pointer (some ⟨pd, 0, none⟩)) := cell_later hb1 (by simp)
    have m1 : w1.cell? ⟨w.heap.size, 1, none⟩ = some (.pointer (some ⟨pr, 0, none⟩)) := cell_later hb1 (by simp)
    have n2 : w1.cell? ⟨w.heap.size + 1, 2, none⟩ = some (i64 ob) := cell_later hb1 (by simp)
    have n15 : w1.cell? ⟨w.heap.size + 1, 15, none⟩ = some (.slice none 0 0) := cell_later hb1 (by simp)
    have z1 : w.heap.size + 2 ≤ w1.heap.size := by have := hb1.size; simp at this; omega
    have hbw : Below w.heap.size w w1 := ((((Below.refl _ w).alloc (Nat.le_refl _) _).alloc (by simp) _)).trans (hb1.mono (by simp; omega))
    have HBW := hid hbw
    have hz1 : w.heap.size < w1.heap.size := by omega
    have hz2 : w.heap.size + 1 < w1.heap.size := by omega
    have HX := hid (show RowG w1 (.slice none 0 0) [] ∧ OutOf P (.slice none 0 0) from ⟨⟨none, 0, rfl, fun j q hj => by simp at hj⟩, fun a n c e hn => by cases e⟩)
    have HL1 := hid HX.out.1
    have HLN := hid (show ([] : List Pt).length ≤ 8796093022208 by simp)
    clear hb1 hbw
    go_wp2_with fail
    refine (H.update pd ob (.slice none 0 0) [] d P w1 (H.fr HT.out.p (Fr.below (In := fun _ => False) HBW.out) (fun _ _ x => x)) HT.out.ok HX.out.1 HX.out.2 (by have := HLN.out; omega)).mono ?_
    rintro e w2 ⟨rfl, h2, f2⟩
    have H2 := hid h2
    have F2 := hid f2
    have np : ∀ k, w.heap.size ≤ k → ¬ P k := fun k hk hp => by have := HT.out.ltp k hp; omega
    have nq : ∀ k, w.heap.size ≤ k → ¬ Q k := fun k hk hp => by have := HT.out.ltr k hp; omega
    have a1 : w2.cell? ⟨w.heap.size, 1, none⟩ = some (.pointer (some ⟨pr, 0, none⟩)) := f2.cell (np _ (Nat.le_refl _)) m1
    have c2 : w2.cell? ⟨w.heap.size + 1, 2, none⟩ = some (i64 ob) := f2.cell (np _ (by simp)) n2
    have c15 : w2.cell? ⟨w.heap.size + 1, 15, none⟩ = some (.slice none 0 0) := f2.cell (np _ (by simp)) n15
    have NQ := hid nq
    have NP := hid np
    have y2 := f2.size
    have hz3 : w.heap.size < w2.heap.size := by omega
    have hz4 : w.heap.size + 1 < w2.heap.size := by omega
    have HL2 := hid (HL1.out.fr (In := P) (fun a n c e hn hp => HO.out a n c e hn (HI.out a.block (.inl hp))) f2)
    clear h2 f2 m0 m1 n2 n15 np nq
    go_wp2_with fail
    refine (update_ref pr ob (.slice none 0 0) [] d Q w2 ((HT.out.r.fr (Fr.below (In := fun _ => False) HBW.out) (fun _ _ x => x)).fr F2.out (fun k hq hp => HT.out.dis k hp hq)) HT.out.ok HL2.out (fun a n c e hn hq => HO.out a n c e hn (HI.out a.block (.inr hq))) (by have := HLN.out; omega)).mono ?_
    rintro e w3 ⟨rfl, h3, hok3, hc3, f3⟩
    have H3 := hid h3
    have F3 := hid f3
    have HOK3 := hid hok3
    have HL3 := hid (HL2.out.fr (In := Q) (fun a n c e hn hq => HO.out a n c e hn (HI.out a.block (.inr hq))) f3)
    have d15 : w3.cell? ⟨w.heap.size + 1, 15, none⟩ = some (.slice none 0 0) := f3.cell (NQ.out _ (by simp)) c15
    have y3 := f3.size
    have hz5 : w.heap.size + 1 < w3.heap.size := by omega
    clear h3 f3 hok3 hc3 a1 c2 c15
    go_wp2_with fail
    refine (whole_nil _ 0 _).mono ?_
    rintro e w4 ⟨rfl, hb4⟩
    have f4 : Fr (fun _ => False) w3 w4 := Fr.below hb4
    have hG : ∀ k, (fun _ : Nat => False) k → w.heap.size ≤ k ∧ k < w1.heap.size := fun k hk => hk.elim
    clear hb4
    have HE := hid (both_upd H HT.out HI.out (by omega) H2.out F2.out H3.out F3.out HOK3.out f4 hG HBW.out)
    clear f4 hG
    obtain ⟨e1, he1⟩ : ∃ e, e = (updErr d.c ob []).1 := ⟨_, rfl⟩
    obtain ⟨e2, he2⟩ : ∃ e : Int, e = ((updErr d.c ob []).2 : Int) := ⟨_, rfl⟩
    rw [← he1, ← he2]
    clear he1 he2
    go_wp2
    go_ret
    exact ⟨by simp, HE.out⟩
  | some ad =>
    have HLL := hid (rowG_cells HL.out).1
    have HCC := hid (rowG_cells HL.out).2
    clear hnil
    go_enter Tryz.func29, Tryz.ntmps29
    go_wp2_with fail
    refine (lent_some ad ln lc l _ HLL.out (fun j u hj => cell_later (((Below.refl _ w).alloc (Nat.le_refl _) _).alloc (by simp) _) (HCC.out j u hj)) hlen).mono ?_
    rintro e w1 ⟨rfl, hb1, own⟩
    have OWN := hid (show w1.ownsRow (w.heap.size + 2) 48 2 (.slice (some ⟨w.heap.size + 2, 0, none⟩) (ln + 8) (ln + 8)) (ln + 8) (lentC l) by
      have e : ((w.alloc (.cells #[.pointer (some ⟨pd, 0, none⟩), .pointer (some ⟨pr, 0, none⟩)] 53)).alloc (.cells #[i64 kd, i64 oa, i64 ob, i64 od, i64 oe, i64 c.s0, i64 c.k0, i64 c.s1, i64 c.k1, i64 c.s2, i64 c.k2, i64 c.s3, i64 c.k3, i64 c.m, i64 c.f, .slice (some ad) ln lc, .string ss] 43)).heap.size = w.heap.size + 2 := by simp
      rw [e] at own
      exact own)
    clear own
    have m0 : w1.cell? ⟨w.heap.size, 0, none⟩ = some (.pointer (some ⟨pd, 0, none⟩)) := cell_later hb1 (by simp)
    have m1 : w1.cell? ⟨w.heap.size, 1, none⟩ = some (.pointer (some ⟨pr, 0, none⟩)) := cell_later hb1 (by simp)
    have n2 : w1.cell? ⟨w.heap.size + 1, 2, none⟩ = some (i64 ob) := cell_later hb1 (by simp)
    have n15 : w1.cell? ⟨w.heap.size + 1, 15, none⟩ = some (.slice (some ad) ln lc) := cell_later hb1 (by simp)
    have z1 : w.heap.size + 2 ≤ w1.heap.size := by have := hb1.size; simp at this; omega
    have hbw : Below w.heap.size w w1 := ((((Below.refl _ w).alloc (Nat.le_refl _) _).alloc (by simp) _)).trans (hb1.mono (by simp; omega))
    have HBW := hid hbw
    have hz1 : w.heap.size < w1.heap.size := by omega
    have hz2 : w.heap.size + 1 < w1.heap.size := by omega
    have HX := hid (show RowG w1 (.slice (some ⟨w.heap.size + 2, 0, none⟩) ln (ln + 8)) l ∧ OutOf P (.slice (some ⟨w.heap.size + 2, 0, none⟩) ln (ln + 8)) from ⟨by rw [HLL.out]; exact rowG_of_owns OWN.out rfl _, fun a n c e hn hp => by cases e; have := HT.out.ltp _ hp; simp only at this; omega⟩)
    have HL1 := hid (show RowG w1 (.slice (some ad) ln lc) l from HL.out.fr (In := fun _ => False) (fun _ _ _ _ _ x => x) (Fr.below hbw))
    have HLN := hid (show l.length ≤ 8796093022208 by rw [← HLL.out]; exact hlen)
    have hgz := (OWN.out.lt _ rfl).2
    clear hb1 hbw
    go_wp2_with fail
    refine (H.update pd ob (.slice (some ⟨w.heap.size + 2, 0, none⟩) ln (ln + 8)) l d P w1 (H.fr HT.out.p (Fr.below (In := fun _ => False) HBW.out) (fun _ _ x => x)) HT.out.ok HX.out.1 HX.out.2 (by have := HLN.out; omega)).mono ?_
    rintro e w2 ⟨rfl, h2, f2⟩
    have H2 := hid h2
    have F2 := hid f2
    have np : ∀ k, w.heap.size ≤ k → ¬ P k := fun k hk hp => by have := HT.out.ltp k hp; omega
    have nq : ∀ k, w.heap.size ≤ k → ¬ Q k := fun k hk hp => by have := HT.out.ltr k hp; omega
    have a1 : w2.cell? ⟨w.heap.size, 1, none⟩ = some (.pointer (some ⟨pr, 0, none⟩)) := f2.cell (np _ (Nat.le_refl _)) m1
    have c2 : w2.cell? ⟨w.heap.size + 1, 2, none⟩ = some (i64 ob) := f2.cell (np _ (by simp)) n2
    have c15 : w2.cell? ⟨w.heap.size + 1, 15, none⟩ = some (.slice (some ad) ln lc) := f2.cell (np _ (by simp)) n15
    have NQ := hid nq
    have NP := hid np
    have y2 := f2.size
    have hz3 : w.heap.size < w2.heap.size := by omega
    have hz4 : w.heap.size + 1 < w2.heap.size := by omega
    have HL2 := hid (HL1.out.fr (In := P) (fun a n c e hn hp => HO.out a n c e hn (HI.out a.block (.inl hp))) f2)
    clear h2 f2 m0 m1 n2 n15 np nq
    go_wp2_with fail
    refine (update_ref pr ob (.slice (some ad) ln lc) l d Q w2 ((HT.out.r.fr (Fr.below (In := fun _ => False) HBW.out) (fun _ _ x => x)).fr F2.out (fun k hq hp => HT.out.dis k hp hq)) HT.out.ok HL2.out (fun a n c e hn hq => HO.out a n c e hn (HI.out a.block (.inr hq))) (by have := HLN.out; omega)).mono ?_
    rintro e w3 ⟨rfl, h3, hok3, hc3, f3⟩
    have H3 := hid h3
    have F3 := hid f3
    have HOK3 := hid hok3
    have HL3 := hid (HL2.out.fr (In := Q) (fun a n c e hn hq => HO.out a n c e hn (HI.out a.block (.inr hq))) f3)
    have d15 : w3.cell? ⟨w.heap.size + 1, 15, none⟩ = some (.slice (some ad) ln lc) := f3.cell (NQ.out _ (by simp)) c15
    have y3 := f3.size
    have hz5 : w.heap.size + 1 < w3.heap.size := by omega
    clear h3 f3 hok3 hc3 a1 c2 c15
    go_wp2_with fail
    have OWN3 := hid (owns_far (owns_far OWN.out (fun b hb hlt => F2.out.block b hlt (NP.out b (by simp only [Value.ownBlock, Option.some.injEq] at hb; omega)))) (fun b hb hlt => F3.out.block b hlt (NQ.out b (by simp only [Value.ownBlock, Option.some.injEq] at hb; omega))))
    refine (whole_some ad ln lc (w.heap.size + 2) _ l w3 HLL.out HL3.out (fun hn => by have := HLT.out ad ln lc rfl hn; omega) OWN3.out hlen).mono ?_
    rintro e w4 ⟨rfl, f4⟩
    have hG : ∀ k, (fun k : Nat => k = w.heap.size + 2) k → w.heap.size ≤ k ∧ k < w1.heap.size := fun k hk => by have : k = w.heap.size + 2 := hk; omega
    have HE := hid (both_upd H HT.out HI.out (by omega) H2.out F2.out H3.out F3.out HOK3.out f4 hG HBW.out)
    clear f4 hG
    obtain ⟨e1, he1⟩ : ∃ e, e = (updErr d.c ob l).1 := ⟨_, rfl⟩
    obtain ⟨e2, he2⟩ : ∃ e : Int, e = ((updErr d.c ob l).2 : Int) := ⟨_, rfl⟩
    rw [← he1, ← he2]
    clear he1 he2
    go_wp2
    go_ret
    exact ⟨by simp, HE.out⟩
end Go.Proofs.YthbbfjfekchdiaaGreat
