import Derived.Test.YthbbfjfekchdiaaXKPick
import Derived.Test.YthbbfjfekchdiaaXKFilled
import Derived.BigQuiet
import Derived.Deep.QuietTactic
import Derived.Deep.DeepCutAuto
/-
  Quiet: three databases, each in blocks of its own, and blocks that stay.
-/
namespace Go.Proofs.Ythbbfjfekchdiaa
open Go.RowKit

structure QIs (R : Rep) (w wr : World) (p q s : Nat) (Bs : List (Nat × Obj)) (I J K : Nat → Prop) (d o r : RDb) : Prop where
  a : R wr I p d
  b : R wr J q o
  c : R wr K s r
  ij : ∀ k, I k → ¬ J k
  ik : ∀ k, I k → ¬ K k
  jk : ∀ k, J k → ¬ K k
  inn : ∀ k, I k ∨ J k ∨ K k → w.heap.size ≤ k ∧ k < wr.heap.size
  bl : Below w.heap.size w wr
  kept : ∀ x ∈ Bs, wr.heap[x.1]? = some x.2 ∧ ¬ (I x.1 ∨ J x.1 ∨ K x.1)
def QI (R : Rep) (w wr : World) (p q s : Nat) (Bs : List (Nat × Obj)) (d o r : RDb) : Prop := ∃ I J K, QIs R w wr p q s Bs I J K d o r

section
variable {R : Rep} {w wr w' : World} {p q s : Nat} {Bs : List (Nat × Obj)} {d o r : RDb}
theorem QI.swap (h : QI R w wr p q s Bs d o r) : QI R w wr q p s Bs o d r := by
  obtain ⟨I, J, K, h⟩ := h
  exact ⟨J, I, K, h.b, h.a, h.c, fun k x y => h.ij k y x, h.jk, h.ik, fun k hk => h.inn k (by rcases hk with x | x | x; exact .inr (.inl x); exact .inl x; exact .inr (.inr x)), h.bl, fun x hx => ⟨(h.kept x hx).1, fun y => (h.kept x hx).2 (by rcases y with y | y | y; exact .inr (.inl y); exact .inl y; exact .inr (.inr y))⟩⟩
theorem QI.rot (h : QI R w wr p q s Bs d o r) : QI R w wr q s p Bs o r d := by
  obtain ⟨I, J, K, h⟩ := h
  exact ⟨J, K, I, h.b, h.c, h.a, h.jk, fun k x y => h.ij k y x, fun k x y => h.ik k y x, fun k hk => h.inn k (by rcases hk with x | x | x; exact .inr (.inl x); exact .inr (.inr x); exact .inl x), h.bl, fun x hx => ⟨(h.kept x hx).1, fun y => (h.kept x hx).2 (by rcases y with y | y | y; exact .inr (.inl y); exact .inr (.inr y); exact .inl y)⟩⟩
theorem QI.below (H : ProgOk R) (h : QI R w wr p q s Bs d o r) (hb : Below wr.heap.size wr w') : QI R w w' p q s Bs d o r := by
  obtain ⟨I, J, K, h⟩ := h
  have hf : Fr (fun _ => False) wr w' := Fr.below hb
  exact ⟨I, J, K, H.fr h.a hf (fun _ _ x => x), H.fr h.b hf (fun _ _ x => x), H.fr h.c hf (fun _ _ x => x), h.ij, h.ik, h.jk, fun k hk => ⟨(h.inn k hk).1, Nat.lt_of_lt_of_le (h.inn k hk).2 hb.size⟩, h.bl.trans (hb.mono h.bl.size), fun x hx => ⟨blk_later hb (blk_lt (h.kept x hx).1) (h.kept x hx).1, (h.kept x hx).2⟩⟩
theorem QI.box (H : ProgOk R) (h : QI R w wr p q s Bs d o r) (O : Obj) : QI R w (wr.alloc O) p q s ((wr.heap.size, O) :: Bs) d o r := by
  obtain ⟨I, J, K, h⟩ := h
  have hf : Fr (fun _ => False) wr (wr.alloc O) := Fr.below ((Below.refl wr.heap.size wr).alloc (Nat.le_refl _) O)
  have hb := (Below.refl wr.heap.size wr).alloc (Nat.le_refl _) O
  refine ⟨I, J, K, H.fr h.a hf (fun _ _ x => x), H.fr h.b hf (fun _ _ x => x), H.fr h.c hf (fun _ _ x => x), h.ij, h.ik, h.jk, fun k hk => ⟨(h.inn k hk).1, Nat.lt_of_lt_of_le (h.inn k hk).2 hb.size⟩, h.bl.trans (hb.mono h.bl.size), fun x hx => ?_⟩
  rcases List.mem_cons.1 hx with rfl | hx
  · exact ⟨blk_new wr O, fun y => by have := (h.inn _ y).2; omega⟩
  · exact ⟨blk_later hb (blk_lt (h.kept x hx).1) (h.kept x hx).1, (h.kept x hx).2⟩
theorem QI.sub (h : QI R w wr p q s Bs d o r) {Cs : List (Nat × Obj)} (hs : ∀ x ∈ Cs, x ∈ Bs) : QI R w wr p q s Cs d o r := by
  obtain ⟨I, J, K, h⟩ := h
  exact ⟨I, J, K, h.a, h.b, h.c, h.ij, h.ik, h.jk, h.inn, h.bl, fun x hx => h.kept x (hs x hx)⟩
theorem QI.at (h : QI R w wr p q s Bs d o r) {b : Nat} {O : Obj} (hx : (b, O) ∈ Bs) : wr.heap[b]? = some O := by
  obtain ⟨I, J, K, h⟩ := h
  exact (h.kept _ hx).1
theorem QI.old (h : QI R w wr p q s Bs d o r) : Below w.heap.size w wr := by
  obtain ⟨I, J, K, h⟩ := h
  exact h.bl
theorem QI.rep (h : QI R w wr p q s Bs d o r) : ∃ I, R wr I p d := by
  obtain ⟨I, J, K, h⟩ := h
  exact ⟨I, h.a⟩
theorem QI.upd (H2 : ProgOk2 R) (h : QI R w wr p q s Bs d o r) (now : Int) (v : Value) (l : List Pt) (hr : RowG wr v l) (ho : ∀ a n c, v = .slice (some a) n c → 0 < n → ∃ O, (a.block, O) ∈ Bs) (hl : l.length ≤ 140737488351232) :
    Calls Try.prog 12 #[.pointer (some ⟨p, 0, none⟩), i64 now, v] wr fun e w' => e = .returned (.tuple #[i64 (updErr d.c now l).1, i64 (updErr d.c now l).2]) ∧ QI R w w' p q s Bs (updR d now l) o r := by
  have H := H2.base
  obtain ⟨I, J, K, h⟩ := h
  refine (H.update p now v l d I wr h.a (H2.al h.a).1 hr ?_ hl).mono ?_
  · intro a n c e hn hx
    obtain ⟨O, hO⟩ := ho a n c e hn
    exact (h.kept _ hO).2 (.inl hx)
  rintro e w' ⟨rfl, hR, hF⟩
  have hz := hF.size
  have z0 := h.bl.size
  refine ⟨rfl, fun k => Up I wr.heap.size k ∧ k < w'.heap.size, J, K, H.lim hR, H.fr h.b hF fun k x y => h.ij k y x, H.fr h.c hF fun k x y => h.ik k y x, ?_, ?_, h.jk, ?_, ?_, ?_⟩
  · rintro k ⟨hk | hk, _⟩ hj
    · exact h.ij k hk hj
    · have := (h.inn k (.inr (.inl hj))).2; omega
  · rintro k ⟨hk | hk, _⟩ hj
    · exact h.ik k hk hj
    · have := (h.inn k (.inr (.inr hj))).2; omega
  · rintro k (⟨hk | hk, hk2⟩ | hk | hk)
    · exact ⟨(h.inn k (.inl hk)).1, hk2⟩
    · exact ⟨by omega, hk2⟩
    · exact ⟨(h.inn k (.inr (.inl hk))).1, by have := (h.inn k (.inr (.inl hk))).2; omega⟩
    · exact ⟨(h.inn k (.inr (.inr hk))).1, by have := (h.inn k (.inr (.inr hk))).2; omega⟩
  · exact h.bl.trans ⟨hF.os, hF.tape, hF.output, hF.size, fun k hk => hF.block k (by omega) fun x => by have := (h.inn k (.inl x)).1; omega⟩
  · intro x hx
    obtain ⟨h1, h2⟩ := h.kept x hx
    refine ⟨(hF.block _ (blk_lt h1) fun y => h2 (.inl y)).trans h1, ?_⟩
    rintro (⟨y | y, _⟩ | y | y)
    · exact h2 (.inl y)
    · have := blk_lt h1; omega
    · exact h2 (.inr (.inl y))
    · exact h2 (.inr (.inr y))
end
/-- an update that is refused, or of nothing -/
theorem updR_bad {d : RDb} {now : Int} {l : List Pt} (h : (∃ q ∈ l, ptErr d.c now q ≠ 0) ∨ ¬ (0 ≤ now ∧ now ≤ 2147483647) ∨ l = []) : updR d now l = d := by
  unfold updR
  split
  · rename_i he
    unfold updErr at he
    split at he
    · simp at he
    · rename_i hn
      rcases h with ⟨q, hq, hx⟩ | h | h
      · exact absurd (errFrom_zero l 0 he q hq) hx
      · exact absurd (.inl h) hn
      · subst h; rfl
  · rfl
theorem pt_neg {c : Cfg} {now v : Int} : ptErr c now (-1, v) ≠ 0 := by
  unfold ptErr
  rw [if_pos (by intro h; have := h.1; simp at this)]
  decide
theorem pt_fut {c : Cfg} {now v : Int} : ptErr c now (now + 1, v) ≠ 0 := by
  unfold ptErr
  split
  · decide
  · rw [if_pos (by show now < now + 1; omega)]
    decide
theorem row_oneQ {w : World} {b : Nat} {p : Pt} {t : TypeId} (h : w.heap[b]? = some (.cells #[i64 p.1, i64 p.2] t)) : RowG w (.slice (some ⟨b, 0, none⟩) 1 1) [p] := by
  refine ⟨some ⟨b, 0, none⟩, 1, rfl, fun j q hj => ⟨b, 0, rfl, ?_⟩⟩
  have hj0 : j = 0 := by obtain ⟨y, _⟩ := List.getElem?_eq_some_iff.1 hj; simp at y; exact y
  subst hj0
  simp at hj
  subst hj
  exact ⟨cell_of_blk h 0, cell_of_blk h 1⟩
theorem row_twoQ {w : World} {b : Nat} {p q : Pt} {t : TypeId} (h : w.heap[b]? = some (.cells #[i64 p.1, i64 p.2, i64 q.1, i64 q.2] t)) : RowG w (.slice (some ⟨b, 0, none⟩) 2 2) [p, q] := by
  refine ⟨some ⟨b, 0, none⟩, 2, rfl, fun j x hj => ⟨b, 0, rfl, ?_⟩⟩
  have hj2 : j < 2 := by obtain ⟨y, _⟩ := List.getElem?_eq_some_iff.1 hj; simpa using y
  have h2 : j = 0 ∨ j = 1 := by omega
  rcases h2 with rfl | rfl
  · simp at hj; subst hj; exact ⟨cell_of_blk h 0, cell_of_blk h 1⟩
  · simp at hj; subst hj; exact ⟨cell_of_blk h 2, cell_of_blk h 3⟩
theorem row_nilQ (w : World) : RowG w (.slice none 0 0) [] := ⟨none, 0, rfl, fun j q hj => by simp at hj⟩
theorem out_boxQ {Bs : List (Nat × Obj)} {b n0 c0 : Nat} {O : Obj} (h : (b, O) ∈ Bs) : ∀ a n c, Value.slice (some ⟨b, 0, none⟩) n0 c0 = .slice (some a) n c → 0 < n → ∃ O, (a.block, O) ∈ Bs := by
  intro a n c e _
  cases e
  exact ⟨O, h⟩
theorem out_nilQ {Bs : List (Nat × Obj)} : ∀ a n c, Value.slice none 0 0 = .slice (some a) n c → 0 < n → ∃ O, (a.block, O) ∈ Bs := by
  intro a n c e _
  cases e
theorem saveL_long {d : RDb} (hd : d.Ok) (ha : d.Al) : 10 < (saveL d).length := by
  have h1 := (d.c.ok_iff.1 hd.cfg).2.2.1
  rw [saveL_len hd ha]
  omega
end Go.Proofs.Ythbbfjfekchdiaa
/-
  Quiet, walked.
-/
namespace Go.Proofs.Ythbbfjfekchdiaa
open Go.RowKit
set_option linter.unusedSimpArgs false
attribute [local go_sem] Go.wp_at_zero Go.wp_at_succ

/-- a configuration's block -/
def cfgObj (c : Cfg) : Obj := .cells #[i64 c.s0, i64 c.k0, i64 c.s1, i64 c.k1, i64 c.s2, i64 c.k2, i64 c.s3, i64 c.k3, i64 c.m, i64 c.f] 29
def movObj (a b c : Int) : Obj := .cells #[i64 a, i64 b, i64 c] 37
def ptObj (p : Pt) : Obj := .cells #[i64 p.1, i64 p.2] 39
def ptObj2 (p q : Pt) : Obj := .cells #[i64 p.1, i64 p.2, i64 q.1, i64 q.2] 39

set_option maxRecDepth 4000 in
set_option maxHeartbeats 4000000 in
theorem quiet_any {R : Rep} (H2 : ProgOk2 R) (r0 r1 r2 r3 r4 r5 me fa na nb nc : Int) (v : Value) (ms : List Mv) (w : World) (h0 : In64 r0) (h1 : In64 r1) (h2 : In64 r2) (h3 : In64 r3) (h4 : In64 r4) (h5 : In64 r5) (hm : In64 me) (hf : In64 fa) (hna : In64 na) (hnb : In64 nb) (hnc : In64 nc) (hv : RowM w w.heap.size v ms) (hlen : ms.length ≤ 9223372036854775807) :
    Calls Try.prog 7 #[.agg #[i64 r0, i64 r1, i64 r2, i64 r3, i64 r4, i64 r5], i64 me, i64 fa, v, .agg #[i64 na, i64 nb, i64 nc]] w fun e w' => e = .returned (.bool true) ∧ Below w.heap.size w w' := by
  have H := H2.base
  obtain ⟨c, hc⟩ : ∃ c, c = cfgK r0 r1 r2 r3 r4 r5 me fa := ⟨_, rfl⟩
  have HOK := hid (show c.Ok by rw [hc]; exact (cfgK_ok r0 r1 r2 r3 r4 r5 me fa).1)
  have HBE := hid (fun (w : World) => begun_any H r0 r1 r2 r3 r4 r5 me fa w h0 h1 h2 h3 h4 h5 hm hf)
  rw [← hc] at HBE
  have HRB := hid (reach_bd HOK.out)
  have HV := hid hv
  have HNO := hid (And.intro hna (And.intro hnb hnc))
  obtain ⟨av, cv, rfl, _⟩ := hv
  clear h0 h1 h2 h3 h4 h5 hm hf hc hna hnb hnc
  generalize hwX : (w.alloc (.cells #[i64 r0, i64 r1, i64 r2, i64 r3, i64 r4, i64 r5] 22)).alloc (.cells #[i64 na, i64 nb, i64 nc] 37) = wX
  have HBX := hid (show Below w.heap.size w wX by rw [← hwX]; exact ((Below.refl _ w).alloc (Nat.le_refl _) _).alloc (by simp) _)
  have HRX := hid (show wX.heap[w.heap.size]? = some (.cells #[i64 r0, i64 r1, i64 r2, i64 r3, i64 r4, i64 r5] 22) by rw [← hwX]; exact blk_alloc (blk_new w _))
  have HNX := hid (show wX.heap[w.heap.size + 1]? = some (movObj na nb nc) by
    rw [← hwX]
    have := blk_new (w.alloc (.cells #[i64 r0, i64 r1, i64 r2, i64 r3, i64 r4, i64 r5] 22)) (.cells #[i64 na, i64 nb, i64 nc] 37)
    rwa [show (w.alloc (.cells #[i64 r0, i64 r1, i64 r2, i64 r3, i64 r4, i64 r5] 22)).heap.size = w.heap.size + 1 by simp] at this)
  have hzX : wX.heap.size = w.heap.size + 2 := by rw [← hwX]; simp
  have HWX := hid hwX
  clear hwX
  go_enter Try.func7, Try.ntmps7
  go_wp2_with fail
  rw [HWX.out]
  refine (HBE.out _).mono ?_
  rintro e w1 ⟨pd, rfl, hb1, hR1⟩
  have HB1 := hid hb1
  have hz1 := hb1.size
  have HR1 := hid (show R w1 (fun k => wX.heap.size ≤ k ∧ k < w1.heap.size) pd (RDb.new c) from H.lim hR1)
  clear hb1 hR1 HWX
  have HCB1 := hid (show (w1.alloc (cfgObj c)).heap[w1.heap.size]? = some (cfgObj c) from blk_new w1 _)
  generalize hwA : w1.alloc (cfgObj c) = wA at HCB1
  have HWA := hid hwA
  have HA1 := hid (show Below w1.heap.size w1 wA by rw [← hwA]; exact (Below.refl _ w1).alloc (Nat.le_refl _) _)
  have hzA : wA.heap.size = w1.heap.size + 1 := by rw [← hwA]; simp
  unfold cfgObj at HWA
  have HXA := hid (HB1.out.trans (HA1.out.mono hz1))
  have q0 : w1.cell? ⟨w.heap.size, 0, none⟩ = some (i64 r0) := cell_of_blk (blk_later HB1.out (by omega) HRX.out) 0
  have q1 : w1.cell? ⟨w.heap.size, 1, none⟩ = some (i64 r1) := cell_of_blk (blk_later HB1.out (by omega) HRX.out) 1
  have q2 : w1.cell? ⟨w.heap.size, 2, none⟩ = some (i64 r2) := cell_of_blk (blk_later HB1.out (by omega) HRX.out) 2
  have q3 : w1.cell? ⟨w.heap.size, 3, none⟩ = some (i64 r3) := cell_of_blk (blk_later HB1.out (by omega) HRX.out) 3
  have q4 : w1.cell? ⟨w.heap.size, 4, none⟩ = some (i64 r4) := cell_of_blk (blk_later HB1.out (by omega) HRX.out) 4
  have q5 : w1.cell? ⟨w.heap.size, 5, none⟩ = some (i64 r5) := cell_of_blk (blk_later HB1.out (by omega) HRX.out) 5
  have hzw1 : w.heap.size < w1.heap.size := by omega
  clear hwA
  go_wp2_with fail
  rw [HWA.out]
  clear q0 q1 q2 q3 q4 q5
  refine (HBE.out _).mono ?_
  rintro e w2 ⟨po, rfl, hb2, hR2⟩
  have HB2 := hid (HXA.out.trans (hb2.mono (by omega)))
  have hz2 := hb2.size
  have HR2 := hid (show R w2 (fun k => wA.heap.size ≤ k ∧ k < w2.heap.size) po (RDb.new c) from H.lim hR2)
  have HR12 := hid (H.fr (H.fr HR1.out (Fr.below (In := fun _ => False) HA1.out) (fun _ _ x => x)) (Fr.below (In := fun _ => False) hb2) (fun _ _ x => x))
  have HCB2 := hid (blk_later hb2 (by omega) HCB1.out)
  clear hb2 hR2 HWA HXA
  have q0 : w2.cell? ⟨w.heap.size, 0, none⟩ = some (i64 r0) := cell_of_blk (blk_later HB2.out (by omega) HRX.out) 0
  have q1 : w2.cell? ⟨w.heap.size, 1, none⟩ = some (i64 r1) := cell_of_blk (blk_later HB2.out (by omega) HRX.out) 1
  have q2 : w2.cell? ⟨w.heap.size, 2, none⟩ = some (i64 r2) := cell_of_blk (blk_later HB2.out (by omega) HRX.out) 2
  have q3 : w2.cell? ⟨w.heap.size, 3, none⟩ = some (i64 r3) := cell_of_blk (blk_later HB2.out (by omega) HRX.out) 3
  have q4 : w2.cell? ⟨w.heap.size, 4, none⟩ = some (i64 r4) := cell_of_blk (blk_later HB2.out (by omega) HRX.out) 4
  have q5 : w2.cell? ⟨w.heap.size, 5, none⟩ = some (i64 r5) := cell_of_blk (blk_later HB2.out (by omega) HRX.out) 5
  have hzw2 : w.heap.size < w2.heap.size := by omega
  generalize hwB : w2.alloc (cfgObj c) = wB
  have HA2 := hid (show Below w2.heap.size w2 wB by rw [← hwB]; exact (Below.refl _ w2).alloc (Nat.le_refl _) _)
  have hzB : wB.heap.size = w2.heap.size + 1 := by rw [← hwB]; simp
  unfold cfgObj at hwB
  have HWB := hid hwB
  clear hwB
  go_wp2_with fail
  rw [HWB.out]
  clear q0 q1 q2 q3 q4 q5
  refine (HBE.out _).mono ?_
  rintro e w3 ⟨pr, rfl, hb3, hR3⟩
  have hz3 := hb3.size
  have HQ3 := hid (show QI R w w3 pd po pr [(w1.heap.size, cfgObj c), (w.heap.size + 1, movObj na nb nc)] (RDb.new c) (RDb.new c) (RDb.new c) from by
    have hB := HA2.out.trans (hb3.mono (by omega))
    have hf : Fr (fun _ => False) w2 w3 := Fr.below hB
    refine ⟨fun k => wX.heap.size ≤ k ∧ k < w1.heap.size, fun k => wA.heap.size ≤ k ∧ k < w2.heap.size, fun k => wB.heap.size ≤ k ∧ k < w3.heap.size, H.fr HR12.out hf (fun _ _ x => x), H.fr HR2.out hf (fun _ _ x => x), H.lim hR3, ?_, ?_, ?_, ?_, ?_, ?_⟩
    · rintro k ⟨_, a⟩ ⟨b, _⟩; omega
    · rintro k ⟨_, a⟩ ⟨b, _⟩; omega
    · rintro k ⟨_, a⟩ ⟨b, _⟩; omega
    · rintro k (⟨a, b⟩ | ⟨a, b⟩ | ⟨a, b⟩) <;> omega
    · exact HBX.out.trans ((HB2.out.trans (hB.mono (by omega))).mono (by omega))
    · intro x hx
      simp only [List.mem_cons, List.not_mem_nil, or_false] at hx
      rcases hx with rfl | rfl
      · exact ⟨blk_later hB (by have := blk_lt HCB2.out; exact this) HCB2.out, by rintro (⟨a, b⟩ | ⟨a, b⟩ | ⟨a, b⟩) <;> simp only at a b <;> omega⟩
      · exact ⟨blk_later hB (by show w.heap.size + 1 < _; omega) (blk_later HB2.out (by show w.heap.size + 1 < _; omega) HNX.out), by rintro (⟨a, b⟩ | ⟨a, b⟩ | ⟨a, b⟩) <;> simp only at a b <;> omega⟩)
  clear hb3 hR3 HWB HA2 HR12 HR2 HB2 HCB2 HA1 HR1 HB1 HCB1 HRX HNX HBX
  generalize hwC : w3.alloc (.cells #[i64 c.s0, i64 c.k0, i64 c.s1, i64 c.k1, i64 c.s2, i64 c.k2, i64 c.s3, i64 c.k3, i64 c.m, i64 c.f] 29) = wC
  have HQC := hid (HQ3.out.below H (show Below w3.heap.size w3 wC by rw [← hwC]; exact (Below.refl _ w3).alloc (Nat.le_refl _) _))
  have d0 : wC.cell? ⟨w1.heap.size, 0, none⟩ = some (i64 c.s0) := cell_of_blk (HQC.out.at (b := w1.heap.size) (O := cfgObj c) (by simp)) 0
  have d1 : wC.cell? ⟨w1.heap.size, 1, none⟩ = some (i64 c.k0) := cell_of_blk (HQC.out.at (b := w1.heap.size) (O := cfgObj c) (by simp)) 1
  have d2 : wC.cell? ⟨w1.heap.size, 2, none⟩ = some (i64 c.s1) := cell_of_blk (HQC.out.at (b := w1.heap.size) (O := cfgObj c) (by simp)) 2
  have d3 : wC.cell? ⟨w1.heap.size, 3, none⟩ = some (i64 c.k1) := cell_of_blk (HQC.out.at (b := w1.heap.size) (O := cfgObj c) (by simp)) 3
  have d4 : wC.cell? ⟨w1.heap.size, 4, none⟩ = some (i64 c.s2) := cell_of_blk (HQC.out.at (b := w1.heap.size) (O := cfgObj c) (by simp)) 4
  have d5 : wC.cell? ⟨w1.heap.size, 5, none⟩ = some (i64 c.k2) := cell_of_blk (HQC.out.at (b := w1.heap.size) (O := cfgObj c) (by simp)) 5
  have d6 : wC.cell? ⟨w1.heap.size, 6, none⟩ = some (i64 c.s3) := cell_of_blk (HQC.out.at (b := w1.heap.size) (O := cfgObj c) (by simp)) 6
  have d7 : wC.cell? ⟨w1.heap.size, 7, none⟩ = some (i64 c.k3) := cell_of_blk (HQC.out.at (b := w1.heap.size) (O := cfgObj c) (by simp)) 7
  have d8 : wC.cell? ⟨w1.heap.size, 8, none⟩ = some (i64 c.m) := cell_of_blk (HQC.out.at (b := w1.heap.size) (O := cfgObj c) (by simp)) 8
  have d9 : wC.cell? ⟨w1.heap.size, 9, none⟩ = some (i64 c.f) := cell_of_blk (HQC.out.at (b := w1.heap.size) (O := cfgObj c) (by simp)) 9
  have hzC : w1.heap.size < wC.heap.size := World.block_lt_of_cell? _ _ d0
  go_wp2_with fail
  clear d0 d1 d2 d3 d4 d5 d6 d7 d8 d9
  refine (kreach_any c _ HRB.out).mono ?_
  rintro e w5 ⟨rfl, hb5⟩
  have HQ5 := hid (HQC.out.below H hb5)
  have HFI := hid (farTo_in HRB.out 4 (by omega))
  obtain ⟨far, hfar⟩ : ∃ f, f = farK c := ⟨_, rfl⟩
  have HFAR := hid hfar
  have ff0 : 0 ≤ far := by rw [hfar]; exact HFI.out.1
  have ff1 : far ≤ 10000000 := by rw [hfar]; exact HFI.out.2
  obtain ⟨near, hnear⟩ : ∃ n, n = c.s0 * c.k0 := ⟨_, rfl⟩
  rw [← hfar, ← hnear]
  clear hb5 hfar hnear hwC HQ3 HQC HRB
  go_wp2
  go_loopw [19, 20] (fun now' i' wr => ∃ (k : Nat) (e : RDb), k ≤ ms.length ∧ k ≤ 1000 ∧ i' = i64 k ∧ now' = i64 (playK c (ms.take k)).1 ∧ QI R w wr pd po pr [(w1.heap.size, cfgObj c), (w.heap.size + 1, movObj na nb nc)] (playK c (ms.take k)).2 (playK c (ms.take k)).2 e) (fun _ i' _ => ms.length - (intOf i').toNat)
  case atStart => exact ⟨0, _, by omega, by omega, rfl, rfl, HQ5.out⟩
  clear HQ5
  case round =>
    obtain ⟨k, er, hk, hk4, rfl, rfl, hQ⟩ := hrel
    have HQ := hid hQ
    have HPK := hid (playK_in HOK.out (ms.take k))
    obtain ⟨pn, hpn⟩ : ∃ pn, pn = (playK c (ms.take k)).1 := ⟨_, rfl⟩
    have pn0 : 0 ≤ pn := by rw [hpn]; exact HPK.out.1
    have pn1 : pn ≤ 400000 := by
      rw [hpn]
      have h1 := HPK.out.2.1
      have h2 := List.length_take_le k ms
      omega
    have HPN := hid hpn
    rw [← hpn]
    clear hpn hQ
    by_cases hlt : k < ms.length ∧ k < 1000
    case neg =>
      obtain ⟨dk, hdk⟩ : ∃ d, d = (playK c (ms.take k)).2 := ⟨_, rfl⟩
      rw [← hdk] at HQ
      have HDD := hid (diff_eqv HPK.out.2.2.1 (Eqv.refl (playK c (ms.take k)).2))
      rw [← hdk] at HDD
      clear hdk HPK HPN
      generalize hM : (1000 : Int) = M
      by_cases kl : k < ms.length
      case pos =>
        have kM : ¬ (k : Int) < M := by omega
        clear hM hlt hk4
        obtain ⟨I, J, K, hq⟩ := HQ.out
        go_wp2_with fail
        refine (H2.diff pd po dk dk I J _ hq.a hq.b).mono ?_
        rintro e wA' ⟨vl, rfl, hDf, _⟩
        rw [HDD.out.1]
        obtain ⟨al, cl, hvl⟩ := hDf.form
        rw [HDD.out.2] at hvl
        subst hvl
        have HFIN := hid (hq.bl.trans (hDf.old.mono hq.bl.size))
        clear hDf hq
        go_wp2
        go_ret
        exact ⟨by simp, HFIN.out⟩
      case neg =>
        have kM : ¬ (k : Int) < (ms.length : Int) := by omega
        clear hM hlt hk4
        obtain ⟨I, J, K, hq⟩ := HQ.out
        go_wp2_with fail
        refine (H2.diff pd po dk dk I J _ hq.a hq.b).mono ?_
        rintro e wA' ⟨vl, rfl, hDf, _⟩
        rw [HDD.out.1]
        obtain ⟨al, cl, hvl⟩ := hDf.form
        rw [HDD.out.2] at hvl
        subst hvl
        have HFIN := hid (hq.bl.trans (hDf.old.mono hq.bl.size))
        clear hDf hq
        go_wp2
        go_ret
        exact ⟨by simp, HFIN.out⟩
    obtain ⟨hl1, hl4⟩ := hlt
    obtain ⟨m, hm⟩ : ∃ m, ms[k]? = some m := ⟨_, List.getElem?_eq_getElem hl1⟩
    obtain ⟨av', cv', hv', hrow⟩ := HV.out.below HQ.out.old
    simp only [Value.slice.injEq, true_and] at hv'
    obtain ⟨rfl, rfl⟩ := hv'
    obtain ⟨⟨mi1, mi2, mi3⟩, bb, off, rfl, hbN, m0, m1, m2⟩ := hrow k m hm
    have MI := hid (And.intro mi1 (And.intro mi2 mi3))
    have HPS := hid (playK_succ (c := c) hm)
    have hzr := HQ.out.old.size
    have hbz : bb < wr.heap.size := by omega
    have k0 : (0 : Int) ≤ (k : Int) := by omega
    have k1 : (k : Int) < (ms.length : Int) := by omega
    have pq := pickK_in m.1 (n := 40) (by omega)
    have HK4 := hid (And.intro hk4 hl4)
    generalize hM : (1000 : Int) = M
    have kM : (k : Int) < M := by omega
    clear hrow hm mi1 mi2 mi3 hM hk4 hl4
    go_wp2_with fail
    refine (later_any pn m.1 m.2.1 m.2.2 _ pn0 (by omega) MI.out.1).mono ?_
    rintro e wA ⟨rfl, hbA⟩
    obtain ⟨pn', hpn'⟩ : ∃ p, p = pn + pickK m.1 40 := ⟨_, rfl⟩
    have pp0 : 0 ≤ pn' := by omega
    have pp1 : pn' ≤ 1000000 := by omega
    rw [← hpn']
    have HPN' := hid hpn'
    have M0 : wA.cell? ⟨bb, off + k * 3, none⟩ = some (i64 m.1) := cell_later hbA m0
    have M1 : wA.cell? ⟨bb, off + k * 3 + 1, none⟩ = some (i64 m.2.1) := cell_later hbA m1
    have M2 : wA.cell? ⟨bb, off + k * 3 + 2, none⟩ = some (i64 m.2.2) := cell_later hbA m2
    have hzA := hbA.size
    have hbzA : bb < wA.heap.size := by omega
    have HQA := hid (HQ.out.below H hbA)
    clear hbA m0 m1 m2 hpn' pq HQ
    go_wp2_with fail
    refine (point_any m.1 m.2.1 m.2.2 pn' far _ pp0 (by omega) ff0 ff1 MI.out.2.1 MI.out.2.2).mono ?_
    rintro e wB ⟨rfl, hbB⟩
    obtain ⟨pt, hpt⟩ : ∃ p, p = pointK m.2.1 m.2.2 pn' far := ⟨_, rfl⟩
    rw [← hpt]
    have HPT := hid hpt
    obtain ⟨dk, hdk⟩ : ∃ d, d = (playK c (ms.take k)).2 := ⟨_, rfl⟩
    rw [← hdk] at HQA
    have HDK := hid (show (playK c (ms.take (k + 1))) = (pn', updR dk pn' [pt]) by
      rw [HPS.out]
      unfold stepK
      rw [← HPN.out, ← HPN'.out, ← HFAR.out, ← HPT.out, ← hdk])
    have HQB := hid (((HQA.out.below H hbB).box H (ptObj pt)).box H (ptObj pt))
    rw [show (wB.alloc (ptObj pt)).heap.size = wB.heap.size + 1 by simp] at HQB
    clear hbB hpt M0 M1 M2 HQA hdk HPS HPK HPN
    go_wp2_with fail
    refine (HQB.out.upd H2 pn' (.slice (some ⟨wB.heap.size + 1, 0, none⟩) 1 1) [pt] (row_oneQ (HQB.out.at (b := wB.heap.size + 1) (O := ptObj pt) (by simp))) (out_boxQ (O := ptObj pt) (by simp)) (by simp)).mono ?_
    rintro e w6 ⟨rfl, hq6⟩
    have HQ6 := hid (hq6.sub (Cs := [(wB.heap.size, ptObj pt), (w1.heap.size, cfgObj c), (w.heap.size + 1, movObj na nb nc)]) (by simp))
    clear hq6 HQB
    have g0 : w6.cell? ⟨wB.heap.size, 0, none⟩ = some (i64 pt.1) := cell_of_blk (HQ6.out.at (b := wB.heap.size) (O := ptObj pt) (by simp)) 0
    have g1 : w6.cell? ⟨wB.heap.size, 1, none⟩ = some (i64 pt.2) := cell_of_blk (HQ6.out.at (b := wB.heap.size) (O := ptObj pt) (by simp)) 1
    have gz : wB.heap.size < w6.heap.size := World.block_lt_of_cell? _ _ g0
    have HQ7 := hid (HQ6.out.swap.box H (ptObj pt))
    go_wp2_with fail
    clear g0 g1 gz
    refine (HQ7.out.upd H2 pn' (.slice (some ⟨w6.heap.size, 0, none⟩) 1 1) [pt] (row_oneQ (HQ7.out.at (b := w6.heap.size) (O := ptObj pt) (by simp))) (out_boxQ (O := ptObj pt) (by simp)) (by simp)).mono ?_
    rintro e w7 ⟨rfl, hq7⟩
    obtain ⟨dn, hdn⟩ : ∃ d, d = updR dk pn' [pt] := ⟨_, rfl⟩
    rw [← hdn] at hq7 HDK
    have HQ8 := hid (hq7.swap.sub (Cs := [(w1.heap.size, cfgObj c), (w.heap.size + 1, movObj na nb nc)]) (by simp))
    clear hq7 HQ7 HQ6 hdn
    have c0 : w7.cell? ⟨w.heap.size + 1, 0, none⟩ = some (i64 na) := cell_of_blk (HQ8.out.at (b := w.heap.size + 1) (O := movObj na nb nc) (by simp)) 0
    have c1 : w7.cell? ⟨w.heap.size + 1, 1, none⟩ = some (i64 nb) := cell_of_blk (HQ8.out.at (b := w.heap.size + 1) (O := movObj na nb nc) (by simp)) 1
    have c2 : w7.cell? ⟨w.heap.size + 1, 2, none⟩ = some (i64 nc) := cell_of_blk (HQ8.out.at (b := w.heap.size + 1) (O := movObj na nb nc) (by simp)) 2
    have cz : w.heap.size + 1 < w7.heap.size := World.block_lt_of_cell? _ _ c0
    go_wp2_with fail
    clear c0 c1 c2 cz
    refine (point_any na nb nc pn' far _ pp0 (by omega) ff0 ff1 HNO.out.2.1 HNO.out.2.2).mono ?_
    rintro e w8 ⟨rfl, hb8⟩
    obtain ⟨xp, hxp⟩ : ∃ p, p = pointK nb nc pn' far := ⟨_, rfl⟩
    rw [← hxp]
    have HQ9 := hid ((((HQ8.out.below H hb8).box H (ptObj xp)).rot.rot).box H (ptObj xp))
    rw [show (w8.alloc (ptObj xp)).heap.size = w8.heap.size + 1 by simp] at HQ9
    clear hb8 hxp HQ8
    go_wp2_with fail
    refine (HQ9.out.upd H2 pn' (.slice (some ⟨w8.heap.size + 1, 0, none⟩) 1 1) [xp] (row_oneQ (HQ9.out.at (b := w8.heap.size + 1) (O := ptObj xp) (by simp))) (out_boxQ (O := ptObj xp) (by simp)) (by simp)).mono ?_
    rintro e w9 ⟨rfl, hq9⟩
    obtain ⟨en, hen⟩ : ∃ e, e = updR er pn' [xp] := ⟨_, rfl⟩
    rw [← hen] at hq9
    have HQ10 := hid (hq9.rot.swap.sub (Cs := [(w8.heap.size, ptObj xp), (w1.heap.size, cfgObj c), (w.heap.size + 1, movObj na nb nc)]) (by simp))
    clear hq9 HQ9 hen
    have g0 : w9.cell? ⟨w8.heap.size, 0, none⟩ = some (i64 xp.1) := cell_of_blk (HQ10.out.at (b := w8.heap.size) (O := ptObj xp) (by simp)) 0
    have g1 : w9.cell? ⟨w8.heap.size, 1, none⟩ = some (i64 xp.2) := cell_of_blk (HQ10.out.at (b := w8.heap.size) (O := ptObj xp) (by simp)) 1
    have gz : w8.heap.size < w9.heap.size := World.block_lt_of_cell? _ _ g0
    have HQ11 := hid (HQ10.out.box H (ptObj2 xp (-1, 0)))
    go_wp2_with fail
    clear g0 g1 gz
    refine (HQ11.out.upd H2 pn' (.slice (some ⟨w9.heap.size, 0, none⟩) 2 2) [xp, (-1, 0)] (row_twoQ (HQ11.out.at (b := w9.heap.size) (O := ptObj2 xp (-1, 0)) (by simp))) (out_boxQ (O := ptObj2 xp (-1, 0)) (by simp)) (by simp)).mono ?_
    rintro e w10 ⟨rfl, hq10⟩
    rw [updR_bad (.inl ⟨(-1, 0), by simp, pt_neg⟩)] at hq10
    have HQ12 := hid (hq10.sub (Cs := [(w8.heap.size, ptObj xp), (w1.heap.size, cfgObj c), (w.heap.size + 1, movObj na nb nc)]) (by simp))
    clear hq10 HQ11 HQ10
    have g0 : w10.cell? ⟨w8.heap.size, 0, none⟩ = some (i64 xp.1) := cell_of_blk (HQ12.out.at (b := w8.heap.size) (O := ptObj xp) (by simp)) 0
    have g1 : w10.cell? ⟨w8.heap.size, 1, none⟩ = some (i64 xp.2) := cell_of_blk (HQ12.out.at (b := w8.heap.size) (O := ptObj xp) (by simp)) 1
    have gz : w8.heap.size < w10.heap.size := World.block_lt_of_cell? _ _ g0
    have HQ13 := hid (HQ12.out.box H (ptObj2 (pn' + 1, 0) xp))
    go_wp2_with fail
    clear g0 g1 gz
    refine (HQ13.out.upd H2 pn' (.slice (some ⟨w10.heap.size, 0, none⟩) 2 2) [(pn' + 1, 0), xp] (row_twoQ (HQ13.out.at (b := w10.heap.size) (O := ptObj2 (pn' + 1, 0) xp) (by simp))) (out_boxQ (O := ptObj2 (pn' + 1, 0) xp) (by simp)) (by simp)).mono ?_
    rintro e w11 ⟨rfl, hq11⟩
    rw [updR_bad (.inl ⟨(pn' + 1, 0), by simp, pt_fut⟩)] at hq11
    have HQ14 := hid (hq11.sub (Cs := [(w8.heap.size, ptObj xp), (w1.heap.size, cfgObj c), (w.heap.size + 1, movObj na nb nc)]) (by simp))
    clear hq11 HQ13 HQ12
    have g0 : w11.cell? ⟨w8.heap.size, 0, none⟩ = some (i64 xp.1) := cell_of_blk (HQ14.out.at (b := w8.heap.size) (O := ptObj xp) (by simp)) 0
    have g1 : w11.cell? ⟨w8.heap.size, 1, none⟩ = some (i64 xp.2) := cell_of_blk (HQ14.out.at (b := w8.heap.size) (O := ptObj xp) (by simp)) 1
    have gz : w8.heap.size < w11.heap.size := World.block_lt_of_cell? _ _ g0
    have HQ15 := hid (HQ14.out.box H (ptObj xp))
    go_wp2_with fail
    clear g0 g1 gz
    refine (HQ15.out.upd H2 (-1) (.slice (some ⟨w11.heap.size, 0, none⟩) 1 1) [xp] (row_oneQ (HQ15.out.at (b := w11.heap.size) (O := ptObj xp) (by simp))) (out_boxQ (O := ptObj xp) (by simp)) (by simp)).mono ?_
    rintro e w12 ⟨rfl, hq12⟩
    rw [updR_bad (.inr (.inl (by decide)))] at hq12
    have HQ16 := hid (hq12.sub (Cs := [(w8.heap.size, ptObj xp), (w1.heap.size, cfgObj c), (w.heap.size + 1, movObj na nb nc)]) (by simp))
    clear hq12 HQ15 HQ14
    go_wp2_with fail
    refine (HQ16.out.upd H2 pn' (.slice none 0 0) [] (row_nilQ _) out_nilQ (by simp)).mono ?_
    rintro e w13 ⟨rfl, hq13⟩
    rw [updR_bad (.inr (.inr rfl))] at hq13
    have HQ17 := hid hq13
    clear hq13 HQ16
    obtain ⟨I0, hI0⟩ := HQ17.out.rep
    have HDO := hid (H2.al hI0)
    go_wp2_with fail
    refine (H.fetch po pn' 0 pn' dn I0 _ hI0 HDO.out.1).mono ?_
    rintro e w14 ⟨v1, rfl, hb14, ho1, _⟩
    generalize serA dn pn' 0 pn' = sA
    generalize serS dn pn' 0 pn' = sS
    generalize serP dn pn' 0 pn' = p1 at ho1
    generalize fetchErr dn.c pn' 0 pn' = eE
    have HB14 := hid hb14
    have HO1 := hid ho1
    obtain ⟨a1, c1, rfl⟩ : ∃ a c, v1 = .slice a p1.length c := by
      obtain ⟨_, ⟨h, h0⟩ | ⟨g, cap, cur, h, _⟩⟩ := ho1
      · exact ⟨none, 0, by rw [h, h0]⟩
      · exact ⟨_, _, h⟩
    have hz14 := hb14.size
    clear hb14 ho1 hI0
    go_upto_if 139 with fail
    generalize hwS : w14.alloc (.cells #[.int .i64 sA, .int .i64 sS, .slice a1 p1.length c1] 51) = wS
    have HTS := hid (show wS.heap[w14.heap.size]? = some (.cells #[i64 sA, i64 sS, .slice a1 p1.length c1] 51) by rw [← hwS]; exact blk_new _ _)
    have HBS := hid (show Below w14.heap.size w14 wS by rw [← hwS]; exact (Below.refl _ _).alloc (Nat.le_refl _) _)
    clear hwS
    go_cut [24] (fun z wx => z = i64 eE ∧ Below w13.heap.size w13 wx)
    case first =>
      as_aux_lemma =>
      have HB0 := hid (HB14.out.trans (HBS.out.mono hz14))
      have t2 : wS.cell? ⟨w14.heap.size, 2, none⟩ = some (.slice a1 p1.length c1) := cell_of_blk HTS.out 2
      have tz : w14.heap.size < wS.heap.size := blk_lt HTS.out
      by_cases hp : p1.length = 0
      · rw [hp] at t2 ⊢
        go_wp2
        go_meet
        exact ⟨rfl, HB0.out⟩
      · obtain ⟨_, ⟨h, h0⟩ | ⟨g, cap, cur, h, hge, hblk, hcap, hmx, hsz, _⟩⟩ := owns_below HO1.out HBS.out
        · exact absurd h0 hp
        cases h
        have g0 : (0 : Int) < (p1.length : Int) := by omega
        obtain ⟨y0, hy0⟩ : ∃ y, wS.cell? ⟨g, 0, none⟩ = some y := ⟨_, by rw [cell_of_blk hblk, Array.getElem?_eq_getElem (by omega)]⟩
        obtain ⟨y1, hy1⟩ : ∃ y, wS.cell? ⟨g, 1, none⟩ = some y := ⟨_, by rw [cell_of_blk hblk, Array.getElem?_eq_getElem (by omega)]⟩
        have z0 : wS.frozen? ⟨g, 0, none⟩ = false := frozen_of_blk hblk _
        have z1 : wS.frozen? ⟨g, 1, none⟩ = false := frozen_of_blk hblk _
        have hgz : g < wS.heap.size := blk_lt hblk
        have HGE := hid hge
        clear hblk hcap hmx hsz hge
        go_wp2
        go_meet
        refine ⟨rfl, ?_⟩
        exact Below.setCell (p := ⟨g, 1, none⟩) (Below.setCell (p := ⟨g, 0, none⟩) HB0.out HGE.out _) HGE.out _
    case rest =>
    obtain ⟨rfl, hbx⟩ := hcut
    have HQ18 := hid (HQ17.out.below H hbx)
    clear hbx HQ17 HTS HBS HB14 HO1
    obtain ⟨I1, hI1⟩ := HQ18.out.rep
    go_wp2_with fail
    refine (H2.save po dn I1 _ hI1).mono ?_
    rintro e w15 ⟨vy, rfl, hSy⟩
    have hlong := saveL_long HDO.out.1 HDO.out.2
    obtain ⟨_, ⟨h, h0⟩ | ⟨g, cap, cur, h, hge, hblk, hcap, hmx, hsz, _⟩⟩ := hSy.own
    · omega
    subst h
    have HB15 := hid hSy.old
    obtain ⟨ly, hly⟩ : ∃ n, n = (saveL dn).length := ⟨_, rfl⟩
    rw [← hly] at hlong hcap ⊢
    obtain ⟨y8, hy8⟩ : ∃ y, w15.cell? ⟨g, 8, none⟩ = some y := ⟨_, by rw [cell_of_blk hblk, Array.getElem?_eq_getElem (by omega)]⟩
    obtain ⟨y10, hy10⟩ : ∃ y, w15.cell? ⟨g, 10, none⟩ = some y := ⟨_, by rw [cell_of_blk hblk, Array.getElem?_eq_getElem (by omega)]⟩
    have z8 : w15.frozen? ⟨g, 8, none⟩ = false := frozen_of_blk hblk _
    have z10 : w15.frozen? ⟨g, 10, none⟩ = false := frozen_of_blk hblk _
    have hgz : g < w15.heap.size := blk_lt hblk
    have l10 : (10 : Int) < (ly : Int) := by omega
    have l8 : (8 : Int) < (ly : Int) := by omega
    have HGE := hid hge
    clear hSy hblk hcap hmx hsz hge hly hI1
    go_wp2_with fail
    clear y8 y10 hy8 hy10 z8 z10
    generalize hwT : (w15.setCell ⟨g, 8, none⟩ (.int .u8 0)).setCell ⟨g, 10, none⟩ (.int .u8 9) = wT
    have HBT := hid (show Below wc.heap.size wc wT by
      rw [← hwT]
      exact Below.setCell (p := ⟨g, 10, none⟩) (Below.setCell (p := ⟨g, 8, none⟩) HB15.out HGE.out _) HGE.out _)
    have HQ19 := hid (HQ18.out.below H HBT.out)
    clear hwT HB15 HGE HBT HQ18
    obtain ⟨I2, J2, K2, hq19⟩ := HQ19.out
    refine (H2.diff po pr dn en I2 K2 _ hq19.a hq19.c).mono ?_
    rintro e w16 ⟨vl, rfl, hDf, _⟩
    have HQ20 := hid (HQ19.out.below H hDf.old)
    clear hDf hq19 HQ19
    have d0 : w16.cell? ⟨w1.heap.size, 0, none⟩ = some (i64 c.s0) := cell_of_blk (HQ20.out.at (b := w1.heap.size) (O := cfgObj c) (by simp)) 0
    have d1 : w16.cell? ⟨w1.heap.size, 1, none⟩ = some (i64 c.k0) := cell_of_blk (HQ20.out.at (b := w1.heap.size) (O := cfgObj c) (by simp)) 1
    have d2 : w16.cell? ⟨w1.heap.size, 2, none⟩ = some (i64 c.s1) := cell_of_blk (HQ20.out.at (b := w1.heap.size) (O := cfgObj c) (by simp)) 2
    have d3 : w16.cell? ⟨w1.heap.size, 3, none⟩ = some (i64 c.k1) := cell_of_blk (HQ20.out.at (b := w1.heap.size) (O := cfgObj c) (by simp)) 3
    have d4 : w16.cell? ⟨w1.heap.size, 4, none⟩ = some (i64 c.s2) := cell_of_blk (HQ20.out.at (b := w1.heap.size) (O := cfgObj c) (by simp)) 4
    have d5 : w16.cell? ⟨w1.heap.size, 5, none⟩ = some (i64 c.k2) := cell_of_blk (HQ20.out.at (b := w1.heap.size) (O := cfgObj c) (by simp)) 5
    have d6 : w16.cell? ⟨w1.heap.size, 6, none⟩ = some (i64 c.s3) := cell_of_blk (HQ20.out.at (b := w1.heap.size) (O := cfgObj c) (by simp)) 6
    have d7 : w16.cell? ⟨w1.heap.size, 7, none⟩ = some (i64 c.k3) := cell_of_blk (HQ20.out.at (b := w1.heap.size) (O := cfgObj c) (by simp)) 7
    have d8 : w16.cell? ⟨w1.heap.size, 8, none⟩ = some (i64 c.m) := cell_of_blk (HQ20.out.at (b := w1.heap.size) (O := cfgObj c) (by simp)) 8
    have d9 : w16.cell? ⟨w1.heap.size, 9, none⟩ = some (i64 c.f) := cell_of_blk (HQ20.out.at (b := w1.heap.size) (O := cfgObj c) (by simp)) 9
    have dz : w1.heap.size < w16.heap.size := World.block_lt_of_cell? _ _ d0
    go_wp2_with fail
    clear d0 d1 d2 d3 d4 d5 d6 d7 d8 d9 dz
    obtain ⟨I3, hI3⟩ := HQ20.out.rep
    refine (H2.resize po pn' c dn I3 _ hI3).mono ?_
    rintro e w17 ⟨hb17, _, hZ17⟩
    obtain ⟨pq, rfl, hR17⟩ := hZ17 (by unfold resizeErr; rw [if_neg (fun x => x ⟨pp0, by omega⟩)]; exact Cfg.err_ok HOK.out)
    have HQ21 := hid (HQ20.out.below H hb17)
    have HB17 := hid hb17
    have hz17 := hb17.size
    have HR17 := hid (H.lim hR17)
    have HRO := hid (H2.al hR17)
    have g0 : w17.cell? ⟨w8.heap.size, 0, none⟩ = some (i64 xp.1) := cell_of_blk (HQ21.out.at (b := w8.heap.size) (O := ptObj xp) (by simp)) 0
    have g1 : w17.cell? ⟨w8.heap.size, 1, none⟩ = some (i64 xp.2) := cell_of_blk (HQ21.out.at (b := w8.heap.size) (O := ptObj xp) (by simp)) 1
    have gz : w8.heap.size < w17.heap.size := World.block_lt_of_cell? _ _ g0
    clear hb17 hZ17 hR17 hI3 HQ21
    go_wp2_with fail
    clear g0 g1 gz
    have hbal := (Below.refl w17.heap.size w17).alloc (Nat.le_refl _) (ptObj xp)
    refine (H.update pq pn' (.slice (some ⟨w17.heap.size, 0, none⟩) 1 1) [xp] _ _ _ (H.fr HR17.out (Fr.below (In := fun _ => False) hbal) (fun _ _ x => x)) HRO.out.1 (row_oneQ (blk_new w17 (ptObj xp))) ?_ (by simp)).mono ?_
    · intro a n c e hn hx
      cases e
      have h2 : w17.heap.size < w17.heap.size := hx.2
      omega
    rintro e w18 ⟨rfl, _, hF18⟩
    have HQ22 := hid (show QI R w w18 pd po pr [(w1.heap.size, cfgObj c), (w.heap.size + 1, movObj na nb nc)] (playK c (ms.take (k + 1))).2 (playK c (ms.take (k + 1))).2 en by
      rw [HDK.out]
      have hz := hF18.size
      have hs : (w17.alloc (ptObj xp)).heap.size = w17.heap.size + 1 := by simp
      refine (HQ20.out.below H ⟨hF18.os.trans (hbal.os.trans HB17.out.os), hF18.tape.trans (hbal.tape.trans HB17.out.tape), hF18.output.trans (hbal.output.trans HB17.out.output), by omega, fun k hk => ?_⟩).swap.sub (by simp)
      rw [hF18.block k (by rw [hs]; omega) (fun x => by have := x.1; omega), hbal.block k (by omega), HB17.out.block k hk])
    have HN1 := hid (show (playK c (ms.take (k + 1))).1 = pn' by rw [HDK.out])
    clear hF18 hbal
    go_wp2
    go_roundw
    case rel => first | exact ⟨k + 1, en, by omega, by have := HK4.out; omega, by go_num, by rw [HN1.out], HQ22.out⟩ | ((repeat apply Exists.intro); exact ⟨⟨k + 1, en, by omega, by have := HK4.out; omega, by go_num, by rw [HN1.out], HQ22.out⟩, rfl⟩)
    case measure => simp [intOf]; omega
end Go.Proofs.Ythbbfjfekchdiaa
