import Derived.Test.YthbbfjfekchdiaaXKReadW
import Derived.BigQuiet
import Derived.Deep.QuietTactic
import Derived.Deep.DeepCutAuto
namespace Go.Proofs.Ythbbfjfekchdiaa
open Go.RowKit
set_option linter.unusedSimpArgs false

/-- a block that is a list of numbers -/
def RowB (w : World) (b : Nat) (l : List Int) : Prop := w.heap[b]? = some (.cells (l.map i64).toArray 3)
theorem RowB.row {w : World} {b : Nat} {l : List Int} (h : RowB w b l) : RowI w b l := by
  refine ⟨blk_lt h, fun j x hj => ?_⟩
  rw [cell_of_blk h]
  simp [hj]
theorem RowB.set {w : World} {b : Nat} {l : List Int} (h : RowB w b l) (k : Nat) (x : Int) : RowB (w.setCell ⟨b, k, none⟩ (i64 x)) b (l.set k x) := by
  unfold RowB at h ⊢
  rw [blk_setCell h]
  congr 2
  simp [List.map_set]
theorem RowB.far {w : World} {b : Nat} {l : List Int} (h : RowB w b l) {a : Addr} (ha : b ≠ a.block) (u : Value) : RowB (w.setCell a u) b l := by
  unfold RowB at h ⊢
  rw [blk_setCell_far ha]; exact h
theorem RowB.fr {w w' : World} {b : Nat} {l : List Int} {In : Nat → Prop} (h : RowB w b l) (hf : Fr In w w') (hn : ¬ In b) : RowB w' b l := (hf.block b (blk_lt h) hn).trans h
theorem made_ints (n : Nat) : madeCells #[.int .i64 0] n = ((List.replicate n (0 : Int)).map i64).toArray := by
  unfold madeCells
  apply Array.ext
  · simp
  · intro i h1 h2
    simp [Nat.mod_one]
theorem minus_set {n k : Nat} (h : k < n) : (List.replicate k (-1 : Int) ++ List.replicate (n - k) 0).set k (-1) = List.replicate (k + 1) (-1) ++ List.replicate (n - (k + 1)) 0 := by
  rw [List.set_append_right _ _ (by simp), List.length_replicate, Nat.sub_self, show n - k = (n - (k + 1)) + 1 by omega, List.replicate_succ, List.set_cons_zero, List.replicate_succ', List.append_assoc]
  rfl

theorem pointK_pt {ba va now far : Int} (h0 : 0 ≤ now) (h1 : now ≤ 1000000000) (f0 : 0 ≤ far) : PtIn (pointK ba va now far) ∧ (pointK ba va now far).1 ≤ now := by
  have pq := pickK_in ba (n := far + far / 4 + 2) (by omega)
  have pv := pickK_in va (n := 2001) (by omega)
  unfold pointK PtIn
  dsimp only
  omega

theorem pt_err {c : Cfg} (hc : c.Ok) {now : Int} {q : Pt} (hq : PtIn q) (hn : q.1 ≤ now) : ptErr c now q = if farK c ≤ now - q.1 then 4 else 0 := by
  unfold ptErr
  rw [if_neg (by simpa using hq), if_neg (by omega)]
  have := first_far hc (now := now) (t := q.1) hn
  by_cases h : farK c ≤ now - q.1
  · rw [if_pos (this.2 h), if_pos h]
  · rw [if_neg (fun x => h (this.1 x)), if_neg h]
theorem one_err {c : Cfg} (hc : c.Ok) {now : Int} {q : Pt} (h0 : 0 ≤ now) (h1 : now ≤ 2147483647) (hq : PtIn q) (hn : q.1 ≤ now) : updErr c now [q] = (if farK c ≤ now - q.1 then 4 else 0, 0) := by
  unfold updErr
  rw [if_neg (by rintro (h | h); · exact h ⟨h0, h1⟩
                 · simp at h), errFrom, pt_err hc hq hn]
  split
  · rw [if_neg (by omega)]; rfl
  · rw [if_pos rfl]; rfl
theorem two_err {c : Cfg} (hc : c.Ok) {now : Int} (h0 : 0 ≤ now) (h1 : now ≤ 2000000000) (hf : 1 ≤ farK c) : updErr c now [(now, 5), (now + 1, 0)] = (3, 1) := by
  have e1 : ptErr c now (now, 5) = 0 := by
    rw [pt_err hc ⟨h0, by dsimp only; omega, by dsimp only; omega, by dsimp only; omega⟩ (by dsimp only; omega), if_neg (by dsimp only; omega)]
  have e2 : ptErr c now (now + 1, 0) = 3 := by
    unfold ptErr
    rw [if_neg (by intro h; exact h ⟨by dsimp only; omega, by dsimp only; omega, by dsimp only; omega, by dsimp only; omega⟩), if_pos (by dsimp only; omega)]
  unfold updErr
  rw [if_neg (by rintro (h | h); · exact h ⟨h0, by omega⟩
                 · simp at h), errFrom, if_pos e1, errFrom, if_neg (by rw [e2]; decide), e2]
  rfl
theorem two_same {d : RDb} {now : Int} (h : updErr d.c now [(now, 5), (now + 1, 0)] = (3, 1)) : updR d now [(now, 5), (now + 1, 0)] = d := by
  unfold updR
  rw [h, if_neg (by decide)]
theorem farK_posT {c : Cfg} (h : c.Ok) : 1 ≤ farK c ∧ c.s 0 * c.k 0 ≤ farK c := by
  have hb := Cfg.bd h (show 0 < c.many by have := (c.ok_iff.1 h).2.2.1; omega)
  have h1 : (1 : Int) * 1 ≤ c.s 0 * c.k 0 := Int.mul_le_mul hb.1 hb.2.2.1 (by omega) (by have := hb.1; omega)
  have h2 : c.s 0 * c.k 0 ≤ farK c := by
    unfold farK
    have := ((farTo_le (c := c) (x := farTo c 4) 4).1 (Int.le_refl _)).2 0 (by omega)
    exact this
  exact ⟨by omega, h2⟩

/-- one move, told -/
theorem tell_step {d : RDb} {l : List Pt} {st vs : List Int} {now : Int} {q : Pt} (hd : d.Ok) (hl : d.L[0]? = some l) (h : Tell d.c l st vs) (h0 : 0 ≤ now) (h1 : now ≤ 2147483647) (hq : PtIn q) (hn : q.1 ≤ now) :
    ∃ l', (updR d now [q]).L[0]? = some l' ∧
    ((now - q.1 < d.c.s 0 * d.c.k 0 ∧ Tell d.c l' (st.set (q.1 / d.c.s 0 % d.c.k 0).toNat (q.1 - q.1 % d.c.s 0)) (vs.set (q.1 / d.c.s 0 % d.c.k 0).toNat q.2)) ∨ (¬ now - q.1 < d.c.s 0 * d.c.k 0 ∧ Tell d.c l' st vs)) := by
  have he := one_err hd.cfg h0 h1 hq hn
  by_cases hold : farK d.c ≤ now - q.1
  · rw [if_pos hold] at he
    refine ⟨l, ?_, .inr ⟨?_, h⟩⟩
    · unfold updR
      rw [he, if_neg (by decide)]
      exact hl
    · have := (farK_posT hd.cfg).2
      omega
  · rw [if_neg hold] at he
    have e : updR d now [q] = writesR d now q := by
      unfold updR
      rw [he, if_pos rfl]
      rfl
    rw [e]
    exact tell_write hd hl h hq hn
/-- within a round: the program's database, the two lists, the point -/
structure TS (R : Rep) (w0 w : World) (sB vB pB pd : Nat) (In : Nat → Prop) (d : RDb) (st vs : List Int) (qt qv : Int) : Prop where
  rep : R w In pd d
  inn : ∀ j, In j → w0.heap.size ≤ j ∧ j ≠ sB ∧ j ≠ vB ∧ j ≠ pB ∧ j < w.heap.size
  rs : RowB w sB st
  rv : RowB w vB vs
  pb : w.heap[pB]? = some (.cells #[i64 qt, i64 qv] 39)
  bl : Below w0.heap.size w0 w
  lo : w0.heap.size ≤ sB ∧ w0.heap.size ≤ vB ∧ sB ≠ vB ∧ pB ≠ sB ∧ pB ≠ vB

theorem TS.below {R : Rep} (H : ProgOk R) {w0 w w' : World} {sB vB pB pd : Nat} {In : Nat → Prop} {d : RDb} {st vs : List Int} {qt qv : Int} (h : TS R w0 w sB vB pB pd In d st vs qt qv) (hb : Below w.heap.size w w') : TS R w0 w' sB vB pB pd In d st vs qt qv where
  rep := H.fr h.rep (Fr.below (In := fun _ => False) hb) (fun _ _ x => x)
  inn := fun j hj => by
    obtain ⟨a, b, c, e, f⟩ := h.inn j hj
    have := hb.size
    exact ⟨a, b, c, e, by omega⟩
  rs := blk_later hb (blk_lt h.rs) h.rs
  rv := blk_later hb (blk_lt h.rv) h.rv
  pb := blk_later hb (blk_lt h.pb) h.pb
  bl := h.bl.trans (hb.mono h.bl.size)
  lo := h.lo

theorem TS.upd {R : Rep} (H : ProgOk R) {w0 w w' : World} {sB vB pB pd : Nat} {In : Nat → Prop} {d d' : RDb} {st vs : List Int} {qt qv : Int} (h : TS R w0 w sB vB pB pd In d st vs qt qv) (hR : R w' (Up In w.heap.size) pd d') (hF : Fr In w w') : TS R w0 w' sB vB pB pd (fun j => Up In w.heap.size j ∧ j < w'.heap.size) d' st vs qt qv where
  rep := H.lim hR
  inn := fun j hj => by
    have h1 := blk_lt h.rs
    have h2 := blk_lt h.rv
    have h3 := blk_lt h.pb
    have h4 := h.bl.size
    obtain ⟨hj | hj, hl⟩ := hj
    · obtain ⟨a, b, c, e, f⟩ := h.inn j hj
      exact ⟨a, b, c, e, hl⟩
    · exact ⟨by omega, by omega, by omega, by omega, hl⟩
  rs := h.rs.fr hF fun x => (h.inn _ x).2.1 rfl
  rv := h.rv.fr hF fun x => (h.inn _ x).2.2.1 rfl
  pb := (hF.block pB (blk_lt h.pb) fun x => (h.inn _ x).2.2.2.1 rfl).trans h.pb
  bl := ⟨hF.os.trans h.bl.os, hF.tape.trans h.bl.tape, hF.output.trans h.bl.output, Nat.le_trans h.bl.size hF.size, fun k hk => by
    have h4 := h.bl.size
    rw [hF.block k (by omega) fun x => by have := (h.inn _ x).1; omega]
    exact h.bl.block k hk⟩
  lo := h.lo

theorem TS.set {R : Rep} (H : ProgOk R) {w0 w : World} {sB vB pB pd : Nat} {In : Nat → Prop} {d : RDb} {st vs : List Int} {qt qv : Int} (h : TS R w0 w sB vB pB pd In d st vs qt qv) (k : Nat) (x : Int) : TS R w0 (w.setCell ⟨sB, k, none⟩ (i64 x)) sB vB pB pd In d (st.set k x) vs qt qv where
  rep := H.fr h.rep ((Fr.refl (fun j => j = sB) w).setCell rfl k (i64 x)) fun j hj e => (h.inn j hj).2.1 e
  inn := fun j hj => by rw [size_setCell]; exact h.inn j hj
  rs := h.rs.set k x
  rv := h.rv.far (by show vB ≠ sB; exact fun e => h.lo.2.2.1 e.symm) _
  pb := by rw [blk_setCell_far (by show pB ≠ sB; exact h.lo.2.2.2.1)]; exact h.pb
  bl := h.bl.setCell (by have := h.lo.1; exact this) _
  lo := h.lo
theorem TS.setV {R : Rep} (H : ProgOk R) {w0 w : World} {sB vB pB pd : Nat} {In : Nat → Prop} {d : RDb} {st vs : List Int} {qt qv : Int} (h : TS R w0 w sB vB pB pd In d st vs qt qv) (k : Nat) (x : Int) : TS R w0 (w.setCell ⟨vB, k, none⟩ (i64 x)) sB vB pB pd In d st (vs.set k x) qt qv where
  rep := H.fr h.rep ((Fr.refl (fun j => j = vB) w).setCell rfl k (i64 x)) fun j hj e => (h.inn j hj).2.2.1 e
  inn := fun j hj => by rw [size_setCell]; exact h.inn j hj
  rs := h.rs.far (by show sB ≠ vB; exact h.lo.2.2.1) _
  rv := h.rv.set k x
  pb := by rw [blk_setCell_far (by show pB ≠ vB; exact h.lo.2.2.2.2)]; exact h.pb
  bl := h.bl.setCell (by have := h.lo.2.1; exact this) _
  lo := h.lo
end Go.Proofs.Ythbbfjfekchdiaa
namespace Go.Proofs.Ythbbfjfekchdiaa
open Go.RowKit
set_option linter.unusedSimpArgs false

/-- what stands at the head of a round of Told -/
structure TI (R : Rep) (c : Cfg) (ms : List Mv) (w wr : World) (sB vB pd : Nat) (k : Nat) (In : Nat → Prop) (st vs : List Int) : Prop where
  rep : R wr In pd (playK c (ms.take k)).2
  inn : ∀ j, In j → w.heap.size ≤ j ∧ j ≠ sB ∧ j ≠ vB ∧ j < wr.heap.size
  tell : ∃ l, (playK c (ms.take k)).2.L[0]? = some l ∧ Tell c l st vs
  rs : RowB wr sB st
  rv : RowB wr vB vs
  bl : Below w.heap.size w wr

set_option maxRecDepth 4000 in
set_option maxHeartbeats 4000000 in
theorem told_any {R : Rep} (H : ProgOk R) (r0 r1 r2 r3 r4 r5 me fa : Int) (v : Value) (ms : List Mv) (w : World) (h0 : In64 r0) (h1 : In64 r1) (h2 : In64 r2) (h3 : In64 r3) (h4 : In64 r4) (h5 : In64 r5) (hm : In64 me) (hf : In64 fa) (hv : RowM w w.heap.size v ms) (hlen : ms.length ≤ 9223372036854775807) :
    Calls Try.prog 3 #[.agg #[i64 r0, i64 r1, i64 r2, i64 r3, i64 r4, i64 r5], i64 me, i64 fa, v] w fun e w' => e = .returned (.bool true) ∧ Below w.heap.size w w' := by
  obtain ⟨c, hc⟩ : ∃ c, c = cfgK r0 r1 r2 r3 r4 r5 me fa := ⟨_, rfl⟩
  have HOK := hid (show c.Ok by rw [hc]; exact (cfgK_ok r0 r1 r2 r3 r4 r5 me fa).1)
  have HBE := hid (fun (w : World) => begun_any H r0 r1 r2 r3 r4 r5 me fa w h0 h1 h2 h3 h4 h5 hm hf)
  rw [← hc] at HBE
  have HRB := hid (reach_bd HOK.out)
  have HV := hid hv
  obtain ⟨av, cv, rfl, hrow⟩ := hv
  have HB0 := hid (Cfg.bd HOK.out (show 0 < c.many by have := (c.ok_iff.1 HOK.out).2.2.1; omega))
  obtain ⟨N, hN⟩ : ∃ N : Nat, c.k 0 = (N : Int) := ⟨(c.k 0).toNat, by have := HB0.out.2.2.1; omega⟩
  obtain ⟨S, hS⟩ : ∃ S : Int, S = c.s 0 := ⟨_, rfl⟩
  have HN := hid hN
  have HS := hid hS
  have S1 : 1 ≤ S := by rw [hS]; exact HB0.out.1
  have S2 : S ≤ 86400 := by rw [hS]; exact HB0.out.2.1
  have N1 : 1 ≤ N := by have := HB0.out.2.2.1; omega
  have N2 : N ≤ 60 := by have := HB0.out.2.2.2; omega
  have HFI := hid (farTo_in HRB.out 4 (by omega))
  have HFP := hid (farK_posT HOK.out)
  obtain ⟨far, hfar⟩ : ∃ f, f = farK c := ⟨_, rfl⟩
  have HFAR := hid hfar
  have ff0 : 1 ≤ far := by rw [hfar]; exact HFP.out.1
  have ff1 : far ≤ 10000000 := by rw [hfar]; exact HFI.out.2
  obtain ⟨near, hnear⟩ : ∃ n, n = c.s 0 * c.k 0 := ⟨_, rfl⟩
  have HNR := hid hnear
  have nn0 : 0 ≤ near := by rw [hnear]; exact (HRB.out 0 (by omega)).1
  have nn1 : near ≤ 10000000 := by rw [hnear]; exact (HRB.out 0 (by omega)).2
  have HRE := hid (fun (w : World) => kreach_any c w HRB.out)
  rw [← hfar, show c.s0 * c.k0 = near from hnear.symm] at HRE
  obtain ⟨i0, hi, hz0, hz1, hz2⟩ := info_parts Try.infoInt
  have hmk : ∀ w : World, (Instr.makeSlice 34 (.int .i64 (N : Int)) (.int .i64 (N : Int))).run Try.prog w = .ok (.slice (some ⟨w.heap.size, 0, none⟩) N N) (w.alloc (.cells (madeCells #[.int .i64 0] N) 3)) := by
    intro w
    have := run_makeSlice (P := Try.prog) w 34 3 i0 _ Try.underlying34 hi hz0 .i64 .i64 N N (by omega) (by omega) (by rw [hz1]; simp; omega) (by rw [hz2]; omega) (by omega)
    simp only [Int.toNat_natCast, hz1, Nat.mul_one] at this
    exact this
  clear h0 h1 h2 h3 h4 h5 hm hf hrow hc hN hS hfar hnear hi hz0 hz1 hz2
  go_enter Try.func3, Try.ntmps3
  go_wp2_with fail
  refine (HBE.out _).mono ?_
  rintro e w1 ⟨pd, rfl, hb1, hR1⟩
  have hz1 : w.heap.size + 1 ≤ w1.heap.size := by have := hb1.size; simp at this; exact this
  have HB1 := hid (show Below w.heap.size w w1 from ((Below.refl _ w).alloc (Nat.le_refl _) _).trans (hb1.mono (by simp)))
  have HR1 := hid (show R w1 (fun k => w.heap.size ≤ k ∧ k < w1.heap.size) pd (RDb.new c) from H.weak (H.lim hR1) (fun k hk => ⟨by have := hk.1; simp at this; omega, hk.2⟩))
  clear hb1 hR1
  go_wp2_with fail
  refine (HRE.out _).mono ?_
  rintro e w2 ⟨rfl, hb2⟩
  have HCB2 := hid (blk_later hb2 (by simp) (blk_new w1 (.cells #[i64 c.s0, i64 c.k0, i64 c.s1, i64 c.k1, i64 c.s2, i64 c.k2, i64 c.s3, i64 c.k3, i64 c.m, i64 c.f] 29)))
  have hz2 : w1.heap.size < w2.heap.size := blk_lt HCB2.out
  have hb12 : Below w1.heap.size w1 w2 := ((Below.refl _ w1).alloc (Nat.le_refl _) _).trans (hb2.mono (by simp))
  have HB2 := hid (show Below w.heap.size w w2 from HB1.out.trans (hb12.mono (by omega)))
  have HR2 := hid (H.fr HR1.out (Fr.below (In := fun _ => False) hb12) (fun _ _ x => x))
  have y0 : w2.cell? ⟨w1.heap.size, 0, none⟩ = some (i64 S) := by rw [HS.out]; exact cell_of_blk HCB2.out 0
  have y1 : w2.cell? ⟨w1.heap.size, 1, none⟩ = some (i64 (N : Int)) := by rw [← HN.out]; exact cell_of_blk HCB2.out 1
  clear hb2 hb12
  go_wp2
  clear y0 y1 hmk
  generalize hw3 : (w2.alloc (.cells (madeCells #[.int .i64 0] N) 3)).alloc (.cells (madeCells #[.int .i64 0] N) 3) = w3
  have e2 : (w2.alloc (.cells (madeCells #[.int .i64 0] N) 3)).heap.size = w2.heap.size + 1 := by simp
  have HB23 := hid (show Below w2.heap.size w2 w3 by rw [← hw3]; exact ((Below.refl _ w2).alloc (Nat.le_refl _) _).alloc (by simp) _)
  have HS3 := hid (show RowB w3 w2.heap.size (List.replicate N 0) by
    unfold RowB
    rw [← hw3, ← made_ints]
    exact blk_alloc (blk_new w2 _))
  have HV3 := hid (show RowB w3 (w2.heap.size + 1) (List.replicate N 0) by
    unfold RowB
    rw [← hw3, ← made_ints]
    have := blk_new (w2.alloc (.cells (madeCells #[.int .i64 0] N) 3)) (.cells (madeCells #[.int .i64 0] N) 3)
    rw [e2] at this
    exact this)
  have hz3 : w2.heap.size + 1 < w3.heap.size := blk_lt HV3.out
  clear hw3 e2
  go_loopw [17] (fun i wr => ∃ k : Nat, k ≤ N ∧ i = i64 k ∧ RowB wr w2.heap.size (List.replicate k (-1) ++ List.replicate (N - k) 0) ∧ Fr (fun j => j = w2.heap.size) w3 wr) (fun i _ => N - (intOf i).toNat)
  case atStart => exact ⟨0, by omega, rfl, by simpa using HS3.out, Fr.refl _ _⟩
  case round =>
    obtain ⟨k, hk, rfl, hs, hfr⟩ := hrel
    have HSR := hid hs
    have HFR := hid hfr
    have hzr := hfr.size
    clear hs hfr
    by_cases hlt : k < N
    · obtain ⟨x, hx⟩ : ∃ x, (List.replicate k (-1 : Int) ++ List.replicate (N - k) 0)[k]? = some x := ⟨_, List.getElem?_eq_getElem (by simp; omega)⟩
      have x0 : wr.cell? ⟨w2.heap.size, k, none⟩ = some (i64 x) := HSR.out.row.2 k x hx
      have f0 : wr.frozen? ⟨w2.heap.size, k, none⟩ = false := frozen_of_blk HSR.out k
      have k0 : (0 : Int) ≤ (k : Int) := by omega
      have k1 : (k : Int) < (N : Int) := by omega
      have zz : w2.heap.size < wr.heap.size := by omega
      have HNX := hid (show RowB (wr.setCell ⟨w2.heap.size, k, none⟩ (i64 (-1))) w2.heap.size (List.replicate (k + 1) (-1) ++ List.replicate (N - (k + 1)) 0) by rw [← minus_set hlt]; exact HSR.out.set k (-1))
      have HNF := hid (HFR.out.setCell (b := w2.heap.size) rfl k (i64 (-1)))
      clear hx
      go_wp2
      go_roundw
      case rel => first | exact ⟨k + 1, by omega, by go_num, HNX.out, HNF.out⟩ | ((repeat apply Exists.intro); exact ⟨⟨k + 1, by omega, by go_num, HNX.out, HNF.out⟩, rfl⟩)
      case measure => simp [intOf]; omega
    have hkN : N = k := by omega
    subst hkN
    obtain ⟨w4, hw4⟩ : ∃ x, x = wr := ⟨_, rfl⟩
    subst hw4
    have HS4 := hid (show RowB w4 w2.heap.size (List.replicate N (-1)) by have := HSR.out; simpa using this)
    have HV4 := hid (HV3.out.fr HFR.out (by simp))
    have HB4 := hid (show Below w.heap.size w w4 from ⟨HFR.out.os.trans (HB23.out.os.trans HB2.out.os), HFR.out.tape.trans (HB23.out.tape.trans HB2.out.tape), HFR.out.output.trans (HB23.out.output.trans HB2.out.output), by have h1 := HB2.out.size; have h2 := HB23.out.size; omega, fun j hj => by
      have h1 := HB2.out.size
      have h2 := HB23.out.size
      rw [HFR.out.block j (by omega) (by show ¬ j = w2.heap.size; omega), HB23.out.block j (by omega), HB2.out.block j hj]⟩)
    have HT4 := hid (show TI R c ms w w4 w2.heap.size (w2.heap.size + 1) pd 0 (fun j => w.heap.size ≤ j ∧ j < w1.heap.size) (List.replicate N (-1)) (List.replicate N 0) from
      { rep := H.fr (H.fr HR2.out (Fr.below (In := fun _ => False) HB23.out) (fun _ _ x => x)) HFR.out (fun j hj e => by have := hj.2; omega)
        inn := fun j hj => ⟨hj.1, by have := hj.2; omega, by have := hj.2; omega, by have := hj.2; omega⟩
        tell := ⟨[], by
          show (List.replicate c.many ([] : List Pt))[0]? = some []
          rw [List.getElem?_replicate, if_pos (by have := (c.ok_iff.1 HOK.out).2.2.1; omega)], tell_new HN.out.symm⟩
        rs := HS4.out
        rv := HV4.out
        bl := HB4.out })
    clear HSR HFR HS4 HV4 HB4 HS3 HV3 HB23 HR2 HR1 HB1 HB2 HCB2 hlt
    go_wp2
    go_loopw [18, 19] (fun now' i' wr => ∃ (k : Nat) (In : Nat → Prop) (st vs : List Int), k ≤ ms.length ∧ k ≤ 10000 ∧ i' = i64 k ∧ now' = i64 (playK c (ms.take k)).1 ∧ TI R c ms w wr w2.heap.size (w2.heap.size + 1) pd k In st vs) (fun _ i' _ => ms.length - (intOf i').toNat)
    case atStart => exact ⟨0, _, _, _, by omega, by omega, rfl, rfl, HT4.out⟩
    case round =>
      clear HT4
      obtain ⟨k, In, st, vs, hk, hk4, rfl, rfl, hT⟩ := hrel
      have HT := hid hT
      have HPK := hid (playK_in HOK.out (ms.take k))
      obtain ⟨pn, hpn⟩ : ∃ pn, pn = (playK c (ms.take k)).1 := ⟨_, rfl⟩
      have pn0 : 0 ≤ pn := by rw [hpn]; exact HPK.out.1
      have pn1 : pn ≤ 400000 := by
        rw [hpn]
        have h1 := HPK.out.2.1
        have h2 := List.length_take_le k ms
        omega
      have HPN := hid hpn
      rw [← hpn]
      clear hpn hT
      by_cases hlt : k < ms.length ∧ k < 10000
      case neg =>
        have HBL := hid HT.out.bl
        by_cases kl : k < ms.length
        · generalize hM : (10000 : Int) = M
          have kM : ¬ (k : Int) < M := by omega
          clear hlt hM hk4
          go_wp2
          go_ret
          exact ⟨rfl, HBL.out⟩
        · clear hlt hk4
          go_wp2
          go_ret
          exact ⟨rfl, HBL.out⟩
      obtain ⟨hl1, hl4⟩ := hlt
      obtain ⟨m, hm⟩ : ∃ m, ms[k]? = some m := ⟨_, List.getElem?_eq_getElem hl1⟩
      obtain ⟨av', cv', hv', hrow⟩ := HV.out.below HT.out.bl
      simp only [Value.slice.injEq, true_and] at hv'
      obtain ⟨rfl, rfl⟩ := hv'
      obtain ⟨⟨mi1, mi2, mi3⟩, b, off, rfl, hbN, m0, m1, m2⟩ := hrow k m hm
      have MI := hid (And.intro mi1 (And.intro mi2 mi3))
      have HPS := hid (playK_succ (c := c) hm)
      have hzr := HT.out.bl.size
      have hbz : b < wr.heap.size := by omega
      have k0 : (0 : Int) ≤ (k : Int) := by omega
      have k1 : (k : Int) < (ms.length : Int) := by omega
      have pq := pickK_in m.1 (n := 40) (by omega)
      have HK4 := hid (And.intro hk4 hl4)
      generalize hM : (10000 : Int) = M
      have kM : (k : Int) < M := by omega
      clear hrow hm mi1 mi2 mi3 hM hk4 hl4
      go_wp2_with fail
      refine (later_any pn m.1 m.2.1 m.2.2 _ pn0 (by omega) MI.out.1).mono ?_
      rintro e w5 ⟨rfl, hb5⟩
      obtain ⟨pn', hpn'⟩ : ∃ p, p = pn + pickK m.1 40 := ⟨_, rfl⟩
      have pp0 : 0 ≤ pn' := by omega
      have pp1 : pn' ≤ 1000000 := by omega
      rw [← hpn']
      have HPN' := hid hpn'
      have M0 : w5.cell? ⟨b, off + k * 3, none⟩ = some (i64 m.1) := cell_later hb5 m0
      have M1 : w5.cell? ⟨b, off + k * 3 + 1, none⟩ = some (i64 m.2.1) := cell_later hb5 m1
      have M2 : w5.cell? ⟨b, off + k * 3 + 2, none⟩ = some (i64 m.2.2) := cell_later hb5 m2
      have hz5 := hb5.size
      have hbz5 : b < w5.heap.size := by omega
      have HB5 := hid hb5
      clear hb5 m0 m1 m2 hpn' pq
      go_wp2_with fail
      refine (point_any m.1 m.2.1 m.2.2 pn' far _ pp0 (by omega) (by omega) ff1 MI.out.2.1 MI.out.2.2).mono ?_
      rintro e w6 ⟨rfl, hb6⟩
      have hz6 := hb6.size
      have HB6 := hid (show Below wr.heap.size wr w6 from HB5.out.trans (hb6.mono hz5))
      have HPP := hid (pointK_pt (ba := m.2.1) (va := m.2.2) (now := pn') (far := far) pp0 (by omega) (by omega))
      obtain ⟨pt, hpt⟩ : ∃ p, p = pointK m.2.1 m.2.2 pn' far := ⟨_, rfl⟩
      rw [← hpt] at HPP ⊢
      have HPT := hid hpt
      obtain ⟨qt, qv⟩ := pt
      dsimp only
      obtain ⟨⟨qa, qb, qc, qd⟩, qe⟩ := HPP.out
      dsimp only at qa qb qc qd qe
      clear hb6 hpt M0 M1 M2
      go_wp2_with fail
      obtain ⟨D, hD⟩ : ∃ D, D = (playK c (ms.take k)).2 := ⟨_, rfl⟩
      generalize hw7 : (w6.alloc (.cells #[i64 qt, i64 qv] 39)).alloc (.cells #[i64 qt, i64 qv] 39) = w7
      have e6 : (w6.alloc (.cells #[i64 qt, i64 qv] 39)).heap.size = w6.heap.size + 1 := by simp
      have hb67 : Below w6.heap.size w6 w7 := by rw [← hw7]; exact ((Below.refl _ w6).alloc (Nat.le_refl _) _).alloc (by simp) _
      have hp7 : w7.heap[w6.heap.size]? = some (.cells #[i64 qt, i64 qv] 39) := by rw [← hw7]; exact blk_alloc (blk_new w6 _)
      have hq7 : w7.heap[w6.heap.size + 1]? = some (.cells #[i64 qt, i64 qv] 39) := by
        rw [← hw7]
        have := blk_new (w6.alloc (.cells #[i64 qt, i64 qv] 39)) (.cells #[i64 qt, i64 qv] 39)
        rw [e6] at this
        exact this
      have hb7 : Below wr.heap.size wr w7 := HB6.out.trans (hb67.mono (by omega))
      have hz2r : w2.heap.size + 1 < wr.heap.size := blk_lt HT.out.rv
      have hzw2 : w.heap.size ≤ w2.heap.size := by omega
      have hz67 : w6.heap.size + 1 < w7.heap.size := blk_lt hq7
      have HS7 := hid (show TS R w w7 w2.heap.size (w2.heap.size + 1) w6.heap.size pd In D st vs qt qv from
        { rep := by rw [hD]; exact H.fr HT.out.rep (Fr.below (In := fun _ => False) hb7) (fun _ _ x => x)
          inn := fun j hj => by obtain ⟨a, b, c, e⟩ := HT.out.inn j hj; exact ⟨a, b, c, by omega, by omega⟩
          rs := blk_later hb7 (by omega) HT.out.rs
          rv := blk_later hb7 (by omega) HT.out.rv
          pb := hp7
          bl := HT.out.bl.trans (hb7.mono hzr)
          lo := ⟨by omega, by omega, by omega, by omega, by omega⟩ })
      have HDO := hid (show D.Ok ∧ D.c = c by rw [hD]; exact HPK.out.2.2)
      obtain ⟨l, hl, htl⟩ := HT.out.tell
      rw [← hD] at hl
      have hts := tell_step (now := pn') (q := (qt, qv)) HDO.out.1 hl (by rw [HDO.out.2]; exact htl) pp0 (by omega) ⟨qa, qb, qc, qd⟩ qe
      rw [HDO.out.2, ← HNR.out, ← HS.out, HN.out] at hts
      dsimp only at hts
      have HTS := hid hts
      have HE1 := hid (one_err HOK.out (now := pn') (q := (qt, qv)) pp0 (by omega) ⟨qa, qb, qc, qd⟩ qe)
      have HE2 := hid (two_err HOK.out (now := pn') pp0 (by omega) HFP.out.1)
      have hupd := H.update pd pn' (.slice (some ⟨w6.heap.size + 1, 0, none⟩) 1 1) [(qt, qv)] D In w7 HS7.out.rep HDO.out.1 (by
        refine ⟨some ⟨w6.heap.size + 1, 0, none⟩, 1, rfl, fun j q hj => ⟨w6.heap.size + 1, 0, rfl, ?_⟩⟩
        have hj0 : j = 0 := by obtain ⟨y, _⟩ := List.getElem?_eq_some_iff.1 hj; simp at y; exact y
        subst hj0
        simp at hj
        subst hj
        exact ⟨cell_of_blk hq7 0, cell_of_blk hq7 1⟩) (by
        intro a n c e hn hx
        cases e
        have := HT.out.inn _ hx
        simp only at this
        omega) (by simp)
      have HUPD := hid hupd
      have HD := hid hD
      clear hupd hts hl htl hb67 hb7 hp7 hq7 e6 hw7 hD HB5 HB6 hz5 hz6 hbz5 hbz
      refine HUPD.out.mono ?_
      rintro e w8 ⟨rfl, hR8, hF8⟩
      rw [HDO.out.2, HE1.out]
      have HS8 := hid (HS7.out.upd H hR8 hF8)
      have HK1 := hid (updR_kept (now := pn') (l := [(qt, qv)]) HDO.out.1)
      obtain ⟨D', hD'⟩ : ∃ D', D' = updR D pn' [(qt, qv)] := ⟨_, rfl⟩
      rw [← hD'] at HS8 HK1 HTS
      obtain ⟨In8, hIn8⟩ : ∃ I : Nat → Prop, I = fun j => Up In w7.heap.size j ∧ j < w8.heap.size := ⟨_, rfl⟩
      rw [← hIn8] at HS8
      have HD' := hid hD'
      obtain ⟨er, her⟩ : ∃ e : Int, e = if farK c ≤ pn' - (qt, qv).1 then 4 else 0 := ⟨_, rfl⟩
      rw [← her]
      rw [← HFAR.out] at her
      have HER := hid her
      have p0 : w8.cell? ⟨w6.heap.size, 0, none⟩ = some (i64 qt) := cell_of_blk HS8.out.pb 0
      have zp : w6.heap.size < w8.heap.size := blk_lt HS8.out.pb
      clear hR8 hF8 hIn8 hD' her HUPD HS7
      go_upto_region 21 with fail
      go_cut [21, 23, 112] (fun _ _ z wx => z = .bool false ∧ wx = w8)
      case first =>
        as_aux_lemma =>
        have he := HER.out
        by_cases old : far ≤ pn' - qt
        · rw [if_pos old] at he
          subst he
          go_wp2
          go_meet
          exact ⟨rfl, rfl⟩
        · rw [if_neg old] at he
          subst he
          go_wp2
          go_meet
          exact ⟨rfl, rfl⟩
      case rest =>
      obtain ⟨rfl, hwc⟩ := hcut
      have hwc := hwc.symm
      subst hwc
      clear p0
      go_wp2_with fail
      generalize hw9 : w8.alloc (.cells #[i64 pn', i64 5, i64 (pn' + 1), i64 0] 39) = w9
      have hb9 : Below w8.heap.size w8 w9 := by rw [← hw9]; exact (Below.refl _ w8).alloc (Nat.le_refl _) _
      have hq9 : w9.heap[w8.heap.size]? = some (.cells #[i64 pn', i64 5, i64 (pn' + 1), i64 0] 39) := by rw [← hw9]; exact blk_new w8 _
      have HS9 := hid (HS8.out.below H hb9)
      have hupd := H.update pd pn' (.slice (some ⟨w8.heap.size, 0, none⟩) 2 2) [(pn', 5), (pn' + 1, 0)] D' In8 w9 HS9.out.rep HK1.out.1 (by
        refine ⟨some ⟨w8.heap.size, 0, none⟩, 2, rfl, fun j q hj => ⟨w8.heap.size, 0, rfl, ?_⟩⟩
        have hj0 : j = 0 ∨ j = 1 := by obtain ⟨y, _⟩ := List.getElem?_eq_some_iff.1 hj; simp at y; omega
        rcases hj0 with rfl | rfl
        · simp at hj
          subst hj
          exact ⟨cell_of_blk hq9 0, cell_of_blk hq9 1⟩
        · simp at hj
          subst hj
          exact ⟨cell_of_blk hq9 2, cell_of_blk hq9 3⟩) (by
        intro a n c e hn hx
        cases e
        have := HS8.out.inn _ hx
        simp only at this
        omega) (by simp)
      have HUPD := hid hupd
      clear hupd hb9 hq9 hw9
      refine HUPD.out.mono ?_
      rintro e w10 ⟨rfl, hR10, hF10⟩
      have hcc : D'.c = c := HK1.out.2.1.trans HDO.out.2
      rw [two_same (by rw [hcc]; exact HE2.out)] at hR10
      rw [hcc, HE2.out]
      have HS10 := hid (HS9.out.upd H hR10 hF10)
      obtain ⟨In10, hIn10⟩ : ∃ I : Nat → Prop, I = fun j => Up In8 w9.heap.size j ∧ j < w10.heap.size := ⟨_, rfl⟩
      rw [← hIn10] at HS10
      have p0 : w10.cell? ⟨w6.heap.size, 0, none⟩ = some (i64 qt) := cell_of_blk HS10.out.pb 0
      have zp10 : w6.heap.size < w10.heap.size := blk_lt HS10.out.pb
      clear hR10 hF10 hIn10 HUPD HS8 HS9 hcc zp
      go_upto_if 136 with fail
      go_cut [25] (fun z wx => ∃ st' vs' l', TS R w wx w2.heap.size (w2.heap.size + 1) w6.heap.size pd In10 D' st' vs' qt qv ∧ D'.L[0]? = some l' ∧ Tell c l' st' vs')
      case first =>
        as_aux_lemma =>
        obtain ⟨l', hl', ⟨hn, ht⟩ | ⟨hn, ht⟩⟩ := HTS.out
        rotate_left
        · have HL' := hid hl'
          have HTL := hid ht
          clear hl' ht
          go_wp2
          go_meet
          exact ⟨st, vs, l', HS10.out, HL'.out, HTL.out⟩
        have kb0 : 0 ≤ qt / S % (N : Int) := Int.emod_nonneg _ (by omega)
        have kb1 : qt / S % (N : Int) < (N : Int) := Int.emod_lt_of_pos _ (by omega)
        obtain ⟨kn, hkn⟩ : ∃ kn : Nat, qt / S % (N : Int) = (kn : Int) := ⟨(qt / S % (N : Int)).toNat, by omega⟩
        rw [hkn, Int.toNat_natCast] at ht
        have HL' := hid hl'
        have HTL := hid ht
        have r0 : 0 ≤ qt % S := Int.emod_nonneg _ (by omega)
        have r1 : qt % S < S := Int.emod_lt_of_pos _ (by omega)
        have d0 : 0 ≤ qt / S := Int.ediv_nonneg (by omega) (by omega)
        have d1 : qt / S ≤ qt := Int.ediv_le_self _ (by omega)
        have p1 : w10.cell? ⟨w6.heap.size, 1, none⟩ = some (i64 qv) := cell_of_blk HS10.out.pb 1
        have k0' : (0 : Int) ≤ (kn : Int) := by omega
        have k1' : (kn : Int) < (N : Int) := by omega
        have hls : st.length = N := by
          have h1 := HT.out.tell
          obtain ⟨_, _, h2⟩ := h1
          have := h2.ls
          rw [HN.out] at this
          omega
        have hlv : vs.length = N := by
          have h1 := HT.out.tell
          obtain ⟨_, _, h2⟩ := h1
          have := h2.lv
          rw [HN.out] at this
          omega
        obtain ⟨x, hx⟩ : ∃ x, st[kn]? = some x := ⟨_, List.getElem?_eq_getElem (by omega)⟩
        obtain ⟨y, hy⟩ : ∃ y, vs[kn]? = some y := ⟨_, List.getElem?_eq_getElem (by omega)⟩
        have x0 : w10.cell? ⟨w2.heap.size, kn, none⟩ = some (i64 x) := HS10.out.rs.row.2 kn x hx
        have y0 : w10.cell? ⟨w2.heap.size + 1, kn, none⟩ = some (i64 y) := HS10.out.rv.row.2 kn y hy
        have f0 : w10.frozen? ⟨w2.heap.size, kn, none⟩ = false := frozen_of_blk HS10.out.rs kn
        have f1 : w10.frozen? ⟨w2.heap.size + 1, kn, none⟩ = false := frozen_of_blk HS10.out.rv kn
        have z0 : w2.heap.size < w10.heap.size := blk_lt HS10.out.rs
        have z1 : w2.heap.size + 1 < w10.heap.size := blk_lt HS10.out.rv
        have ne1 : w6.heap.size ≠ w2.heap.size := HS10.out.lo.2.2.2.1
        have ne2 : w6.heap.size ≠ w2.heap.size + 1 := HS10.out.lo.2.2.2.2
        clear hl' ht hx hy hls hlv
        go_wp2_with fail
        go_region
        all_goals go_wp2
        go_meet
        exact ⟨st.set kn (qt - qt % S), vs.set kn qv, l', ((HS10.out.set H kn (qt - qt % S)).setV H kn qv).below H ((Below.refl _ _).drew), HL'.out, HTL.out⟩
      case rest =>
      as_aux_lemma =>
      obtain ⟨st', vs', l', h1, h2, h3⟩ := hcut
      revert h1
      generalize wc = w11
      intro h1
      have HS11 := hid h1
      have hls : st'.length = N := by
        have := h3.ls
        rw [HN.out] at this
        omega
      have hlv : vs'.length = N := by
        have := h3.lv
        rw [HN.out] at this
        omega
      have hcc : D'.c = c := HK1.out.2.1.trans HDO.out.2
      have hrd := read_any H pd w2.heap.size (w2.heap.size + 1) N N pn' near st' vs' l' D' In10 w11 h1.rep HK1.out.1 h2 (by rw [hcc]; exact h3) h1.rs.row h1.rv.row (by rw [hcc]; exact HNR.out) pp0 (by omega)
      rw [hls, hlv] at hrd
      have HRD := hid hrd
      have HL2 := hid h2
      have HL3 := hid h3
      clear hrd h1 h2 h3 hls hlv hcc p0 zp10 HS10 HTS
      go_wp2_with fail
      refine HRD.out.mono ?_
      rintro e w12 ⟨rfl, hb12⟩
      have hs12 := HS11.out.below H hb12
      have HTI := hid (show TI R c ms w w12 w2.heap.size (w2.heap.size + 1) pd (k + 1) In10 st' vs' ∧ (playK c (ms.take (k + 1))).1 = pn' by
        have e1 : playK c (ms.take (k + 1)) = (pn', D') := by
          rw [HPS.out]
          unfold stepK
          rw [← HPN.out, ← HPN'.out, ← HFAR.out, ← HPT.out, HD'.out, HD.out]
        rw [e1]
        refine ⟨⟨?_, fun j hj => ?_, ⟨l', ?_, HL3.out⟩, hs12.rs, hs12.rv, hs12.bl⟩, rfl⟩
        · rw [e1]; exact hs12.rep
        · obtain ⟨a, b, c, _, e⟩ := hs12.inn j hj
          exact ⟨a, b, c, e⟩
        · rw [e1]; exact HL2.out)
      clear hs12 hb12
      go_wp2
      go_roundw
      case rel => first | exact ⟨k + 1, In10, st', vs', by omega, by have := HK4.out; omega, by go_num, by rw [HTI.out.2], HTI.out.1⟩ | ((repeat apply Exists.intro); exact ⟨⟨k + 1, In10, st', vs', by omega, by have := HK4.out; omega, by go_num, by rw [HTI.out.2], HTI.out.1⟩, rfl⟩)
      case measure => simp [intOf]; omega
end Go.Proofs.Ythbbfjfekchdiaa
