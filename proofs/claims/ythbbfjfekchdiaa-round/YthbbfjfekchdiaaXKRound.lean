import Derived.Test.YthbbfjfekchdiaaXKPick
import Derived.Test.YthbbfjfekchdiaaXKFilled
import Derived.BigQuiet
import Derived.Deep.QuietTactic
import Derived.Deep.DeepCutAuto
/-
  Round: two databases with the same points; what the walk wants.
-/
namespace Go.Proofs.Ythbbfjfekchdiaa
open Go.RowKit

theorem saveL_byte {d : RDb} (hd : d.Ok) : ByteL (saveL d) := by
  obtain ⟨⟨m1, m2⟩, ⟨f1, f2⟩, n1, _⟩ := d.c.ok_iff.1 hd.cfg
  have h4 := d.c.many_le
  intro b hb
  unfold saveL at hb
  rcases List.mem_append.1 hb with hb | hb
  · simp only [List.mem_cons, List.not_mem_nil, or_false] at hb
    rcases hb with rfl | rfl | rfl | rfl | rfl | rfl | rfl <;> omega
  · rcases List.mem_append.1 hb with hb | hb
    · obtain ⟨i, _, hi⟩ := List.mem_flatMap.1 hb
      unfold arcBytes at hi
      rcases List.mem_append.1 hi with hi | hi
      · exact numL_byte _ _ b hi
      · exact numL_byte _ _ b hi
    · unfold bytesOf at hb
      obtain ⟨L, _, hL⟩ := List.mem_flatMap.1 hb
      obtain ⟨o, _, ho⟩ := List.mem_flatMap.1 hL
      unfold slotBytes at ho
      rcases List.mem_append.1 ho with ho | ho
      · exact numL_byte _ _ b ho
      · exact numL_byte _ _ b ho
theorem saveL_ne (d : RDb) : saveL d ≠ [] := by unfold saveL; simp
theorem conv_row {w : World} {v : Value} {l : List Int} (h : RowB w v l) (hl : l ≠ []) : (convert 55 9 v).run Try.prog w = .ok (.string (strOfNums l)) w := by
  obtain ⟨b, o, cap, rfl, h2, hrg⟩ := h.some' hl
  refine run_convert_bytes_arg (P := Try.prog) w 55 5 Try.underlying55 Try.underlying5 b o l.length cap l rfl (fun i hi => ?_) 9 Try.underlying9
  refine hrg i _ ?_
  unfold bs
  rw [List.getElem?_map, List.getElem?_eq_getElem hi]
  simp [List.getD, List.getElem?_eq_getElem hi]

/-- moves, from a state on -/
def playF (c : Cfg) (s : Int × RDb) (ms : List Mv) : Int × RDb := ms.foldl (stepK c) s
theorem playF_succ {c : Cfg} {s : Int × RDb} {ms : List Mv} {k : Nat} {m : Mv} (h : ms[k]? = some m) : playF c s (ms.take (k + 1)) = stepK c (playF c s (ms.take k)) m := by
  unfold playF
  rw [List.take_add_one, h, List.foldl_append]
  rfl
theorem playF_in {c : Cfg} : ∀ (l : List Mv) (s : Int × RDb) (n : Int), 0 ≤ s.1 → s.1 ≤ n → s.2.Ok → s.2.c = c → 0 ≤ (playF c s l).1 ∧ (playF c s l).1 ≤ n + 40 * (l.length : Int) ∧ (playF c s l).2.Ok ∧ (playF c s l).2.c = c
  | [], s, n, a, b, d, e => ⟨a, by show s.1 ≤ _; simpa using b, d, e⟩
  | m :: l, s, n, a, b, d, e => by
    have hp := pickK_in m.1 (n := 40) (by omega)
    have hk := updR_kept (now := s.1 + pickK m.1 40) (l := [pointK m.2.1 m.2.2 (s.1 + pickK m.1 40) (farK c)]) d
    have r := playF_in l (stepK c s m) (n + 40) (by show 0 ≤ s.1 + pickK m.1 40; omega) (by show s.1 + pickK m.1 40 ≤ n + 40; omega) hk.1 (hk.2.1.trans e)
    rw [List.length_cons]
    refine ⟨r.1, ?_, r.2.2⟩
    have := r.2.1
    show (playF c (stepK c s m) l).1 ≤ _
    omega
/-- two that have the same points go on the same -/
theorem playF_eqv {c : Cfg} : ∀ (l : List Mv) (s t : Int × RDb), t.1 = s.1 → s.2.Ok → Eqv s.2 t.2 → (playF c t l).1 = (playF c s l).1 ∧ Eqv (playF c s l).2 (playF c t l).2
  | [], s, t, h1, _, h2 => ⟨h1, h2⟩
  | m :: l, s, t, h1, hd, h2 => by
    refine playF_eqv l (stepK c s m) (stepK c t m) ?_ ?_ ?_
    · show t.1 + pickK m.1 40 = s.1 + pickK m.1 40
      rw [h1]
    · exact (updR_kept hd).1
    · show Eqv (updR s.2 _ _) (updR t.2 _ _)
      rw [h1]
      exact updR_eqv hd h2

structure RI (R : Rep) (w wr : World) (pd po : Nat) (In Jn : Nat → Prop) (d e : RDb) : Prop where
  p : R wr In pd d
  q : R wr Jn po e
  dis : ∀ k, In k → ¬ Jn k
  inn : ∀ k, In k ∨ Jn k → w.heap.size ≤ k ∧ k < wr.heap.size
  bl : Below w.heap.size w wr
theorem RI.below {R : Rep} (H : ProgOk R) {w wr w' : World} {pd po : Nat} {In Jn : Nat → Prop} {d e : RDb} (h : RI R w wr pd po In Jn d e) (hb : Below wr.heap.size wr w') : RI R w w' pd po In Jn d e :=
  ⟨H.fr h.p (Fr.below (In := fun _ => False) hb) (fun _ _ x => x), H.fr h.q (Fr.below (In := fun _ => False) hb) (fun _ _ x => x), h.dis, fun k hk => ⟨(h.inn k hk).1, Nat.lt_of_lt_of_le (h.inn k hk).2 hb.size⟩, h.bl.trans (hb.mono h.bl.size)⟩
theorem RI.mid {R : Rep} (H : ProgOk R) {w w1 w2 w3 : World} {pd po : Nat} {In Jn : Nat → Prop} {d e : RDb} (h : RI R w w1 pd po In Jn d e) (f1 : Fr In w1 w2) (b2 : Below w2.heap.size w2 w3) : R w3 Jn po e :=
  H.fr (H.fr h.q f1 fun k hk hx => h.dis k hx hk) (Fr.below (In := fun _ => False) b2) (fun _ _ x => x)
theorem RI.two {R : Rep} (H : ProgOk R) {w w1 w2 w3 w4 : World} {pd po : Nat} {In Jn : Nat → Prop} {d e d' e' : RDb} (h : RI R w w1 pd po In Jn d e) (h1 : R w2 (Up In w1.heap.size) pd d') (f1 : Fr In w1 w2) (b2 : Below w2.heap.size w2 w3) (h2 : R w4 (Up Jn w3.heap.size) po e') (f2 : Fr Jn w3 w4) : ∃ In' Jn', RI R w w4 pd po In' Jn' d' e' := by
  have z1 := f1.size
  have z2 := b2.size
  have z3 := f2.size
  have z0 := h.bl.size
  have i1 : ∀ k, In k → k < w1.heap.size := fun k hk => (h.inn k (.inl hk)).2
  have j1 : ∀ k, Jn k → k < w1.heap.size := fun k hk => (h.inn k (.inr hk)).2
  refine ⟨fun k => Up In w1.heap.size k ∧ k < w2.heap.size, fun k => Up Jn w3.heap.size k ∧ k < w4.heap.size, ?_, H.lim h2, ?_, ?_, ?_⟩
  · refine H.fr (H.fr (H.lim h1) (Fr.below (In := fun _ => False) b2) (fun _ _ x => x)) f2 ?_
    rintro k ⟨hk | hk, _⟩ hj
    · exact h.dis k hk hj
    · have := j1 k hj; omega
  · rintro k ⟨hk | hk, hk2⟩ ⟨hj | hj, _⟩
    · exact h.dis k hk hj
    · have := i1 k hk; omega
    · have := j1 k hj; omega
    · omega
  · rintro k (⟨hk | hk, hk2⟩ | ⟨hk | hk, hk2⟩)
    · exact ⟨(h.inn k (.inl hk)).1, by omega⟩
    · exact ⟨by omega, by omega⟩
    · exact ⟨(h.inn k (.inr hk)).1, by omega⟩
    · exact ⟨by omega, by omega⟩
  · refine h.bl.trans ⟨f2.os.trans (b2.os.trans f1.os), f2.tape.trans (b2.tape.trans f1.tape), f2.output.trans (b2.output.trans f1.output), by omega, fun k hk => ?_⟩
    rw [f2.block k (by omega) (fun x => by have := (h.inn k (.inr x)).1; omega), b2.block k (by omega), f1.block k (by omega) (fun x => by have := (h.inn k (.inl x)).1; omega)]
/-- a list of one point -/
theorem row_one {w : World} {b : Nat} {p : Pt} {t : TypeId} (h : w.heap[b]? = some (.cells #[i64 p.1, i64 p.2] t)) : RowG w (.slice (some ⟨b, 0, none⟩) 1 1) [p] := by
  refine ⟨some ⟨b, 0, none⟩, 1, rfl, fun j q hj => ⟨b, 0, rfl, ?_⟩⟩
  have hj0 : j = 0 := by obtain ⟨y, _⟩ := List.getElem?_eq_some_iff.1 hj; simp at y; exact y
  subst hj0
  simp at hj
  subst hj
  exact ⟨cell_of_blk h 0, cell_of_blk h 1⟩
theorem out_one {In : Nat → Prop} {b n c : Nat} (h : ¬ In b) : OutOf In (.slice (some ⟨b, 0, none⟩) n c) := by
  intro a n c e _ hx
  cases e
  exact h hx
end Go.Proofs.Ythbbfjfekchdiaa
/-
  Round, walked.
-/
namespace Go.Proofs.Ythbbfjfekchdiaa
open Go.RowKit
set_option linter.unusedSimpArgs false
attribute [local go_sem] Go.wp_at_zero Go.wp_at_succ

theorem eq_arrK (c : Cfg) (w : World) : (Op.equalIn 9999 27 (.agg #[i64 c.s0, i64 c.k0, i64 c.s1, i64 c.k1, i64 c.s2, i64 c.k2, i64 c.s3, i64 c.k3]) (.agg #[i64 c.s0, i64 c.k0, i64 c.s1, i64 c.k1, i64 c.s2, i64 c.k2, i64 c.s3, i64 c.k3])).run Try.prog w = .ok true w := by
  rw [show (9999 : Nat) = 9998 + 1 from rfl, Op.equalIn]
  simp only [Sem.run_bind, run_underlying Try.underlying27, Result.andThen_ok]
  simp only [Std.Legacy.Range.forIn_eq_forIn_range', Std.Legacy.Range.size, Nat.sub_zero, Nat.add_sub_cancel, Nat.div_one, List.range'_succ, List.range'_zero, List.forIn_cons, List.forIn_nil]
  go_simp

set_option maxRecDepth 4000 in
set_option maxHeartbeats 4000000 in
theorem round_any {R : Rep} (H2 : ProgOk2 R) (r0 r1 r2 r3 r4 r5 me fa : Int) (v u bv : Value) (ms ns : List Mv) (b : List Int) (w : World) (h0 : In64 r0) (h1 : In64 r1) (h2 : In64 r2) (h3 : In64 r3) (h4 : In64 r4) (h5 : In64 r5) (hm : In64 me) (hf : In64 fa) (hv : RowM w w.heap.size v ms) (hlen : ms.length ≤ 9223372036854775807) (hu : RowM w w.heap.size u ns) (hlen2 : ns.length ≤ 9223372036854775807) (hb : RowB w bv b) (hby : ByteL b) (hout : OutB (fun k => w.heap.size ≤ k) bv) :
    Calls Try.prog 5 #[.agg #[i64 r0, i64 r1, i64 r2, i64 r3, i64 r4, i64 r5], i64 me, i64 fa, v, u, bv] w fun e w' => e = .returned (.bool true) ∧ Below w.heap.size w w' := by
  have H := H2.base
  obtain ⟨c, hc⟩ : ∃ c, c = cfgK r0 r1 r2 r3 r4 r5 me fa := ⟨_, rfl⟩
  have HOK := hid (show c.Ok by rw [hc]; exact (cfgK_ok r0 r1 r2 r3 r4 r5 me fa).1)
  have HFI := hid (fun (w : World) (hv : RowM w w.heap.size v ms) => filled_any H r0 r1 r2 r3 r4 r5 me fa v ms c w (hid hc) h0 h1 h2 h3 h4 h5 hm hf hv hlen)
  have HRB := hid (reach_bd HOK.out)
  have HV := hid hv
  have HU := hid hu
  have HBV := hid hb
  have HBY := hid hby
  have HOUT := hid hout
  obtain ⟨av, cv, rfl, _⟩ := hv
  obtain ⟨au, cu, rfl, _⟩ := hu
  obtain ⟨ab, cb, rfl, _⟩ := hb
  clear h0 h1 h2 h3 h4 h5 hm hf hc hby hout
  have HA0 := hid (show Below w.heap.size w (w.alloc (.cells #[i64 r0, i64 r1, i64 r2, i64 r3, i64 r4, i64 r5] 22)) from (Below.refl _ w).alloc (Nat.le_refl _) _)
  go_enter Try.func5, Try.ntmps5
  go_wp2_with fail
  refine (HFI.out _ ?_).mono ?_
  · obtain ⟨a', c', e', r'⟩ := HV.out.below HA0.out
    exact ⟨a', c', e', fun j m hj => by obtain ⟨x, b, off, y1, y2, y3⟩ := r' j m hj; exact ⟨x, b, off, y1, by simp; omega, y3⟩⟩
  rintro e w1 ⟨pd, rfl, hb1, hR1⟩
  have hz1 : w.heap.size + 1 ≤ w1.heap.size := by have := hb1.size; simp at this; exact this
  have HB1 := hid (show Below w.heap.size w w1 from HA0.out.trans (hb1.mono (by simp)))
  have HPK := hid (playK_in HOK.out (ms.take 10000))
  obtain ⟨n0, hn0⟩ : ∃ n, n = (playK c (ms.take 10000)).1 := ⟨_, rfl⟩
  obtain ⟨D, hD⟩ : ∃ D, D = (playK c (ms.take 10000)).2 := ⟨_, rfl⟩
  rw [← hD] at hR1
  rw [← hD, ← hn0] at HPK
  rw [← hn0]
  have HR1 := hid (show R w1 (fun k => w.heap.size ≤ k ∧ k < w1.heap.size) pd D from H.weak (H.lim hR1) (fun k hk => ⟨by have := hk.1; simp at this; omega, hk.2⟩))
  have HN0 := hid (show 0 ≤ n0 ∧ n0 ≤ 400000 from ⟨HPK.out.1, by
    have h1 := HPK.out.2.1
    have h2 := List.length_take_le 10000 ms
    omega⟩)
  have HAL := hid (H2.al HR1.out)
  have HDC := hid HPK.out.2.2.2
  clear hb1 hR1 HFI hn0 hD HPK
  show _
  have HA1 := hid (show Below w1.heap.size w1 (w1.alloc (.cells #[i64 c.s0, i64 c.k0, i64 c.s1, i64 c.k1, i64 c.s2, i64 c.k2, i64 c.s3, i64 c.k3, i64 c.m, i64 c.f] 29)) from (Below.refl _ w1).alloc (Nat.le_refl _) _)
  have HCB := hid (blk_new w1 (.cells #[i64 c.s0, i64 c.k0, i64 c.s1, i64 c.k1, i64 c.s2, i64 c.k2, i64 c.s3, i64 c.k3, i64 c.m, i64 c.f] 29))
  go_wp2_with fail
  refine (H2.save pd D _ _ (H.fr HR1.out (Fr.below (In := fun _ => False) HA1.out) (fun _ _ x => x))).mono ?_
  rintro e w2 ⟨vx, rfl, hS2⟩
  have HS2 := hid hS2
  obtain ⟨gx, cx, hvx⟩ : ∃ gx cx, vx = .slice (some ⟨gx, 0, none⟩) (saveL D).length cx := by
    obtain ⟨_, ⟨h, h0⟩ | ⟨g, cap, cur, h, _⟩⟩ := hS2.own
    · exact absurd (List.length_eq_zero_iff.1 h0) (saveL_ne D)
    · exact ⟨g, cap, h⟩
  subst hvx
  have hz2 : w1.heap.size < w2.heap.size := by have := hS2.old.size; simp at this; omega
  have HB2 := hid (show Below w1.heap.size w1 w2 from HA1.out.trans (hS2.old.mono (by simp)))
  have HCB2 := hid (blk_later hS2.old (by simp) HCB.out)
  have HSX := hid (saveL_len HAL.out.1 HAL.out.2)
  obtain ⟨lx, hlx⟩ : ∃ n, n = (saveL D).length := ⟨_, rfl⟩
  rw [← hlx] at HS2 HSX ⊢
  have HLX := hid hlx
  clear hS2 hlx HA1 HCB
  go_wp2_with fail
  refine (H2.load _ (saveL D) w2 (RowB.of HS2.out.own) (saveL_byte HAL.out.1) ?_).mono ?_
  · intro a n c e hn hx
    cases e
    have := (HS2.out.own.lt gx rfl).2
    simp only at hx
    omega
  rintro e w3 ⟨hb3, _, hL3⟩
  obtain ⟨po, rfl, hR3⟩ := hL3 _ (load_save HAL.out.1 HAL.out.2)
  have HB3 := hid hb3
  have hz3 := hb3.size
  have HR3 := hid (show R w3 (fun k => w2.heap.size ≤ k ∧ k < w3.heap.size) po D.norm from H.lim hR3)
  have HCB3 := hid (blk_later hb3 (by omega) HCB2.out)
  have HBW := hid (show Below w.heap.size w w3 from HB1.out.trans ((HB2.out.trans (hb3.mono (by omega))).mono (by omega)))
  clear hb3 hL3 hR3 HCB2
  have HI0 := hid (show RI R w w3 pd po (fun k => w.heap.size ≤ k ∧ k < w1.heap.size) (fun k => w2.heap.size ≤ k ∧ k < w3.heap.size) D D.norm from
    { p := H.fr (H.fr HR1.out (Fr.below (In := fun _ => False) HB2.out) (fun _ _ x => x)) (Fr.below (In := fun _ => False) HB3.out) (fun _ _ x => x)
      q := HR3.out
      dis := fun k hk hj => by have := hk.2; have := hj.1; omega
      inn := fun k hk => by rcases hk with ⟨a, b⟩ | ⟨a, b⟩ <;> omega
      bl := HBW.out })
  have d0 : w3.cell? ⟨w1.heap.size, 0, none⟩ = some (i64 c.s0) := cell_of_blk HCB3.out 0
  have d1 : w3.cell? ⟨w1.heap.size, 1, none⟩ = some (i64 c.k0) := cell_of_blk HCB3.out 1
  have d2 : w3.cell? ⟨w1.heap.size, 2, none⟩ = some (i64 c.s1) := cell_of_blk HCB3.out 2
  have d3 : w3.cell? ⟨w1.heap.size, 3, none⟩ = some (i64 c.k1) := cell_of_blk HCB3.out 3
  have d4 : w3.cell? ⟨w1.heap.size, 4, none⟩ = some (i64 c.s2) := cell_of_blk HCB3.out 4
  have d5 : w3.cell? ⟨w1.heap.size, 5, none⟩ = some (i64 c.k2) := cell_of_blk HCB3.out 5
  have d6 : w3.cell? ⟨w1.heap.size, 6, none⟩ = some (i64 c.s3) := cell_of_blk HCB3.out 6
  have d7 : w3.cell? ⟨w1.heap.size, 7, none⟩ = some (i64 c.k3) := cell_of_blk HCB3.out 7
  have d8 : w3.cell? ⟨w1.heap.size, 8, none⟩ = some (i64 c.m) := cell_of_blk HCB3.out 8
  have d9 : w3.cell? ⟨w1.heap.size, 9, none⟩ = some (i64 c.f) := cell_of_blk HCB3.out 9
  have hz13 : w1.heap.size < w3.heap.size := by omega
  have HCC := hid (fun (w : World) (h : R w (fun k => w2.heap.size ≤ k ∧ k < w3.heap.size) po D.norm) => show Calls Try.prog 19 #[.pointer (some ⟨po, 0, none⟩)] w fun e w' => e = .returned (.agg #[i64 c.s0, i64 c.k0, i64 c.s1, i64 c.k1, i64 c.s2, i64 c.k2, i64 c.s3, i64 c.k3, i64 c.m, i64 c.f]) ∧ Below w.heap.size w w' from by
    have h1 := H.config po D.norm _ w h (norm_kept HAL.out.1 HAL.out.2).1
    rw [show D.norm.c = c from HDC.out] at h1
    exact h1)
  have ea := eq_arrK c
  go_wp2_with fail
  refine wp_region_held_drew (S := (fun w' => w'.cell? ⟨w1.heap.size, 0, none⟩ = some (i64 c.s0) ∧ w'.cell? ⟨w1.heap.size, 1, none⟩ = some (i64 c.k0) ∧ w'.cell? ⟨w1.heap.size, 2, none⟩ = some (i64 c.s1) ∧ w'.cell? ⟨w1.heap.size, 3, none⟩ = some (i64 c.k1) ∧ w'.cell? ⟨w1.heap.size, 4, none⟩ = some (i64 c.s2) ∧ w'.cell? ⟨w1.heap.size, 5, none⟩ = some (i64 c.k2) ∧ w'.cell? ⟨w1.heap.size, 6, none⟩ = some (i64 c.s3) ∧ w'.cell? ⟨w1.heap.size, 7, none⟩ = some (i64 c.k3) ∧ w'.cell? ⟨w1.heap.size, 8, none⟩ = some (i64 c.m) ∧ w'.cell? ⟨w1.heap.size, 9, none⟩ = some (i64 c.f))) (by kernel_rfl) ?_ (fun hHeld => ?_)
  · go_keep
  refine wpAnyH_take (i := 0) (oi := { dst := some 49, op := Op.move (Operand.tmp 18), type := 41, pos := _, after := #[], guard := none }) (v := ?va0) rfl (by kernel_rfl) (by kernel_rfl) (by kernel_rfl) (fun _ _ _ h => h) (Or.inl ⟨by rfl, ?ha0⟩) (by assumption) ?_
  case ha0 => (intro w hSw; (try dsimp only at hSw); go_simp; try with_reducible rfl)
  try simp only [Act.put, List.setIfInBounds_toArray, List.set_cons_zero, List.set_cons_succ]
  refine wpAnyH_take (i := 1) (oi := { dst := some 50, op := Op.binOp BinOp.neq 41 (Operand.tmp 49) (Operand.const (Value.int IntKind.i64 0)) 41, type := 4, pos := _, after := #[{ on := 0, ground := Ground.data }], guard := none }) (v := ?va1) rfl (by kernel_rfl) (by kernel_rfl) (by kernel_rfl) (fun _ _ _ h => h) (Or.inl ⟨by rfl, ?ha1⟩) (by assumption) ?_
  case ha1 => (intro w hSw; (try dsimp only at hSw); go_simp; try with_reducible rfl)
  try simp only [Act.put, List.setIfInBounds_toArray, List.set_cons_zero, List.set_cons_succ]
  refine wpAnyH_take (i := 2) (oi := { dst := some 51, op := Op.move (Operand.tmp 50), type := 4, pos := _, after := #[{ on := 1, ground := Ground.data }], guard := none }) (v := ?va2) rfl (by kernel_rfl) (by kernel_rfl) (by kernel_rfl) (fun _ _ _ h => h) (Or.inl ⟨by rfl, ?ha2⟩) (by assumption) ?_
  case ha2 => (intro w hSw; (try dsimp only at hSw); go_simp; try with_reducible rfl)
  try simp only [Act.put, List.setIfInBounds_toArray, List.set_cons_zero, List.set_cons_succ]
  refine wpAnyH_take (i := 3) (oi := { dst := some 52, op := Op.move (Operand.tmp 17), type := 24, pos := _, after := #[{ on := 2, ground := Ground.guard }], guard := some (2, false) }) (v := ?va3) rfl (by kernel_rfl) (by kernel_rfl) (by kernel_rfl) (fun _ _ _ h => h) (Or.inl ⟨by rfl, ?ha3⟩) (by assumption) ?_
  case ha3 => (intro w hSw; (try dsimp only at hSw); go_simp; try with_reducible rfl)
  try simp only [Act.put, List.setIfInBounds_toArray, List.set_cons_zero, List.set_cons_succ]
  refine wpAnyH_take (i := 4) (oi := { dst := some 53, op := Op.binOp BinOp.eql 24 (Operand.tmp 52) (Operand.const (Value.pointer none)) 24, type := 4, pos := _, after := #[{ on := 3, ground := Ground.data }, { on := 2, ground := Ground.guard }], guard := some (2, false) }) (v := ?va4) rfl (by kernel_rfl) (by kernel_rfl) (by kernel_rfl) (fun _ _ _ h => h) (Or.inl ⟨by rfl, ?ha4⟩) (by assumption) ?_
  case ha4 => (intro w hSw; (try dsimp only at hSw); go_simp; try with_reducible rfl)
  try simp only [Act.put, List.setIfInBounds_toArray, List.set_cons_zero, List.set_cons_succ]
  refine wpAnyH_take (i := 5) (oi := { dst := some 54, op := Op.pick (Operand.tmp 51) (Operand.const (Value.bool true)) (Operand.tmp 53), type := 4, pos := _, after := #[{ on := 2, ground := Ground.data }, { on := 4, ground := Ground.data }], guard := none }) (v := ?va5) rfl (by kernel_rfl) (by kernel_rfl) (by kernel_rfl) (fun _ _ _ h => h) (Or.inl ⟨by rfl, ?ha5⟩) (by assumption) ?_
  case ha5 => (intro w hSw; (try dsimp only at hSw); go_simp; try with_reducible rfl)
  try simp only [Act.put, List.setIfInBounds_toArray, List.set_cons_zero, List.set_cons_succ]
  refine wpAnyH_take (i := 6) (oi := { dst := some 55, op := Op.move (Operand.tmp 54), type := 4, pos := _, after := #[{ on := 5, ground := Ground.data }, { on := 2, ground := Ground.chain }], guard := none }) (v := ?va6) rfl (by kernel_rfl) (by kernel_rfl) (by kernel_rfl) (fun _ _ _ h => h) (Or.inl ⟨by rfl, ?ha6⟩) (by assumption) ?_
  case ha6 => (intro w hSw; (try dsimp only at hSw); go_simp; try with_reducible rfl)
  try simp only [Act.put, List.setIfInBounds_toArray, List.set_cons_zero, List.set_cons_succ]
  refine wpAnyH_take (i := 7) (oi := { dst := some 56, op := Op.move (Operand.tmp 17), type := 24, pos := _, after := #[{ on := 6, ground := Ground.guard }], guard := some (6, false) }) (v := ?va7) rfl (by kernel_rfl) (by kernel_rfl) (by kernel_rfl) (fun _ _ _ h => h) (Or.inl ⟨by rfl, ?ha7⟩) (by assumption) ?_
  case ha7 => (intro w hSw; (try dsimp only at hSw); go_simp; try with_reducible rfl)
  try simp only [Act.put, List.setIfInBounds_toArray, List.set_cons_zero, List.set_cons_succ]
  refine wpAnyH_take (i := 9) (oi := { dst := some 58, op := Op.load 29 (Operand.tmp 14), type := 29, pos := _, after := #[{ on := 6, ground := Ground.guard }], guard := some (6, false) }) (v := ?va9) rfl (by kernel_rfl) (by kernel_rfl) (by kernel_rfl) (fun _ _ _ h => h) (Or.inl ⟨by rfl, ?ha9⟩) (by assumption) ?_
  case ha9 => (intro w hSw; (try dsimp only at hSw); go_simp; try with_reducible rfl)
  try simp only [Act.put, List.setIfInBounds_toArray, List.set_cons_zero, List.set_cons_succ]
  refine wpAnyH_ready (rs := [8]) (by kernel_rfl) (by simp) ?_
  refine AllReadyH.cons rfl (fun K hK => ?_) AllReadyH.nil
  go_simp
  refine (HCC.out _ (H.fr HR3.out (Fr.below (In := fun _ => False) ((Below.refl _ w3).drew)) (fun _ _ x => x))).mono ?_
  rintro e w4 ⟨rfl, hb4⟩
  have hb4' : Below w3.heap.size w3 w4 := (Below.refl _ w3).drew.trans hb4
  go_wp2_with fail
  refine hK.out _ _ ?_ (fun hHeld => ?_)
  · exact ⟨cell_later hb4' d0, cell_later hb4' d1, cell_later hb4' d2, cell_later hb4' d3, cell_later hb4' d4, cell_later hb4' d5, cell_later hb4' d6, cell_later hb4' d7, cell_later hb4' d8, cell_later hb4' d9⟩
  clear hK K d0 d1 d2 d3 d4 d5 d6 d7 d8 d9
  refine wpAnyH_take (i := 10) (oi := { dst := some 59, op := Op.binOp BinOp.neq 29 (Operand.tmp 57) (Operand.tmp 58) 29, type := 4, pos := _, after := #[{ on := 8, ground := Ground.data }, { on := 9, ground := Ground.data }, { on := 6, ground := Ground.guard }], guard := some (6, false) }) (v := ?va10) rfl (by kernel_rfl) (by kernel_rfl) (by kernel_rfl) (fun _ _ _ h => h) (Or.inl ⟨by rfl, ?ha10⟩) (by assumption) ?_
  case ha10 => (intro w hSw; (try dsimp only at hSw); go_simp; try with_reducible rfl)
  try simp only [Act.put, List.setIfInBounds_toArray, List.set_cons_zero, List.set_cons_succ]
  refine wpAnyH_take (i := 11) (oi := { dst := some 60, op := Op.pick (Operand.tmp 55) (Operand.const (Value.bool true)) (Operand.tmp 59), type := 4, pos := _, after := #[{ on := 6, ground := Ground.data }, { on := 10, ground := Ground.data }], guard := none }) (v := ?va11) rfl (by kernel_rfl) (by kernel_rfl) (by kernel_rfl) (fun _ _ _ h => h) (Or.inl ⟨by rfl, ?ha11⟩) (by assumption) ?_
  case ha11 => (intro w hSw; (try dsimp only at hSw); go_simp; try with_reducible rfl)
  try simp only [Act.put, List.setIfInBounds_toArray, List.set_cons_zero, List.set_cons_succ]
  refine wpAnyH_done (by kernel_rfl) ?_ _
  have HI4 := hid (HI0.out.below H hb4')
  obtain ⟨d0, d1, d2, d3, d4, d5, d6, d7, d8, d9⟩ := hHeld
  have hz4 := hb4'.size
  have hz14 : w1.heap.size < w4.heap.size := by omega
  clear ea hb4 hb4' HI0 HCC HR3 HCB3
  go_wp2_with fail
  refine (kreach_any c _ HRB.out).mono ?_
  rintro e w5 ⟨rfl, hb5⟩
  have HI5 := hid (HI4.out.below H hb5)
  have HFI := hid (farTo_in HRB.out 4 (by omega))
  obtain ⟨far, hfar⟩ : ∃ f, f = farK c := ⟨_, rfl⟩
  have HFAR := hid hfar
  have ff0 : 0 ≤ far := by rw [hfar]; exact HFI.out.1
  have ff1 : far ≤ 10000000 := by rw [hfar]; exact HFI.out.2
  obtain ⟨near, hnear⟩ : ∃ n, n = c.s0 * c.k0 := ⟨_, rfl⟩
  rw [← hfar, ← hnear]
  clear hb5 hfar hnear d0 d1 d2 d3 d4 d5 d6 d7 d8 d9 HI4 HRB
  go_wp2
  go_loopw [15, 21] (fun now' i' wr => ∃ (k : Nat) (In Jn : Nat → Prop), k ≤ ns.length ∧ k ≤ 10000 ∧ i' = i64 k ∧ now' = i64 (playF c (n0, D) (ns.take k)).1 ∧ RI R w wr pd po In Jn (playF c (n0, D) (ns.take k)).2 (playF c (n0, D.norm) (ns.take k)).2) (fun _ i' _ => ns.length - (intOf i').toNat)
  case atStart => exact ⟨0, _, _, by omega, by omega, rfl, rfl, HI5.out⟩
  clear HI5
  case round =>
    obtain ⟨k, In, Jn, hk, hk4, rfl, rfl, hI⟩ := hrel
    have HI := hid hI
    have HPK := hid (playF_in (c := c) (ns.take k) (n0, D) 400000 HN0.out.1 HN0.out.2 HAL.out.1 HDC.out)
    have HEQ := hid (playF_eqv (c := c) (ns.take k) (n0, D) (n0, D.norm) rfl HAL.out.1 (norm_eqv HAL.out.1 HAL.out.2))
    obtain ⟨pn, hpn⟩ : ∃ pn, pn = (playF c (n0, D) (ns.take k)).1 := ⟨_, rfl⟩
    have pn0 : 0 ≤ pn := by rw [hpn]; exact HPK.out.1
    have pn1 : pn ≤ 800000 := by
      rw [hpn]
      have h1 := HPK.out.2.1
      have h2 := List.length_take_le k ns
      omega
    have HPN := hid hpn
    rw [← hpn]
    clear hpn hI
    by_cases hlt : k < ns.length ∧ k < 10000
    case neg =>
      have HAK := hid (H2.al HI.out.p)
      have HDE := hid (diff_eqv HAK.out.1 HEQ.out.2)
      have HSE := hid (saveL_eqv HAK.out.1 HEQ.out.2)
      have HLE := hid (saveL_len HAK.out.1 HAK.out.2)
      rw [HPK.out.2.2.2] at HLE
      rw [HDC.out] at HSX
      obtain ⟨dk, hdk⟩ : ∃ d, d = (playF c (n0, D) (ns.take k)).2 := ⟨_, rfl⟩
      obtain ⟨ek, hek⟩ : ∃ d, d = (playF c (n0, D.norm) (ns.take k)).2 := ⟨_, rfl⟩
      rw [← hdk] at HAK HLE
      rw [← hdk, ← hek] at HDE HSE HI
      have HLL := hid (show lx = (saveL dk).length by rw [HSX.out, HLE.out])
      have HROWB := hid (HBV.out.later HI.out.bl)
      have hzr := HI.out.bl.size
      clear hdk hek HEQ HPK HPN
      generalize hM : (10000 : Int) = M
      by_cases kl : k < ns.length
      case pos =>
        have kM : ¬ (k : Int) < M := by omega
        clear hM hlt hk4
        go_wp2_with fail
        refine (H2.diff pd po dk ek In Jn _ HI.out.p HI.out.q).mono ?_
        rintro e wA ⟨vl, rfl, hDf, _⟩
        rw [HDE.out.1]
        obtain ⟨al, cl, hvl⟩ := hDf.form
        rw [HDE.out.2] at hvl
        subst hvl
        have HIA := hid (HI.out.below H hDf.old)
        clear hDf
        go_wp2_with fail
        refine (H2.save pd dk In _ HIA.out.p).mono ?_
        rintro e wB ⟨vy, rfl, hSy⟩
        have HIB := hid (HIA.out.below H hSy.old)
        have HSY := hid hSy
        clear hSy HIA
        go_wp2_with fail
        refine (H2.save po ek Jn _ HIB.out.q).mono ?_
        rintro e wC ⟨vz, rfl, hSz⟩
        have HIC := hid (HIB.out.below H hSz.old)
        have hcy := conv_row ((RowB.of HSY.out.own).later hSz.old) (saveL_ne dk)
        have hcz := conv_row (RowB.of hSz.own) (saveL_ne ek)
        rw [HSE.out] at hcz
        obtain ⟨ay, cy, rfl, _⟩ := RowB.of HSY.out.own
        obtain ⟨az, cz, rfl, _⟩ := RowB.of hSz.own
        rw [HSE.out] at hcz ⊢
        rw [← HLL.out] at hcy hcz ⊢
        have hbz := HIC.out.bl.size
        have HRC := hid (HBV.out.later HIC.out.bl)
        clear hSz HIB
        go_wp2_with fail
        refine (H2.load _ b wC HRC.out HBY.out ?_).mono ?_
        · intro a n c e hn hx
          exact HOUT.out a n c e hn (by have hx' : wC.heap.size ≤ a.block := hx; omega)
        rintro e wD ⟨hbD, hLn, hLs⟩
        clear hcy hcz
        cases hlb : loadL b with
        | none =>
          have he := hLn hlb
          subst he
          have HBD := hid (HIC.out.bl.trans (hbD.mono hbz))
          clear hbD hLn hLs hlb
          go_wp2
          go_ret
          exact ⟨rfl, HBD.out⟩
        | some dq =>
          obtain ⟨pq, he, hRq⟩ := hLs dq hlb
          subst he
          have HRQ := hid hRq
          have HBK := hid (load_back HBY.out hlb)
          have HRD := hid (HRC.out.later hbD)
          have HBD := hid (HIC.out.bl.trans (hbD.mono hbz))
          have HNE := hid (show b ≠ [] from fun e => by have := HBK.out.2.2.1; rw [e] at this; exact saveL_ne dq this)
          clear hbD hLn hLs hlb hRq
          go_wp2_with fail
          have hcb := conv_row HRD.out HNE.out
          refine wp_region_held_drew (S := (fun w' => (convert 55 9 (.slice ab b.length cb)).run Try.prog w' = .ok (.string (strOfNums b)) w')) (by kernel_rfl) ?_ (fun hHeld => ?_)
          · exact conv_row (HRD.out.later ((Below.refl _ wD).drew)) HNE.out
          refine wpAnyH_take (i := 0) (oi := { dst := some 152, op := Op.move (Operand.tmp 30), type := 24, pos := _, after := #[], guard := none }) (v := ?vax0) rfl (by kernel_rfl) (by kernel_rfl) (by kernel_rfl) (fun _ _ _ h => h) (Or.inl ⟨by rfl, ?hax0⟩) (by assumption) ?_
          case hax0 => (intro w hSw; (try dsimp only at hSw); go_simp; try with_reducible rfl)
          try simp only [Act.put, List.setIfInBounds_toArray, List.set_cons_zero, List.set_cons_succ]
          refine wpAnyH_take (i := 1) (oi := { dst := some 153, op := Op.binOp BinOp.neq 24 (Operand.tmp 152) (Operand.const (Value.pointer none)) 24, type := 4, pos := _, after := #[{ on := 0, ground := Ground.data }], guard := none }) (v := ?vax1) rfl (by kernel_rfl) (by kernel_rfl) (by kernel_rfl) (fun _ _ _ h => h) (Or.inl ⟨by rfl, ?hax1⟩) (by assumption) ?_
          case hax1 => (intro w hSw; (try dsimp only at hSw); go_simp; try with_reducible rfl)
          try simp only [Act.put, List.setIfInBounds_toArray, List.set_cons_zero, List.set_cons_succ]
          refine wpAnyH_take (i := 2) (oi := { dst := some 154, op := Op.move (Operand.tmp 153), type := 4, pos := _, after := #[{ on := 1, ground := Ground.data }], guard := none }) (v := ?vax2) rfl (by kernel_rfl) (by kernel_rfl) (by kernel_rfl) (fun _ _ _ h => h) (Or.inl ⟨by rfl, ?hax2⟩) (by assumption) ?_
          case hax2 => (intro w hSw; (try dsimp only at hSw); go_simp; try with_reducible rfl)
          try simp only [Act.put, List.setIfInBounds_toArray, List.set_cons_zero, List.set_cons_succ]
          refine wpAnyH_take (i := 3) (oi := { dst := some 155, op := Op.move (Operand.tmp 30), type := 24, pos := _, after := #[{ on := 2, ground := Ground.guard }], guard := some (2, true) }) (v := ?vax3) rfl (by kernel_rfl) (by kernel_rfl) (by kernel_rfl) (fun _ _ _ h => h) (Or.inl ⟨by rfl, ?hax3⟩) (by assumption) ?_
          case hax3 => (intro w hSw; (try dsimp only at hSw); go_simp; try with_reducible rfl)
          try simp only [Act.put, List.setIfInBounds_toArray, List.set_cons_zero, List.set_cons_succ]
          refine wpAnyH_take (i := 6) (oi := { dst := some 158, op := Op.move (Operand.tmp 5), type := 55, pos := _, after := #[{ on := 2, ground := Ground.guard }], guard := some (2, true) }) (v := ?vax6) rfl (by kernel_rfl) (by kernel_rfl) (by kernel_rfl) (fun _ _ _ h => h) (Or.inl ⟨by rfl, ?hax6⟩) (by assumption) ?_
          case hax6 => (intro w hSw; (try dsimp only at hSw); go_simp; try with_reducible rfl)
          try simp only [Act.put, List.setIfInBounds_toArray, List.set_cons_zero, List.set_cons_succ]
          refine wpAnyH_take (i := 7) (oi := { dst := some 159, op := Op.convert 55 9 (Operand.tmp 158), type := 9, pos := _, after := #[{ on := 6, ground := Ground.data }, { on := 2, ground := Ground.guard }], guard := some (2, true) }) (v := ?vax7) rfl (by kernel_rfl) (by kernel_rfl) (by kernel_rfl) (fun _ _ _ h => h) (Or.inl ⟨by rfl, ?hax7⟩) (by assumption) ?_
          case hax7 => (intro w hSw; (try dsimp only at hSw); go_simp; try with_reducible rfl)
          try simp only [Act.put, List.setIfInBounds_toArray, List.set_cons_zero, List.set_cons_succ]
          refine wpAnyH_ready (rs := [4]) (by kernel_rfl) (by simp) ?_
          refine AllReadyH.cons rfl (fun K hK => ?_) AllReadyH.nil
          go_simp
          refine (H2.save pq dq _ _ (H.fr HRQ.out (Fr.below (In := fun _ => False) ((Below.refl _ wD).drew)) (fun _ _ x => x))).mono ?_
          rintro e wE ⟨vE, rfl, hSE⟩
          have hbE : Below wD.heap.size wD wE := (Below.refl _ wD).drew.trans hSE.old
          have hcE := conv_row (RowB.of hSE.own) (saveL_ne dq)
          rw [HBK.out.2.2.1] at hcE
          go_wp2_with fail
          refine hK.out _ _ ?_ (fun hHeld => ?_)
          · exact conv_row (HRD.out.later hbE) HNE.out
          clear hK K
          have HBE := hid (HBD.out.trans (hbE.mono HBD.out.size))
          clear hSE hbE
          refine wpAnyH_ready (rs := [5]) (by kernel_rfl) (by simp) ?_
          refine AllReadyH.cons rfl (fun K hK => ?_) AllReadyH.nil
          go_simp
          refine hK.out _ _ ?_ (fun hHeld => ?_)
          · exact hHeld
          clear hK K
          refine wpAnyH_take (i := 8) (oi := { dst := some 160, op := Op.binOp BinOp.eql 9 (Operand.tmp 157) (Operand.tmp 159) 9, type := 4, pos := _, after := #[{ on := 5, ground := Ground.data }, { on := 7, ground := Ground.data }, { on := 2, ground := Ground.guard }], guard := some (2, true) }) (v := ?vax8) rfl (by kernel_rfl) (by kernel_rfl) (by kernel_rfl) (fun _ _ _ h => h) (Or.inl ⟨by rfl, ?hax8⟩) (by assumption) ?_
          case hax8 => (intro w hSw; (try dsimp only at hSw); go_simp; try with_reducible rfl)
          try simp only [Act.put, List.setIfInBounds_toArray, List.set_cons_zero, List.set_cons_succ]
          refine wpAnyH_take (i := 9) (oi := { dst := some 161, op := Op.pick (Operand.tmp 154) (Operand.tmp 160) (Operand.const (Value.bool false)), type := 4, pos := _, after := #[{ on := 2, ground := Ground.data }, { on := 8, ground := Ground.data }], guard := none }) (v := ?vax9) rfl (by kernel_rfl) (by kernel_rfl) (by kernel_rfl) (fun _ _ _ h => h) (Or.inl ⟨by rfl, ?hax9⟩) (by assumption) ?_
          case hax9 => (intro w hSw; (try dsimp only at hSw); go_simp; try with_reducible rfl)
          try simp only [Act.put, List.setIfInBounds_toArray, List.set_cons_zero, List.set_cons_succ]
          refine wpAnyH_take (i := 10) (oi := { dst := some 12, op := Op.assign (Operand.tmp 161), type := 4, pos := _, after := #[{ on := 9, ground := Ground.data }, { on := 4, ground := Ground.chain }, { on := 0, ground := Ground.phase }, { on := 1, ground := Ground.phase }, { on := 2, ground := Ground.phase }, { on := 3, ground := Ground.phase }, { on := 4, ground := Ground.phase }, { on := 5, ground := Ground.phase }, { on := 6, ground := Ground.phase }, { on := 7, ground := Ground.phase }, { on := 8, ground := Ground.phase }, { on := 9, ground := Ground.phase }], guard := none }) (v := ?vax10) rfl (by kernel_rfl) (by kernel_rfl) (by kernel_rfl) (fun _ _ _ h => h) (Or.inl ⟨by rfl, ?hax10⟩) (by assumption) ?_
          case hax10 => (intro w hSw; (try dsimp only at hSw); go_simp; try with_reducible rfl)
          try simp only [Act.put, List.setIfInBounds_toArray, List.set_cons_zero, List.set_cons_succ]
          refine wpAnyH_done (by kernel_rfl) ?_ _
          go_wp2
          go_ret
          exact ⟨by simp, HBE.out⟩
      case neg =>
        have kM : ¬ (k : Int) < (ns.length : Int) := by omega
        clear hM hlt hk4
        go_wp2_with fail
        refine (H2.diff pd po dk ek In Jn _ HI.out.p HI.out.q).mono ?_
        rintro e wA ⟨vl, rfl, hDf, _⟩
        rw [HDE.out.1]
        obtain ⟨al, cl, hvl⟩ := hDf.form
        rw [HDE.out.2] at hvl
        subst hvl
        have HIA := hid (HI.out.below H hDf.old)
        clear hDf
        go_wp2_with fail
        refine (H2.save pd dk In _ HIA.out.p).mono ?_
        rintro e wB ⟨vy, rfl, hSy⟩
        have HIB := hid (HIA.out.below H hSy.old)
        have HSY := hid hSy
        clear hSy HIA
        go_wp2_with fail
        refine (H2.save po ek Jn _ HIB.out.q).mono ?_
        rintro e wC ⟨vz, rfl, hSz⟩
        have HIC := hid (HIB.out.below H hSz.old)
        have hcy := conv_row ((RowB.of HSY.out.own).later hSz.old) (saveL_ne dk)
        have hcz := conv_row (RowB.of hSz.own) (saveL_ne ek)
        rw [HSE.out] at hcz
        obtain ⟨ay, cy, rfl, _⟩ := RowB.of HSY.out.own
        obtain ⟨az, cz, rfl, _⟩ := RowB.of hSz.own
        rw [HSE.out] at hcz ⊢
        rw [← HLL.out] at hcy hcz ⊢
        have hbz := HIC.out.bl.size
        have HRC := hid (HBV.out.later HIC.out.bl)
        clear hSz HIB
        go_wp2_with fail
        refine (H2.load _ b wC HRC.out HBY.out ?_).mono ?_
        · intro a n c e hn hx
          exact HOUT.out a n c e hn (by have hx' : wC.heap.size ≤ a.block := hx; omega)
        rintro e wD ⟨hbD, hLn, hLs⟩
        clear hcy hcz
        cases hlb : loadL b with
        | none =>
          have he := hLn hlb
          subst he
          have HBD := hid (HIC.out.bl.trans (hbD.mono hbz))
          clear hbD hLn hLs hlb
          go_wp2
          go_ret
          exact ⟨rfl, HBD.out⟩
        | some dq =>
          obtain ⟨pq, he, hRq⟩ := hLs dq hlb
          subst he
          have HRQ := hid hRq
          have HBK := hid (load_back HBY.out hlb)
          have HRD := hid (HRC.out.later hbD)
          have HBD := hid (HIC.out.bl.trans (hbD.mono hbz))
          have HNE := hid (show b ≠ [] from fun e => by have := HBK.out.2.2.1; rw [e] at this; exact saveL_ne dq this)
          clear hbD hLn hLs hlb hRq
          go_wp2_with fail
          have hcb := conv_row HRD.out HNE.out
          refine wp_region_held_drew (S := (fun w' => (convert 55 9 (.slice ab b.length cb)).run Try.prog w' = .ok (.string (strOfNums b)) w')) (by kernel_rfl) ?_ (fun hHeld => ?_)
          · exact conv_row (HRD.out.later ((Below.refl _ wD).drew)) HNE.out
          refine wpAnyH_take (i := 0) (oi := { dst := some 152, op := Op.move (Operand.tmp 30), type := 24, pos := _, after := #[], guard := none }) (v := ?vbx0) rfl (by kernel_rfl) (by kernel_rfl) (by kernel_rfl) (fun _ _ _ h => h) (Or.inl ⟨by rfl, ?hbx0⟩) (by assumption) ?_
          case hbx0 => (intro w hSw; (try dsimp only at hSw); go_simp; try with_reducible rfl)
          try simp only [Act.put, List.setIfInBounds_toArray, List.set_cons_zero, List.set_cons_succ]
          refine wpAnyH_take (i := 1) (oi := { dst := some 153, op := Op.binOp BinOp.neq 24 (Operand.tmp 152) (Operand.const (Value.pointer none)) 24, type := 4, pos := _, after := #[{ on := 0, ground := Ground.data }], guard := none }) (v := ?vbx1) rfl (by kernel_rfl) (by kernel_rfl) (by kernel_rfl) (fun _ _ _ h => h) (Or.inl ⟨by rfl, ?hbx1⟩) (by assumption) ?_
          case hbx1 => (intro w hSw; (try dsimp only at hSw); go_simp; try with_reducible rfl)
          try simp only [Act.put, List.setIfInBounds_toArray, List.set_cons_zero, List.set_cons_succ]
          refine wpAnyH_take (i := 2) (oi := { dst := some 154, op := Op.move (Operand.tmp 153), type := 4, pos := _, after := #[{ on := 1, ground := Ground.data }], guard := none }) (v := ?vbx2) rfl (by kernel_rfl) (by kernel_rfl) (by kernel_rfl) (fun _ _ _ h => h) (Or.inl ⟨by rfl, ?hbx2⟩) (by assumption) ?_
          case hbx2 => (intro w hSw; (try dsimp only at hSw); go_simp; try with_reducible rfl)
          try simp only [Act.put, List.setIfInBounds_toArray, List.set_cons_zero, List.set_cons_succ]
          refine wpAnyH_take (i := 3) (oi := { dst := some 155, op := Op.move (Operand.tmp 30), type := 24, pos := _, after := #[{ on := 2, ground := Ground.guard }], guard := some (2, true) }) (v := ?vbx3) rfl (by kernel_rfl) (by kernel_rfl) (by kernel_rfl) (fun _ _ _ h => h) (Or.inl ⟨by rfl, ?hbx3⟩) (by assumption) ?_
          case hbx3 => (intro w hSw; (try dsimp only at hSw); go_simp; try with_reducible rfl)
          try simp only [Act.put, List.setIfInBounds_toArray, List.set_cons_zero, List.set_cons_succ]
          refine wpAnyH_take (i := 6) (oi := { dst := some 158, op := Op.move (Operand.tmp 5), type := 55, pos := _, after := #[{ on := 2, ground := Ground.guard }], guard := some (2, true) }) (v := ?vbx6) rfl (by kernel_rfl) (by kernel_rfl) (by kernel_rfl) (fun _ _ _ h => h) (Or.inl ⟨by rfl, ?hbx6⟩) (by assumption) ?_
          case hbx6 => (intro w hSw; (try dsimp only at hSw); go_simp; try with_reducible rfl)
          try simp only [Act.put, List.setIfInBounds_toArray, List.set_cons_zero, List.set_cons_succ]
          refine wpAnyH_take (i := 7) (oi := { dst := some 159, op := Op.convert 55 9 (Operand.tmp 158), type := 9, pos := _, after := #[{ on := 6, ground := Ground.data }, { on := 2, ground := Ground.guard }], guard := some (2, true) }) (v := ?vbx7) rfl (by kernel_rfl) (by kernel_rfl) (by kernel_rfl) (fun _ _ _ h => h) (Or.inl ⟨by rfl, ?hbx7⟩) (by assumption) ?_
          case hbx7 => (intro w hSw; (try dsimp only at hSw); go_simp; try with_reducible rfl)
          try simp only [Act.put, List.setIfInBounds_toArray, List.set_cons_zero, List.set_cons_succ]
          refine wpAnyH_ready (rs := [4]) (by kernel_rfl) (by simp) ?_
          refine AllReadyH.cons rfl (fun K hK => ?_) AllReadyH.nil
          go_simp
          refine (H2.save pq dq _ _ (H.fr HRQ.out (Fr.below (In := fun _ => False) ((Below.refl _ wD).drew)) (fun _ _ x => x))).mono ?_
          rintro e wE ⟨vE, rfl, hSE⟩
          have hbE : Below wD.heap.size wD wE := (Below.refl _ wD).drew.trans hSE.old
          have hcE := conv_row (RowB.of hSE.own) (saveL_ne dq)
          rw [HBK.out.2.2.1] at hcE
          go_wp2_with fail
          refine hK.out _ _ ?_ (fun hHeld => ?_)
          · exact conv_row (HRD.out.later hbE) HNE.out
          clear hK K
          have HBE := hid (HBD.out.trans (hbE.mono HBD.out.size))
          clear hSE hbE
          refine wpAnyH_ready (rs := [5]) (by kernel_rfl) (by simp) ?_
          refine AllReadyH.cons rfl (fun K hK => ?_) AllReadyH.nil
          go_simp
          refine hK.out _ _ ?_ (fun hHeld => ?_)
          · exact hHeld
          clear hK K
          refine wpAnyH_take (i := 8) (oi := { dst := some 160, op := Op.binOp BinOp.eql 9 (Operand.tmp 157) (Operand.tmp 159) 9, type := 4, pos := _, after := #[{ on := 5, ground := Ground.data }, { on := 7, ground := Ground.data }, { on := 2, ground := Ground.guard }], guard := some (2, true) }) (v := ?vbx8) rfl (by kernel_rfl) (by kernel_rfl) (by kernel_rfl) (fun _ _ _ h => h) (Or.inl ⟨by rfl, ?hbx8⟩) (by assumption) ?_
          case hbx8 => (intro w hSw; (try dsimp only at hSw); go_simp; try with_reducible rfl)
          try simp only [Act.put, List.setIfInBounds_toArray, List.set_cons_zero, List.set_cons_succ]
          refine wpAnyH_take (i := 9) (oi := { dst := some 161, op := Op.pick (Operand.tmp 154) (Operand.tmp 160) (Operand.const (Value.bool false)), type := 4, pos := _, after := #[{ on := 2, ground := Ground.data }, { on := 8, ground := Ground.data }], guard := none }) (v := ?vbx9) rfl (by kernel_rfl) (by kernel_rfl) (by kernel_rfl) (fun _ _ _ h => h) (Or.inl ⟨by rfl, ?hbx9⟩) (by assumption) ?_
          case hbx9 => (intro w hSw; (try dsimp only at hSw); go_simp; try with_reducible rfl)
          try simp only [Act.put, List.setIfInBounds_toArray, List.set_cons_zero, List.set_cons_succ]
          refine wpAnyH_take (i := 10) (oi := { dst := some 12, op := Op.assign (Operand.tmp 161), type := 4, pos := _, after := #[{ on := 9, ground := Ground.data }, { on := 4, ground := Ground.chain }, { on := 0, ground := Ground.phase }, { on := 1, ground := Ground.phase }, { on := 2, ground := Ground.phase }, { on := 3, ground := Ground.phase }, { on := 4, ground := Ground.phase }, { on := 5, ground := Ground.phase }, { on := 6, ground := Ground.phase }, { on := 7, ground := Ground.phase }, { on := 8, ground := Ground.phase }, { on := 9, ground := Ground.phase }], guard := none }) (v := ?vbx10) rfl (by kernel_rfl) (by kernel_rfl) (by kernel_rfl) (fun _ _ _ h => h) (Or.inl ⟨by rfl, ?hbx10⟩) (by assumption) ?_
          case hbx10 => (intro w hSw; (try dsimp only at hSw); go_simp; try with_reducible rfl)
          try simp only [Act.put, List.setIfInBounds_toArray, List.set_cons_zero, List.set_cons_succ]
          refine wpAnyH_done (by kernel_rfl) ?_ _
          go_wp2
          go_ret
          exact ⟨by simp, HBE.out⟩
    obtain ⟨hl1, hl4⟩ := hlt
    obtain ⟨m, hm⟩ : ∃ m, ns[k]? = some m := ⟨_, List.getElem?_eq_getElem hl1⟩
    obtain ⟨au', cu', hu', hrow⟩ := HU.out.below HI.out.bl
    simp only [Value.slice.injEq, true_and] at hu'
    obtain ⟨rfl, rfl⟩ := hu'
    obtain ⟨⟨mi1, mi2, mi3⟩, bb, off, rfl, hbN, m0, m1, m2⟩ := hrow k m hm
    have MI := hid (And.intro mi1 (And.intro mi2 mi3))
    have HPS := hid (playF_succ (c := c) (s := (n0, D)) hm)
    have HPS2 := hid (playF_succ (c := c) (s := (n0, D.norm)) hm)
    have hzr := HI.out.bl.size
    have hbz : bb < wr.heap.size := by omega
    have k0 : (0 : Int) ≤ (k : Int) := by omega
    have k1 : (k : Int) < (ns.length : Int) := by omega
    have pq := pickK_in m.1 (n := 40) (by omega)
    have HK4 := hid (And.intro hk4 hl4)
    generalize hM : (10000 : Int) = M
    have kM : (k : Int) < M := by omega
    clear hrow hm mi1 mi2 mi3 hM hk4 hl4
    go_wp2_with fail
    refine (later_any pn m.1 m.2.1 m.2.2 _ pn0 (by omega) MI.out.1).mono ?_
    rintro e wA ⟨rfl, hbA⟩
    obtain ⟨pn', hpn'⟩ : ∃ p, p = pn + pickK m.1 40 := ⟨_, rfl⟩
    have pp0 : 0 ≤ pn' := by omega
    have pp1 : pn' ≤ 1000000 := by omega
    rw [← hpn']
    have HPN' := hid hpn'
    have M0 : wA.cell? ⟨bb, off + k * 3, none⟩ = some (i64 m.1) := cell_later hbA m0
    have M1 : wA.cell? ⟨bb, off + k * 3 + 1, none⟩ = some (i64 m.2.1) := cell_later hbA m1
    have M2 : wA.cell? ⟨bb, off + k * 3 + 2, none⟩ = some (i64 m.2.2) := cell_later hbA m2
    have hzA := hbA.size
    have hbzA : bb < wA.heap.size := by omega
    have HBA := hid hbA
    clear hbA m0 m1 m2 hpn' pq
    go_wp2_with fail
    refine (point_any m.1 m.2.1 m.2.2 pn' far _ pp0 (by omega) ff0 ff1 MI.out.2.1 MI.out.2.2).mono ?_
    rintro e wB ⟨rfl, hbB⟩
    obtain ⟨pt, hpt⟩ : ∃ p, p = pointK m.2.1 m.2.2 pn' far := ⟨_, rfl⟩
    rw [← hpt]
    have HPT := hid hpt
    have hbB' : Below wr.heap.size wr wB := HBA.out.trans (hbB.mono hzA)
    have hzB := hbB'.size
    clear hbB hpt M0 M1 M2
    go_wp2_with fail
    generalize hwC : (wB.alloc (.cells #[i64 pt.1, i64 pt.2] 39)).alloc (.cells #[i64 pt.1, i64 pt.2] 39) = wC
    have hbBC : Below wB.heap.size wB wC := by rw [← hwC]; exact ((Below.refl _ wB).alloc (Nat.le_refl _) _).alloc (by simp) _
    have hp7 : wC.heap[wB.heap.size]? = some (.cells #[i64 pt.1, i64 pt.2] 39) := by rw [← hwC]; exact blk_alloc (blk_new wB _)
    have hq7 : wC.heap[wB.heap.size + 1]? = some (.cells #[i64 pt.1, i64 pt.2] 39) := by
      rw [← hwC]
      have := blk_new (wB.alloc (.cells #[i64 pt.1, i64 pt.2] 39)) (.cells #[i64 pt.1, i64 pt.2] 39)
      rwa [show (wB.alloc (.cells #[i64 pt.1, i64 pt.2] 39)).heap.size = wB.heap.size + 1 by simp] at this
    have HIC := hid (HI.out.below H (hbB'.trans (hbBC.mono hzB)))
    have HINB := hid (show ∀ k, In k ∨ Jn k → k < wr.heap.size from fun k hk => (HI.out.inn k hk).2)
    obtain ⟨dk, hdk⟩ : ∃ d, d = (playF c (n0, D) (ns.take k)).2 := ⟨_, rfl⟩
    obtain ⟨ek, hek⟩ : ∃ d, d = (playF c (n0, D.norm) (ns.take k)).2 := ⟨_, rfl⟩
    have HDK := hid (show (playF c (n0, D) (ns.take (k + 1))) = (pn', updR dk pn' [pt]) by
      rw [HPS.out]
      unfold stepK
      rw [← HPN.out, ← HPN'.out, ← HFAR.out, ← HPT.out, ← hdk])
    have HEK := hid (show (playF c (n0, D.norm) (ns.take (k + 1))).2 = updR ek pn' [pt] by
      rw [HPS2.out]
      unfold stepK
      rw [HEQ.out.1, ← HPN.out, ← HPN'.out, ← HFAR.out, ← HPT.out, ← hek])
    have HCE := hid (show ek.c = dk.c by rw [hdk, hek]; exact HEQ.out.2.c)
    rw [← hdk, ← hek] at HIC
    have hzC : wB.heap.size + 1 < wC.heap.size := blk_lt hq7
    clear hwC hdk hek HI HEQ HPK
    refine (H.update pd pn' (.slice (some ⟨wB.heap.size + 1, 0, none⟩) 1 1) [pt] dk In wC HIC.out.p (H2.al HIC.out.p).1 (row_one hq7) (out_one fun x => by have := HINB.out _ (.inl x); omega) (by simp)).mono ?_
    rintro e wD ⟨rfl, hRD, hFD⟩
    have HRD := hid hRD
    have HFD := hid hFD
    have g0 : wD.cell? ⟨wB.heap.size, 0, none⟩ = some (i64 pt.1) := (World.cell?_of_block (a := ⟨wB.heap.size, 0, none⟩) (hFD.block _ (by show wB.heap.size < _; omega) (fun x => by have h : wB.heap.size < wr.heap.size := HINB.out _ (.inl x); omega))).trans (cell_of_blk hp7 0)
    have g1 : wD.cell? ⟨wB.heap.size, 1, none⟩ = some (i64 pt.2) := (World.cell?_of_block (a := ⟨wB.heap.size, 1, none⟩) (hFD.block _ (by show wB.heap.size < _; omega) (fun x => by have h : wB.heap.size < wr.heap.size := HINB.out _ (.inl x); omega))).trans (cell_of_blk hp7 1)
    have hzD := hFD.size
    have hzBD : wB.heap.size < wD.heap.size := by omega
    clear hRD hFD hp7 hq7 hbB' hbBC
    go_wp2_with fail
    have hbDE := (Below.refl wD.heap.size wD).alloc (Nat.le_refl _) (.cells #[i64 pt.1, i64 pt.2] 39)
    have hRE := HIC.out.mid H HFD.out hbDE
    refine (H.update po pn' (.slice (some ⟨wD.heap.size, 0, none⟩) 1 1) [pt] ek Jn _ hRE (H2.al hRE).1 (row_one (blk_new wD _)) (out_one fun x => by have := HINB.out _ (.inr x); omega) (by simp)).mono ?_
    rintro e wF ⟨rfl, hRF, hFF⟩
    rw [HCE.out]
    have HN := hid (show ∃ In' Jn', RI R w wF pd po In' Jn' (playF c (n0, D) (ns.take (k + 1))).2 (playF c (n0, D.norm) (ns.take (k + 1))).2 by
      rw [HDK.out, HEK.out]
      exact HIC.out.two H HRD.out HFD.out hbDE hRF hFF)
    have HN1 := hid (show (playF c (n0, D) (ns.take (k + 1))).1 = pn' by rw [HDK.out])
    clear hRE hRF hFF hbDE g0 g1
    go_wp2
    obtain ⟨In', Jn', hN⟩ := HN.out
    go_roundw
    case rel => first | exact ⟨k + 1, In', Jn', by omega, by have := HK4.out; omega, by go_num, by rw [HN1.out], hN⟩ | ((repeat apply Exists.intro); exact ⟨⟨k + 1, In', Jn', by omega, by have := HK4.out; omega, by go_num, by rw [HN1.out], hN⟩, rfl⟩)
    case measure => simp [intOf]; omega
end Go.Proofs.Ythbbfjfekchdiaa
