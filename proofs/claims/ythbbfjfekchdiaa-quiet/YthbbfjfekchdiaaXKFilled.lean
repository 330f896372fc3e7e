import Derived.Test.YthbbfjfekchdiaaXKPoint
namespace Go.Proofs.Ythbbfjfekchdiaa
open Go.RowKit
set_option linter.unusedSimpArgs false

/-- how much later, how far back, which value: raw numbers -/
abbrev Mv := Int × Int × Int
def MvIn (m : Mv) : Prop := In64 m.1 ∧ In64 m.2.1 ∧ In64 m.2.2
/-- a list of moves, of whoever's, below block N -/
def RowM (w : World) (N : Nat) (v : Value) (ms : List Mv) : Prop :=
  ∃ a cap, v = .slice a ms.length cap ∧ ∀ (j : Nat) (m : Mv), ms[j]? = some m → MvIn m ∧ ∃ b off, a = some ⟨b, off, none⟩ ∧ b < N ∧ w.cell? ⟨b, off + j * 3, none⟩ = some (i64 m.1) ∧ w.cell? ⟨b, off + j * 3 + 1, none⟩ = some (i64 m.2.1) ∧ w.cell? ⟨b, off + j * 3 + 2, none⟩ = some (i64 m.2.2)
theorem RowM.below {w w' : World} {N : Nat} {v : Value} {ms : List Mv} (h : RowM w N v ms) (hb : Below N w w') : RowM w' N v ms := by
  obtain ⟨a, cap, hv, r⟩ := h
  refine ⟨a, cap, hv, fun j m hj => ?_⟩
  obtain ⟨hm, b, off, ha, hN, c0, c1, c2⟩ := r j m hj
  have e := hb.block b hN
  exact ⟨hm, b, off, ha, hN, (World.cell?_of_block (a := ⟨b, _, none⟩) e).trans c0, (World.cell?_of_block (a := ⟨b, _, none⟩) e).trans c1, (World.cell?_of_block (a := ⟨b, _, none⟩) e).trans c2⟩

/-- one move -/
def stepK (c : Cfg) (s : Int × RDb) (m : Mv) : Int × RDb := (s.1 + pickK m.1 40, updR s.2 (s.1 + pickK m.1 40) [pointK m.2.1 m.2.2 (s.1 + pickK m.1 40) (farK c)])
def playK (c : Cfg) (ms : List Mv) : Int × RDb := ms.foldl (stepK c) (0, RDb.new c)
theorem playK_succ {c : Cfg} {ms : List Mv} {k : Nat} {m : Mv} (h : ms[k]? = some m) : playK c (ms.take (k + 1)) = stepK c (playK c (ms.take k)) m := by
  unfold playK
  rw [List.take_add_one, h, List.foldl_append]
  rfl
theorem new_ok' {c : Cfg} (h : c.Ok) : (RDb.new c).Ok := by
  refine ⟨h, by simp [RDb.new], fun i l hl => ?_, fun i l hl => ?_⟩
  · have : l = [] := (List.mem_replicate.1 (List.mem_iff_getElem?.2 ⟨i, hl⟩)).2
    subst this
    exact ⟨fun q hq => by simp at hq, by simp⟩
  · have : l = [] := (List.mem_replicate.1 (List.mem_iff_getElem?.2 ⟨i, hl⟩)).2
    subst this
    simp
theorem playK_in {c : Cfg} (hc : c.Ok) : ∀ (ms : List Mv), 0 ≤ (playK c ms).1 ∧ (playK c ms).1 ≤ 40 * (ms.length : Int) ∧ (playK c ms).2.Ok ∧ (playK c ms).2.c = c := by
  intro ms
  have key : ∀ (l : List Mv) (s : Int × RDb) (n : Int), 0 ≤ s.1 → s.1 ≤ n → s.2.Ok → s.2.c = c → 0 ≤ (l.foldl (stepK c) s).1 ∧ (l.foldl (stepK c) s).1 ≤ n + 40 * (l.length : Int) ∧ (l.foldl (stepK c) s).2.Ok ∧ (l.foldl (stepK c) s).2.c = c := by
    intro l
    induction l with
    | nil => intro s n a b d e; exact ⟨a, by simpa using b, d, e⟩
    | cons m l ih =>
      intro s n a b d e
      have hp := pickK_in m.1 (n := 40) (by omega)
      have hk := updR_kept (now := s.1 + pickK m.1 40) (l := [pointK m.2.1 m.2.2 (s.1 + pickK m.1 40) (farK c)]) d
      have r := ih (stepK c s m) (n + 40) (by show 0 ≤ s.1 + pickK m.1 40; omega) (by show s.1 + pickK m.1 40 ≤ n + 40; omega) hk.1 (hk.2.1.trans e)
      rw [List.foldl_cons, List.length_cons]
      refine ⟨r.1, ?_, r.2.2⟩
      have := r.2.1
      omega
  have := key ms (0, RDb.new c) 0 (by simp) (by simp) (new_ok' hc) rfl
  exact ⟨this.1, by have h := this.2.1; unfold playK; omega, this.2.2⟩
theorem reach_bd {c : Cfg} (h : c.Ok) : ∀ i, i < 4 → 0 ≤ c.s i * c.k i ∧ c.s i * c.k i ≤ 10000000 := by
  intro i hi
  by_cases hm : i < c.many
  · obtain ⟨a, b, d, e⟩ := Cfg.bd h hm
    refine ⟨Int.mul_nonneg (by omega) (by omega), ?_⟩
    have := Int.mul_le_mul b e (by omega) (by omega)
    omega
  · obtain ⟨a, b⟩ := (h.2.1 i hi).1 (by omega)
    rw [a]
    simp

set_option maxRecDepth 4000 in
set_option maxHeartbeats 4000000 in
theorem filled_any {R : Rep} (H : ProgOk R) (r0 r1 r2 r3 r4 r5 me fa : Int) (v : Value) (ms : List Mv) (c : Cfg) (w : World) (hc : Hid (c = cfgK r0 r1 r2 r3 r4 r5 me fa)) (h0 : In64 r0) (h1 : In64 r1) (h2 : In64 r2) (h3 : In64 r3) (h4 : In64 r4) (h5 : In64 r5) (hm : In64 me) (hf : In64 fa) (hv : RowM w w.heap.size v ms) (hlen : ms.length ≤ 9223372036854775807) :
    Calls Try.prog 14 #[.agg #[i64 r0, i64 r1, i64 r2, i64 r3, i64 r4, i64 r5], i64 me, i64 fa, v] w fun e w' => ∃ pd, e = .returned (.tuple #[.pointer (some ⟨pd, 0, none⟩), .agg c.cells, i64 (playK c (ms.take 10000)).1]) ∧ Below w.heap.size w w' ∧ R w' (fun k => w.heap.size ≤ k) pd (playK c (ms.take 10000)).2 := by
  have HOK := hid (show c.Ok by rw [hc.out]; exact (cfgK_ok r0 r1 r2 r3 r4 r5 me fa).1)
  have HBE := hid (fun (w : World) => begun_any H r0 r1 r2 r3 r4 r5 me fa w h0 h1 h2 h3 h4 h5 hm hf)
  rw [← hc.out] at HBE
  have HRB := hid (reach_bd HOK.out)
  have HV := hid hv
  obtain ⟨av, cv, rfl, hrow⟩ := hv
  clear h0 h1 h2 h3 h4 h5 hm hf hrow
  go_enter Try.func14, Try.ntmps14
  go_wp2_with fail
  refine (HBE.out _).mono ?_
  rintro e w1 ⟨pd, rfl, hb1, hR1⟩
  have HR0 := hid (show w1.heap[w.heap.size + 1]? = some (.cells #[i64 0, i64 0, i64 0, i64 0, i64 0, i64 0, i64 0, i64 0, i64 0, i64 0] 29) by
    have h := blk_new (w.alloc (.cells #[i64 r0, i64 r1, i64 r2, i64 r3, i64 r4, i64 r5] 22)) (.cells #[i64 0, i64 0, i64 0, i64 0, i64 0, i64 0, i64 0, i64 0, i64 0, i64 0] 29)
    have e : (w.alloc (.cells #[i64 r0, i64 r1, i64 r2, i64 r3, i64 r4, i64 r5] 22)).heap.size = w.heap.size + 1 := by simp
    rw [e] at h
    exact blk_later hb1 (by simp) h)
  have hz1 : w.heap.size + 2 ≤ w1.heap.size := by have := hb1.size; simp at this; omega
  have HB1 := hid (show Below w.heap.size w w1 from (((Below.refl _ w).alloc (Nat.le_refl _) _).alloc (by simp) _).trans (hb1.mono (by simp; omega)))
  have HR1 := hid (show R w1 (fun k => w.heap.size + 2 ≤ k ∧ k < w1.heap.size) pd (RDb.new c) from H.weak (H.lim hR1) (fun k hk => ⟨by have := hk.1; simp at this; omega, hk.2⟩))
  clear hb1 hR1
  go_wp2_with fail
  refine (kreach_any c _ HRB.out).mono ?_
  rintro e w2 ⟨rfl, hb2⟩
  have HCB2 := hid (blk_later hb2 (by simp) (blk_new w1 (.cells #[i64 c.s0, i64 c.k0, i64 c.s1, i64 c.k1, i64 c.s2, i64 c.k2, i64 c.s3, i64 c.k3, i64 c.m, i64 c.f] 29)))
  have HRZ2 := hid (blk_later hb2 (by have := blk_lt HR0.out; simp; omega) (blk_alloc HR0.out))
  have hz2 : w1.heap.size < w2.heap.size := blk_lt HCB2.out
  have hb12 : Below w1.heap.size w1 w2 := ((Below.refl _ w1).alloc (Nat.le_refl _) _).trans (hb2.mono (by simp))
  have HB2 := hid (show Below w.heap.size w w2 from HB1.out.trans (hb12.mono (by omega)))
  have HR2 := hid (H.fr HR1.out (Fr.below (In := fun _ => False) hb12) (fun _ _ x => x))
  have HV2 := hid (HV.out.below HB2.out)
  have HFI := hid (farTo_in HRB.out 4 (by omega))
  obtain ⟨fr, hfr⟩ : ∃ fr, fr = farK c := ⟨_, rfl⟩
  have ff0 : 0 ≤ fr := by rw [hfr]; exact HFI.out.1
  have ff1 : fr ≤ 10000000 := by rw [hfr]; exact HFI.out.2
  have HFRK := hid hfr
  obtain ⟨near, hnear⟩ : ∃ n, n = c.s0 * c.k0 := ⟨_, rfl⟩
  rw [← hfr, ← hnear]
  clear hb2 hb12 hfr hnear
  go_wp2
  go_loopw [15, 16] (fun now' i' wr => ∃ (k : Nat) (In : Nat → Prop), k ≤ ms.length ∧ k ≤ 10000 ∧ i' = i64 k ∧ now' = i64 (playK c (ms.take k)).1 ∧ R wr In pd (playK c (ms.take k)).2 ∧ (∀ j, In j → w.heap.size + 2 ≤ j ∧ j ≠ w1.heap.size ∧ j < wr.heap.size) ∧ Fr (fun j => w.heap.size + 2 ≤ j ∧ j ≠ w1.heap.size) w2 wr) (fun _ i' _ => ms.length - (intOf i').toNat)
  case atStart => exact ⟨0, _, by omega, by omega, rfl, rfl, HR2.out, fun j hj => ⟨hj.1, by omega, by omega⟩, Fr.refl _ _⟩
  case round =>
    obtain ⟨k, In, hk, hk4, rfl, rfl, hR, hIn, hF⟩ := hrel
    have HR := hid hR
    have HIN := hid hIn
    have HF := hid hF
    have HCB := hid ((hF.block w1.heap.size hz2 (fun h => h.2 rfl)).trans HCB2.out)
    have HRB2 := hid ((hF.block (w.heap.size + 1) (by omega) (fun h => by have := h.1; omega)).trans HRZ2.out)
    have hzr := hF.size
    have HBR := hid (show Below w.heap.size w2 wr from ⟨hF.os, hF.tape, hF.output, hF.size, fun j hj => hF.block j (by omega) (fun h => by have := h.1; omega)⟩)
    have HPK := hid (playK_in HOK.out (ms.take k))
    obtain ⟨pn, hpn⟩ : ∃ pn, pn = (playK c (ms.take k)).1 := ⟨_, rfl⟩
    have pn0 : 0 ≤ pn := by rw [hpn]; exact HPK.out.1
    have pn1 : pn ≤ 400000 := by
      rw [hpn]
      have h1 := HPK.out.2.1
      have h2 := List.length_take_le k ms
      omega
    have HPN := hid hpn
    rw [← hpn]
    clear hR hIn hF hpn
    by_cases hlt : k < ms.length ∧ k < 10000
    case neg =>
      have ek : ms.take k = ms.take 10000 := by
        by_cases e : k = 10000
        · rw [e]
        · rw [List.take_of_length_le (by omega), List.take_of_length_le (by omega)]
      rw [ek] at HR HPN HPK
      clear ek
      have hl2 : ¬ k < ms.length ∨ ¬ k < 10000 := by omega
      have d0 : wr.cell? ⟨w1.heap.size, 0, none⟩ = some (i64 c.s0) := cell_of_blk HCB.out 0
      have f0 : wr.frozen? ⟨w.heap.size + 1, 0, none⟩ = false := frozen_of_blk HRB2.out 0
      have z0 : wr.cell? ⟨w.heap.size + 1, 0, none⟩ = some (i64 0) := cell_of_blk HRB2.out 0
      have d1 : wr.cell? ⟨w1.heap.size, 1, none⟩ = some (i64 c.k0) := cell_of_blk HCB.out 1
      have f1 : wr.frozen? ⟨w.heap.size + 1, 1, none⟩ = false := frozen_of_blk HRB2.out 1
      have z1 : wr.cell? ⟨w.heap.size + 1, 1, none⟩ = some (i64 0) := cell_of_blk HRB2.out 1
      have d2 : wr.cell? ⟨w1.heap.size, 2, none⟩ = some (i64 c.s1) := cell_of_blk HCB.out 2
      have f2 : wr.frozen? ⟨w.heap.size + 1, 2, none⟩ = false := frozen_of_blk HRB2.out 2
      have z2 : wr.cell? ⟨w.heap.size + 1, 2, none⟩ = some (i64 0) := cell_of_blk HRB2.out 2
      have d3 : wr.cell? ⟨w1.heap.size, 3, none⟩ = some (i64 c.k1) := cell_of_blk HCB.out 3
      have f3 : wr.frozen? ⟨w.heap.size + 1, 3, none⟩ = false := frozen_of_blk HRB2.out 3
      have z3 : wr.cell? ⟨w.heap.size + 1, 3, none⟩ = some (i64 0) := cell_of_blk HRB2.out 3
      have d4 : wr.cell? ⟨w1.heap.size, 4, none⟩ = some (i64 c.s2) := cell_of_blk HCB.out 4
      have f4 : wr.frozen? ⟨w.heap.size + 1, 4, none⟩ = false := frozen_of_blk HRB2.out 4
      have z4 : wr.cell? ⟨w.heap.size + 1, 4, none⟩ = some (i64 0) := cell_of_blk HRB2.out 4
      have d5 : wr.cell? ⟨w1.heap.size, 5, none⟩ = some (i64 c.k2) := cell_of_blk HCB.out 5
      have f5 : wr.frozen? ⟨w.heap.size + 1, 5, none⟩ = false := frozen_of_blk HRB2.out 5
      have z5 : wr.cell? ⟨w.heap.size + 1, 5, none⟩ = some (i64 0) := cell_of_blk HRB2.out 5
      have d6 : wr.cell? ⟨w1.heap.size, 6, none⟩ = some (i64 c.s3) := cell_of_blk HCB.out 6
      have f6 : wr.frozen? ⟨w.heap.size + 1, 6, none⟩ = false := frozen_of_blk HRB2.out 6
      have z6 : wr.cell? ⟨w.heap.size + 1, 6, none⟩ = some (i64 0) := cell_of_blk HRB2.out 6
      have d7 : wr.cell? ⟨w1.heap.size, 7, none⟩ = some (i64 c.k3) := cell_of_blk HCB.out 7
      have f7 : wr.frozen? ⟨w.heap.size + 1, 7, none⟩ = false := frozen_of_blk HRB2.out 7
      have z7 : wr.cell? ⟨w.heap.size + 1, 7, none⟩ = some (i64 0) := cell_of_blk HRB2.out 7
      have d8 : wr.cell? ⟨w1.heap.size, 8, none⟩ = some (i64 c.m) := cell_of_blk HCB.out 8
      have f8 : wr.frozen? ⟨w.heap.size + 1, 8, none⟩ = false := frozen_of_blk HRB2.out 8
      have z8 : wr.cell? ⟨w.heap.size + 1, 8, none⟩ = some (i64 0) := cell_of_blk HRB2.out 8
      have d9 : wr.cell? ⟨w1.heap.size, 9, none⟩ = some (i64 c.f) := cell_of_blk HCB.out 9
      have f9 : wr.frozen? ⟨w.heap.size + 1, 9, none⟩ = false := frozen_of_blk HRB2.out 9
      have z9 : wr.cell? ⟨w.heap.size + 1, 9, none⟩ = some (i64 0) := cell_of_blk HRB2.out 9
      have hne : w1.heap.size ≠ w.heap.size + 1 := by omega
      have hz3 : w1.heap.size < wr.heap.size := by omega
      have hz4 : w.heap.size + 1 < wr.heap.size := by omega
      have HS := hid (set10 (w := wr) (R := w.heap.size + 1) HRB2.out (i64 c.s0) (i64 c.k0) (i64 c.s1) (i64 c.k1) (i64 c.s2) (i64 c.k2) (i64 c.s3) (i64 c.k3) (i64 c.m) (i64 c.f))
      by_cases kl : k < ms.length
      · have kd : ¬ k < 10000 := by omega
        generalize hM : (10000 : Int) = M
        have kM : ¬ (k : Int) < M := by omega
        clear hl2 hlt hM kd hk4
        go_wp2_with fail
        refine wp_region_held_drew (S := (fun w' => w'.cell? ⟨w1.heap.size, 0, none⟩ = some (i64 c.s0) ∧ w'.cell? ⟨w1.heap.size, 1, none⟩ = some (i64 c.k0) ∧ w'.cell? ⟨w1.heap.size, 2, none⟩ = some (i64 c.s1) ∧ w'.cell? ⟨w1.heap.size, 3, none⟩ = some (i64 c.k1) ∧ w'.cell? ⟨w1.heap.size, 4, none⟩ = some (i64 c.s2) ∧ w'.cell? ⟨w1.heap.size, 5, none⟩ = some (i64 c.k2) ∧ w'.cell? ⟨w1.heap.size, 6, none⟩ = some (i64 c.s3) ∧ w'.cell? ⟨w1.heap.size, 7, none⟩ = some (i64 c.k3) ∧ w'.cell? ⟨w1.heap.size, 8, none⟩ = some (i64 c.m) ∧ w'.cell? ⟨w1.heap.size, 9, none⟩ = some (i64 c.f))) (by kernel_rfl) ?_ (fun hHeld => ?_)
        · go_keep
        refine wpAnyH_take (i := 0) (oi := { dst := some 59, op := Op.move (Operand.tmp 11), type := 24, pos := _, after := #[], guard := none }) (v := ?vfa0) rfl (by kernel_rfl) (by kernel_rfl) (by kernel_rfl) (fun _ _ _ h => h) (Or.inl ⟨by rfl, ?hfa0⟩) (by assumption) ?_
        case hfa0 => (intro w hSw; (try dsimp only at hSw); go_simp; try with_reducible rfl)
        try simp only [Act.put, List.setIfInBounds_toArray, List.set_cons_zero, List.set_cons_succ]
        refine wpAnyH_take (i := 1) (oi := { dst := some 60, op := Op.load 29 (Operand.tmp 12), type := 29, pos := _, after := #[{ on := 3, ground := Ground.gcOnly Departure.lateStores }], guard := none }) (v := ?vfa1) rfl (by kernel_rfl) (by kernel_rfl) (by kernel_rfl) (fun _ _ _ h => h) (Or.inl ⟨by rfl, ?hfa1⟩) (by assumption) ?_
        case hfa1 => (intro w hSw; (try dsimp only at hSw); go_simp; try with_reducible rfl)
        try simp only [Act.put, List.setIfInBounds_toArray, List.set_cons_zero, List.set_cons_succ]
        refine wpAnyH_take (i := 2) (oi := { dst := some 61, op := Op.move (Operand.tmp 15), type := 3, pos := _, after := #[{ on := 4, ground := Ground.gcOnly Departure.lateStores }], guard := none }) (v := ?vfa2) rfl (by kernel_rfl) (by kernel_rfl) (by kernel_rfl) (fun _ _ _ h => h) (Or.inl ⟨by rfl, ?hfa2⟩) (by assumption) ?_
        case hfa2 => (intro w hSw; (try dsimp only at hSw); go_simp; try with_reducible rfl)
        try simp only [Act.put, List.setIfInBounds_toArray, List.set_cons_zero, List.set_cons_succ]
        refine wpAnyH_take (i := 3) (oi := { dst := some 8, op := Op.assign (Operand.tmp 59), type := 24, pos := _, after := #[{ on := 0, ground := Ground.data }, { on := 0, ground := Ground.phase }, { on := 1, ground := Ground.textOnly Departure.lateStores }, { on := 2, ground := Ground.textOnly Departure.lateStores }], guard := none }) (v := ?vfa3) rfl (by kernel_rfl) (by kernel_rfl) (by kernel_rfl) (fun _ _ _ h => h) (Or.inl ⟨by rfl, ?hfa3⟩) (by assumption) ?_
        case hfa3 => (intro w hSw; (try dsimp only at hSw); go_simp; try with_reducible rfl)
        try simp only [Act.put, List.setIfInBounds_toArray, List.set_cons_zero, List.set_cons_succ]
        refine wpAnyH_ready (rs := [4]) (by kernel_rfl) (by simp) ?_
        refine AllReadyH.cons rfl (fun K hK => ?_) AllReadyH.nil
        go_simp
        generalize hW : ((((((((((wr.setCell ⟨w.heap.size + 1, 0, none⟩ (i64 c.s0)).setCell ⟨w.heap.size + 1, 1, none⟩ (i64 c.k0)).setCell ⟨w.heap.size + 1, 2, none⟩ (i64 c.s1)).setCell ⟨w.heap.size + 1, 3, none⟩ (i64 c.k1)).setCell ⟨w.heap.size + 1, 4, none⟩ (i64 c.s2)).setCell ⟨w.heap.size + 1, 5, none⟩ (i64 c.k2)).setCell ⟨w.heap.size + 1, 6, none⟩ (i64 c.s3)).setCell ⟨w.heap.size + 1, 7, none⟩ (i64 c.k3)).setCell ⟨w.heap.size + 1, 8, none⟩ (i64 c.m)).setCell ⟨w.heap.size + 1, 9, none⟩ (i64 c.f)) = W at HS ⊢
        clear hW
        refine hK.out _ _ ?_ (fun hHeld => ?_)
        · exact ⟨HS.out.2.cellK hne d0, HS.out.2.cellK hne d1, HS.out.2.cellK hne d2, HS.out.2.cellK hne d3, HS.out.2.cellK hne d4, HS.out.2.cellK hne d5, HS.out.2.cellK hne d6, HS.out.2.cellK hne d7, HS.out.2.cellK hne d8, HS.out.2.cellK hne d9⟩
        clear hK K
        refine wpAnyH_take (i := 5) (oi := { dst := some 10, op := Op.assign (Operand.tmp 61), type := 3, pos := _, after := #[{ on := 2, ground := Ground.data }, { on := 4, ground := Ground.chain }, { on := 0, ground := Ground.phase }, { on := 1, ground := Ground.phase }, { on := 2, ground := Ground.phase }, { on := 3, ground := Ground.phase }, { on := 4, ground := Ground.phase }], guard := none }) (v := ?vfa5) rfl (by kernel_rfl) (by kernel_rfl) (by kernel_rfl) (fun _ _ _ h => h) (Or.inl ⟨by rfl, ?hfa5⟩) (by assumption) ?_
        case hfa5 => (intro w hSw; (try dsimp only at hSw); go_simp; try with_reducible rfl)
        try simp only [Act.put, List.setIfInBounds_toArray, List.set_cons_zero, List.set_cons_succ]
        have HFIN := hid (show Below w.heap.size w W ∧ R W (fun k => w.heap.size ≤ k) pd (playK c (ms.take 10000)).2 from ⟨(HB2.out.trans (HBR.out.mono (by omega))).trans ⟨HS.out.2.os, HS.out.2.tape, HS.out.2.output, HS.out.2.size, fun k hk => HS.out.2.block k (by omega) (by show ¬ k = w.heap.size + 1; omega)⟩, H.weak (H.fr HR.out HS.out.2 (fun k hk e => by have h2 := (HIN.out k hk).1; have e' : k = w.heap.size + 1 := e; omega)) (fun k hk => by have h2 := (HIN.out k hk).1; omega)⟩)
        have t0 : W.cell? ⟨w.heap.size + 1, 0, none⟩ = some (i64 c.s0) := cell_of_blk HS.out.1 0
        have t1 : W.cell? ⟨w.heap.size + 1, 1, none⟩ = some (i64 c.k0) := cell_of_blk HS.out.1 1
        have t2 : W.cell? ⟨w.heap.size + 1, 2, none⟩ = some (i64 c.s1) := cell_of_blk HS.out.1 2
        have t3 : W.cell? ⟨w.heap.size + 1, 3, none⟩ = some (i64 c.k1) := cell_of_blk HS.out.1 3
        have t4 : W.cell? ⟨w.heap.size + 1, 4, none⟩ = some (i64 c.s2) := cell_of_blk HS.out.1 4
        have t5 : W.cell? ⟨w.heap.size + 1, 5, none⟩ = some (i64 c.k2) := cell_of_blk HS.out.1 5
        have t6 : W.cell? ⟨w.heap.size + 1, 6, none⟩ = some (i64 c.s3) := cell_of_blk HS.out.1 6
        have t7 : W.cell? ⟨w.heap.size + 1, 7, none⟩ = some (i64 c.k3) := cell_of_blk HS.out.1 7
        have t8 : W.cell? ⟨w.heap.size + 1, 8, none⟩ = some (i64 c.m) := cell_of_blk HS.out.1 8
        have t9 : W.cell? ⟨w.heap.size + 1, 9, none⟩ = some (i64 c.f) := cell_of_blk HS.out.1 9
        have hzW : w.heap.size + 1 < W.heap.size := blk_lt HS.out.1
        clear d0 d1 d2 d3 d4 d5 d6 d7 d8 d9 f0 f1 f2 f3 f4 f5 f6 f7 f8 f9 z0 z1 z2 z3 z4 z5 z6 z7 z8 z9
        refine wpAnyH_done (by kernel_rfl) ?_ _
        go_wp2
        refine bodyPost_ret (v := .tuple #[.pointer (some ⟨pd, 0, none⟩), .agg #[i64 c.s0, i64 c.k0, i64 c.s1, i64 c.k1, i64 c.s2, i64 c.k2, i64 c.s3, i64 c.k3, i64 c.m, i64 c.f], i64 pn]) (by simp [results, Try.results14, go_sem, t0, t1, t2, t3, t4, t5, t6, t7, t8, t9]) rfl ⟨pd, by rw [HPN.out], HFIN.out.1.drew, ?_⟩
        exact H.fr HFIN.out.2 (Fr.below (In := fun _ => False) ((Below.refl _ W).drew)) (fun _ _ x => x)
      · generalize hM : (10000 : Int) = M
        clear hl2 hlt hM hk4
        go_wp2_with fail
        refine wp_region_held_drew (S := (fun w' => w'.cell? ⟨w1.heap.size, 0, none⟩ = some (i64 c.s0) ∧ w'.cell? ⟨w1.heap.size, 1, none⟩ = some (i64 c.k0) ∧ w'.cell? ⟨w1.heap.size, 2, none⟩ = some (i64 c.s1) ∧ w'.cell? ⟨w1.heap.size, 3, none⟩ = some (i64 c.k1) ∧ w'.cell? ⟨w1.heap.size, 4, none⟩ = some (i64 c.s2) ∧ w'.cell? ⟨w1.heap.size, 5, none⟩ = some (i64 c.k2) ∧ w'.cell? ⟨w1.heap.size, 6, none⟩ = some (i64 c.s3) ∧ w'.cell? ⟨w1.heap.size, 7, none⟩ = some (i64 c.k3) ∧ w'.cell? ⟨w1.heap.size, 8, none⟩ = some (i64 c.m) ∧ w'.cell? ⟨w1.heap.size, 9, none⟩ = some (i64 c.f))) (by kernel_rfl) ?_ (fun hHeld => ?_)
        · go_keep
        refine wpAnyH_take (i := 0) (oi := { dst := some 59, op := Op.move (Operand.tmp 11), type := 24, pos := _, after := #[], guard := none }) (v := ?vfb0) rfl (by kernel_rfl) (by kernel_rfl) (by kernel_rfl) (fun _ _ _ h => h) (Or.inl ⟨by rfl, ?hfb0⟩) (by assumption) ?_
        case hfb0 => (intro w hSw; (try dsimp only at hSw); go_simp; try with_reducible rfl)
        try simp only [Act.put, List.setIfInBounds_toArray, List.set_cons_zero, List.set_cons_succ]
        refine wpAnyH_take (i := 1) (oi := { dst := some 60, op := Op.load 29 (Operand.tmp 12), type := 29, pos := _, after := #[{ on := 3, ground := Ground.gcOnly Departure.lateStores }], guard := none }) (v := ?vfb1) rfl (by kernel_rfl) (by kernel_rfl) (by kernel_rfl) (fun _ _ _ h => h) (Or.inl ⟨by rfl, ?hfb1⟩) (by assumption) ?_
        case hfb1 => (intro w hSw; (try dsimp only at hSw); go_simp; try with_reducible rfl)
        try simp only [Act.put, List.setIfInBounds_toArray, List.set_cons_zero, List.set_cons_succ]
        refine wpAnyH_take (i := 2) (oi := { dst := some 61, op := Op.move (Operand.tmp 15), type := 3, pos := _, after := #[{ on := 4, ground := Ground.gcOnly Departure.lateStores }], guard := none }) (v := ?vfb2) rfl (by kernel_rfl) (by kernel_rfl) (by kernel_rfl) (fun _ _ _ h => h) (Or.inl ⟨by rfl, ?hfb2⟩) (by assumption) ?_
        case hfb2 => (intro w hSw; (try dsimp only at hSw); go_simp; try with_reducible rfl)
        try simp only [Act.put, List.setIfInBounds_toArray, List.set_cons_zero, List.set_cons_succ]
        refine wpAnyH_take (i := 3) (oi := { dst := some 8, op := Op.assign (Operand.tmp 59), type := 24, pos := _, after := #[{ on := 0, ground := Ground.data }, { on := 0, ground := Ground.phase }, { on := 1, ground := Ground.textOnly Departure.lateStores }, { on := 2, ground := Ground.textOnly Departure.lateStores }], guard := none }) (v := ?vfb3) rfl (by kernel_rfl) (by kernel_rfl) (by kernel_rfl) (fun _ _ _ h => h) (Or.inl ⟨by rfl, ?hfb3⟩) (by assumption) ?_
        case hfb3 => (intro w hSw; (try dsimp only at hSw); go_simp; try with_reducible rfl)
        try simp only [Act.put, List.setIfInBounds_toArray, List.set_cons_zero, List.set_cons_succ]
        refine wpAnyH_ready (rs := [4]) (by kernel_rfl) (by simp) ?_
        refine AllReadyH.cons rfl (fun K hK => ?_) AllReadyH.nil
        go_simp
        generalize hW : ((((((((((wr.setCell ⟨w.heap.size + 1, 0, none⟩ (i64 c.s0)).setCell ⟨w.heap.size + 1, 1, none⟩ (i64 c.k0)).setCell ⟨w.heap.size + 1, 2, none⟩ (i64 c.s1)).setCell ⟨w.heap.size + 1, 3, none⟩ (i64 c.k1)).setCell ⟨w.heap.size + 1, 4, none⟩ (i64 c.s2)).setCell ⟨w.heap.size + 1, 5, none⟩ (i64 c.k2)).setCell ⟨w.heap.size + 1, 6, none⟩ (i64 c.s3)).setCell ⟨w.heap.size + 1, 7, none⟩ (i64 c.k3)).setCell ⟨w.heap.size + 1, 8, none⟩ (i64 c.m)).setCell ⟨w.heap.size + 1, 9, none⟩ (i64 c.f)) = W at HS ⊢
        clear hW
        refine hK.out _ _ ?_ (fun hHeld => ?_)
        · exact ⟨HS.out.2.cellK hne d0, HS.out.2.cellK hne d1, HS.out.2.cellK hne d2, HS.out.2.cellK hne d3, HS.out.2.cellK hne d4, HS.out.2.cellK hne d5, HS.out.2.cellK hne d6, HS.out.2.cellK hne d7, HS.out.2.cellK hne d8, HS.out.2.cellK hne d9⟩
        clear hK K
        refine wpAnyH_take (i := 5) (oi := { dst := some 10, op := Op.assign (Operand.tmp 61), type := 3, pos := _, after := #[{ on := 2, ground := Ground.data }, { on := 4, ground := Ground.chain }, { on := 0, ground := Ground.phase }, { on := 1, ground := Ground.phase }, { on := 2, ground := Ground.phase }, { on := 3, ground := Ground.phase }, { on := 4, ground := Ground.phase }], guard := none }) (v := ?vfb5) rfl (by kernel_rfl) (by kernel_rfl) (by kernel_rfl) (fun _ _ _ h => h) (Or.inl ⟨by rfl, ?hfb5⟩) (by assumption) ?_
        case hfb5 => (intro w hSw; (try dsimp only at hSw); go_simp; try with_reducible rfl)
        try simp only [Act.put, List.setIfInBounds_toArray, List.set_cons_zero, List.set_cons_succ]
        have HFIN := hid (show Below w.heap.size w W ∧ R W (fun k => w.heap.size ≤ k) pd (playK c (ms.take 10000)).2 from ⟨(HB2.out.trans (HBR.out.mono (by omega))).trans ⟨HS.out.2.os, HS.out.2.tape, HS.out.2.output, HS.out.2.size, fun k hk => HS.out.2.block k (by omega) (by show ¬ k = w.heap.size + 1; omega)⟩, H.weak (H.fr HR.out HS.out.2 (fun k hk e => by have h2 := (HIN.out k hk).1; have e' : k = w.heap.size + 1 := e; omega)) (fun k hk => by have h2 := (HIN.out k hk).1; omega)⟩)
        have t0 : W.cell? ⟨w.heap.size + 1, 0, none⟩ = some (i64 c.s0) := cell_of_blk HS.out.1 0
        have t1 : W.cell? ⟨w.heap.size + 1, 1, none⟩ = some (i64 c.k0) := cell_of_blk HS.out.1 1
        have t2 : W.cell? ⟨w.heap.size + 1, 2, none⟩ = some (i64 c.s1) := cell_of_blk HS.out.1 2
        have t3 : W.cell? ⟨w.heap.size + 1, 3, none⟩ = some (i64 c.k1) := cell_of_blk HS.out.1 3
        have t4 : W.cell? ⟨w.heap.size + 1, 4, none⟩ = some (i64 c.s2) := cell_of_blk HS.out.1 4
        have t5 : W.cell? ⟨w.heap.size + 1, 5, none⟩ = some (i64 c.k2) := cell_of_blk HS.out.1 5
        have t6 : W.cell? ⟨w.heap.size + 1, 6, none⟩ = some (i64 c.s3) := cell_of_blk HS.out.1 6
        have t7 : W.cell? ⟨w.heap.size + 1, 7, none⟩ = some (i64 c.k3) := cell_of_blk HS.out.1 7
        have t8 : W.cell? ⟨w.heap.size + 1, 8, none⟩ = some (i64 c.m) := cell_of_blk HS.out.1 8
        have t9 : W.cell? ⟨w.heap.size + 1, 9, none⟩ = some (i64 c.f) := cell_of_blk HS.out.1 9
        have hzW : w.heap.size + 1 < W.heap.size := blk_lt HS.out.1
        clear d0 d1 d2 d3 d4 d5 d6 d7 d8 d9 f0 f1 f2 f3 f4 f5 f6 f7 f8 f9 z0 z1 z2 z3 z4 z5 z6 z7 z8 z9
        refine wpAnyH_done (by kernel_rfl) ?_ _
        go_wp2
        refine bodyPost_ret (v := .tuple #[.pointer (some ⟨pd, 0, none⟩), .agg #[i64 c.s0, i64 c.k0, i64 c.s1, i64 c.k1, i64 c.s2, i64 c.k2, i64 c.s3, i64 c.k3, i64 c.m, i64 c.f], i64 pn]) (by simp [results, Try.results14, go_sem, t0, t1, t2, t3, t4, t5, t6, t7, t8, t9]) rfl ⟨pd, by rw [HPN.out], HFIN.out.1.drew, ?_⟩
        exact H.fr HFIN.out.2 (Fr.below (In := fun _ => False) ((Below.refl _ W).drew)) (fun _ _ x => x)
    obtain ⟨hl1, hl4⟩ := hlt
    obtain ⟨m, hm⟩ : ∃ m, ms[k]? = some m := ⟨_, List.getElem?_eq_getElem hl1⟩
    obtain ⟨av', cv', hv', hrow⟩ := HV2.out.below HBR.out
    simp only [Value.slice.injEq, true_and] at hv'
    obtain ⟨rfl, rfl⟩ := hv'
    obtain ⟨⟨mi1, mi2, mi3⟩, b, off, rfl, hbN, m0, m1, m2⟩ := hrow k m hm
    have MI := hid (And.intro mi1 (And.intro mi2 mi3))
    have HPS := hid (playK_succ (c := c) hm)
    have hbz : b < wr.heap.size := by omega
    have k0 : (0 : Int) ≤ (k : Int) := by omega
    have k1 : (k : Int) < (ms.length : Int) := by omega
    have pq := pickK_in m.1 (n := 40) (by omega)
    have HK4 := hid (And.intro hk4 hl4)
    generalize hM : (10000 : Int) = M
    have kM : (k : Int) < M := by omega
    clear hrow hm mi1 mi2 mi3 hM hk4 hl4
    go_wp2_with fail
    refine (later_any pn m.1 m.2.1 m.2.2 _ pn0 (by omega) MI.out.1).mono ?_
    rintro e w3 ⟨rfl, hb3⟩
    obtain ⟨pn', hpn'⟩ : ∃ p, p = pn + pickK m.1 40 := ⟨_, rfl⟩
    have pp0 : 0 ≤ pn' := by omega
    have pp1 : pn' ≤ 1000000000 := by omega
    rw [← hpn']
    have HPN' := hid hpn'
    have M0 : w3.cell? ⟨b, off + k * 3, none⟩ = some (i64 m.1) := cell_later hb3 m0
    have M1 : w3.cell? ⟨b, off + k * 3 + 1, none⟩ = some (i64 m.2.1) := cell_later hb3 m1
    have M2 : w3.cell? ⟨b, off + k * 3 + 2, none⟩ = some (i64 m.2.2) := cell_later hb3 m2
    have hz3 := hb3.size
    have hbz3 : b < w3.heap.size := by omega
    have HB3 := hid hb3
    clear hb3 m0 m1 m2 hpn' pq
    go_wp2_with fail
    refine (point_any m.1 m.2.1 m.2.2 pn' fr _ pp0 pp1 ff0 ff1 MI.out.2.1 MI.out.2.2).mono ?_
    rintro e w4 ⟨rfl, hb4⟩
    have hz4 := hb4.size
    have HB4 := hid (show Below wr.heap.size wr w4 from HB3.out.trans (hb4.mono hz3))
    obtain ⟨pt, hpt⟩ : ∃ p, p = pointK m.2.1 m.2.2 pn' fr := ⟨_, rfl⟩
    rw [← hpt]
    have HPT := hid hpt
    clear hb4 hpt M0 M1 M2
    go_wp2_with fail
    have hal := (Below.refl w4.heap.size w4).alloc (Nat.le_refl _) (.cells #[i64 pt.1, i64 pt.2] 39)
    have hb4a : Below wr.heap.size wr (w4.alloc (.cells #[i64 pt.1, i64 pt.2] 39)) := HB4.out.trans (hal.mono (by omega))
    refine (H.update pd pn' (.slice (some ⟨w4.heap.size, 0, none⟩) 1 1) [pt] _ In _ (H.fr HR.out (Fr.below (In := fun _ => False) hb4a) (fun _ _ x => x)) HPK.out.2.2.1 ?_ ?_ (by simp)).mono ?_
    · refine ⟨some ⟨w4.heap.size, 0, none⟩, 1, rfl, fun j q hj => ⟨w4.heap.size, 0, rfl, ?_⟩⟩
      have hj0 : j = 0 := by obtain ⟨y, _⟩ := List.getElem?_eq_some_iff.1 hj; simp at y; exact y
      subst hj0
      simp at hj
      subst hj
      have hcell : ∀ o, (w4.alloc (.cells #[i64 pt.1, i64 pt.2] 39)).cell? ⟨w4.heap.size, o, none⟩ = #[i64 pt.1, i64 pt.2][o]? := fun o => cell_of_blk (blk_new w4 _) o
      exact ⟨by rw [hcell]; rfl, by rw [hcell]; rfl⟩
    · intro a n c e hn hx
      cases e
      have := (HIN.out _ hx).2.2
      simp only at this
      omega
    rintro e w5 ⟨rfl, hR5, hF5⟩
    have hz5 : w4.heap.size + 1 ≤ w5.heap.size := by have := hF5.size; simp at this; exact this
    have HN := hid (show ∃ In' : Nat → Prop, R w5 In' pd (playK c (ms.take (k + 1))).2 ∧ (∀ j, In' j → w.heap.size + 2 ≤ j ∧ j ≠ w1.heap.size ∧ j < w5.heap.size) ∧ Fr (fun j => w.heap.size + 2 ≤ j ∧ j ≠ w1.heap.size) w2 w5 ∧ (playK c (ms.take (k + 1))).1 = pn' by
      rw [HPS.out]
      have e1 : (stepK c (playK c (ms.take k)) m) = (pn', updR (playK c (ms.take k)).2 pn' [pt]) := by
        unfold stepK
        rw [← HPN.out, ← HPN'.out, ← HFRK.out, ← HPT.out]
      rw [e1]
      refine ⟨_, H.lim hR5, fun j hj => ?_, ?_, rfl⟩
      · obtain ⟨h1 | h1, h2⟩ := hj
        · exact ⟨(HIN.out j h1).1, (HIN.out j h1).2.1, h2⟩
        · simp at h1
          exact ⟨by omega, by omega, h2⟩
      · refine (HF.out.trans (Fr.below (In := fun _ => False) hb4a) (fun _ h => h.elim)).trans hF5 fun j hj => .inl ⟨(HIN.out j hj).1, (HIN.out j hj).2.1⟩)
    obtain ⟨In', hn1, hn2, hn3, hn4⟩ := HN.out
    have HN1 := hid hn1
    have HN2 := hid hn2
    have HN3 := hid hn3
    have HN4 := hid hn4
    clear hR5 hF5 hal hb4a HN hn1 hn2 hn3 hn4
    go_wp2
    go_roundw
    case rel => first | exact ⟨k + 1, In', by omega, by have := HK4.out; omega, by go_num, by rw [HN4.out], HN1.out, HN2.out, HN3.out⟩ | ((repeat apply Exists.intro); exact ⟨⟨k + 1, In', by omega, by have := HK4.out; omega, by go_num, by rw [HN4.out], HN1.out, HN2.out, HN3.out⟩, rfl⟩)
    case measure => simp [intOf]; omega
end Go.Proofs.Ythbbfjfekchdiaa
