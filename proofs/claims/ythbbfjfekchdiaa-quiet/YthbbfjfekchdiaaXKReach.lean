import Derived.Test.YthbbfjfekchdiaaXKBegun
namespace Go.Proofs.Ythbbfjfekchdiaa
open Go.RowKit
set_option linter.unusedSimpArgs false

set_option maxHeartbeats 1000000 in
theorem later_any (now la ba va : Int) (w : World) (h0 : 0 ≤ now) (h1 : now ≤ 1000000000) (hl : In64 la) :
    Calls Try.prog 10 #[i64 now, .agg #[i64 la, i64 ba, i64 va]] w fun e w' => e = .returned (i64 (now + pickK la 40)) ∧ Below w.heap.size w w' := by
  have HP := hid (fun (w : World) => pickK_any la 40 w (by omega) (by omega) hl.1 hl.2)
  have hp := pickK_in la (n := 40) (by omega)
  obtain ⟨q, hq⟩ : ∃ q, q = pickK la 40 := ⟨_, rfl⟩
  rw [← hq] at HP hp ⊢
  obtain ⟨p0, p1⟩ := hp
  clear hq hl
  go_enter Try.func10, Try.ntmps10
  go_wp2_with fail
  refine (HP.out _).mono ?_
  rintro e w' ⟨rfl, rfl⟩
  go_wp2
  go_ret
  exact ⟨rfl, (Below.refl _ _).alloc (Nat.le_refl _) _⟩

/-- the greatest reach of the first archives -/
def farTo (c : Cfg) : Nat → Int
  | 0 => 0
  | k + 1 => max (farTo c k) (c.s k * c.k k)
def farK (c : Cfg) : Int := farTo c 4
theorem farTo_in {c : Cfg} (h : ∀ i, i < 4 → 0 ≤ c.s i * c.k i ∧ c.s i * c.k i ≤ 10000000) : ∀ k, k ≤ 4 → 0 ≤ farTo c k ∧ farTo c k ≤ 10000000
  | 0, _ => by simp [farTo]
  | k + 1, hk => by
    have := farTo_in h k (by omega)
    have := h k (by omega)
    unfold farTo
    omega

set_option maxRecDepth 4000 in
set_option maxHeartbeats 4000000 in
theorem kreach_any (c : Cfg) (w : World) (h : ∀ i, i < 4 → 0 ≤ c.s i * c.k i ∧ c.s i * c.k i ≤ 10000000) :
    Calls Try.prog 9 #[.agg c.cells] w fun e w' => e = .returned (.tuple #[i64 (farK c), i64 (c.s0 * c.k0)]) ∧ Below w.heap.size w w' := by
  show Calls Try.prog 9 #[.agg #[i64 c.s0, i64 c.k0, i64 c.s1, i64 c.k1, i64 c.s2, i64 c.k2, i64 c.s3, i64 c.k3, i64 c.m, i64 c.f]] w _
  have HH := hid h
  clear h
  go_enter Try.func9, Try.ntmps9
  go_wp2
  go_loopw [4, 5] (fun l i wr => ∃ k : Nat, k ≤ 4 ∧ i = i64 k ∧ l = i64 (farTo c k) ∧ Below (w.heap.size + 1) (w.alloc (.cells #[i64 c.s0, i64 c.k0, i64 c.s1, i64 c.k1, i64 c.s2, i64 c.k2, i64 c.s3, i64 c.k3, i64 c.m, i64 c.f] 29)) wr) (fun _ i _ => 4 - (intOf i).toNat)
  case atStart => exact ⟨0, by omega, rfl, rfl, Below.refl _ _⟩
  case round =>
    obtain ⟨k, hk, rfl, rfl, hb⟩ := hrel
    have HB := hid hb
    have hblk := blk_later hb (by omega) (blk_new w (.cells #[i64 c.s0, i64 c.k0, i64 c.s1, i64 c.k1, i64 c.s2, i64 c.k2, i64 c.s3, i64 c.k3, i64 c.m, i64 c.f] 29))
    have c0 : wr.cell? ⟨w.heap.size, 0, none⟩ = some (i64 c.s0) := cell_of_blk hblk 0
    have c1 : wr.cell? ⟨w.heap.size, 1, none⟩ = some (i64 c.k0) := cell_of_blk hblk 1
    have c2 : wr.cell? ⟨w.heap.size, 2, none⟩ = some (i64 c.s1) := cell_of_blk hblk 2
    have c3 : wr.cell? ⟨w.heap.size, 3, none⟩ = some (i64 c.k1) := cell_of_blk hblk 3
    have c4 : wr.cell? ⟨w.heap.size, 4, none⟩ = some (i64 c.s2) := cell_of_blk hblk 4
    have c5 : wr.cell? ⟨w.heap.size, 5, none⟩ = some (i64 c.k2) := cell_of_blk hblk 5
    have c6 : wr.cell? ⟨w.heap.size, 6, none⟩ = some (i64 c.s3) := cell_of_blk hblk 6
    have c7 : wr.cell? ⟨w.heap.size, 7, none⟩ = some (i64 c.k3) := cell_of_blk hblk 7
    have hz : w.heap.size < wr.heap.size := blk_lt hblk
    have hfar := farTo_in HH.out k hk
    have HFR := hid (show Below w.heap.size w wr from ((Below.refl _ w).alloc (Nat.le_refl _) _).trans (HB.out.mono (by omega)))
    clear hb hblk
    have h5 : k = 0 ∨ k = 1 ∨ k = 2 ∨ k = 3 ∨ k = 4 := by omega
    rcases h5 with rfl | rfl | rfl | rfl | rfl
    · have HFS := hid (show farTo c 1 = max (farTo c 0) (c.s0 * c.k0) from rfl)
      have hb := (show 0 ≤ c.s0 * c.k0 ∧ c.s0 * c.k0 ≤ 10000000 from HH.out 0 (by omega))
      obtain ⟨b0, b1⟩ := hb
      obtain ⟨F, hF⟩ : ∃ F, F = farTo c 0 := ⟨_, rfl⟩
      rw [← hF] at HFS hfar ⊢
      obtain ⟨x, hx⟩ : ∃ x, x = c.s0 * c.k0 := ⟨_, rfl⟩
      have HX := hid hx
      have HF := hid hF
      have HFS2 := hid (show farTo c 1 = max F x by rw [HFS.out, hx])
      clear hx hF
      go_wp2_with fail
      go_quiet (fail)
      all_goals go_wp2
      all_goals go_roundw
      all_goals first | exact ⟨1, by omega, by go_num, congrArg i64 (by have h1 := HX.out; have h2 := HFS2.out; omega), below_drewN HB.out _⟩ | ((repeat apply Exists.intro); exact ⟨⟨1, by omega, by go_num, congrArg i64 (by have h1 := HX.out; have h2 := HFS2.out; omega), below_drewN HB.out _⟩, rfl⟩) | (simp [intOf]; done)
    · have HFS := hid (show farTo c 2 = max (farTo c 1) (c.s1 * c.k1) from rfl)
      have hb := (show 0 ≤ c.s1 * c.k1 ∧ c.s1 * c.k1 ≤ 10000000 from HH.out 1 (by omega))
      obtain ⟨b0, b1⟩ := hb
      obtain ⟨F, hF⟩ : ∃ F, F = farTo c 1 := ⟨_, rfl⟩
      rw [← hF] at HFS hfar ⊢
      obtain ⟨x, hx⟩ : ∃ x, x = c.s1 * c.k1 := ⟨_, rfl⟩
      have HX := hid hx
      have HF := hid hF
      have HFS2 := hid (show farTo c 2 = max F x by rw [HFS.out, hx])
      clear hx hF
      go_wp2_with fail
      go_quiet (fail)
      all_goals go_wp2
      all_goals go_roundw
      all_goals first | exact ⟨2, by omega, by go_num, congrArg i64 (by have h1 := HX.out; have h2 := HFS2.out; omega), below_drewN HB.out _⟩ | ((repeat apply Exists.intro); exact ⟨⟨2, by omega, by go_num, congrArg i64 (by have h1 := HX.out; have h2 := HFS2.out; omega), below_drewN HB.out _⟩, rfl⟩) | (simp [intOf]; done)
    · have HFS := hid (show farTo c 3 = max (farTo c 2) (c.s2 * c.k2) from rfl)
      have hb := (show 0 ≤ c.s2 * c.k2 ∧ c.s2 * c.k2 ≤ 10000000 from HH.out 2 (by omega))
      obtain ⟨b0, b1⟩ := hb
      obtain ⟨F, hF⟩ : ∃ F, F = farTo c 2 := ⟨_, rfl⟩
      rw [← hF] at HFS hfar ⊢
      obtain ⟨x, hx⟩ : ∃ x, x = c.s2 * c.k2 := ⟨_, rfl⟩
      have HX := hid hx
      have HF := hid hF
      have HFS2 := hid (show farTo c 3 = max F x by rw [HFS.out, hx])
      clear hx hF
      go_wp2_with fail
      go_quiet (fail)
      all_goals go_wp2
      all_goals go_roundw
      all_goals first | exact ⟨3, by omega, by go_num, congrArg i64 (by have h1 := HX.out; have h2 := HFS2.out; omega), below_drewN HB.out _⟩ | ((repeat apply Exists.intro); exact ⟨⟨3, by omega, by go_num, congrArg i64 (by have h1 := HX.out; have h2 := HFS2.out; omega), below_drewN HB.out _⟩, rfl⟩) | (simp [intOf]; done)
    · have HFS := hid (show farTo c 4 = max (farTo c 3) (c.s3 * c.k3) from rfl)
      have hb := (show 0 ≤ c.s3 * c.k3 ∧ c.s3 * c.k3 ≤ 10000000 from HH.out 3 (by omega))
      obtain ⟨b0, b1⟩ := hb
      obtain ⟨F, hF⟩ : ∃ F, F = farTo c 3 := ⟨_, rfl⟩
      rw [← hF] at HFS hfar ⊢
      obtain ⟨x, hx⟩ : ∃ x, x = c.s3 * c.k3 := ⟨_, rfl⟩
      have HX := hid hx
      have HF := hid hF
      have HFS2 := hid (show farTo c 4 = max F x by rw [HFS.out, hx])
      clear hx hF
      go_wp2_with fail
      go_quiet (fail)
      all_goals go_wp2
      all_goals go_roundw
      all_goals first | exact ⟨4, by omega, by go_num, congrArg i64 (by have h1 := HX.out; have h2 := HFS2.out; omega), below_drewN HB.out _⟩ | ((repeat apply Exists.intro); exact ⟨⟨4, by omega, by go_num, congrArg i64 (by have h1 := HX.out; have h2 := HFS2.out; omega), below_drewN HB.out _⟩, rfl⟩) | (simp [intOf]; done)
    · have hb := (show 0 ≤ c.s0 * c.k0 ∧ c.s0 * c.k0 ≤ 10000000 from HH.out 0 (by omega))
      obtain ⟨b0, b1⟩ := hb
      go_wp2_with fail
      go_quiet (fail)
      go_wp2
      go_ret2
      exact ⟨rfl, below_drewN HFR.out _⟩
end Go.Proofs.Ythbbfjfekchdiaa
