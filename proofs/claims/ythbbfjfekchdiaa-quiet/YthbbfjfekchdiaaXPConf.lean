import Derived.Test.YthbbfjfekchdiaaXPNum
namespace Go.Proofs.Ythbbfjfekchdiaa
open Go.RowKit
set_option linter.unusedSimpArgs false
attribute [local go_sem] Go.wp_at_zero Go.wp_at_succ

theorem ArcRow.length {c : Cfg} {k : Nat} {xs : List Value} (h : ArcRow c k xs) : xs.length = 2 * k := h.1
theorem ArcRow.at {c : Cfg} {k : Nat} {xs : List Value} (h : ArcRow c k xs) : ∀ j, j < k → xs[2 * j]? = some (i64 (c.s j)) ∧ ∃ ad, xs[2 * j + 1]? = some (.slice ad (c.k j).toNat (c.k j).toNat) := h.2

theorem repD_cells {w : World} {p : Nat} {c : Cfg} (h : RepD w p c) (h1 : 1 ≤ c.many) :
    ∃ g cap, w.heap[p]? = some (.cells #[.slice (some ⟨g, 0, none⟩) c.many cap, .iface (methT c.m) (.agg #[]), i64 c.f] 78) ∧
      ∀ j, j < c.many → w.cell? ⟨g, 2 * j, none⟩ = some (i64 (c.s j)) ∧ ∃ ad, w.cell? ⟨g, 2 * j + 1, none⟩ = some (.slice ad (c.k j).toNat (c.k j).toNat) := by
  obtain ⟨v, xs, hp, ho, ha⟩ := h
  obtain ⟨g, cap, cur, rfl, _, hg, ht, hs⟩ := owns_block ho (by omega)
  refine ⟨g, cap, hp, fun j hj => ?_⟩
  have hc : ∀ o, o < c.many * 2 → w.cell? ⟨g, o, none⟩ = xs[o]? := by
    intro o hlt
    rw [cell_of_blk hg o, ← ht, List.getElem?_take_of_lt hlt]
    simp
  obtain ⟨a, ad, b⟩ := ha.at j hj
  exact ⟨(hc _ (by omega)).trans a, ad, (hc _ (by omega)).trans b⟩

/-- Config's variable behind k rounds -/
def Cfg.part (c : Cfg) (k : Nat) : Array Value :=
  #[i64 (if 0 < k then c.s0 else 0), i64 (if 0 < k then c.k0 else 0), i64 (if 1 < k then c.s1 else 0), i64 (if 1 < k then c.k1 else 0), i64 (if 2 < k then c.s2 else 0), i64 (if 2 < k then c.k2 else 0), i64 (if 3 < k then c.s3 else 0), i64 (if 3 < k then c.k3 else 0), i64 c.m, i64 c.f]
theorem Cfg.part_all {c : Cfg} (h : c.Ok) : c.part c.many = c.cells := by
  have hz : ∀ i, i < 4 → ¬ i < c.many → c.Zero i := fun i h4 hn => (h.2.1 i h4).1 (by omega)
  have e : ∀ i, i < 4 → (if i < c.many then c.s i else 0) = c.s i ∧ (if i < c.many then c.k i else 0) = c.k i := by
    intro i h4
    by_cases x : i < c.many
    · simp [x]
    · have z := hz i h4 x; simp [x, z.1, z.2]
  have e0 := e 0 (by omega); have e1 := e 1 (by omega); have e2 := e 2 (by omega); have e3 := e 3 (by omega)
  simp only [Cfg.s, Cfg.k] at e0 e1 e2 e3
  unfold Cfg.part
  rw [e0.1, e0.2, e1.1, e1.2, e2.1, e2.2, e3.1, e3.2]

structure KConfI (c : Cfg) (w wr : World) (k : Nat) : Prop where
  old : Below w.heap.size w wr
  blkR : wr.heap[w.heap.size]? = some (.cells #[i64 0, i64 0, i64 0, i64 0, i64 0, i64 0, i64 0, i64 0, i64 0, i64 0] 29)
  blkC : wr.heap[w.heap.size + 1]? = some (.cells (c.part k) 29)

theorem ki_start (c : Cfg) (w : World) : KConfI c w ((w.alloc (.cells #[i64 0, i64 0, i64 0, i64 0, i64 0, i64 0, i64 0, i64 0, i64 0, i64 0] 29)).alloc (.cells #[i64 0, i64 0, i64 0, i64 0, i64 0, i64 0, i64 0, i64 0, i64 c.m, i64 c.f] 29)).drew 0 where
  old := (((Below.refl _ w).alloc (Nat.le_refl _) _).alloc (by simp) _).drew
  blkR := blk_alloc (blk_new w _)
  blkC := by
    have h := blk_new (w.alloc (.cells #[i64 0, i64 0, i64 0, i64 0, i64 0, i64 0, i64 0, i64 0, i64 0, i64 0] 29)) (.cells #[i64 0, i64 0, i64 0, i64 0, i64 0, i64 0, i64 0, i64 0, i64 c.m, i64 c.f] 29)
    have e : (w.alloc (.cells #[i64 0, i64 0, i64 0, i64 0, i64 0, i64 0, i64 0, i64 0, i64 0, i64 0] 29)).heap.size = w.heap.size + 1 := by simp
    rw [e] at h
    exact h

theorem ki_step {c : Cfg} {w wr wS : World} {k : Nat} {A : Obj} {a b : Int} (I : KConfI c w wr k) (hb : Below (wr.alloc A).heap.size (wr.alloc A) wS)
    (hp : ((c.part k).setIfInBounds (2 * k) (i64 a)).setIfInBounds (2 * k + 1) (i64 b) = c.part (k + 1)) :
    KConfI c w ((wS.setCell ⟨w.heap.size + 1, 2 * k, none⟩ (i64 a)).setCell ⟨w.heap.size + 1, 2 * k + 1, none⟩ (i64 b)) (k + 1) := by
  have hz := blk_lt I.blkC
  have e : (wr.alloc A).heap.size = wr.heap.size + 1 := by simp
  rw [e] at hb
  refine ⟨?_, ?_, ?_⟩
  · refine Below.setCell (p := ⟨w.heap.size + 1, 2 * k + 1, none⟩) (Below.setCell (p := ⟨w.heap.size + 1, 2 * k, none⟩) ?_ (Nat.le_succ _) _) (Nat.le_succ _) _
    exact (I.old.alloc (by omega) A).trans (hb.mono (by omega))
  · rw [blk_setCell_far (by show w.heap.size ≠ w.heap.size + 1; omega), blk_setCell_far (by show w.heap.size ≠ w.heap.size + 1; omega)]
    exact blk_later hb (by omega) (blk_alloc I.blkR)
  · rw [← hp]
    exact blk_setCell (blk_setCell (blk_later hb (by omega) (blk_alloc I.blkC)) _ _) _ _

set_option maxHeartbeats 2000000 in
theorem config_cells (c : Cfg) (p : Nat) (w : World) (h : c.Ok) (hr : ∃ g cap, w.heap[p]? = some (.cells #[.slice (some ⟨g, 0, none⟩) c.many cap, .iface (methT c.m) (.agg #[]), i64 c.f] 78) ∧
      ∀ j, j < c.many → w.cell? ⟨g, 2 * j, none⟩ = some (i64 (c.s j)) ∧ ∃ ad, w.cell? ⟨g, 2 * j + 1, none⟩ = some (.slice ad (c.k j).toNat (c.k j).toNat)) :
    Calls Try.prog 19 #[.pointer (some ⟨p, 0, none⟩)] w fun e w' => e = .returned (.agg c.cells) ∧ Below w.heap.size w w' := by
  have HP := hid (Cfg.part_all h)
  have HI := c.ok_iff.1 h
  obtain ⟨a1, a2⟩ := HI.1
  have hm1 := HI.2.2.1
  have HBD := hid (bdB_all HI.2.2.2.2.1)
  have h4 := c.many_le
  clear HI h
  obtain ⟨g, cap, hblk, hcells⟩ := hr
  have HC := hid hcells
  have d0 : w.cell? ⟨p, 0, none⟩ = some (.slice (some ⟨g, 0, none⟩) c.many cap) := cell_of_blk hblk 0
  have d1 : w.cell? ⟨p, 1, none⟩ = some (.iface (methT c.m) (.agg #[])) := cell_of_blk hblk 1
  have d2 : w.cell? ⟨p, 2, none⟩ = some (i64 c.f) := cell_of_blk hblk 2
  have hp := blk_lt hblk
  clear hblk hcells
  go_enter Try.func19, Try.ntmps19
  go_wp2_with fail
  go_region_held3 (fun w' => w'.cell? ⟨p, 1, none⟩ = some (.iface (methT c.m) (.agg #[])) ∧ w'.cell? ⟨p, 2, none⟩ = some (i64 c.f)) (go_keep) ((go_at_call 32; refine (number_any _ _ a1 a2).mono ?_; rintro e w' ⟨rfl, rfl⟩))
  all_goals go_wp2_with fail
  all_goals
    go_loopw [21] (fun i wr => ∃ k : Nat, k ≤ c.many ∧ i = i64 k ∧ KConfI c w wr k) (fun i _ => c.many - (intOf i).toNat)
    case atStart => exact ⟨0, by omega, rfl, ki_start c w⟩
    case round =>
      obtain ⟨k, hk, rfl, I⟩ := hrel
      have HI := hid I
      have hzC : w.heap.size + 1 < wr.heap.size := blk_lt I.blkC
      clear I
      by_cases hlt : k < c.many
      case neg =>
        have e : k = c.many := by omega
        subst e
        have HB := hid HI.out.old
        have bC := HI.out.blkC
        rw [HP.out] at bC
        have bR := HI.out.blkR
        have x0 : wr.cell? ⟨w.heap.size + 1, 0, none⟩ = some (i64 c.s0) := cell_of_blk bC 0
        have x1 : wr.cell? ⟨w.heap.size + 1, 1, none⟩ = some (i64 c.k0) := cell_of_blk bC 1
        have x2 : wr.cell? ⟨w.heap.size + 1, 2, none⟩ = some (i64 c.s1) := cell_of_blk bC 2
        have x3 : wr.cell? ⟨w.heap.size + 1, 3, none⟩ = some (i64 c.k1) := cell_of_blk bC 3
        have x4 : wr.cell? ⟨w.heap.size + 1, 4, none⟩ = some (i64 c.s2) := cell_of_blk bC 4
        have x5 : wr.cell? ⟨w.heap.size + 1, 5, none⟩ = some (i64 c.k2) := cell_of_blk bC 5
        have x6 : wr.cell? ⟨w.heap.size + 1, 6, none⟩ = some (i64 c.s3) := cell_of_blk bC 6
        have x7 : wr.cell? ⟨w.heap.size + 1, 7, none⟩ = some (i64 c.k3) := cell_of_blk bC 7
        have x8 : wr.cell? ⟨w.heap.size + 1, 8, none⟩ = some (i64 c.m) := cell_of_blk bC 8
        have x9 : wr.cell? ⟨w.heap.size + 1, 9, none⟩ = some (i64 c.f) := cell_of_blk bC 9
        have y0 : wr.cell? ⟨w.heap.size, 0, none⟩ = some (i64 0) := cell_of_blk bR 0
        have z0 : wr.frozen? ⟨w.heap.size, 0, none⟩ = false := frozen_of_blk bR 0
        have y1 : wr.cell? ⟨w.heap.size, 1, none⟩ = some (i64 0) := cell_of_blk bR 1
        have z1 : wr.frozen? ⟨w.heap.size, 1, none⟩ = false := frozen_of_blk bR 1
        have y2 : wr.cell? ⟨w.heap.size, 2, none⟩ = some (i64 0) := cell_of_blk bR 2
        have z2 : wr.frozen? ⟨w.heap.size, 2, none⟩ = false := frozen_of_blk bR 2
        have y3 : wr.cell? ⟨w.heap.size, 3, none⟩ = some (i64 0) := cell_of_blk bR 3
        have z3 : wr.frozen? ⟨w.heap.size, 3, none⟩ = false := frozen_of_blk bR 3
        have y4 : wr.cell? ⟨w.heap.size, 4, none⟩ = some (i64 0) := cell_of_blk bR 4
        have z4 : wr.frozen? ⟨w.heap.size, 4, none⟩ = false := frozen_of_blk bR 4
        have y5 : wr.cell? ⟨w.heap.size, 5, none⟩ = some (i64 0) := cell_of_blk bR 5
        have z5 : wr.frozen? ⟨w.heap.size, 5, none⟩ = false := frozen_of_blk bR 5
        have y6 : wr.cell? ⟨w.heap.size, 6, none⟩ = some (i64 0) := cell_of_blk bR 6
        have z6 : wr.frozen? ⟨w.heap.size, 6, none⟩ = false := frozen_of_blk bR 6
        have y7 : wr.cell? ⟨w.heap.size, 7, none⟩ = some (i64 0) := cell_of_blk bR 7
        have z7 : wr.frozen? ⟨w.heap.size, 7, none⟩ = false := frozen_of_blk bR 7
        have y8 : wr.cell? ⟨w.heap.size, 8, none⟩ = some (i64 0) := cell_of_blk bR 8
        have z8 : wr.frozen? ⟨w.heap.size, 8, none⟩ = false := frozen_of_blk bR 8
        have y9 : wr.cell? ⟨w.heap.size, 9, none⟩ = some (i64 0) := cell_of_blk bR 9
        have z9 : wr.frozen? ⟨w.heap.size, 9, none⟩ = false := frozen_of_blk bR 9
        have hzR : w.heap.size < wr.heap.size := blk_lt bR
        clear bC bR
        go_wp2
        refine bodyPost_ret (v := .agg #[i64 c.s0, i64 c.k0, i64 c.s1, i64 c.k1, i64 c.s2, i64 c.k2, i64 c.s3, i64 c.k3, i64 c.m, i64 c.f]) (by simp [results, Try.results19, go_sem, y0, y1, y2, y3, y4, y5, y6, y7, y8, y9, hzR]) rfl ⟨rfl, ?_⟩
        exact (Below.setCell (p := ⟨w.heap.size, 9, none⟩) (Below.setCell (p := ⟨w.heap.size, 8, none⟩) (Below.setCell (p := ⟨w.heap.size, 7, none⟩) (Below.setCell (p := ⟨w.heap.size, 6, none⟩) (Below.setCell (p := ⟨w.heap.size, 5, none⟩) (Below.setCell (p := ⟨w.heap.size, 4, none⟩) (Below.setCell (p := ⟨w.heap.size, 3, none⟩) (Below.setCell (p := ⟨w.heap.size, 2, none⟩) (Below.setCell (p := ⟨w.heap.size, 1, none⟩) (Below.setCell (p := ⟨w.heap.size, 0, none⟩) HB.out (Nat.le_refl w.heap.size) _) (Nat.le_refl w.heap.size) _) (Nat.le_refl w.heap.size) _) (Nat.le_refl w.heap.size) _) (Nat.le_refl w.heap.size) _) (Nat.le_refl w.heap.size) _) (Nat.le_refl w.heap.size) _) (Nat.le_refl w.heap.size) _) (Nat.le_refl w.heap.size) _) (Nat.le_refl w.heap.size) _)
      have h5 : k = 0 ∨ k = 1 ∨ k = 2 ∨ k = 3 := by omega
      rcases h5 with rfl | rfl | rfl | rfl
      · obtain ⟨q0, ad, q1⟩ := HC.out 0 hlt
        have hbd := HBD.out 0 hlt
        obtain ⟨n, hn⟩ : ∃ n, n = (c.k 0).toNat := ⟨_, rfl⟩
        have HN := hid (show (n : Int) = c.k0 by rw [hn]; exact Int.toNat_of_nonneg (by have := hbd.2.2.1; omega))
        rw [← hn] at q1
        have r0 : wr.cell? ⟨g, 0, none⟩ = some (i64 c.s0) := cell_later HI.out.old q0
        have r1 : wr.cell? ⟨g, 1, none⟩ = some (.slice ad n n) := cell_later HI.out.old q1
        clear q0 q1 hbd hn
        go_wp2_with fail
        refine (shape_any _ _ _ _).mono ?_
        rintro e wS ⟨rfl, hbS⟩
        have HS := hid (ki_step (k := 0) (a := c.s0) (b := n) HI.out hbS (by rw [HN.out]; rfl))
        have blkS := blk_later hbS (by simp; omega) (blk_alloc HI.out.blkC)
        have u0 : wS.cell? ⟨w.heap.size + 1, 0, none⟩ = some (i64 0) := (cell_of_blk blkS 0).trans rfl
        have u1 : wS.cell? ⟨w.heap.size + 1, 1, none⟩ = some (i64 0) := (cell_of_blk blkS 1).trans rfl
        have v0 : wS.frozen? ⟨w.heap.size + 1, 0, none⟩ = false := frozen_of_blk blkS 0
        have v1 : wS.frozen? ⟨w.heap.size + 1, 1, none⟩ = false := frozen_of_blk blkS 1
        have hzS : w.heap.size + 1 < wS.heap.size := blk_lt blkS
        clear hbS blkS
        go_wp2
        go_roundw
        case rel => first | exact ⟨1, by omega, by first | rfl | go_num, HS.out⟩ | ((repeat apply Exists.intro); exact ⟨⟨1, by omega, by first | rfl | go_num, HS.out⟩, rfl⟩)
        case measure => simp [intOf]; omega
      · obtain ⟨q0, ad, q1⟩ := HC.out 1 hlt
        have hbd := HBD.out 1 hlt
        obtain ⟨n, hn⟩ : ∃ n, n = (c.k 1).toNat := ⟨_, rfl⟩
        have HN := hid (show (n : Int) = c.k1 by rw [hn]; exact Int.toNat_of_nonneg (by have := hbd.2.2.1; omega))
        rw [← hn] at q1
        have r0 : wr.cell? ⟨g, 2, none⟩ = some (i64 c.s1) := cell_later HI.out.old q0
        have r1 : wr.cell? ⟨g, 3, none⟩ = some (.slice ad n n) := cell_later HI.out.old q1
        clear q0 q1 hbd hn
        go_wp2_with fail
        refine (shape_any _ _ _ _).mono ?_
        rintro e wS ⟨rfl, hbS⟩
        have HS := hid (ki_step (k := 1) (a := c.s1) (b := n) HI.out hbS (by rw [HN.out]; rfl))
        have blkS := blk_later hbS (by simp; omega) (blk_alloc HI.out.blkC)
        have u0 : wS.cell? ⟨w.heap.size + 1, 2, none⟩ = some (i64 0) := (cell_of_blk blkS 2).trans rfl
        have u1 : wS.cell? ⟨w.heap.size + 1, 3, none⟩ = some (i64 0) := (cell_of_blk blkS 3).trans rfl
        have v0 : wS.frozen? ⟨w.heap.size + 1, 2, none⟩ = false := frozen_of_blk blkS 2
        have v1 : wS.frozen? ⟨w.heap.size + 1, 3, none⟩ = false := frozen_of_blk blkS 3
        have hzS : w.heap.size + 1 < wS.heap.size := blk_lt blkS
        clear hbS blkS
        go_wp2
        go_roundw
        case rel => first | exact ⟨2, by omega, by first | rfl | go_num, HS.out⟩ | ((repeat apply Exists.intro); exact ⟨⟨2, by omega, by first | rfl | go_num, HS.out⟩, rfl⟩)
        case measure => simp [intOf]; omega
      · obtain ⟨q0, ad, q1⟩ := HC.out 2 hlt
        have hbd := HBD.out 2 hlt
        obtain ⟨n, hn⟩ : ∃ n, n = (c.k 2).toNat := ⟨_, rfl⟩
        have HN := hid (show (n : Int) = c.k2 by rw [hn]; exact Int.toNat_of_nonneg (by have := hbd.2.2.1; omega))
        rw [← hn] at q1
        have r0 : wr.cell? ⟨g, 4, none⟩ = some (i64 c.s2) := cell_later HI.out.old q0
        have r1 : wr.cell? ⟨g, 5, none⟩ = some (.slice ad n n) := cell_later HI.out.old q1
        clear q0 q1 hbd hn
        go_wp2_with fail
        refine (shape_any _ _ _ _).mono ?_
        rintro e wS ⟨rfl, hbS⟩
        have HS := hid (ki_step (k := 2) (a := c.s2) (b := n) HI.out hbS (by rw [HN.out]; rfl))
        have blkS := blk_later hbS (by simp; omega) (blk_alloc HI.out.blkC)
        have u0 : wS.cell? ⟨w.heap.size + 1, 4, none⟩ = some (i64 0) := (cell_of_blk blkS 4).trans rfl
        have u1 : wS.cell? ⟨w.heap.size + 1, 5, none⟩ = some (i64 0) := (cell_of_blk blkS 5).trans rfl
        have v0 : wS.frozen? ⟨w.heap.size + 1, 4, none⟩ = false := frozen_of_blk blkS 4
        have v1 : wS.frozen? ⟨w.heap.size + 1, 5, none⟩ = false := frozen_of_blk blkS 5
        have hzS : w.heap.size + 1 < wS.heap.size := blk_lt blkS
        clear hbS blkS
        go_wp2
        go_roundw
        case rel => first | exact ⟨3, by omega, by first | rfl | go_num, HS.out⟩ | ((repeat apply Exists.intro); exact ⟨⟨3, by omega, by first | rfl | go_num, HS.out⟩, rfl⟩)
        case measure => simp [intOf]; omega
      · obtain ⟨q0, ad, q1⟩ := HC.out 3 hlt
        have hbd := HBD.out 3 hlt
        obtain ⟨n, hn⟩ : ∃ n, n = (c.k 3).toNat := ⟨_, rfl⟩
        have HN := hid (show (n : Int) = c.k3 by rw [hn]; exact Int.toNat_of_nonneg (by have := hbd.2.2.1; omega))
        rw [← hn] at q1
        have r0 : wr.cell? ⟨g, 6, none⟩ = some (i64 c.s3) := cell_later HI.out.old q0
        have r1 : wr.cell? ⟨g, 7, none⟩ = some (.slice ad n n) := cell_later HI.out.old q1
        clear q0 q1 hbd hn
        go_wp2_with fail
        refine (shape_any _ _ _ _).mono ?_
        rintro e wS ⟨rfl, hbS⟩
        have HS := hid (ki_step (k := 3) (a := c.s3) (b := n) HI.out hbS (by rw [HN.out]; rfl))
        have blkS := blk_later hbS (by simp; omega) (blk_alloc HI.out.blkC)
        have u0 : wS.cell? ⟨w.heap.size + 1, 6, none⟩ = some (i64 0) := (cell_of_blk blkS 6).trans rfl
        have u1 : wS.cell? ⟨w.heap.size + 1, 7, none⟩ = some (i64 0) := (cell_of_blk blkS 7).trans rfl
        have v0 : wS.frozen? ⟨w.heap.size + 1, 6, none⟩ = false := frozen_of_blk blkS 6
        have v1 : wS.frozen? ⟨w.heap.size + 1, 7, none⟩ = false := frozen_of_blk blkS 7
        have hzS : w.heap.size + 1 < wS.heap.size := blk_lt blkS
        clear hbS blkS
        go_wp2
        go_roundw
        case rel => first | exact ⟨4, by omega, by first | rfl | go_num, HS.out⟩ | ((repeat apply Exists.intro); exact ⟨⟨4, by omega, by first | rfl | go_num, HS.out⟩, rfl⟩)
        case measure => simp [intOf]; omega
theorem config_any (c : Cfg) (p : Nat) (w : World) (h : c.Ok) (hr : RepD w p c) :
    Calls Try.prog 19 #[.pointer (some ⟨p, 0, none⟩)] w fun e w' => e = .returned (.agg c.cells) ∧ Below w.heap.size w w' :=
  config_cells c p w h (repD_cells hr (c.ok_iff.1 h).2.2.1)
end Go.Proofs.Ythbbfjfekchdiaa
