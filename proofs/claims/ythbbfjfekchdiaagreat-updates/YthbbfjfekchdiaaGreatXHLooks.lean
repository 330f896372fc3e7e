import Derived.Test.YthbbfjfekchdiaaGreatXHKeepsP
import Derived.Deep.QuietTactic
import Derived.BigQuiet
namespace Go.Proofs.YthbbfjfekchdiaaGreat
open Go.RowKit
set_option linter.unusedSimpArgs false

/-- the marks of the n-th list of bytes, of numbers -/
def mkB (n : Nat) : List Value := [.int .u8 (200 + (n : Int) / 4 % 50)]
def mkI (n : Nat) : List Value := [i64 (-1000 - (n : Int) / 4)]

/-- a book of one kind: its row, its lists, each of them all marks -/
structure BookRow (w : World) (tr te size : Nat) (mk : Nat → List Value) (v : Value) (es : List Value) : Prop where
  row : w.ownsRow 0 tr 1 v es.length es
  one : ∀ (i : Nat) (u : Value), es[i]? = some u → ∃ n, w.ownsRow 0 te size u n (marks (mk i) n)

theorem BookRow.below {w w' : World} {tr te size : Nat} {mk : Nat → List Value} {v : Value} {es : List Value} (h : BookRow w tr te size mk v es) (hb : Below w.heap.size w w') : BookRow w' tr te size mk v es :=
  ⟨owns_below h.row hb, fun i u hu => by obtain ⟨n, x⟩ := h.one i u hu; exact ⟨n, owns_below x hb⟩⟩
theorem BookRow.nil (w : World) (tr te size : Nat) (mk : Nat → List Value) : BookRow w tr te size mk (.slice none 0 0) [] :=
  ⟨World.ownsRow_nil _ _ _ _, fun i u hu => by simp at hu⟩
/-- the i-th list: where it stands, and what it reads -/
theorem BookRow.at {w : World} {tr te size : Nat} {mk : Nat → List Value} {v : Value} {es : List Value} (h : BookRow w tr te size mk v es) (hmk : ∀ i, (mk i).length = size) {i : Nat} (hi : i < es.length) :
    ∃ g cap a n c, v = .slice (some ⟨g, 0, none⟩) es.length cap ∧ w.cell? ⟨g, i, none⟩ = some (.slice a n c) ∧ n ≤ maxLen ∧ ∀ j r u, j < n → (mk i)[r]? = some u → ∃ b, a = some ⟨b, 0, none⟩ ∧ w.cell? ⟨b, j * size + r, none⟩ = some u := by
  obtain ⟨u, hu⟩ : ∃ u, es[i]? = some u := ⟨_, List.getElem?_eq_getElem hi⟩
  obtain ⟨n, ho⟩ := h.one i u hu
  obtain ⟨g, cap, cur, hv, _, hb, ht, hs⟩ := owns_block h.row (by omega)
  have hc : w.cell? ⟨g, i, none⟩ = some u := by
    rw [cell_of_blk hb, ← hu, ← ht, List.getElem?_take_of_lt (by omega)]; simp
  obtain ⟨hl, ⟨rfl, h0⟩ | ⟨b, c, cu, rfl, _, hbb, hn, hm, hss, htt⟩⟩ := ho
  · exact ⟨g, cap, none, 0, 0, hv, hc, by unfold maxLen; omega, fun j r x hj => absurd hj (by omega)⟩
  · refine ⟨g, cap, some ⟨b, 0, none⟩, n, c, hv, hc, by omega, fun j r x hj hr => ⟨b, rfl, ?_⟩⟩
    have hr' : r < (mk i).length := by obtain ⟨y, _⟩ := List.getElem?_eq_some_iff.1 hr; exact y
    have hx := marks_at (mk i) n j r hj hr'
    rw [hr, hmk, ← htt] at hx
    rw [hmk] at hr'
    have hlt : j * size + r < n * size := by
      have := Nat.mul_le_mul_right size (show j + 1 ≤ n from hj)
      rw [Nat.succ_mul] at this
      omega
    rw [List.getElem?_take_of_lt hlt] at hx
    rw [cell_of_blk hbb]
    simpa using hx

set_option maxHeartbeats 1000000 in
theorem mark_any (n : Nat) (w : World) (hn : n ≤ 9223372036854775807) : Calls Tryz.prog 18 #[i64 n] w fun e w' => e = .returned (.int .u8 (200 + (n : Int) / 4 % 50)) ∧ w' = w := by
  have h1 : (0 : Int) ≤ (n : Int) / 4 := by omega
  have h2 : (0 : Int) ≤ (n : Int) / 4 % 50 := by omega
  have h3 : (n : Int) / 4 % 50 < 50 := by omega
  go_enter Tryz.func18, Tryz.ntmps18
  go_wp2
  go_ret
  exact ⟨rfl, rfl⟩

theorem i64_half (n : Nat) (h : n ≤ 140737488355328) : (n : Int) ≤ 140737488355328 := by omega

set_option maxRecDepth 4000 in
set_option maxHeartbeats 4000000 in
theorem looks_any (B : Nat) (c0 bv iv pv : Value) (bs is ps : List Value) (w : World) (hB : w.heap[B]? = some (.cells #[c0, bv, iv, pv] 35)) (hb : BookRow w 57 5 1 mkB bv bs) (hi : BookRow w 24 3 1 mkI iv is) (hp : BookRow w 41 48 2 mkP pv ps)
    (lb : bs.length ≤ 140737488355328) (li : is.length ≤ 140737488355328) (lp : ps.length ≤ 140737488355328) :
    Calls Tryz.prog 12 #[.pointer (some ⟨B, 1, none⟩)] w fun e w' => e = .returned (.bool true) ∧ Below w.heap.size w w' := by
  have HBB := hid hb
  have HII := hid hi
  have HPP := hid hp
  obtain ⟨ab, cb, rfl⟩ := slice_form hb.row
  obtain ⟨ai, ci, rfl⟩ := slice_form hi.row
  obtain ⟨ap, cp, rfl⟩ := slice_form hp.row
  have b1 : w.cell? ⟨B, 1, none⟩ = some (.slice ab bs.length cb) := cell_of_blk hB 1
  have b2 : w.cell? ⟨B, 2, none⟩ = some (.slice ai is.length ci) := cell_of_blk hB 2
  have b3 : w.cell? ⟨B, 3, none⟩ = some (.slice ap ps.length cp) := cell_of_blk hB 3
  have hBz : B < w.heap.size := blk_lt hB
  clear hb hi hp hB
  go_enter Tryz.func12, Tryz.ntmps12
  go_wp2
  go_loop [3] (fun i' => ∃ i : Nat, i ≤ bs.length ∧ i' = i64 i) (fun i' => bs.length - (intOf i').toNat)
  case atStart => exact ⟨0, by omega, rfl⟩
  case round =>
    obtain ⟨i, hi, rfl⟩ := hrel
    by_cases hlt : i < bs.length
    · obtain ⟨g, cap, a, n, c, hv, hc, hn, hr⟩ := HBB.out.at (fun _ => rfl) hlt
      simp only [Value.slice.injEq, true_and] at hv
      obtain ⟨rfl, rfl⟩ := hv
      have HR := hid hr
      have i0 : (0 : Int) ≤ (i : Int) := by omega
      have i1 : (i : Int) < (bs.length : Int) := by omega
      have hgz : g < w.heap.size := World.block_lt_of_cell? _ _ hc
      have hn2 : n ≤ 9223372036854775807 := by unfold maxLen at hn; omega
      clear hr hn
      go_wp2_with fail
      refine (mark_any i w (by omega)).mono ?_
      rintro e w' ⟨rfl, rfl⟩
      go_wp2
      go_loop [5] (fun j' => ∃ j : Nat, j ≤ n ∧ j' = i64 j) (fun j' => n - (intOf j').toNat)
      case atStart => exact ⟨0, by omega, rfl⟩
      case round =>
        obtain ⟨j, hj, rfl⟩ := hrel
        by_cases hjl : j < n
        · obtain ⟨b, rfl, hcell⟩ := HR.out j 0 _ hjl rfl
          have hcell' : w'.cell? ⟨b, j, none⟩ = some (.int .u8 (200 + (i : Int) / 4 % 50)) := by simpa using hcell
          have hbz : b < w'.heap.size := World.block_lt_of_cell? _ _ hcell'
          have j0 : (0 : Int) ≤ (j : Int) := by omega
          have j1 : (j : Int) < (n : Int) := by omega
          clear hcell
          go_wp2
          go_round
          case rel => exact ⟨j + 1, by omega, by go_num⟩
          case measure => simp [intOf]; omega
        · go_wp2
          go_round
          case rel => exact ⟨i + 1, by omega, by go_num⟩
          case measure => simp [intOf]; omega
    · go_wp2
      clear hlt hi
      go_loop [6] (fun i' => ∃ i : Nat, i ≤ is.length ∧ i' = i64 i) (fun i' => is.length - (intOf i').toNat)
      case atStart => exact ⟨0, by omega, rfl⟩
      case round =>
        obtain ⟨i, hi, rfl⟩ := hrel
        by_cases hlt : i < is.length
        · obtain ⟨g, cap, a, n, c, hv, hc, hn, hr⟩ := HII.out.at (fun _ => rfl) hlt
          simp only [Value.slice.injEq, true_and] at hv
          obtain ⟨rfl, rfl⟩ := hv
          have HR := hid hr
          have i0 : (0 : Int) ≤ (i : Int) := by omega
          have i1 : (i : Int) < (is.length : Int) := by omega
          have hgz : g < w.heap.size := World.block_lt_of_cell? _ _ hc
          have hn2 : n ≤ 9223372036854775807 := by unfold maxLen at hn; omega
          clear hr hn
          go_wp2
          go_loop [7] (fun j' => ∃ j : Nat, j ≤ n ∧ j' = i64 j) (fun j' => n - (intOf j').toNat)
          case atStart => exact ⟨0, by omega, rfl⟩
          case round =>
            obtain ⟨j, hj, rfl⟩ := hrel
            by_cases hjl : j < n
            · obtain ⟨b, rfl, hcell⟩ := HR.out j 0 _ hjl rfl
              have hcell' : w.cell? ⟨b, j, none⟩ = some (i64 (-1000 - (i : Int) / 4)) := by simpa using hcell
              have hbz : b < w.heap.size := World.block_lt_of_cell? _ _ hcell'
              have j0 : (0 : Int) ≤ (j : Int) := by omega
              have j1 : (j : Int) < (n : Int) := by omega
              clear hcell
              go_wp2
              go_round
              case rel => exact ⟨j + 1, by omega, by go_num⟩
              case measure => simp [intOf]; omega
            · go_wp2
              go_round
              case rel => exact ⟨i + 1, by omega, by go_num⟩
              case measure => simp [intOf]; omega
        · go_wp2
          clear hlt hi
          go_loopw [8] (fun i' wr => ∃ i : Nat, i ≤ ps.length ∧ i' = i64 i ∧ Below w.heap.size w wr) (fun i' _ => ps.length - (intOf i').toNat)
          case atStart => exact ⟨0, by omega, rfl, Below.refl _ _⟩
          case round =>
            obtain ⟨i, hi, rfl, hbel⟩ := hrel
            obtain ⟨wo, hwo⟩ : ∃ wo, wo = wr := ⟨_, rfl⟩
            subst hwo
            have HBel := hid hbel
            have z3 : wo.cell? ⟨B, 3, none⟩ = some (.slice ap ps.length cp) := cell_later hbel b3
            have hBo : B < wo.heap.size := World.block_lt_of_cell? _ _ z3
            have hzo := hbel.size
            clear hbel
            by_cases hlt : i < ps.length
            · obtain ⟨g, cap, a, n, c, hv, hc, hn, hr⟩ := (HPP.out.below HBel.out).at (fun _ => rfl) hlt
              simp only [Value.slice.injEq, true_and] at hv
              obtain ⟨rfl, rfl⟩ := hv
              have HR := hid hr
              have HC := hid hc
              have i0 : (0 : Int) ≤ (i : Int) := by omega
              have i1 : (i : Int) < (ps.length : Int) := by omega
              have hgz : g < wo.heap.size := World.block_lt_of_cell? _ _ hc
              have hn2 : n ≤ 9223372036854775807 := by unfold maxLen at hn; omega
              have Z3 := hid z3
              clear hr hn hc
              go_wp2
              clear z3
              go_loopw [10] (fun j' wx => ∃ j : Nat, j ≤ n ∧ j' = i64 j ∧ Below (wo.heap.size + 1) (wo.alloc (.cells #[i64 (-1000 - (i : Int) / 4), i64 0] 48)) wx) (fun j' _ => n - (intOf j').toNat)
              case atStart => exact ⟨0, by omega, rfl, Below.refl _ _⟩
              case round =>
                obtain ⟨j, hj, rfl, hbx⟩ := hrel
                have HBX := hid hbx
                have hbo : Below wo.heap.size wo wr := ((Below.refl _ wo).alloc (Nat.le_refl _) _).trans (hbx.mono (by omega))
                have HBO := hid hbo
                have hmb := blk_later hbx (by omega) (blk_new wo (.cells #[i64 (-1000 - (i : Int) / 4), i64 0] 48))
                have y0 : wr.cell? ⟨wo.heap.size, 0, none⟩ = some (i64 (-1000 - (i : Int) / 4)) := cell_of_blk hmb 0
                have y1 : wr.cell? ⟨wo.heap.size, 1, none⟩ = some (i64 0) := cell_of_blk hmb 1
                have hzx : wo.heap.size < wr.heap.size := blk_lt hmb
                have z3 : wr.cell? ⟨B, 3, none⟩ = some (.slice (some ⟨g, 0, none⟩) ps.length cp) := cell_later hbo Z3.out
                have zg : wr.cell? ⟨g, i, none⟩ = some (.slice a n c) := cell_later hbo HC.out
                have hBr : B < wr.heap.size := by omega
                have hgr : g < wr.heap.size := by omega
                have HEND := hid (show Below w.heap.size w wr from HBel.out.trans (hbo.mono hzo))
                clear hbx hbo hmb
                by_cases hjl : j < n
                · obtain ⟨b, rfl, hcell⟩ := HR.out j 0 _ hjl rfl
                  obtain ⟨b', hb', hcell2⟩ := HR.out j 1 _ hjl rfl
                  simp only [Option.some.injEq, Addr.mk.injEq, and_true] at hb'
                  subst hb'
                  have k0 : wr.cell? ⟨b, j * 2, none⟩ = some (i64 (-1000 - (i : Int) / 4)) := cell_later HBO.out hcell
                  have k1 : wr.cell? ⟨b, j * 2 + 1, none⟩ = some (i64 0) := cell_later HBO.out hcell2
                  have hbz : b < wr.heap.size := World.block_lt_of_cell? _ _ k0
                  have j0 : (0 : Int) ≤ (j : Int) := by omega
                  have j1 : (j : Int) < (n : Int) := by omega
                  clear hcell hcell2
                  go_wp2_with fail
                  go_quiet (fail)
                  go_wp2
                  go_roundw
                  case rel => first | exact ⟨j + 1, by omega, by go_num, below_drewN HBX.out _⟩ | ((repeat apply Exists.intro); exact ⟨⟨j + 1, by omega, by go_num, below_drewN HBX.out _⟩, rfl⟩)
                  case measure => simp [intOf]; omega
                · go_wp2
                  go_roundw
                  case rel => first | exact ⟨i + 1, by omega, by go_num, HEND.out⟩ | ((repeat apply Exists.intro); exact ⟨⟨i + 1, by omega, by go_num, HEND.out⟩, rfl⟩)
                  case measure => simp [intOf]; omega
            · go_wp2
              go_ret
              exact ⟨rfl, HBel.out⟩
end Go.Proofs.YthbbfjfekchdiaaGreat
