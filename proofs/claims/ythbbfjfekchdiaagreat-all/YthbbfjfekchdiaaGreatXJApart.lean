import Derived.Test.YthbbfjfekchdiaaGreatXJOne
import Derived.Test.YthbbfjfekchdiaaGreatXHAmong
import Derived.Deep.DeepCutAuto
import Derived.Deep.RegionHeld3
import Derived.BigQuiet
import Derived.Deep.RegionWith
namespace Go.Proofs.YthbbfjfekchdiaaGreat
open Go.RowKit
set_option linter.unusedSimpArgs false
attribute [local go_sem] Go.wp_at_zero Go.wp_at_succ
def Shp (w : World) (u : Value) : Prop := ∃ m, m ≤ maxLen ∧ ((u = .slice none 0 0 ∧ m = 0) ∨ ∃ b c cur, u = .slice (some ⟨b, 0, none⟩) m c ∧ w.heap[b]? = some (.cells cur 5) ∧ m ≤ cur.size)
def Mkd (w : World) (i : Nat) (u : Value) : Prop := ∀ b m c, u = .slice (some ⟨b, 0, none⟩) m c → ∀ j, j < m → w.cell? ⟨b, j, none⟩ = some (.int .u8 (200 + (i : Int) / 4 % 50))
structure ASt (w wr : World) (B g : Nat) (gcur : Array Value) (wobj : Array Value) (bs : List Value) : Prop where
  hb : wr.heap[B]? = some (.cells wobj 35)
  hg : wr.heap[g]? = some (.cells gcur 57)
  shp : ∀ (i : Nat) (u : Value), bs[i]? = some u → Shp wr u
  fr : Fr (fun k => ∃ (i : Nat) (u : Value), bs[i]? = some u ∧ u.ownBlock = some k) w wr
theorem Shp.set {w : World} {u : Value} (h : Shp w u) (b j : Nat) (x : Value) : Shp (w.setCell ⟨b, j, none⟩ x) u := by
  obtain ⟨m, hm, h⟩ := h
  refine ⟨m, hm, ?_⟩
  rcases h with h | ⟨b', c, cur, h1, h2, h3⟩
  · exact .inl h
  · by_cases e : b' = b
    · subst e
      exact .inr ⟨b', c, _, h1, blk_setCell h2 j x, by simpa using h3⟩
    · exact .inr ⟨b', c, cur, h1, (blk_setCell_far (a := ⟨b, j, none⟩) e).trans h2, h3⟩
theorem ASt.set {w wr : World} {B g : Nat} {gcur wobj : Array Value} {bs : List Value} (h : ASt w wr B g gcur wobj bs) {i b m c : Nat} {cur : Array Value} (hi : bs[i]? = some (.slice (some ⟨b, 0, none⟩) m c)) (hb : wr.heap[b]? = some (.cells cur 5)) (j : Nat) (x : Value) : ASt w (wr.setCell ⟨b, j, none⟩ x) B g gcur wobj bs := by
  have nB : B ≠ b := fun e => by have := h.hb; rw [e, hb] at this; cases this
  have ng : g ≠ b := fun e => by have := h.hg; rw [e, hb] at this; cases this
  exact ⟨(blk_setCell_far (a := ⟨b, j, none⟩) nB).trans h.hb, (blk_setCell_far (a := ⟨b, j, none⟩) ng).trans h.hg, fun i' u hu => (h.shp i' u hu).set b j x, h.fr.setCell ⟨i, _, hi, rfl⟩ j x⟩
theorem ASt.later {w wr wq : World} {B g : Nat} {gcur wobj : Array Value} {bs : List Value} (h : ASt w wr B g gcur wobj bs) (hb : Below wr.heap.size wr wq) : ASt w wq B g gcur wobj bs := by
  refine ⟨blk_later hb (blk_lt h.hb) h.hb, blk_later hb (blk_lt h.hg) h.hg, fun i u hu => ?_, h.fr.trans (Fr.below (In := fun _ => False) hb) fun _ x => x.elim⟩
  obtain ⟨m, hm, x⟩ := h.shp i u hu
  refine ⟨m, hm, ?_⟩
  rcases x with x | ⟨b, c, cur, h1, h2, h3⟩
  · exact .inl x
  · exact .inr ⟨b, c, cur, h1, blk_later hb (blk_lt h2) h2, h3⟩
theorem ASt.drew {w wr : World} {B g : Nat} {gcur wobj : Array Value} {bs : List Value} (h : ASt w wr B g gcur wobj bs) (n : Nat) : ASt w (wr.drewN n) B g gcur wobj bs := h.later (below_drewN (Below.refl wr.heap.size wr) n)
theorem Mkd.later {w wq : World} {i : Nat} {u : Value} (h : Mkd w i u) (hb : Below w.heap.size w wq) : Mkd wq i u := fun b m c e j hj => cell_later hb (h b m c e j hj)
theorem Mkd.drew {w : World} {i : Nat} {u : Value} (h : Mkd w i u) (n : Nat) : Mkd (w.drewN n) i u := h.later (below_drewN (Below.refl w.heap.size w) n)
theorem Mkd.far {w : World} {i : Nat} {u : Value} (h : Mkd w i u) {b j : Nat} {x : Value} (hb : u.ownBlock ≠ some b) : Mkd (w.setCell ⟨b, j, none⟩ x) i u := fun b' m c e j' hj => by
  have hne : b ≠ b' := fun e' => hb (by rw [e, e']; rfl)
  rw [World.cell?_setCell_far w ⟨b, j, none⟩ ⟨b', j', none⟩ x hne]
  exact h b' m c e j' hj
theorem cell_mark {w : World} {b j b' j' : Nat} {x : Value} {cur : Array Value} {t : TypeId} (hb : w.heap[b]? = some (.cells cur t)) (h : w.cell? ⟨b', j', none⟩ = some x) : (w.setCell ⟨b, j, none⟩ x).cell? ⟨b', j', none⟩ = some x := by
  by_cases e : b = b'
  · subst e
    rw [cell_of_blk (blk_setCell hb j x), Array.getElem?_setIfInBounds]
    have h2 := h
    rw [cell_of_blk hb] at h2
    obtain ⟨hlt, _⟩ := Array.getElem?_eq_some_iff.1 h2
    by_cases e2 : j = j'
    · subst e2
      rw [if_pos rfl, if_pos hlt]
    · rw [if_neg e2]; exact h2
  · rw [World.cell?_setCell_far w ⟨b, j, none⟩ ⟨b', j', none⟩ x e]
    exact h
theorem Mkd.same {w : World} {i i' : Nat} {u : Value} (h : Mkd w i u) {b j : Nat} {cur : Array Value} {t : TypeId} (hb : w.heap[b]? = some (.cells cur t)) (hii : i / 4 = i' / 4) : Mkd (w.setCell ⟨b, j, none⟩ (.int .u8 (200 + (i' : Int) / 4 % 50))) i u := fun b' m c e j' hj => by
  have hv : (200 + (i : Int) / 4 % 50) = (200 + (i' : Int) / 4 % 50) := by omega
  rw [hv]
  refine cell_mark hb ?_
  rw [← hv]
  exact h b' m c e j' hj
theorem shp_of {w : World} {base n : Nat} {u : Value} {xs : List Value} (h : w.ownsRow base 5 1 u n xs) : Shp w u := by
  obtain ⟨hl, ⟨h, h0⟩ | ⟨g, cap, cur, hv, _, hblk, hcap, hm, hsz, ht⟩⟩ := h
  · exact ⟨0, by unfold maxLen; omega, .inl ⟨h, rfl⟩⟩
  · exact ⟨n, by omega, .inr ⟨g, cap, cur, hv, hblk, by omega⟩⟩
theorem mkd_of {w : World} {base n i : Nat} {u : Value} (h : w.ownsRow base 5 1 u n (marks (mkB i) n)) : Mkd w i u := by
  intro b m c e j hj
  obtain ⟨hl, ⟨h, h0⟩ | ⟨g, cap, cur, hv, _, hblk, hcap, hm, hsz, ht⟩⟩ := h
  · rw [e] at h; cases h
  · rw [e] at hv
    cases hv
    have hx := marks_at (mkB i) _ j 0 hj (by simp [mkB])
    rw [cell_of_blk hblk]
    rw [← ht, List.getElem?_take_of_lt (by simp [mkB]; omega)] at hx
    simp [mkB] at hx
    rw [hx]
theorem Shp.form {w : World} {u : Value} (h : Shp w u) : ∃ a m c, u = .slice a m c ∧ m ≤ maxLen ∧ ∀ j, j < m → ∃ b cur, a = some ⟨b, 0, none⟩ ∧ w.heap[b]? = some (.cells cur 5) ∧ m ≤ cur.size := by
  obtain ⟨m, hm, h⟩ := h
  rcases h with ⟨rfl, rfl⟩ | ⟨b, c, cur, rfl, h2, h3⟩
  · exact ⟨none, 0, 0, rfl, by unfold maxLen; omega, fun j hj => absurd hj (by omega)⟩
  · exact ⟨_, m, c, rfl, hm, fun j _ => ⟨b, cur, rfl, h2, h3⟩⟩
theorem ASt.at {w wr : World} {B g : Nat} {gcur wobj : Array Value} {bs : List Value} (h : ASt w wr B g gcur wobj bs) (ht : gcur.toList.take bs.length = bs) {i : Nat} {u : Value} (hi : bs[i]? = some u) : wr.cell? ⟨g, i, none⟩ = some u := by
  have hlt : i < bs.length := by obtain ⟨x, _⟩ := List.getElem?_eq_some_iff.1 hi; exact x
  rw [cell_of_blk h.hg, ← hi]
  have e := List.getElem?_take_of_lt (l := gcur.toList) hlt
  rw [ht] at e
  rw [e]; simp
theorem ASt.book {w wr : World} {B g : Nat} {gcur wobj : Array Value} {bs : List Value} (h : ASt w wr B g gcur wobj bs) {v : Value} (hv : wobj[1]? = some v) : wr.cell? ⟨B, 1, none⟩ = some v := (cell_of_blk h.hb 1).trans hv
end Go.Proofs.YthbbfjfekchdiaaGreat
namespace Go.Proofs.YthbbfjfekchdiaaGreat
open Go.RowKit
set_option linter.unusedSimpArgs false
attribute [local go_sem] Go.wp_at_zero Go.wp_at_succ
set_option maxRecDepth 100000 in
set_option maxHeartbeats 4000000 in
theorem apart_core (B g N cap : Nat) (gcur wobj : Array Value) (bs : List Value) (w : World) (hN : N = bs.length) (hN4 : N % 4 = 0) (hNs : N ≤ 1000000000000000) (hap : Ap bs) (hw1 : wobj[1]? = some (.slice (some ⟨g, 0, none⟩) N cap)) (ht : gcur.toList.take bs.length = bs) (hA : ASt w w B g gcur wobj bs) (hM : ∀ (i : Nat) (u : Value), bs[i]? = some u → Mkd w i u) :
    Calls Tryz.prog 13 #[.pointer (some ⟨B, 1, none⟩)] w fun e w' => e = .returned (.bool true) ∧ ∃ wz, w' = wz ∧ ASt w wz B g gcur wobj bs := by
  have HN := hid hN
  have HAP := hid hap
  have HW1 := hid hw1
  have HT := hid ht
  have HA := hid hA
  have HM := hid hM
  clear hN hap hw1 ht hA hM
  go_enter Tryz.func13, Tryz.ntmps13
  go_wp2
  go_loopw [3] (fun i' wr => ∃ n : Nat, n ≤ N ∧ n % 4 = 0 ∧ i' = i64 n ∧ ASt w wr B g gcur wobj bs ∧ ∀ (i : Nat) (u : Value), bs[i]? = some u → Mkd wr i u) (fun i' _ => N - (intOf i').toNat)
  case atStart => exact ⟨0, by omega, rfl, rfl, HA.out, HM.out⟩
  case round =>
    obtain ⟨n, hn, hn4, rfl, hS, hK⟩ := hrel
    clear HA HM
    have HS := hid hS
    have HK := hid hK
    have z1 : wr.cell? ⟨B, 1, none⟩ = some (.slice (some ⟨g, 0, none⟩) N cap) := hS.book HW1.out
    have hBz : B < wr.heap.size := blk_lt hS.hb
    clear hS hK
    by_cases hlt : n < N
    case neg =>
      go_wp2
      go_ret
      exact ⟨rfl, _, rfl, HS.out⟩
    have hlt4 : n + 4 ≤ N := by omega
    go_wp2
    clear z1 hBz
    go_loopw [4] (fun i' wx => ∃ i : Nat, n ≤ i ∧ i ≤ n + 4 ∧ i' = i64 i ∧ ASt w wx B g gcur wobj bs ∧ ∀ (k : Nat) (u : Value), bs[k]? = some u → k / 4 ≠ n / 4 → Mkd wx k u) (fun i' _ => n + 4 - (intOf i').toNat)
    case atStart => exact ⟨n, by omega, by omega, rfl, HS.out, fun k u hu _ => HK.out k u hu⟩
    case round =>
      obtain ⟨i, hi1, hi2, rfl, hS, hK⟩ := hrel
      clear HS HK
      have HS := hid hS
      have HK := hid hK
      clear hS hK
      by_cases hi4 : i < n + 4
      · obtain ⟨u, hu⟩ : ∃ u, bs[i]? = some u := ⟨_, List.getElem?_eq_getElem (by have := HN.out; omega)⟩
        obtain ⟨a, m, c, rfl, hm, _⟩ := (HS.out.shp i u hu).form
        have HU := hid hu
        have hm2 : m ≤ 9223372036854775807 := by unfold maxLen at hm; omega
        clear hu hm
        go_wp2
        go_loopw [5] (fun j' wx => ∃ j : Nat, j ≤ m ∧ j' = i64 j ∧ ASt w wx B g gcur wobj bs ∧ ∀ (k : Nat) (u : Value), bs[k]? = some u → k / 4 ≠ n / 4 → Mkd wx k u) (fun j' _ => m - (intOf j').toNat)
        case atStart => exact ⟨0, by omega, rfl, HS.out, HK.out⟩
        case round =>
          obtain ⟨j, hj, rfl, hS, hK⟩ := hrel
          clear HS HK
          have HS := hid hS
          have HK := hid hK
          have z1 : wr.cell? ⟨B, 1, none⟩ = some (.slice (some ⟨g, 0, none⟩) N cap) := hS.book HW1.out
          have z2 : wr.cell? ⟨g, i, none⟩ = some (.slice a m c) := hS.at HT.out HU.out
          have hBz : B < wr.heap.size := blk_lt hS.hb
          have hgz : g < wr.heap.size := blk_lt hS.hg
          have i0 : (0 : Int) ≤ (i : Int) := by omega
          have i1 : (i : Int) < (N : Int) := by omega
          clear hS hK
          by_cases hjl : j < m
          · obtain ⟨b, cur, rfl, hblk, hmc⟩ : ∃ b cur, a = some ⟨b, 0, none⟩ ∧ wr.heap[b]? = some (.cells cur 5) ∧ m ≤ cur.size := by
              obtain ⟨a', m', c', e, _, h⟩ := (HS.out.shp i _ HU.out).form
              cases e
              exact h j hjl
            obtain ⟨x0, hx0⟩ : ∃ x, wr.cell? ⟨b, j, none⟩ = some x := ⟨_, by rw [cell_of_blk hblk, Array.getElem?_eq_getElem (by omega)]⟩
            have f0 : wr.frozen? ⟨b, j, none⟩ = false := frozen_of_blk hblk _
            have hbz : b < wr.heap.size := blk_lt hblk
            have j0 : (0 : Int) ≤ (j : Int) := by omega
            have j1 : (j : Int) < (m : Int) := by omega
            have HNX := hid (show ASt w (wr.setCell ⟨b, j, none⟩ (.int .u8 7)) B g gcur wobj bs ∧ ∀ (k : Nat) (u : Value), bs[k]? = some u → k / 4 ≠ n / 4 → Mkd (wr.setCell ⟨b, j, none⟩ (.int .u8 7)) k u from
              ⟨HS.out.set HU.out hblk _ _, fun k u hu hk => (HK.out k u hu hk).far fun e => hk (by
                have := HAP.out k i u _ b hu HU.out e rfl
                omega)⟩)
            clear hblk hmc
            go_wp2
            go_roundw
            case rel => first | exact ⟨j + 1, by omega, by go_num, HNX.out⟩ | ((repeat apply Exists.intro); exact ⟨⟨j + 1, by omega, by go_num, HNX.out⟩, rfl⟩)
            case measure => simp [intOf]; omega
          · go_wp2
            go_roundw
            case rel => first | exact ⟨i + 1, by omega, by omega, by go_num, HS.out, HK.out⟩ | ((repeat apply Exists.intro); exact ⟨⟨i + 1, by omega, by omega, by go_num, HS.out, HK.out⟩, rfl⟩)
            case measure => simp [intOf]; omega
      · have hi5 : n + 4 ≤ i := by omega
        go_wp2
        clear hi1 hi2 hi4 hi5
        obtain ⟨wb, hwb⟩ : ∃ wb, wb = wr := ⟨_, rfl⟩
        subst hwb
        go_loopw [6] (fun i' wx => ∃ i : Nat, i ≤ N ∧ i' = i64 i ∧ ASt w wx B g gcur wobj bs ∧ ∀ (k : Nat) (u : Value), bs[k]? = some u → k / 4 ≠ n / 4 → Mkd wx k u) (fun i' _ => N - (intOf i').toNat)
        case atStart => exact ⟨0, by omega, rfl, HS.out, HK.out⟩
        case round =>
          obtain ⟨i, hi1, rfl, hS, hK⟩ := hrel
          clear HS HK
          have HS := hid hS
          have HK := hid hK
          have z1 : wr.cell? ⟨B, 1, none⟩ = some (.slice (some ⟨g, 0, none⟩) N cap) := hS.book HW1.out
          have hBz : B < wr.heap.size := blk_lt hS.hb
          have hgz : g < wr.heap.size := blk_lt hS.hg
          clear hS hK
          have HRD := hid (fun (q : Nat) => show ASt w (wr.drewN q) B g gcur wobj bs ∧ ∀ (k : Nat) (u : Value), bs[k]? = some u → k / 4 ≠ n / 4 → Mkd (wr.drewN q) k u from ⟨HS.out.drew q, fun k u hu hk => (HK.out k u hu hk).drew q⟩)
          by_cases hiN : i < N
          · obtain ⟨u, hu⟩ : ∃ u, bs[i]? = some u := ⟨_, List.getElem?_eq_getElem (by have := HN.out; omega)⟩
            obtain ⟨a, m, c, rfl, hm, hbl⟩ := (HS.out.shp i u hu).form
            have HU := hid hu
            have hm2 : m ≤ 9223372036854775807 := by unfold maxLen at hm; omega
            have z2 : wr.cell? ⟨g, i, none⟩ = some (.slice a m c) := HS.out.at HT.out HU.out
            have i0 : (0 : Int) ≤ (i : Int) := by omega
            have i1 : (i : Int) < (N : Int) := by omega
            clear hu hm
            by_cases hin : i < n
            · have d1 : decide ((i : Int) < (n : Int)) = true := decide_eq_true (by omega)
              by_cases hm0 : 0 < m
              · have d3 : decide ((m : Int) > 0) = true := decide_eq_true (by omega)
                obtain ⟨b, cur, rfl, hblk, hmc⟩ := hbl 0 hm0
                have hmk := HK.out i _ HU.out (by omega) b m c rfl
                obtain ⟨mv, hmv⟩ : ∃ mv : Int, mv = 200 + (i : Int) / 4 % 50 := ⟨_, rfl⟩
                rw [← hmv] at hmk
                have k0 : wr.cell? ⟨b, 0, none⟩ = some (.int .u8 mv) := hmk 0 hm0
                have k1 : wr.cell? ⟨b, m - 1, none⟩ = some (.int .u8 mv) := hmk (m - 1) (by omega)
                have d4 : decide (mv = 7) = false := decide_eq_false (by omega)
                have d5 : (mv == 7) = false := by simp; omega
                have d6 : ¬ mv = 7 := by omega
                have e1 : ((m : Int) - 1).toNat = m - 1 := by omega
                have m0 : (0 : Int) ≤ (m : Int) - 1 := by omega
                have m1 : (m : Int) - 1 < (m : Int) := by omega
                have m2 : (0 : Int) < (m : Int) := by omega
                have hbz : b < wr.heap.size := blk_lt hblk
                clear hbl hmk hblk hmc hmv
                go_wp2_with fail
                go_quiet (fail)
                go_wp2
                go_roundw
                case rel => first | exact ⟨i + 1, by omega, by go_num, HRD.out _⟩ | ((repeat apply Exists.intro); exact ⟨⟨i + 1, by omega, by go_num, HRD.out _⟩, rfl⟩)
                case measure => simp [intOf]; omega
              · have d3 : decide ((m : Int) > 0) = false := decide_eq_false (by omega)
                clear hbl
                go_wp2_with fail
                go_quiet (fail)
                go_wp2
                go_roundw
                case rel => first | exact ⟨i + 1, by omega, by go_num, HRD.out _⟩ | ((repeat apply Exists.intro); exact ⟨⟨i + 1, by omega, by go_num, HRD.out _⟩, rfl⟩)
                case measure => simp [intOf]; omega
            · have d1 : decide ((i : Int) < (n : Int)) = false := decide_eq_false (by omega)
              by_cases hi4 : i < n + 4
              · have d2 : decide ((i : Int) ≥ (n : Int) + 4) = false := decide_eq_false (by omega)
                clear hbl
                go_wp2_with fail
                go_quiet (fail)
                go_wp2
                go_roundw
                case rel => first | exact ⟨i + 1, by omega, by go_num, HRD.out _⟩ | ((repeat apply Exists.intro); exact ⟨⟨i + 1, by omega, by go_num, HRD.out _⟩, rfl⟩)
                case measure => simp [intOf]; omega
              · have d2 : decide ((i : Int) ≥ (n : Int) + 4) = true := decide_eq_true (by omega)
                by_cases hm0 : 0 < m
                · have d3 : decide ((m : Int) > 0) = true := decide_eq_true (by omega)
                  obtain ⟨b, cur, rfl, hblk, hmc⟩ := hbl 0 hm0
                  have hmk := HK.out i _ HU.out (by omega) b m c rfl
                  obtain ⟨mv, hmv⟩ : ∃ mv : Int, mv = 200 + (i : Int) / 4 % 50 := ⟨_, rfl⟩
                  rw [← hmv] at hmk
                  have k0 : wr.cell? ⟨b, 0, none⟩ = some (.int .u8 mv) := hmk 0 hm0
                  have k1 : wr.cell? ⟨b, m - 1, none⟩ = some (.int .u8 mv) := hmk (m - 1) (by omega)
                  have d4 : decide (mv = 7) = false := decide_eq_false (by omega)
                  have d5 : (mv == 7) = false := by simp; omega
                  have d6 : ¬ mv = 7 := by omega
                  have e1 : ((m : Int) - 1).toNat = m - 1 := by omega
                  have m0 : (0 : Int) ≤ (m : Int) - 1 := by omega
                  have m1 : (m : Int) - 1 < (m : Int) := by omega
                  have m2 : (0 : Int) < (m : Int) := by omega
                  have hbz : b < wr.heap.size := blk_lt hblk
                  clear hbl hmk hblk hmc hmv
                  go_wp2_with fail
                  go_quiet (fail)
                  go_wp2
                  go_roundw
                  case rel => first | exact ⟨i + 1, by omega, by go_num, HRD.out _⟩ | ((repeat apply Exists.intro); exact ⟨⟨i + 1, by omega, by go_num, HRD.out _⟩, rfl⟩)
                  case measure => simp [intOf]; omega
                · have d3 : decide ((m : Int) > 0) = false := decide_eq_false (by omega)
                  clear hbl
                  go_wp2_with fail
                  go_quiet (fail)
                  go_wp2
                  go_roundw
                  case rel => first | exact ⟨i + 1, by omega, by go_num, HRD.out _⟩ | ((repeat apply Exists.intro); exact ⟨⟨i + 1, by omega, by go_num, HRD.out _⟩, rfl⟩)
                  case measure => simp [intOf]; omega
          · have ei : i = N := by omega
            subst ei
            clear hi1 hiN HRD
            go_wp2
            clear z1 hBz hgz
            go_loopw [7] (fun i' wx => ∃ i : Nat, n ≤ i ∧ i ≤ n + 4 ∧ i' = i64 i ∧ ASt w wx B g gcur wobj bs ∧ ∀ (k : Nat) (u : Value), bs[k]? = some u → (k / 4 = n / 4 → k < i) → Mkd wx k u) (fun i' _ => n + 4 - (intOf i').toNat)
            case atStart => exact ⟨n, by omega, by omega, rfl, HS.out, fun k u hu hk => HK.out k u hu fun e => by have := hk e; omega⟩
            case round =>
              obtain ⟨q, hi1, hi2, rfl, hS, hK⟩ := hrel
              clear HS HK
              have HS := hid hS
              have HK := hid hK
              clear hS hK
              by_cases hi4 : q < n + 4
              · obtain ⟨u, hu⟩ : ∃ u, bs[q]? = some u := ⟨_, List.getElem?_eq_getElem (by have := HN.out; omega)⟩
                obtain ⟨a, m, c, rfl, hm, _⟩ := (HS.out.shp q u hu).form
                have HU := hid hu
                have hm2 : m ≤ 9223372036854775807 := by unfold maxLen at hm; omega
                clear hu hm
                go_wp2
                generalize decide ((q : Int) < (n : Int) + 4) = dd
                go_loopw [8] (fun j' wx => ∃ j : Nat, j ≤ m ∧ j' = i64 j ∧ ASt w wx B g gcur wobj bs ∧ (∀ (k : Nat) (u : Value), bs[k]? = some u → (k / 4 = n / 4 → k < q) → Mkd wx k u) ∧ ∀ b j2, a = some ⟨b, 0, none⟩ → j2 < j → wx.cell? ⟨b, j2, none⟩ = some (.int .u8 (200 + (q : Int) / 4 % 50))) (fun j' _ => m - (intOf j').toNat)
                case atStart => exact ⟨0, by omega, rfl, HS.out, HK.out, fun b j2 _ h => absurd h (by omega)⟩
                case round =>
                  obtain ⟨j, hj, rfl, hS, hK, hD⟩ := hrel
                  clear HS HK
                  have HS := hid hS
                  have HK := hid hK
                  have HD := hid hD
                  have z1 : wr.cell? ⟨B, 1, none⟩ = some (.slice (some ⟨g, 0, none⟩) i cap) := hS.book HW1.out
                  have z2 : wr.cell? ⟨g, q, none⟩ = some (.slice a m c) := hS.at HT.out HU.out
                  have hBz : B < wr.heap.size := blk_lt hS.hb
                  have hgz : g < wr.heap.size := blk_lt hS.hg
                  have i0 : (0 : Int) ≤ (q : Int) := by omega
                  have i1 : (q : Int) < (i : Int) := by omega
                  clear hS hK hD
                  by_cases hjl : j < m
                  · obtain ⟨b, cur, rfl, hblk, hmc⟩ : ∃ b cur, a = some ⟨b, 0, none⟩ ∧ wr.heap[b]? = some (.cells cur 5) ∧ m ≤ cur.size := by
                      obtain ⟨a', m', c', e, _, h⟩ := (HS.out.shp q _ HU.out).form
                      cases e
                      exact h j hjl
                    obtain ⟨x0, hx0⟩ : ∃ x, wr.cell? ⟨b, j, none⟩ = some x := ⟨_, by rw [cell_of_blk hblk, Array.getElem?_eq_getElem (by omega)]⟩
                    have f0 : wr.frozen? ⟨b, j, none⟩ = false := frozen_of_blk hblk _
                    have hbz : b < wr.heap.size := blk_lt hblk
                    have j0 : (0 : Int) ≤ (j : Int) := by omega
                    have j1 : (j : Int) < (m : Int) := by omega
                    have HNX := hid (fun (wq : World) (hb : Below (wr.setCell ⟨b, j, none⟩ (.int .u8 (200 + (q : Int) / 4 % 50))).heap.size (wr.setCell ⟨b, j, none⟩ (.int .u8 (200 + (q : Int) / 4 % 50))) wq) => show ASt w wq B g gcur wobj bs ∧ (∀ (k : Nat) (u : Value), bs[k]? = some u → (k / 4 = n / 4 → k < q) → Mkd wq k u) ∧ ∀ b' j2, some (⟨b, 0, none⟩ : Addr) = some ⟨b', 0, none⟩ → j2 < j + 1 → wq.cell? ⟨b', j2, none⟩ = some (.int .u8 (200 + (q : Int) / 4 % 50)) from by
                      refine ⟨(HS.out.set HU.out hblk _ _).later hb, fun k u hu hk => ?_, fun b' j2 e h2 => ?_⟩
                      · have h0 := HK.out k u hu hk
                        by_cases e : k / 4 = n / 4
                        · exact (h0.same hblk (by omega)).later hb
                        · refine (h0.far fun e2 => e ?_).later hb
                          have := HAP.out k q u _ b hu HU.out e2 rfl
                          omega
                      · cases e
                        refine cell_later hb ?_
                        by_cases e2 : j2 = j
                        · subst e2
                          rw [cell_of_blk (blk_setCell hblk j2 _), Array.getElem?_setIfInBounds, if_pos rfl, if_pos (by omega)]
                        · exact cell_mark hblk (HD.out b j2 rfl (by omega)))
                    clear hblk hmc
                    go_wp2_with fail
                    go_region_with (go_at_call 18; refine (mark_any q _ (by omega)).mono ?_; rintro e w' ⟨rfl, rfl⟩)
                    all_goals go_wp2
                    all_goals go_roundw
                    all_goals try (simp [intOf]; omega)
                    all_goals refine ⟨j + 1, ?_, ?_, HNX.out _ ?_⟩
                    all_goals first
                      | exact (Below.refl _ _).drew
                      | omega
                      | go_num
                  · have HD2 := hid (show ∀ (k : Nat) (u : Value), bs[k]? = some u → (k / 4 = n / 4 → k < q + 1) → Mkd wr k u from fun k u hu hk => by
                      by_cases e : k = q
                      · subst e
                        rw [HU.out] at hu
                        cases hu
                        intro b m' c' e2 j2 hj2
                        cases e2
                        exact HD.out b j2 rfl (by omega)
                      · exact HK.out k u hu fun e2 => by have := hk e2; omega)
                    go_wp2
                    go_roundw
                    case rel => first | exact ⟨q + 1, by omega, by omega, by go_num, HS.out, HD2.out⟩ | ((repeat apply Exists.intro); exact ⟨⟨q + 1, by omega, by omega, by go_num, HS.out, HD2.out⟩, rfl⟩)
                    case measure => simp [intOf]; omega
              · have ei : q = n + 4 := by omega
                subst ei
                have HALL := hid (show ∀ (k : Nat) (u : Value), bs[k]? = some u → Mkd wr k u from fun k u hu => HK.out k u hu fun e => by omega)
                go_wp2
                go_roundw
                case rel => first | exact ⟨n + 4, by omega, by omega, by go_num, HS.out, HALL.out⟩ | ((repeat apply Exists.intro); exact ⟨⟨n + 4, by omega, by omega, by go_num, HS.out, HALL.out⟩, rfl⟩)
                case measure => simp [intOf]; omega
theorem apart_any {R : Rep} (B : Nat) (w : World) (tag : Nat → Tag) (ds : List RDb) (bs is ps : List Value) (hI : HInv R w B tag ds bs is ps) (hap : Ap bs) (hs : bs.length ≤ 1000000000000000) :
    Calls Tryz.prog 13 #[.pointer (some ⟨B, 1, none⟩)] w fun e w' => e = .returned (.bool true) ∧ Below B w w' := by
  obtain ⟨v, prs, bv, iv, pv, hB, hv, tv, hp, k1, k2, k3⟩ := hI.mem
  have hz := hI.lt
  by_cases h0 : bs.length = 0
  · obtain ⟨a, c, rfl⟩ := slice_form k1.row
    rw [h0] at hB
    exact (apart2_none B a c w (cell_of_blk hB 1)).mono fun e w' ⟨x, y⟩ => ⟨x, by rw [y]; exact Below.refl _ _⟩
  · obtain ⟨g, cap, cur, rfl, _, hb, ht, _⟩ := owns_block k1.row (by omega)
    rw [Nat.mul_one] at ht
    refine (apart_core B g bs.length cap cur _ bs w rfl k1.four hs hap rfl ht ⟨hB, hb, fun i u hu => ?_, Fr.refl _ _⟩ fun i u hu => ?_).mono ?_
    · obtain ⟨n, ho, _⟩ := k1.one i u hu
      exact shp_of ho
    · obtain ⟨n, ho, _⟩ := k1.one i u hu
      exact mkd_of ho
    · rintro e w' ⟨he, wz, rfl, hA⟩
      refine ⟨he, below_of_fr hA.fr (by omega) ?_⟩
      rintro k hk ⟨i, u, hu, hkb⟩
      obtain ⟨n, ho, ha⟩ := k1.one i u hu
      have := ha k hkb
      rw [hI.low k hk] at this
      cases this
end Go.Proofs.YthbbfjfekchdiaaGreat
