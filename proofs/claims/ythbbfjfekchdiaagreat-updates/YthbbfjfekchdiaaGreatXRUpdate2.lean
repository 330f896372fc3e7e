import Derived.Test.YthbbfjfekchdiaaGreatXRUpdate
namespace Go.Proofs.YthbbfjfekchdiaaGreat
open Go.RowKit
set_option linter.unusedSimpArgs false

theorem in_keep (n lo hi : Int) (w : World) : Calls Tryz.prog 38 #[i64 n, i64 lo, i64 hi] w fun e w' => e = .returned (.bool (decide (lo ≤ n) && decide (n ≤ hi))) ∧ w = w' :=
  (in_any n lo hi w).mono fun _ _ h => ⟨h.1, h.2.symm⟩
theorem ptErr_zero {c : Cfg} {now : Int} {q : Pt} (h : ptErr c now q = 0) : PtIn q ∧ q.1 ≤ now ∧ 0 ≤ firstI c now q.1 := by
  unfold ptErr at h
  split at h
  · simp at h
  · split at h
    · simp at h
    · split at h
      · simp at h
      · rename_i h1 h2 h3; exact ⟨Classical.not_not.1 h1, by omega, by omega⟩

set_option maxHeartbeats 4000000 in
theorem update_go (p : Nat) (now : Int) (v : Value) (l : List Pt) (d : RDb) (In : Nat → Prop) (w : World) (hrep : RRep w In p d) (hd : d.Ok) (hl : RowG w v l) (ho : OutOf In v) (n0 : 0 ≤ now) (n1 : now ≤ 2147483647) (h100 : l.length ≤ 100) :
    Calls Tryz.prog 52 #[.pointer (some ⟨p, 0, none⟩), i64 now, v] w fun e w' => e = .returned (.tuple #[i64 (updErr d.c now l).1, i64 (updErr d.c now l).2]) ∧ RRep w' (Up In w.heap.size) p (updR d now l) ∧ (updR d now l).Ok ∧ (updR d now l).c = d.c ∧ Fr In w w' := by
  have HREP := hid hrep
  have HD := hid hd
  have HL := hid hl
  have HO := hid ho
  obtain ⟨a, cap, rfl, hrow⟩ := hl
  have HROW := hid hrow
  clear hrep hd ho hrow
  go_enter Tryz.func52, Tryz.ntmps52
  go_wp2_with (go_at_call 38; refine (in_keep _ _ _ _).mono ?_; rintro e w' ⟨rfl, rfl⟩)
  go_loopw [9] (fun i wr => ∃ k : Nat, k ≤ l.length ∧ i = i64 k ∧ (∀ (j : Nat) (x : Pt), j < k → l[j]? = some x → ptErr d.c now x = 0) ∧ Below w.heap.size w wr) (fun i _ => l.length - (intOf i).toNat)
  case atStart => exact ⟨0, by omega, rfl, fun j x hj => absurd hj (by omega), Below.refl _ _⟩
  case round =>
    obtain ⟨k, hk, rfl, hz, hb⟩ := hrel
    have HZ := hid hz
    have HB := hid hb
    have hzr := hb.size
    clear hz hb
    by_cases hlt : k < l.length
    case neg =>
      have hall : ∀ (j : Nat) (x : Pt), l[j]? = some x → ptErr d.c now x = 0 := fun j x hj => HZ.out j x (by obtain ⟨y, _⟩ := List.getElem?_eq_some_iff.1 hj; omega) hj
      have HALL := hid hall
      have HU := hid (upd_yes ⟨n0, n1⟩ h100 hall)
      have HUR := hid (show updR d now l = writesAll d now l by unfold updR; rw [upd_yes ⟨n0, n1⟩ h100 hall, if_pos rfl])
      clear hall
      go_wp2
      go_loopw [12] (fun i wx => ∃ k : Nat, k ≤ l.length ∧ i = i64 k ∧ RRep wx (Up In w.heap.size) p (writesAll d now (l.take k)) ∧ (writesAll d now (l.take k)).Ok ∧ (writesAll d now (l.take k)).c = d.c ∧ Fr In w wx) (fun i _ => l.length - (intOf i).toNat)
      case atStart => exact ⟨0, by omega, rfl, (HREP.out.later HB.out).weak (fun q hq => .inl hq), HD.out, rfl, Fr.below HB.out⟩
      case round =>
        obtain ⟨j, hj, rfl, hR, hOk, hC, hF⟩ := hrel
        have HR := hid hR
        have HOk := hid hOk
        have HC := hid hC
        have HF := hid hF
        clear hR hOk hC hF
        by_cases hlt2 : j < l.length
        case neg =>
          have ej : l.take j = l := List.take_of_length_le (by omega)
          rw [ej] at HR HOk HC
          clear ej
          go_wp2
          go_ret2
          exact ⟨by rw [HU.out]; rfl, by rw [HUR.out]; exact ⟨HR.out, HOk.out, HC.out, HF.out⟩⟩
        obtain ⟨q, hq⟩ : ∃ q, l[j]? = some q := ⟨_, List.getElem?_eq_getElem hlt2⟩
        obtain ⟨a', cap', ha, hrow⟩ := HL.out.fr HO.out HF.out
        simp only [Value.slice.injEq] at ha
        obtain ⟨rfl, _, rfl⟩ := ha
        obtain ⟨b, off, rfl, c0, c1⟩ := hrow j q hq
        have HPZ := hid (ptErr_zero (HALL.out j q hq))
        have HWA := hid (writesAll_ok (d := d) (now := now) hq)
        have j0 : (0 : Int) ≤ (j : Int) := by omega
        have j1 : (j : Int) < (l.length : Int) := by omega
        clear hrow hq
        go_wp2_with fail
        refine (writes_ref p now q _ _ _ HR.out HOk.out HPZ.out.1 n0 n1).mono ?_
        rintro e w2 ⟨rfl, hR2, hOk2, hC2, hF2⟩
        have HN := hid (show RRep w2 (Up In w.heap.size) p (writesAll d now (l.take (j + 1))) ∧ (writesAll d now (l.take (j + 1))).Ok ∧ (writesAll d now (l.take (j + 1))).c = d.c ∧ Fr In w w2 by
          have hz := HF.out.size
          rw [HWA.out]
          refine ⟨hR2.weak ?_, hOk2, hC2.trans HC.out, HF.out.trans hF2 (fun x hx => hx)⟩
          rintro x ((hx | hx) | hx)
          · exact .inl hx
          · exact .inr hx
          · exact .inr (by omega))
        clear hR2 hOk2 hC2 hF2
        go_wp2
        go_roundw
        case rel => first | exact ⟨j + 1, by omega, by go_num, HN.out⟩ | ((repeat apply Exists.intro); exact ⟨⟨j + 1, by omega, by go_num, HN.out⟩, rfl⟩)
        case measure => simp [intOf]; omega
    obtain ⟨q, hq⟩ : ∃ q, l[k]? = some q := ⟨_, List.getElem?_eq_getElem hlt⟩
    obtain ⟨b, off, rfl, c0, c1⟩ := HROW.out k q hq
    have hbz : b < w.heap.size := World.block_lt_of_cell? _ _ c0
    have z0 : wr.cell? ⟨b, off + k * 2, none⟩ = some (i64 q.1) := cell_later HB.out c0
    have z1 : wr.cell? ⟨b, off + k * 2 + 1, none⟩ = some (i64 q.2) := cell_later HB.out c1
    have hbr : b < wr.heap.size := by omega
    have k0 : (0 : Int) ≤ (k : Int) := by omega
    have k1 : (k : Int) < (l.length : Int) := by omega
    have HQ := hid hq
    have HNO := hid (show ptErr d.c now q ≠ 0 → updErr d.c now l = (ptErr d.c now q, k) from upd_no ⟨n0, n1⟩ h100 hq HZ.out)
    have HBK := hid (show ∀ wx, Below w.heap.size w wx → ptErr d.c now q ≠ 0 → RRep wx (Up In w.heap.size) p (updR d now l) ∧ (updR d now l).Ok ∧ (updR d now l).c = d.c ∧ Fr In w wx from fun wx hb he => by
      have e : updR d now l = d := by unfold updR; rw [HNO.out he, if_neg he]
      rw [e]; exact ⟨(HREP.out.later hb).weak (fun q hq => .inl hq), HD.out, rfl, Fr.below hb⟩)
    clear hq c0 c1
    by_cases e1 : PtIn q
    case neg =>
      have HP := hid (show ptErr d.c now q = 1 by unfold ptErr; rw [if_pos e1])
      have HE := hid (show ptErr d.c now q ≠ 0 by rw [HP.out]; decide)
      have hnp : ¬ (0 ≤ q.1 ∧ q.1 ≤ 2147483647 ∧ -1000000000 ≤ q.2 ∧ q.2 ≤ 1000000000) := e1
      clear e1
      by_cases f1 : 0 ≤ q.1 ∧ q.1 ≤ 2147483647
      · have f2 : (decide (-1000000000 ≤ q.2) && decide (q.2 ≤ 1000000000)) = false := and_false' fun h => hnp ⟨f1.1, f1.2, h.1, h.2⟩
        obtain ⟨f3, f4⟩ := f1
        clear hnp
        go_wp2_with (go_at_call 38; refine (in_keep _ _ _ _).mono ?_; rintro e w' ⟨rfl, rfl⟩)
        all_goals first | (go_ret2; exact ⟨by rw [HNO.out HE.out, HP.out]; rfl, HBK.out _ HB.out HE.out⟩) | (exfalso; simp_all; done)
      · have f2 : (decide (0 ≤ q.1) && decide (q.1 ≤ 2147483647)) = false := and_false' f1
        clear hnp f1
        go_wp2_with (go_at_call 38; refine (in_keep _ _ _ _).mono ?_; rintro e w' ⟨rfl, rfl⟩)
        all_goals first | (go_ret2; exact ⟨by rw [HNO.out HE.out, HP.out]; rfl, HBK.out _ HB.out HE.out⟩) | (exfalso; simp_all; done)
    have HPI := hid e1
    obtain ⟨p0, p1, p2, p3⟩ := (show 0 ≤ q.1 ∧ q.1 ≤ 2147483647 ∧ -1000000000 ≤ q.2 ∧ q.2 ≤ 1000000000 from e1)
    clear e1
    by_cases e2 : now < q.1
    · have HP := hid (show ptErr d.c now q = 3 by unfold ptErr; rw [if_neg (by simpa using HPI.out), if_pos e2])
      have HE := hid (show ptErr d.c now q ≠ 0 by rw [HP.out]; decide)
      go_wp2_with (go_at_call 38; refine (in_keep _ _ _ _).mono ?_; rintro e w' ⟨rfl, rfl⟩)
      go_ret2
      exact ⟨by rw [HNO.out HE.out, HP.out]; rfl, HBK.out _ HB.out HE.out⟩
    go_wp2_with (go_at_call 38; refine (in_keep _ _ _ _).mono ?_; rintro e w' ⟨rfl, rfl⟩)
    refine (first_ref p d.c now q.1 _ ((HREP.out.later HB.out).arc HD.out) n0 n1 p0 p1).mono ?_
    rintro e w1 ⟨rfl, hb1⟩
    have HB1 := hid (HB.out.trans (hb1.mono hzr))
    clear hb1
    by_cases e3 : firstI d.c now q.1 < 0
    · have HP := hid (show ptErr d.c now q = 4 by unfold ptErr; rw [if_neg (by simpa using HPI.out), if_neg (by omega), if_pos e3])
      have HE := hid (show ptErr d.c now q ≠ 0 by rw [HP.out]; decide)
      go_wp2
      go_ret2
      exact ⟨by rw [HNO.out HE.out, HP.out]; rfl, HBK.out _ HB1.out HE.out⟩
    · have HP := hid (show ptErr d.c now q = 0 by unfold ptErr; rw [if_neg (by simpa using HPI.out), if_neg (by omega), if_neg e3])
      have HZ1 := hid (show ∀ (j : Nat) (x : Pt), j < k + 1 → l[j]? = some x → ptErr d.c now x = 0 from fun j x hj hx => by
        by_cases e : j = k
        · subst e
          have : x = q := by rw [HQ.out] at hx; simpa using hx.symm
          rw [this]; exact HP.out
        · exact HZ.out j x (by omega) hx)
      go_wp2
      go_roundw
      case rel => first | exact ⟨k + 1, by omega, by go_num, HZ1.out, HB1.out⟩ | ((repeat apply Exists.intro); exact ⟨⟨k + 1, by omega, by go_num, HZ1.out, HB1.out⟩, rfl⟩)
      case measure => simp [intOf]; omega

/-- Update of the document -/
theorem update_ref (p : Nat) (now : Int) (v : Value) (l : List Pt) (d : RDb) (In : Nat → Prop) (w : World) (hrep : RRep w In p d) (hd : d.Ok) (hl : RowG w v l) (ho : OutOf In v) (hlen : l.length ≤ 140737488351232) :
    Calls Tryz.prog 52 #[.pointer (some ⟨p, 0, none⟩), i64 now, v] w fun e w' => e = .returned (.tuple #[i64 (updErr d.c now l).1, i64 (updErr d.c now l).2]) ∧ RRep w' (Up In w.heap.size) p (updR d now l) ∧ (updR d now l).Ok ∧ (updR d now l).c = d.c ∧ Fr In w w' := by
  by_cases he : ¬ (0 ≤ now ∧ now ≤ 2147483647) ∨ 100 < l.length
  · exact update_arg p now v l d In w hrep hd hl hlen he
  · have h1 : 0 ≤ now ∧ now ≤ 2147483647 := Classical.not_not.1 fun h => he (.inl h)
    exact update_go p now v l d In w hrep hd hl ho h1.1 h1.2 (by omega)
end Go.Proofs.YthbbfjfekchdiaaGreat
