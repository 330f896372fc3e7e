import Derived.Test.YthbbfjfekchdiaaGreatXLeafWalks
import Derived.Test.YthbbfjfekchdiaaGreatXRSorted
namespace Go.Proofs.YthbbfjfekchdiaaGreat
open Go.RowKit

theorem below_one {w w' : World} {O : Obj} (h : Below (w.alloc O).heap.size (w.alloc O) w') : Below w.heap.size w w' := by
  have e : (w.alloc O).heap.size = w.heap.size + 1 := by simp
  rw [e] at h
  exact ((Below.refl _ _).alloc (Nat.le_refl _) _).trans (h.mono (by omega))

theorem and_false' {a b : Prop} [Decidable a] [Decidable b] (h : ¬ (a ∧ b)) : (decide a && decide b) = false := by
  by_cases x : a <;> by_cases y : b <;> simp_all

set_option maxHeartbeats 1000000 in
theorem rcheck_no (c : Cfg) (w : World) (hMf : ¬ c.Mf) :
    Calls Tryz.prog 19 #[.agg c.cells] w fun e w' => e = .returned (i64 c.err) ∧ Below w.heap.size w w' := by
  show Calls Tryz.prog 19 #[.agg #[i64 c.s0, i64 c.k0, i64 c.s1, i64 c.k1, i64 c.s2, i64 c.k2, i64 c.s3, i64 c.k3, i64 c.m, i64 c.f]] w _
  have HE := hid (c.not_ok_mf hMf)
  have HM := hid hMf
  clear hMf
  have h6 := c.many_le
  by_cases a : 1 ≤ c.m ∧ c.m ≤ 6
  · obtain ⟨a1, a2⟩ := a
    by_cases b : 0 ≤ c.f ∧ c.f ≤ 100
    · obtain ⟨b1, b2⟩ := b
      have h7 : ((c.many : Int) == 0) = true := by
        rw [beq_iff_eq]; have : ¬ 1 ≤ c.many := fun h => HM.out ⟨a1, a2, b1, b2, h⟩
        omega
      go_enter Tryz.func19, Tryz.ntmps19
      go_wp2_with (first | (go_at_call 38; refine (in_any _ _ _ _).mono ?_; rintro e w' ⟨rfl, rfl⟩) | (go_at_call 39; refine (many_any c _).mono ?_; rintro e w' ⟨rfl, hb'⟩; have HB := hid (below_one hb'); clear hb'))
      go_ret
      exact ⟨ret_int HE.out.symm, HB.out⟩
    · have b' := and_false' b
      clear b
      go_enter Tryz.func19, Tryz.ntmps19
      go_wp2_with (first | (go_at_call 38; refine (in_any _ _ _ _).mono ?_; rintro e w' ⟨rfl, rfl⟩) | (go_at_call 39; refine (many_any c _).mono ?_; rintro e w' ⟨rfl, hb'⟩; have HB := hid (below_one hb'); clear hb'))
      all_goals first | (go_ret; exact ⟨ret_int HE.out.symm, HB.out⟩) | (exfalso; simp_all)
  · have a' := and_false' a
    clear a
    go_enter Tryz.func19, Tryz.ntmps19
    go_wp2_with (first | (go_at_call 38; refine (in_any _ _ _ _).mono ?_; rintro e w' ⟨rfl, rfl⟩) | (go_at_call 39; refine (many_any c _).mono ?_; rintro e w' ⟨rfl, hb'⟩; have HB := hid (below_one hb'); clear hb'))
    all_goals first | (go_ret; exact ⟨ret_int HE.out.symm, HB.out⟩) | (exfalso; simp_all)
end Go.Proofs.YthbbfjfekchdiaaGreat
namespace Go.Proofs.YthbbfjfekchdiaaGreat
open Go.RowKit
set_option linter.unusedSimpArgs false

/-- a list of points of whoever's -/
def RowG (w : World) (v : Value) (l : List Pt) : Prop :=
  ∃ a cap, v = .slice a l.length cap ∧ ∀ (j : Nat) (q : Pt), l[j]? = some q → ∃ b off, a = some ⟨b, off, none⟩ ∧ w.cell? ⟨b, off + j * 2, none⟩ = some (i64 q.1) ∧ w.cell? ⟨b, off + j * 2 + 1, none⟩ = some (i64 q.2)
/-- its block lies outside a set -/
def OutOf (In : Nat → Prop) (v : Value) : Prop := ∀ a n c, v = .slice (some a) n c → 0 < n → ¬ In a.block

theorem RowG.fr {w w' : World} {In : Nat → Prop} {v : Value} {l : List Pt} (h : RowG w v l) (ho : OutOf In v) (hf : Fr In w w') : RowG w' v l := by
  obtain ⟨a, cap, rfl, r⟩ := h
  refine ⟨a, cap, rfl, fun j q hj => ?_⟩
  obtain ⟨b, off, rfl, c0, c1⟩ := r j q hj
  have hb : ¬ In b := ho ⟨b, off, none⟩ l.length cap rfl (by obtain ⟨x, _⟩ := List.getElem?_eq_some_iff.1 hj; omega)
  have hz : b < w.heap.size := World.block_lt_of_cell? _ _ c0
  have e := hf.block b hz hb
  exact ⟨b, off, rfl, (World.cell?_of_block (a := ⟨b, off + j * 2, none⟩) e).trans c0, (World.cell?_of_block (a := ⟨b, off + j * 2 + 1, none⟩) e).trans c1⟩

theorem upd_no {c : Cfg} {now : Int} {l : List Pt} {k : Nat} {q : Pt} (n : 0 ≤ now ∧ now ≤ 2147483647) (h100 : l.length ≤ 100) (hq : l[k]? = some q) (hz : ∀ (j : Nat) (x : Pt), j < k → l[j]? = some x → ptErr c now x = 0) (he : ptErr c now q ≠ 0) : updErr c now l = (ptErr c now q, k) := by
  unfold updErr
  rw [if_neg (by omega), errFrom_at l 0 k q hq hz he]
  simp
theorem upd_yes {c : Cfg} {now : Int} {l : List Pt} (n : 0 ≤ now ∧ now ≤ 2147483647) (h100 : l.length ≤ 100) (hz : ∀ (j : Nat) (x : Pt), l[j]? = some x → ptErr c now x = 0) : updErr c now l = (0, 0) := by
  unfold updErr
  rw [if_neg (by omega), errFrom_none l 0 fun q hq => by obtain ⟨j, hj⟩ := List.mem_iff_getElem?.1 hq; exact hz j q hj]
  rfl

set_option maxHeartbeats 1000000 in
theorem update_arg (p : Nat) (now : Int) (v : Value) (l : List Pt) (d : RDb) (In : Nat → Prop) (w : World) (hrep : RRep w In p d) (hd : d.Ok) (hl : RowG w v l) (hlen : l.length ≤ 140737488351232) (he : ¬ (0 ≤ now ∧ now ≤ 2147483647) ∨ 100 < l.length) :
    Calls Tryz.prog 52 #[.pointer (some ⟨p, 0, none⟩), i64 now, v] w fun e w' => e = .returned (.tuple #[i64 (updErr d.c now l).1, i64 (updErr d.c now l).2]) ∧ RRep w' (Up In w.heap.size) p (updR d now l) ∧ (updR d now l).Ok ∧ (updR d now l).c = d.c ∧ Fr In w w' := by
  have e0 : updErr d.c now l = (1, 0) := by unfold updErr; rw [if_pos he]
  have HF := hid (show RRep w (Up In w.heap.size) p (updR d now l) ∧ (updR d now l).Ok ∧ (updR d now l).c = d.c ∧ Fr In w w by
    unfold updR; rw [e0]; exact ⟨hrep.weak fun k hk => .inl hk, hd, rfl, Fr.refl _ _⟩)
  have HE := hid e0
  obtain ⟨a, cap, rfl, _⟩ := hl
  clear hrep hd e0
  by_cases hn : 0 ≤ now ∧ now ≤ 2147483647
  · have h100 : 100 < l.length := he.resolve_left fun h => h hn
    obtain ⟨n0, n1⟩ := hn
    clear he
    go_enter Tryz.func52, Tryz.ntmps52
    go_wp2_with (go_at_call 38; refine (in_any _ _ _ _).mono ?_; rintro e w' ⟨rfl, rfl⟩)
    go_ret2
    exact ⟨by rw [HE.out]; rfl, HF.out⟩
  · have hb : (decide (0 ≤ now) && decide (now ≤ 2147483647)) = false := and_false' hn
    clear he hn
    go_enter Tryz.func52, Tryz.ntmps52
    go_wp2_with (go_at_call 38; refine (in_any _ _ _ _).mono ?_; rintro e w' ⟨rfl, rfl⟩)
    all_goals first | (go_ret2; exact ⟨by rw [HE.out]; rfl, HF.out⟩) | (exfalso; simp_all; done)
end Go.Proofs.YthbbfjfekchdiaaGreat
namespace Go.Proofs.YthbbfjfekchdiaaGreat
open Go.RowKit
set_option linter.unusedSimpArgs false

theorem in_keep (n lo hi : Int) (w : World) : Calls Tryz.prog 38 #[i64 n, i64 lo, i64 hi] w fun e w' => e = .returned (.bool (decide (lo ≤ n) && decide (n ≤ hi))) ∧ w = w' :=
  (in_any n lo hi w).mono fun _ _ h => ⟨h.1, h.2.symm⟩
theorem ptErr_zero {c : Cfg} {now : Int} {q : Pt} (h : ptErr c now q = 0) : PtIn q ∧ q.1 ≤ now ∧ 0 ≤ firstI c now q.1 := by
  unfold ptErr at h
  split at h
  · simp at h
  · split at h
    · simp at h
    · split at h
      · simp at h
      · rename_i h1 h2 h3; exact ⟨Classical.not_not.1 h1, by omega, by omega⟩

set_option maxHeartbeats 4000000 in
theorem update_go (p : Nat) (now : Int) (v : Value) (l : List Pt) (d : RDb) (In : Nat → Prop) (w : World) (hrep : RRep w In p d) (hd : d.Ok) (hl : RowG w v l) (ho : OutOf In v) (n0 : 0 ≤ now) (n1 : now ≤ 2147483647) (h100 : l.length ≤ 100) :
    Calls Tryz.prog 52 #[.pointer (some ⟨p, 0, none⟩), i64 now, v] w fun e w' => e = .returned (.tuple #[i64 (updErr d.c now l).1, i64 (updErr d.c now l).2]) ∧ RRep w' (Up In w.heap.size) p (updR d now l) ∧ (updR d now l).Ok ∧ (updR d now l).c = d.c ∧ Fr In w w' := by
  have HREP := hid hrep
  have HD := hid hd
  have HL := hid hl
  have HO := hid ho
  obtain ⟨a, cap, rfl, hrow⟩ := hl
  have HROW := hid hrow
  clear hrep hd ho hrow
  go_enter Tryz.func52, Tryz.ntmps52
  go_wp2_with (go_at_call 38; refine (in_keep _ _ _ _).mono ?_; rintro e w' ⟨rfl, rfl⟩)
  go_loopw [9] (fun i wr => ∃ k : Nat, k ≤ l.length ∧ i = i64 k ∧ (∀ (j : Nat) (x : Pt), j < k → l[j]? = some x → ptErr d.c now x = 0) ∧ Below w.heap.size w wr) (fun i _ => l.length - (intOf i).toNat)
  case atStart => exact ⟨0, by omega, rfl, fun j x hj => absurd hj (by omega), Below.refl _ _⟩
  case round =>
    obtain ⟨k, hk, rfl, hz, hb⟩ := hrel
    have HZ := hid hz
    have HB := hid hb
    have hzr := hb.size
    clear hz hb
    by_cases hlt : k < l.length
    case neg =>
      have hall : ∀ (j : Nat) (x : Pt), l[j]? = some x → ptErr d.c now x = 0 := fun j x hj => HZ.out j x (by obtain ⟨y, _⟩ := List.getElem?_eq_some_iff.1 hj; omega) hj
      have HALL := hid hall
      have HU := hid (upd_yes ⟨n0, n1⟩ h100 hall)
      have HUR := hid (show updR d now l = writesAll d now l by unfold updR; rw [upd_yes ⟨n0, n1⟩ h100 hall, if_pos rfl])
      clear hall
      go_wp2
      go_loopw [12] (fun i wx => ∃ k : Nat, k ≤ l.length ∧ i = i64 k ∧ RRep wx (Up In w.heap.size) p (writesAll d now (l.take k)) ∧ (writesAll d now (l.take k)).Ok ∧ (writesAll d now (l.take k)).c = d.c ∧ Fr In w wx) (fun i _ => l.length - (intOf i).toNat)
      case atStart => exact ⟨0, by omega, rfl, (HREP.out.later HB.out).weak (fun q hq => .inl hq), HD.out, rfl, Fr.below HB.out⟩
      case round =>
        obtain ⟨j, hj, rfl, hR, hOk, hC, hF⟩ := hrel
        have HR := hid hR
        have HOk := hid hOk
        have HC := hid hC
        have HF := hid hF
        clear hR hOk hC hF
        by_cases hlt2 : j < l.length
        case neg =>
          have ej : l.take j = l := List.take_of_length_le (by omega)
          rw [ej] at HR HOk HC
          clear ej
          go_wp2
          go_ret2
          exact ⟨by rw [HU.out]; rfl, by rw [HUR.out]; exact ⟨HR.out, HOk.out, HC.out, HF.out⟩⟩
        obtain ⟨q, hq⟩ : ∃ q, l[j]? = some q := ⟨_, List.getElem?_eq_getElem hlt2⟩
        obtain ⟨a', cap', ha, hrow⟩ := HL.out.fr HO.out HF.out
        simp only [Value.slice.injEq] at ha
        obtain ⟨rfl, _, rfl⟩ := ha
        obtain ⟨b, off, rfl, c0, c1⟩ := hrow j q hq
        have HPZ := hid (ptErr_zero (HALL.out j q hq))
        have HWA := hid (writesAll_ok (d := d) (now := now) hq)
        have j0 : (0 : Int) ≤ (j : Int) := by omega
        have j1 : (j : Int) < (l.length : Int) := by omega
        clear hrow hq
        go_wp2_with fail
        refine (writes_ref p now q _ _ _ HR.out HOk.out HPZ.out.1 n0 n1).mono ?_
        rintro e w2 ⟨rfl, hR2, hOk2, hC2, hF2⟩
        have HN := hid (show RRep w2 (Up In w.heap.size) p (writesAll d now (l.take (j + 1))) ∧ (writesAll d now (l.take (j + 1))).Ok ∧ (writesAll d now (l.take (j + 1))).c = d.c ∧ Fr In w w2 by
          have hz := HF.out.size
          rw [HWA.out]
          refine ⟨hR2.weak ?_, hOk2, hC2.trans HC.out, HF.out.trans hF2 (fun x hx => hx)⟩
          rintro x ((hx | hx) | hx)
          · exact .inl hx
          · exact .inr hx
          · exact .inr (by omega))
        clear hR2 hOk2 hC2 hF2
        go_wp2
        go_roundw
        case rel => first | exact ⟨j + 1, by omega, by go_num, HN.out⟩ | ((repeat apply Exists.intro); exact ⟨⟨j + 1, by omega, by go_num, HN.out⟩, rfl⟩)
        case measure => simp [intOf]; omega
    obtain ⟨q, hq⟩ : ∃ q, l[k]? = some q := ⟨_, List.getElem?_eq_getElem hlt⟩
    obtain ⟨b, off, rfl, c0, c1⟩ := HROW.out k q hq
    have hbz : b < w.heap.size := World.block_lt_of_cell? _ _ c0
    have z0 : wr.cell? ⟨b, off + k * 2, none⟩ = some (i64 q.1) := cell_later HB.out c0
    have z1 : wr.cell? ⟨b, off + k * 2 + 1, none⟩ = some (i64 q.2) := cell_later HB.out c1
    have hbr : b < wr.heap.size := by omega
    have k0 : (0 : Int) ≤ (k : Int) := by omega
    have k1 : (k : Int) < (l.length : Int) := by omega
    have HQ := hid hq
    have HNO := hid (show ptErr d.c now q ≠ 0 → updErr d.c now l = (ptErr d.c now q, k) from upd_no ⟨n0, n1⟩ h100 hq HZ.out)
    have HBK := hid (show ∀ wx, Below w.heap.size w wx → ptErr d.c now q ≠ 0 → RRep wx (Up In w.heap.size) p (updR d now l) ∧ (updR d now l).Ok ∧ (updR d now l).c = d.c ∧ Fr In w wx from fun wx hb he => by
      have e : updR d now l = d := by unfold updR; rw [HNO.out he, if_neg he]
      rw [e]; exact ⟨(HREP.out.later hb).weak (fun q hq => .inl hq), HD.out, rfl, Fr.below hb⟩)
    clear hq c0 c1
    by_cases e1 : PtIn q
    case neg =>
      have HP := hid (show ptErr d.c now q = 1 by unfold ptErr; rw [if_pos e1])
      have HE := hid (show ptErr d.c now q ≠ 0 by rw [HP.out]; decide)
      have hnp : ¬ (0 ≤ q.1 ∧ q.1 ≤ 2147483647 ∧ -1000000000 ≤ q.2 ∧ q.2 ≤ 1000000000) := e1
      clear e1
      by_cases f1 : 0 ≤ q.1 ∧ q.1 ≤ 2147483647
      · have f2 : (decide (-1000000000 ≤ q.2) && decide (q.2 ≤ 1000000000)) = false := and_false' fun h => hnp ⟨f1.1, f1.2, h.1, h.2⟩
        obtain ⟨f3, f4⟩ := f1
        clear hnp
        go_wp2_with (go_at_call 38; refine (in_keep _ _ _ _).mono ?_; rintro e w' ⟨rfl, rfl⟩)
        all_goals first | (go_ret2; exact ⟨by rw [HNO.out HE.out, HP.out]; rfl, HBK.out _ HB.out HE.out⟩) | (exfalso; simp_all; done)
      · have f2 : (decide (0 ≤ q.1) && decide (q.1 ≤ 2147483647)) = false := and_false' f1
        clear hnp f1
        go_wp2_with (go_at_call 38; refine (in_keep _ _ _ _).mono ?_; rintro e w' ⟨rfl, rfl⟩)
        all_goals first | (go_ret2; exact ⟨by rw [HNO.out HE.out, HP.out]; rfl, HBK.out _ HB.out HE.out⟩) | (exfalso; simp_all; done)
    have HPI := hid e1
    obtain ⟨p0, p1, p2, p3⟩ := (show 0 ≤ q.1 ∧ q.1 ≤ 2147483647 ∧ -1000000000 ≤ q.2 ∧ q.2 ≤ 1000000000 from e1)
    clear e1
    by_cases e2 : now < q.1
    · have HP := hid (show ptErr d.c now q = 3 by unfold ptErr; rw [if_neg (by simpa using HPI.out), if_pos e2])
      have HE := hid (show ptErr d.c now q ≠ 0 by rw [HP.out]; decide)
      go_wp2_with (go_at_call 38; refine (in_keep _ _ _ _).mono ?_; rintro e w' ⟨rfl, rfl⟩)
      go_ret2
      exact ⟨by rw [HNO.out HE.out, HP.out]; rfl, HBK.out _ HB.out HE.out⟩
    go_wp2_with (go_at_call 38; refine (in_keep _ _ _ _).mono ?_; rintro e w' ⟨rfl, rfl⟩)
    refine (first_ref p d.c now q.1 _ ((HREP.out.later HB.out).arc HD.out) n0 n1 p0 p1).mono ?_
    rintro e w1 ⟨rfl, hb1⟩
    have HB1 := hid (HB.out.trans (hb1.mono hzr))
    clear hb1
    by_cases e3 : firstI d.c now q.1 < 0
    · have HP := hid (show ptErr d.c now q = 4 by unfold ptErr; rw [if_neg (by simpa using HPI.out), if_neg (by omega), if_pos e3])
      have HE := hid (show ptErr d.c now q ≠ 0 by rw [HP.out]; decide)
      go_wp2
      go_ret2
      exact ⟨by rw [HNO.out HE.out, HP.out]; rfl, HBK.out _ HB1.out HE.out⟩
    · have HP := hid (show ptErr d.c now q = 0 by unfold ptErr; rw [if_neg (by simpa using HPI.out), if_neg (by omega), if_neg e3])
      have HZ1 := hid (show ∀ (j : Nat) (x : Pt), j < k + 1 → l[j]? = some x → ptErr d.c now x = 0 from fun j x hj hx => by
        by_cases e : j = k
        · subst e
          have : x = q := by rw [HQ.out] at hx; simpa using hx.symm
          rw [this]; exact HP.out
        · exact HZ.out j x (by omega) hx)
      go_wp2
      go_roundw
      case rel => first | exact ⟨k + 1, by omega, by go_num, HZ1.out, HB1.out⟩ | ((repeat apply Exists.intro); exact ⟨⟨k + 1, by omega, by go_num, HZ1.out, HB1.out⟩, rfl⟩)
      case measure => simp [intOf]; omega

/-- Update of the document -/
theorem update_ref (p : Nat) (now : Int) (v : Value) (l : List Pt) (d : RDb) (In : Nat → Prop) (w : World) (hrep : RRep w In p d) (hd : d.Ok) (hl : RowG w v l) (ho : OutOf In v) (hlen : l.length ≤ 140737488351232) :
    Calls Tryz.prog 52 #[.pointer (some ⟨p, 0, none⟩), i64 now, v] w fun e w' => e = .returned (.tuple #[i64 (updErr d.c now l).1, i64 (updErr d.c now l).2]) ∧ RRep w' (Up In w.heap.size) p (updR d now l) ∧ (updR d now l).Ok ∧ (updR d now l).c = d.c ∧ Fr In w w' := by
  by_cases he : ¬ (0 ≤ now ∧ now ≤ 2147483647) ∨ 100 < l.length
  · exact update_arg p now v l d In w hrep hd hl hlen he
  · have h1 : 0 ≤ now ∧ now ≤ 2147483647 := Classical.not_not.1 fun h => he (.inl h)
    exact update_go p now v l d In w hrep hd hl ho h1.1 h1.2 (by omega)
end Go.Proofs.YthbbfjfekchdiaaGreat
namespace Go.Proofs.YthbbfjfekchdiaaGreat
open Go.RowKit
set_option linter.unusedSimpArgs false

theorem Fr.alloc {In : Nat → Prop} {w w' : World} (h : Fr In w w') (O : Obj) : Fr In w (w'.alloc O) :=
  h.trans (Fr.below (In := In) ((Below.refl w'.heap.size w').alloc (Nat.le_refl _) O)) fun _ hx => .inl hx
theorem Fr.drewN {In : Nat → Prop} {w w' : World} (h : Fr In w w') (n : Nat) : Fr In w (w'.drewN n) :=
  h.trans (Fr.below (In := In) (below_drewN (Below.refl w'.heap.size w') n)) fun _ hx => .inl hx
theorem Fr.grown {In : Nat → Prop} {w w1 w2 : World} {row : Option Nat} (h : Fr In w w1) (hg : w1.grownBy w2 row) (hr : ∀ k, row = some k → w.heap.size ≤ k) : Fr In w w2 := by
  refine ⟨hg.os.trans h.os, hg.tape.trans h.tape, hg.output.trans h.output, Nat.le_trans h.size hg.size, fun k hk hn => ?_⟩
  rw [hg.block k (Nat.lt_of_lt_of_le hk h.size) fun e => by have := hr k e.symm; omega]
  exact h.block k hk hn

/-- Fetch's loop: what stands at a round's head; B is the series' own block -/
structure FI (w wS wr : World) (B : Nat) (i s : Int) (v : Value) (o : List Pt) : Prop where
  old : Below w.heap.size w wS
  hB : w.heap.size < B ∧ B < wS.heap.size
  fr : Fr (fun k => k = B) wS wr
  res : wS.heap[w.heap.size]? = some (.cells #[i64 0, i64 0, .slice none 0 0] 108)
  blk : wr.heap[B]? = some (.cells #[i64 i, i64 s, v] 108)
  own : wr.ownsRow wS.heap.size 48 2 v o.length (ptCells o)

theorem FI.drewN {w wS wr : World} {B : Nat} {i s : Int} {v : Value} {o : List Pt} (h : FI w wS wr B i s v o) (n : Nat) : FI w wS (wr.drewN n) B i s v o :=
  ⟨h.old, h.hB, h.fr.drewN n, h.res, blk_drewN h.blk n, owns_far h.own fun b _ hb => by simp⟩
theorem FI.later {w wS wr wx : World} {B : Nat} {i s : Int} {v : Value} {o : List Pt} (h : FI w wS wr B i s v o) (hb : Below wr.heap.size wr wx) : FI w wS wx B i s v o :=
  ⟨h.old, h.hB, h.fr.trans (Fr.below (In := fun k => k = B) hb) fun _ hx => .inl hx, h.res, blk_later hb (blk_lt h.blk) h.blk, owns_below h.own hb⟩
theorem FI.app {w wS wr w3 : World} {B : Nat} {i s : Int} {v : Value} {o : List Pt} {q : Pt} {O : Obj} {g cap : Nat} (h : FI w wS wr B i s v o)
    (hown : w3.ownsRow wS.heap.size 48 2 (.slice (some ⟨g, 0, none⟩) (o.length + 1) cap) (o.length + 1) (ptCells o ++ [i64 q.1, i64 q.2])) (hg : (wr.alloc O).grownBy w3 v.ownBlock) :
    FI w wS (w3.setCell ⟨B, 2, none⟩ (.slice (some ⟨g, 0, none⟩) (o.length + 1) cap)) B i s (.slice (some ⟨g, 0, none⟩) (o.length + 1) cap) (o ++ [q]) := by
  have hz := h.hB
  have hzz := h.fr.size
  have f1 : Fr (fun k => k = B) wS w3 := (h.fr.alloc O).grown hg fun k hk => (h.own.lt k hk).1
  have hb3 : w3.heap[B]? = some (.cells #[i64 i, i64 s, v] 108) := (hg.block B (by have := blk_lt h.blk; simp; omega) (owns_not h.own (by omega))).trans (blk_alloc h.blk)
  refine ⟨h.old, h.hB, f1.setCell (b := B) rfl 2 _, h.res, blk_setCell hb3 2 _, ?_⟩
  rw [ptCells_snoc, List.length_append]
  exact ownsRow_setCell_below hown hz.2 _
theorem FI.below {w wS wr : World} {B : Nat} {i s : Int} {v : Value} {o : List Pt} (h : FI w wS wr B i s v o) : Below w.heap.size w wr := by
  have hz := h.hB
  have := h.old.size
  have := h.fr.size
  refine ⟨h.fr.os.trans h.old.os, h.fr.tape.trans h.old.tape, h.fr.output.trans h.old.output, by omega, fun k hk => ?_⟩
  rw [h.fr.block k (by omega) (by show ¬ k = B; omega)]
  exact h.old.block k hk

theorem fetch_arg_err {c : Cfg} {now fr un : Int} (h : ¬ (StampIn now ∧ StampIn fr ∧ StampIn un ∧ fr ≤ un)) : fetchErr c now fr un = 1 := by unfold fetchErr; rw [if_pos h]
theorem fetch_none {d : RDb} {now fr un e : Int} (h : fetchErr d.c now fr un = e) (he : e ≠ 0) : serA d now fr un = 0 ∧ serS d now fr un = 0 ∧ serP d now fr un = [] := by
  subst h
  unfold serA serS serP
  rw [if_neg he, if_neg he, if_neg he]
  exact ⟨rfl, rfl, rfl⟩
/-- what an error leaves -/
theorem fetch_err {d : RDb} {now fr un e : Int} {w w' : World} (h : fetchErr d.c now fr un = e) (he : e ≠ 0) (hb : Below w.heap.size w w') :
    ∃ v, Ending.returned (.tuple #[.agg #[i64 0, i64 0, .slice none 0 0], i64 e]) = .returned (.tuple #[.agg #[i64 (serA d now fr un), i64 (serS d now fr un), v], i64 (fetchErr d.c now fr un)]) ∧ Below w.heap.size w w' ∧ w'.ownsRow w.heap.size 48 2 v (serP d now fr un).length (ptCells (serP d now fr un)) := by
  obtain ⟨a, b, c⟩ := fetch_none h he
  refine ⟨.slice none 0 0, by rw [a, b, h], hb, ?_⟩
  rw [c]
  exact World.ownsRow_nil _ _ _ _

set_option maxHeartbeats 4000000 in
theorem fetch_arg (p : Nat) (now fr un : Int) (d : RDb) (w : World) (h : ¬ (StampIn now ∧ StampIn fr ∧ StampIn un ∧ fr ≤ un)) :
    Calls Tryz.prog 55 #[.pointer (some ⟨p, 0, none⟩), i64 now, i64 fr, i64 un] w fun e w' => ∃ v, e = .returned (.tuple #[.agg #[i64 (serA d now fr un), i64 (serS d now fr un), v], i64 (fetchErr d.c now fr un)]) ∧ Below w.heap.size w w' ∧ w'.ownsRow w.heap.size 48 2 v (serP d now fr un).length (ptCells (serP d now fr un)) := by
  have HE := hid (fetch_arg_err (c := d.c) h)
  by_cases a : 0 ≤ now ∧ now ≤ 2147483647
  · by_cases b : 0 ≤ fr ∧ fr ≤ 2147483647
    · by_cases c : 0 ≤ un ∧ un ≤ 2147483647
      · have e : un < fr := Int.not_le.1 fun x => h ⟨a, b, c, x⟩
        obtain ⟨a0, a1⟩ := a
        obtain ⟨b0, b1⟩ := b
        obtain ⟨c0, c1⟩ := c
        clear h
        go_enter Tryz.func55, Tryz.ntmps55
        go_wp2_with (go_at_call 38; refine (in_keep _ _ _ _).mono ?_; rintro e w' ⟨rfl, rfl⟩)
        refine bodyPost_ret (v := .tuple #[.agg #[i64 0, i64 0, .slice none 0 0], i64 1]) (by simp [results, Tryz.results55, go_sem]) rfl ?_
        exact fetch_err HE.out (by decide) ((Below.refl _ _).alloc (Nat.le_refl _) _)
      · have c' : (decide (0 ≤ un) && decide (un ≤ 2147483647)) = false := and_false' c
        obtain ⟨a0, a1⟩ := a
        obtain ⟨b0, b1⟩ := b
        clear h c
        go_enter Tryz.func55, Tryz.ntmps55
        go_wp2_with (go_at_call 38; refine (in_keep _ _ _ _).mono ?_; rintro e w' ⟨rfl, rfl⟩)
        refine bodyPost_ret (v := .tuple #[.agg #[i64 0, i64 0, .slice none 0 0], i64 1]) (by simp [results, Tryz.results55, go_sem]) rfl ?_
        exact fetch_err HE.out (by decide) ((Below.refl _ _).alloc (Nat.le_refl _) _)
    · have b' : (decide (0 ≤ fr) && decide (fr ≤ 2147483647)) = false := and_false' b
      obtain ⟨a0, a1⟩ := a
      clear h b
      go_enter Tryz.func55, Tryz.ntmps55
      go_wp2_with (go_at_call 38; refine (in_keep _ _ _ _).mono ?_; rintro e w' ⟨rfl, rfl⟩)
      refine bodyPost_ret (v := .tuple #[.agg #[i64 0, i64 0, .slice none 0 0], i64 1]) (by simp [results, Tryz.results55, go_sem]) rfl ?_
      exact fetch_err HE.out (by decide) ((Below.refl _ _).alloc (Nat.le_refl _) _)
  · have a' : (decide (0 ≤ now) && decide (now ≤ 2147483647)) = false := and_false' a
    clear h a
    go_enter Tryz.func55, Tryz.ntmps55
    go_wp2_with (go_at_call 38; refine (in_keep _ _ _ _).mono ?_; rintro e w' ⟨rfl, rfl⟩)
    refine bodyPost_ret (v := .tuple #[.agg #[i64 0, i64 0, .slice none 0 0], i64 1]) (by simp [results, Tryz.results55, go_sem]) rfl ?_
    exact fetch_err HE.out (by decide) ((Below.refl _ _).alloc (Nat.le_refl _) _)
end Go.Proofs.YthbbfjfekchdiaaGreat
