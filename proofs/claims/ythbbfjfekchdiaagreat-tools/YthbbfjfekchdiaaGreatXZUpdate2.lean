import Derived.Test.YthbbfjfekchdiaaGreatXZFirst
import Derived.Test.YthbbfjfekchdiaaGreatXZUpdate
namespace Go.Proofs.YthbbfjfekchdiaaGreat
open Go.RowKit
set_option linter.unusedSimpArgs false
def stB (x : Int) : Bool := decide (0 ≤ x) && decide (x ≤ 2147483647)
theorem stB_true {x : Int} (h : StampIn x) : stB x = true := by unfold stB; simp [h.1, h.2]
theorem stB_false {x : Int} (h : ¬ StampIn x) : stB x = false := by
  unfold stB
  rw [Bool.eq_false_iff]
  intro y
  simp at y
  exact h y
theorem zstamp_b (x : Int) (w : World) : Calls Tryz.prog 62 #[i64 x] w fun e w' => e = .returned (.bool (stB x)) ∧ w' = w := zstamp_any x w
set_option maxHeartbeats 2000000 in
theorem zunread_any (p : Nat) (now fr un : Int) (d : RDb) (In : Nat → Prop) (w : World) (h : ZRep w In p d) :
    Calls Tryz.prog 82 #[.pointer (some ⟨p, 0, none⟩), i64 now, i64 fr, i64 un] w fun e w' => e = .returned (i64 (fetchErr d.c now fr un)) ∧ Below w.heap.size w w' := by
  have HE := hid (show fetchErr d.c now fr un = if ¬ (StampIn now ∧ StampIn fr ∧ StampIn un ∧ fr ≤ un) then 1 else if now < fr then 3 else if firstI d.c now (min un now) < 0 then 4 else 0 from rfl)
  by_cases a : StampIn now
  rotate_left
  · have HV := hid (show fetchErr d.c now fr un = 1 by rw [HE.out, if_pos (fun x => a x.1)])
    have ha := stB_false a
    clear a h
    go_enter Tryz.func82, Tryz.ntmps82
    go_wp2_with fail
    refine (zstamp_b now _).mono ?_
    rintro e w' ⟨rfl, rfl⟩
    rw [ha]
    clear ha
    go_wp2
    go_ret
    exact ⟨ret_int (by rw [HV.out]), Below.refl _ _⟩
  have ha := stB_true a
  have HF := hid (fun (t : Int) => zfirst_any p now t d In w h (by have := a.1; omega) (by have := a.2; omega))
  clear h
  by_cases b : StampIn fr
  rotate_left
  · have HV := hid (show fetchErr d.c now fr un = 1 by rw [HE.out, if_pos (fun x => b x.2.1)])
    have hb := stB_false b
    clear a b
    go_enter Tryz.func82, Tryz.ntmps82
    go_wp2_with fail
    refine (zstamp_b now _).mono ?_
    rintro e w' ⟨rfl, rfl⟩
    rw [ha]
    clear ha
    go_wp2_with fail
    refine (zstamp_b fr _).mono ?_
    rintro e w' ⟨rfl, rfl⟩
    rw [hb]
    clear hb
    go_wp2
    go_ret
    exact ⟨ret_int (by rw [HV.out]), Below.refl _ _⟩
  have hb := stB_true b
  by_cases c : StampIn un
  rotate_left
  · have HV := hid (show fetchErr d.c now fr un = 1 by rw [HE.out, if_pos (fun x => c x.2.2.1)])
    have hc := stB_false c
    clear a b c
    go_enter Tryz.func82, Tryz.ntmps82
    go_wp2_with fail
    refine (zstamp_b now _).mono ?_
    rintro e w' ⟨rfl, rfl⟩
    rw [ha]
    clear ha
    go_wp2_with fail
    refine (zstamp_b fr _).mono ?_
    rintro e w' ⟨rfl, rfl⟩
    rw [hb]
    clear hb
    go_wp2_with fail
    refine (zstamp_b un _).mono ?_
    rintro e w' ⟨rfl, rfl⟩
    rw [hc]
    clear hc
    go_wp2
    go_ret
    exact ⟨ret_int (by rw [HV.out]), Below.refl _ _⟩
  have hc := stB_true c
  go_enter Tryz.func82, Tryz.ntmps82
  go_wp2_with fail
  refine (zstamp_b now _).mono ?_
  rintro e w' ⟨rfl, rfl⟩
  rw [ha]
  clear ha
  go_wp2_with fail
  refine (zstamp_b fr _).mono ?_
  rintro e w' ⟨rfl, rfl⟩
  rw [hb]
  clear hb
  go_wp2_with fail
  refine (zstamp_b un _).mono ?_
  rintro e w' ⟨rfl, rfl⟩
  rw [hc]
  clear hc
  by_cases hfu : un < fr
  · have HV := hid (show fetchErr d.c now fr un = 1 by rw [HE.out, if_pos (fun x => by have := x.2.2.2; omega)])
    clear a b c
    go_wp2
    go_ret
    exact ⟨ret_int (by rw [HV.out]), Below.refl _ _⟩
  have HE2 := hid (show fetchErr d.c now fr un = if now < fr then 3 else if firstI d.c now (min un now) < 0 then 4 else 0 by rw [HE.out, if_neg (fun x => x ⟨a, b, c, by omega⟩)])
  clear a b c HE
  by_cases hnf : now < fr
  · have HV := hid (show fetchErr d.c now fr un = 3 by rw [HE2.out, if_pos hnf])
    go_wp2
    go_ret
    exact ⟨ret_int (by rw [HV.out]), Below.refl _ _⟩
  have HE3 := hid (show fetchErr d.c now fr un = if firstI d.c now (min un now) < 0 then 4 else 0 by rw [HE2.out, if_neg hnf])
  by_cases hmn : un ≤ now
  · have e1 : min un now = un := by omega
    rw [e1] at HE3
    clear e1
    go_wp2_with fail
    refine (HF.out _).mono ?_
    rintro e w1 ⟨rfl, hb1⟩
    have HB1 := hid hb1
    clear hb1
    by_cases hcv : firstI d.c now un < 0
    · have HV3 := hid (show fetchErr d.c now fr un = 4 by rw [HE3.out, if_pos hcv])
      have e2 : decide (0 ≤ firstI d.c now un) = false := decide_eq_false (by omega)
      rw [e2]
      clear e2 hcv
      go_wp2
      go_ret
      exact ⟨ret_int (by rw [HV3.out]), HB1.out⟩
    · have HV3 := hid (show fetchErr d.c now fr un = 0 by rw [HE3.out, if_neg hcv])
      have e2 : decide (0 ≤ firstI d.c now un) = true := decide_eq_true (by omega)
      rw [e2]
      clear e2 hcv
      go_wp2
      go_ret
      exact ⟨ret_int (by rw [HV3.out]), HB1.out⟩
  · have e1 : min un now = now := by omega
    rw [e1] at HE3
    clear e1
    go_wp2_with fail
    refine (HF.out _).mono ?_
    rintro e w1 ⟨rfl, hb1⟩
    have HB1 := hid hb1
    clear hb1
    by_cases hcv : firstI d.c now now < 0
    · have HV3 := hid (show fetchErr d.c now fr un = 4 by rw [HE3.out, if_pos hcv])
      have e2 : decide (0 ≤ firstI d.c now now) = false := decide_eq_false (by omega)
      rw [e2]
      clear e2 hcv
      go_wp2
      go_ret
      exact ⟨ret_int (by rw [HV3.out]), HB1.out⟩
    · have HV3 := hid (show fetchErr d.c now fr un = 0 by rw [HE3.out, if_neg hcv])
      have e2 : decide (0 ≤ firstI d.c now now) = true := decide_eq_true (by omega)
      rw [e2]
      clear e2 hcv
      go_wp2
      go_ret
      exact ⟨ret_int (by rw [HV3.out]), HB1.out⟩
end Go.Proofs.YthbbfjfekchdiaaGreat
namespace Go.Proofs.YthbbfjfekchdiaaGreat
open Go.RowKit
set_option linter.unusedSimpArgs false
theorem zstamp_k (x : Int) (w : World) : Calls Tryz.prog 62 #[i64 x] w fun e w' => e = .returned (.bool (stB x)) ∧ w = w' := (zstamp_any x w).mono fun _ _ h => ⟨h.1, h.2.symm⟩
theorem ptErr_zero' {c : Cfg} {now : Int} {q : Pt} (h : ptErr c now q = 0) : PtIn q := by
  unfold ptErr at h
  split at h
  · simp at h
  · rename_i h1; exact Classical.not_not.1 h1
theorem upd_yes' {c : Cfg} {now : Int} {l : List Pt} (hn : 0 ≤ now ∧ now ≤ 2147483647) (hl : l.length ≤ 100) (h : ∀ (j : Nat) (x : Pt), l[j]? = some x → ptErr c now x = 0) : updErr c now l = (0, 0) := by
  unfold updErr
  rw [if_neg (by rintro (x | x); · exact x hn
                 · omega), errFrom_none l 0 fun q hq => by obtain ⟨j, hj⟩ := List.mem_iff_getElem?.1 hq; exact h j q hj]
  rfl
theorem upd_no' {c : Cfg} {now : Int} {l : List Pt} {k : Nat} {q : Pt} (hn : 0 ≤ now ∧ now ≤ 2147483647) (hl : l.length ≤ 100) (hq : l[k]? = some q) (hz : ∀ (j : Nat) (x : Pt), j < k → l[j]? = some x → ptErr c now x = 0) (he : ptErr c now q ≠ 0) : updErr c now l = (ptErr c now q, k) := by
  unfold updErr
  rw [if_neg (by rintro (x | x); · exact x hn
                 · omega), errFrom_at l 0 k q hq hz he]
  simp
set_option maxHeartbeats 4000000 in
theorem zupdate_go (HSO : Hid SortOk) (p : Nat) (now : Int) (v : Value) (l : List Pt) (d : RDb) (In : Nat → Prop) (w : World) (hrep : ZRep w In p d) (hl : RowG w v l) (ho : OutOf In v) (n0 : 0 ≤ now) (n1 : now ≤ 2147483647) (h100 : l.length ≤ 100) :
    Calls Tryz.prog 51 #[.pointer (some ⟨p, 0, none⟩), i64 now, v] w fun e w' => e = .returned (.tuple #[i64 (updErr d.c now l).1, i64 (updErr d.c now l).2]) ∧ ZRep w' In p (updR d now l) ∧ Fr In w w' := by
  have HREP := hid hrep
  have HL := hid hl
  have HO := hid ho
  obtain ⟨a, cap, rfl, hrow⟩ := hl
  have HROW := hid hrow
  have hst := stB_true (x := now) ⟨n0, n1⟩
  clear hrep ho hrow
  go_enter Tryz.func51, Tryz.ntmps51
  go_wp2_with fail
  refine (zstamp_k now _).mono ?_
  rintro e w' ⟨rfl, rfl⟩
  rw [hst]
  clear hst
  go_wp2
  go_loopw [23] (fun i wr => ∃ k : Nat, k ≤ l.length ∧ i = i64 k ∧ (∀ (j : Nat) (x : Pt), j < k → l[j]? = some x → ptErr d.c now x = 0) ∧ Below w.heap.size w wr) (fun i _ => l.length - (intOf i).toNat)
  case atStart => exact ⟨0, by omega, rfl, fun j x hj => absurd hj (by omega), Below.refl _ _⟩
  case round =>
    obtain ⟨k, hk, rfl, hz, hb⟩ := hrel
    have HZ := hid hz
    have HB := hid hb
    have hzr := hb.size
    clear hz hb
    by_cases hlt : k < l.length
    case neg =>
      have hall : ∀ (j : Nat) (x : Pt), l[j]? = some x → ptErr d.c now x = 0 := fun j x hj => HZ.out j x (by obtain ⟨y, _⟩ := List.getElem?_eq_some_iff.1 hj; omega) hj
      have HALL := hid hall
      have HU := hid (upd_yes' ⟨n0, n1⟩ h100 hall)
      have HUR := hid (show updR d now l = writesAll d now l by unfold updR; rw [upd_yes' ⟨n0, n1⟩ h100 hall, if_pos rfl])
      clear hall
      go_wp2
      go_loopw [39] (fun i wx => ∃ k : Nat, k ≤ l.length ∧ i = i64 k ∧ ZRep wx In p (writesAll d now (l.take k)) ∧ Fr In w wx) (fun i _ => l.length - (intOf i).toNat)
      case atStart => exact ⟨0, by omega, rfl, HREP.out.fr (Fr.below (In := fun _ => False) HB.out) (fun _ _ x => x), Fr.below HB.out⟩
      case round =>
        obtain ⟨j, hj, rfl, hR, hF⟩ := hrel
        have HR := hid hR
        have HF := hid hF
        clear hR hF
        by_cases hlt2 : j < l.length
        case neg =>
          have ej : l.take j = l := List.take_of_length_le (by omega)
          rw [ej] at HR
          clear ej
          go_wp2
          go_ret2
          exact ⟨by rw [HU.out]; rfl, by rw [HUR.out]; exact HR.out, HF.out⟩
        obtain ⟨q, hq⟩ : ∃ q, l[j]? = some q := ⟨_, List.getElem?_eq_getElem hlt2⟩
        obtain ⟨a', cap', ha, hrow⟩ := HL.out.fr HO.out HF.out
        simp only [Value.slice.injEq] at ha
        obtain ⟨rfl, _, rfl⟩ := ha
        obtain ⟨b, off, rfl, c0, c1⟩ := hrow j q hq
        have HPZ := hid (ptErr_zero' (HALL.out j q hq))
        have HWA := hid (writesAll_ok (d := d) (now := now) hq)
        have j0 : (0 : Int) ≤ (j : Int) := by omega
        have j1 : (j : Int) < (l.length : Int) := by omega
        have hbz : b < wr.heap.size := World.block_lt_of_cell? _ _ c0
        have hal := fun (o : Obj) => (Below.refl wr.heap.size wr).alloc (Nat.le_refl _) o
        have HWRT := hid (fun (o : Obj) => zwr_any HSO p now q _ In (wr.alloc o) (HR.out.fr (Fr.below (In := fun _ => False) (hal o)) (fun _ _ x => x)) HPZ.out n0 n1)
        have HALO := hid hal
        clear hrow hq hal
        go_wp2_with fail
        refine (HWRT.out _).mono ?_
        rintro e w2 ⟨rfl, hR2, hF2⟩
        have HN := hid (show ZRep w2 In p (writesAll d now (l.take (j + 1))) ∧ Fr In w w2 by
          rw [HWA.out]
          exact ⟨hR2, (HF.out.trans (Fr.below (In := fun _ => False) (HALO.out _)) (fun _ h => h.elim)).trans hF2 (fun x hx => .inl hx)⟩)
        clear hR2 hF2
        go_wp2
        go_roundw
        case rel => first | exact ⟨j + 1, by omega, by go_num, HN.out⟩ | ((repeat apply Exists.intro); exact ⟨⟨j + 1, by omega, by go_num, HN.out⟩, rfl⟩)
        case measure => simp [intOf]; omega
    obtain ⟨q, hq⟩ : ∃ q, l[k]? = some q := ⟨_, List.getElem?_eq_getElem hlt⟩
    obtain ⟨b, off, rfl, c0, c1⟩ := HROW.out k q hq
    have hbz : b < w.heap.size := World.block_lt_of_cell? _ _ c0
    have z0 : wr.cell? ⟨b, off + k * 2, none⟩ = some (i64 q.1) := cell_later HB.out c0
    have z1 : wr.cell? ⟨b, off + k * 2 + 1, none⟩ = some (i64 q.2) := cell_later HB.out c1
    have hbr : b < wr.heap.size := by omega
    have k0 : (0 : Int) ≤ (k : Int) := by omega
    have k1 : (k : Int) < (l.length : Int) := by omega
    have HQ := hid hq
    have HNO := hid (show ptErr d.c now q ≠ 0 → updErr d.c now l = (ptErr d.c now q, k) from upd_no' ⟨n0, n1⟩ h100 hq HZ.out)
    have HBK := hid (show ∀ wx, Below w.heap.size w wx → ptErr d.c now q ≠ 0 → ZRep wx In p (updR d now l) ∧ Fr In w wx from fun wx hb he => by
      have e : updR d now l = d := by unfold updR; rw [HNO.out he, if_neg he]
      rw [e]; exact ⟨HREP.out.fr (Fr.below (In := fun _ => False) hb) (fun _ _ x => x), Fr.below hb⟩)
    have hal := fun (o : Obj) => HB.out.alloc hzr o
    have HRF := hid (fun (o : Obj) => zrefusal_any p now q d In (wr.alloc o) (HREP.out.fr (Fr.below (In := fun _ => False) (hal o)) (fun _ _ x => x)) (by omega) (by omega))
    have HALO := hid hal
    obtain ⟨er, her⟩ : ∃ e, e = ptErr d.c now q := ⟨_, rfl⟩
    rw [← her] at HRF HNO HBK
    have HER := hid her
    clear hq c0 c1 hal her
    go_wp2_with fail
    refine (HRF.out _).mono ?_
    rintro e w1 ⟨rfl, hb1⟩
    have HB1 := hid (show Below w.heap.size w w1 from (HALO.out _).trans (hb1.mono (by simp; omega)))
    clear hb1
    by_cases e3 : er = 0
    · have HZ1 := hid (show ∀ (j : Nat) (x : Pt), j < k + 1 → l[j]? = some x → ptErr d.c now x = 0 from fun j x hj hx => by
        by_cases e : j = k
        · subst e
          have : x = q := by rw [HQ.out] at hx; simpa using hx.symm
          rw [this, ← HER.out]; exact e3
        · exact HZ.out j x (by omega) hx)
      subst e3
      go_wp2
      go_roundw
      case rel => first | exact ⟨k + 1, by omega, by go_num, HZ1.out, HB1.out⟩ | ((repeat apply Exists.intro); exact ⟨⟨k + 1, by omega, by go_num, HZ1.out, HB1.out⟩, rfl⟩)
      case measure => simp [intOf]; omega
    · have HE3 := hid e3
      have e4 : (er == 0) = false := beq_eq_false_iff_ne.2 e3
      go_wp2
      go_ret2
      exact ⟨by rw [HNO.out HE3.out]; rfl, HBK.out _ HB1.out HE3.out⟩
set_option maxHeartbeats 2000000 in
theorem zupdate_arg (p : Nat) (now : Int) (v : Value) (l : List Pt) (d : RDb) (In : Nat → Prop) (w : World) (hrep : ZRep w In p d) (hl : RowG w v l) (hlen : l.length ≤ 140737488351232) (he : ¬ (0 ≤ now ∧ now ≤ 2147483647) ∨ 100 < l.length) :
    Calls Tryz.prog 51 #[.pointer (some ⟨p, 0, none⟩), i64 now, v] w fun e w' => e = .returned (.tuple #[i64 (updErr d.c now l).1, i64 (updErr d.c now l).2]) ∧ ZRep w' In p (updR d now l) ∧ Fr In w w' := by
  have HU := hid (show updErr d.c now l = (1, 0) by unfold updErr; rw [if_pos he])
  have HR := hid (show updR d now l = d by unfold updR; rw [HU.out, if_neg (by decide)])
  rw [HU.out, HR.out]
  have HREP := hid hrep
  obtain ⟨a, cap, rfl, _⟩ := hl
  by_cases hn : StampIn now
  · have hst := stB_true hn
    have h1 : (100 : Int) < (l.length : Int) := by
      rcases he with h | h
      · exact absurd hn h
      · omega
    clear he hn hrep
    go_enter Tryz.func51, Tryz.ntmps51
    go_wp2_with fail
    refine (zstamp_k now _).mono ?_
    rintro e w' ⟨rfl, rfl⟩
    rw [hst]
    clear hst
    go_wp2
    go_ret2
    exact ⟨rfl, HREP.out, Fr.refl _ _⟩
  · have hst := stB_false hn
    clear he hn hrep
    go_enter Tryz.func51, Tryz.ntmps51
    go_wp2_with fail
    refine (zstamp_k now _).mono ?_
    rintro e w' ⟨rfl, rfl⟩
    rw [hst]
    clear hst
    go_wp2
    go_ret2
    exact ⟨rfl, HREP.out, Fr.refl _ _⟩
theorem zupdate_any (HSO : Hid SortOk) (p : Nat) (now : Int) (v : Value) (l : List Pt) (d : RDb) (In : Nat → Prop) (w : World) (hrep : ZRep w In p d) (hl : RowG w v l) (ho : OutOf In v) (hlen : l.length ≤ 140737488351232) :
    Calls Tryz.prog 51 #[.pointer (some ⟨p, 0, none⟩), i64 now, v] w fun e w' => e = .returned (.tuple #[i64 (updErr d.c now l).1, i64 (updErr d.c now l).2]) ∧ ZRep w' In p (updR d now l) ∧ Fr In w w' := by
  by_cases he : ¬ (0 ≤ now ∧ now ≤ 2147483647) ∨ 100 < l.length
  · exact zupdate_arg p now v l d In w hrep hl hlen he
  · have h1 : 0 ≤ now ∧ now ≤ 2147483647 := Classical.not_not.1 fun h => he (.inl h)
    exact zupdate_go HSO p now v l d In w hrep hl ho h1.1 h1.2 (by omega)
end Go.Proofs.YthbbfjfekchdiaaGreat
