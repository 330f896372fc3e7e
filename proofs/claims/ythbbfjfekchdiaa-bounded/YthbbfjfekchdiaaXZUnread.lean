import Derived.Test.YthbbfjfekchdiaaXZFirst
/-
  The program: why a fetch is refused.
-/
namespace Go.Proofs.Ythbbfjfekchdiaa
open Go.RowKit
set_option linter.unusedSimpArgs false

def stB (x : Int) : Bool := decide (0 ≤ x) && decide (x ≤ 2147483647)
theorem stB_true {x : Int} (h : StampIn x) : stB x = true := by unfold stB; simp [h.1, h.2]
theorem stB_false {x : Int} (h : ¬ StampIn x) : stB x = false := by
  unfold stB
  rw [Bool.eq_false_iff]
  intro y
  simp at y
  exact h y
theorem zstamp_b (x : Int) (w : World) : Calls Try.prog 25 #[i64 x] w fun e w' => e = .returned (.bool (stB x)) ∧ w' = w := zstamp_any x w

set_option maxHeartbeats 2000000 in
theorem zunread_any (p : Nat) (now fr un : Int) (d : RDb) (In : Nat → Prop) (w : World) (h : ZRep w In p d) :
    Calls Try.prog 28 #[.pointer (some ⟨p, 0, none⟩), i64 now, i64 fr, i64 un] w fun e w' => e = .returned (i64 (fetchErr d.c now fr un)) ∧ Below w.heap.size w w' := by
  have HE := hid (show fetchErr d.c now fr un = if ¬ (StampIn now ∧ StampIn fr ∧ StampIn un ∧ fr ≤ un) then 1 else if now < fr then 3 else if firstI d.c now (min un now) < 0 then 4 else 0 from rfl)
  by_cases a : StampIn now
  rotate_left
  · have HV := hid (show fetchErr d.c now fr un = 1 by rw [HE.out, if_pos (fun x => a x.1)])
    have ha := stB_false a
    clear a h
    go_enter Try.func28, Try.ntmps28
    go_wp2_with fail
    refine (zstamp_b now _).mono ?_
    rintro e w' ⟨rfl, rfl⟩
    rw [ha]
    clear ha
    go_wp2
    go_ret
    exact ⟨ret_int (by rw [HV.out]), Below.refl _ _⟩
  have ha := stB_true a
  have HF := hid (fun (t : Int) => zfirst_any p now t d In w h (by have := a.1; omega) (by have := a.2; omega))
  clear h
  by_cases b : StampIn fr
  rotate_left
  · have HV := hid (show fetchErr d.c now fr un = 1 by rw [HE.out, if_pos (fun x => b x.2.1)])
    have hb := stB_false b
    clear a b
    go_enter Try.func28, Try.ntmps28
    go_wp2_with fail
    refine (zstamp_b now _).mono ?_
    rintro e w' ⟨rfl, rfl⟩
    rw [ha]
    clear ha
    go_wp2_with fail
    refine (zstamp_b fr _).mono ?_
    rintro e w' ⟨rfl, rfl⟩
    rw [hb]
    clear hb
    go_wp2
    go_ret
    exact ⟨ret_int (by rw [HV.out]), Below.refl _ _⟩
  have hb := stB_true b
  by_cases c : StampIn un
  rotate_left
  · have HV := hid (show fetchErr d.c now fr un = 1 by rw [HE.out, if_pos (fun x => c x.2.2.1)])
    have hc := stB_false c
    clear a b c
    go_enter Try.func28, Try.ntmps28
    go_wp2_with fail
    refine (zstamp_b now _).mono ?_
    rintro e w' ⟨rfl, rfl⟩
    rw [ha]
    clear ha
    go_wp2_with fail
    refine (zstamp_b fr _).mono ?_
    rintro e w' ⟨rfl, rfl⟩
    rw [hb]
    clear hb
    go_wp2_with fail
    refine (zstamp_b un _).mono ?_
    rintro e w' ⟨rfl, rfl⟩
    rw [hc]
    clear hc
    go_wp2
    go_ret
    exact ⟨ret_int (by rw [HV.out]), Below.refl _ _⟩
  have hc := stB_true c
  go_enter Try.func28, Try.ntmps28
  go_wp2_with fail
  refine (zstamp_b now _).mono ?_
  rintro e w' ⟨rfl, rfl⟩
  rw [ha]
  clear ha
  go_wp2_with fail
  refine (zstamp_b fr _).mono ?_
  rintro e w' ⟨rfl, rfl⟩
  rw [hb]
  clear hb
  go_wp2_with fail
  refine (zstamp_b un _).mono ?_
  rintro e w' ⟨rfl, rfl⟩
  rw [hc]
  clear hc
  by_cases hfu : un < fr
  · have HV := hid (show fetchErr d.c now fr un = 1 by rw [HE.out, if_pos (fun x => by have := x.2.2.2; omega)])
    clear a b c
    go_wp2
    go_ret
    exact ⟨ret_int (by rw [HV.out]), Below.refl _ _⟩
  have HE2 := hid (show fetchErr d.c now fr un = if now < fr then 3 else if firstI d.c now (min un now) < 0 then 4 else 0 by rw [HE.out, if_neg (fun x => x ⟨a, b, c, by omega⟩)])
  clear a b c HE
  by_cases hnf : now < fr
  · have HV := hid (show fetchErr d.c now fr un = 3 by rw [HE2.out, if_pos hnf])
    go_wp2
    go_ret
    exact ⟨ret_int (by rw [HV.out]), Below.refl _ _⟩
  have HE3 := hid (show fetchErr d.c now fr un = if firstI d.c now (min un now) < 0 then 4 else 0 by rw [HE2.out, if_neg hnf])
  by_cases hmn : un ≤ now
  · have e1 : min un now = un := by omega
    rw [e1] at HE3
    clear e1
    go_wp2_with fail
    refine (HF.out _).mono ?_
    rintro e w1 ⟨rfl, hb1⟩
    have HB1 := hid hb1
    clear hb1
    by_cases hcv : firstI d.c now un < 0
    · have HV3 := hid (show fetchErr d.c now fr un = 4 by rw [HE3.out, if_pos hcv])
      have e2 : decide (0 ≤ firstI d.c now un) = false := decide_eq_false (by omega)
      rw [e2]
      clear e2 hcv
      go_wp2
      go_ret
      exact ⟨ret_int (by rw [HV3.out]), HB1.out⟩
    · have HV3 := hid (show fetchErr d.c now fr un = 0 by rw [HE3.out, if_neg hcv])
      have e2 : decide (0 ≤ firstI d.c now un) = true := decide_eq_true (by omega)
      rw [e2]
      clear e2 hcv
      go_wp2
      go_ret
      exact ⟨ret_int (by rw [HV3.out]), HB1.out⟩
  · have e1 : min un now = now := by omega
    rw [e1] at HE3
    clear e1
    go_wp2_with fail
    refine (HF.out _).mono ?_
    rintro e w1 ⟨rfl, hb1⟩
    have HB1 := hid hb1
    clear hb1
    by_cases hcv : firstI d.c now now < 0
    · have HV3 := hid (show fetchErr d.c now fr un = 4 by rw [HE3.out, if_pos hcv])
      have e2 : decide (0 ≤ firstI d.c now now) = false := decide_eq_false (by omega)
      rw [e2]
      clear e2 hcv
      go_wp2
      go_ret
      exact ⟨ret_int (by rw [HV3.out]), HB1.out⟩
    · have HV3 := hid (show fetchErr d.c now fr un = 0 by rw [HE3.out, if_neg hcv])
      have e2 : decide (0 ≤ firstI d.c now now) = true := decide_eq_true (by omega)
      rw [e2]
      clear e2 hcv
      go_wp2
      go_ret
      exact ⟨ret_int (by rw [HV3.out]), HB1.out⟩
end Go.Proofs.Ythbbfjfekchdiaa
