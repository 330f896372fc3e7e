import Derived.Test.YthbbfjfekchdiaaXZHead
import Derived.Test.YthbbfjfekchdiaaXZSlots
/-
  The program: Load.
-/
namespace Go.Proofs.Ythbbfjfekchdiaa
open Go.RowKit
set_option linter.unusedSimpArgs false
attribute [local go_sem] Go.wp_at_zero Go.wp_at_succ

/-- what Load answers -/
def LoadPost (w : World) (b : List Int) (e : Ending) (w' : World) : Prop :=
  Below w.heap.size w w' ∧ (loadL b = none → e = .returned (.tuple #[.pointer none, i64 5])) ∧ ∀ d, loadL b = some d → ∃ p, e = .returned (.tuple #[.pointer (some ⟨p, 0, none⟩), i64 0]) ∧ ZRep w' (fun k => w.heap.size ≤ k) p d
theorem LoadPost.bad {w w' : World} {b : List Int} (h : Below w.heap.size w w') (hn : loadL b = none) : LoadPost w b (.returned (.tuple #[.pointer none, i64 5])) w' :=
  ⟨h, fun _ => rfl, fun d hd => by rw [hn] at hd; cases hd⟩

theorem loadL_head {b : List Int} (h : b.length < 7 ∨ b.take 4 ≠ sunL ∨ (4 < b.getD 6 0 ∨ b.length < 7 + 8 * (b.getD 6 0).toNat)) : loadL b = none := by
  unfold loadL
  rw [if_pos]
  rcases h with h | h | h | h
  · exact .inl h
  · exact .inr (.inl h)
  · exact .inr (.inr (.inr (.inl h)))
  · exact .inr (.inr (.inr (.inr h)))
theorem cfgRead0_many (b : List Int) : (cfgRead b 0).many = 0 := by
  unfold Cfg.many
  rw [if_pos]
  exact ⟨rfl, rfl⟩
theorem loadL_cfg {b : List Int} (h : ¬ (cfgRead b (b.getD 6 0).toNat).Ok ∨ (cfgRead b (b.getD 6 0).toNat).many ≠ (b.getD 6 0).toNat) : loadL b = none := by
  unfold loadL
  split
  · rfl
  · rw [if_pos]
    rcases h with h | h
    · exact .inl (by rw [Cfg.err_no h]; decide)
    · exact .inr (.inl h)
theorem loadL_slots {b : List Int} (h : arcsRead (cfgRead b (b.getD 6 0).toNat) 0 (b.getD 6 0).toNat (b.drop (7 + 8 * (b.getD 6 0).toNat)) = none ∨ (b.drop (7 + 8 * (b.getD 6 0).toNat)).length ≠ slotLen (cfgRead b (b.getD 6 0).toNat) 0 (b.getD 6 0).toNat) : loadL b = none := by
  unfold loadL
  split
  · rfl
  · split
    · rfl
    · rename_i h1 h2
      rcases h with h | h
      · rw [h]; rfl
      · exfalso
        apply h
        rw [List.length_drop]
        have : ¬ b.length < 7 + 8 * (b.getD 6 0).toNat := fun y => h1 (.inr (.inr (.inr (.inr y))))
        have : b.length = 7 + 8 * (b.getD 6 0).toNat + slotLen (cfgRead b (b.getD 6 0).toNat) 0 (b.getD 6 0).toNat := Classical.not_not.1 fun y => h2 (.inr (.inr y))
        omega
theorem loadL_ok {b : List Int} {A : List (List (Option Pt))} {r : List Int} (h7 : 7 ≤ b.length) (hm : b.take 4 = sunL) (hh : ¬ (4 < b.getD 6 0 ∨ b.length < 7 + 8 * (b.getD 6 0).toNat)) (hc : (cfgRead b (b.getD 6 0).toNat).Ok) (hmn : (cfgRead b (b.getD 6 0).toNat).many = (b.getD 6 0).toNat) (hl : (b.drop (7 + 8 * (b.getD 6 0).toNat)).length = slotLen (cfgRead b (b.getD 6 0).toNat) 0 (b.getD 6 0).toNat)
    (ha : arcsRead (cfgRead b (b.getD 6 0).toNat) 0 (b.getD 6 0).toNat (b.drop (7 + 8 * (b.getD 6 0).toNat)) = some (A, r)) : loadL b = some ⟨cfgRead b (b.getD 6 0).toNat, A.map listOf⟩ := by
  have h1 := hc.1.2.2.2.2
  rw [hmn] at h1
  unfold loadL
  rw [if_neg, if_neg, ha]
  · rfl
  · rintro (x | x | x)
    · rw [Cfg.err_ok hc] at x; exact x rfl
    · exact x hmn
    · rw [List.length_drop] at hl
      have : ¬ b.length < 7 + 8 * (b.getD 6 0).toNat := fun y => hh (.inr y)
      omega
  · rintro (x | x | x | x | x)
    · omega
    · exact x hm
    · omega
    · exact hh (.inl x)
    · exact hh (.inr x)

set_option maxRecDepth 4000 in
set_option maxHeartbeats 2000000 in
theorem load_bad (v : Value) (b : List Int) (w : World) (hh : Calls Try.prog 36 #[v] w fun e w' => e = .returned (.tuple #[.agg zero10, .slice none 0 0, .bool false]) ∧ Below w.heap.size w w') (hn : loadL b = none) :
    Calls Try.prog 18 #[v] w fun e w' => LoadPost w b e w' := by
  have HP := hid (fun (w' : World) (h : Below w.heap.size w w') => LoadPost.bad (b := b) h hn)
  have HH := hid hh
  clear hh hn
  go_enter Try.func18, Try.ntmps18
  go_wp2_with fail
  refine HH.out.mono ?_
  rintro e w1 ⟨rfl, hb1⟩
  have HB := hid hb1
  have hwz : w.heap.size ≤ w1.heap.size := hb1.size
  clear hb1
  simp only [zero10]
  go_wp2
  exact bodyPost_ret (v := .tuple #[.pointer none, i64 5]) (by simp [results, Try.results18, go_sem]) rfl (HP.out _ (HB.out.alloc (by omega) _))

set_option maxRecDepth 4000 in
set_option maxHeartbeats 2000000 in
theorem zload_go (v : Value) (b r : List Int) (c : Cfg) (q : Bool) (w : World)
    (hh : Calls Try.prog 36 #[v] w fun e w' => ∃ v', e = .returned (.tuple #[.agg c.cells, v', .bool q]) ∧ Below w.heap.size w w' ∧ RowB w' v' r ∧ OutB (fun k => w.heap.size ≤ k) v')
    (hb : ByteL r) (h1 : q = false ∨ ¬ c.Ok → loadL b = none) (h2 : q = true → c.Ok → (arcsRead c 0 c.many r = none ∨ r.length ≠ slotLen c 0 c.many) → loadL b = none) (h3 : q = true → c.Ok → r.length = slotLen c 0 c.many → ∀ A, arcsRead c 0 c.many r = some (A, []) → loadL b = some ⟨c, A.map listOf⟩) :
    Calls Try.prog 18 #[v] w fun e w' => LoadPost w b e w' := by
  have HP := hid (fun (w' : World) (h : Below w.heap.size w w') (hn : loadL b = none) => LoadPost.bad (b := b) h hn)
  have HH := hid hh
  have HBR := hid hb
  have H1 := hid h1
  have H2 := hid h2
  have H3 := hid h3
  clear hh hb h1 h2 h3
  go_enter Try.func18, Try.ntmps18
  go_wp2_with fail
  refine HH.out.mono ?_
  rintro e w1 ⟨v', rfl, hb1, hrow, hout⟩
  have HB := hid hb1
  have HROW := hid hrow
  have HOUT := hid hout
  have hwz : w.heap.size ≤ w1.heap.size := hb1.size
  have HBA := hid (fun (O : Obj) => HB.out.alloc (by omega) O)
  clear hb1 hrow hout
  simp only [Cfg.cells]
  cases q with
  | false =>
    have HN := hid (H1.out (.inl rfl))
    go_wp2
    exact bodyPost_ret (v := .tuple #[.pointer none, i64 5]) (by simp [results, Try.results18, go_sem]) rfl (HP.out _ (HBA.out _) HN.out)
  | true =>
    go_wp2_with fail
    by_cases hc : c.Ok
    · have HC := hid hc
      refine (show Calls Try.prog 22 #[.agg #[i64 c.s0, i64 c.k0, i64 c.s1, i64 c.k1, i64 c.s2, i64 c.k2, i64 c.s3, i64 c.k3, i64 c.m, i64 c.f]] _ _ from zcreate_yes c _ hc).mono ?_
      rintro e w2 ⟨p, rfl, hb2, hz⟩
      have HB2 := hid ((HBA.out _).trans (hb2.mono (HBA.out _).size))
      have HZ := hid (hz.weak (In' := fun k => w.heap.size ≤ k) fun k hk => Nat.le_trans (Nat.le_trans hwz (by simp)) hk)
      have HROW2 := hid ((HROW.out.later ((Below.refl _ w1).alloc (Nat.le_refl _) _)).later hb2)
      clear hb2 hz hc HROW
      go_wp2_with fail
      refine (readSlots_any p c (fun k => w.heap.size ≤ k) v' r _ HZ.out HROW2.out HBR.out HOUT.out).mono ?_
      rintro e w3 ⟨hf3, ⟨rfl, hlen, A, hA, hz3⟩ | ⟨rfl, hbad⟩⟩
      · have HF := hid (show LoadPost w b (.returned (.tuple #[.pointer (some ⟨p, 0, none⟩), i64 0])) w3 from by
          have hl := H3.out (by trivial) HC.out hlen A hA
          refine ⟨HB2.out.trans ⟨hf3.os, hf3.tape, hf3.output, hf3.size, fun k hk => hf3.block k (Nat.lt_of_lt_of_le hk HB2.out.size) (by omega)⟩, (fun hn => by rw [hl] at hn; cases hn), fun d hd => ?_⟩
          rw [hl] at hd
          cases hd
          exact ⟨p, rfl, hz3⟩)
        clear hf3 hlen hA hz3
        go_wp2
        exact bodyPost_ret (v := .tuple #[.pointer (some ⟨p, 0, none⟩), i64 0]) (by simp [results, Try.results18, go_sem]) rfl HF.out
      · have HF := hid (HP.out w3 (HB2.out.trans ⟨hf3.os, hf3.tape, hf3.output, hf3.size, fun k hk => hf3.block k (Nat.lt_of_lt_of_le hk HB2.out.size) (by omega)⟩) (H2.out (by trivial) HC.out hbad))
        clear hf3 hbad
        go_wp2
        exact bodyPost_ret (v := .tuple #[.pointer none, i64 5]) (by simp [results, Try.results18, go_sem]) rfl HF.out
    · refine (show Calls Try.prog 22 #[.agg #[i64 c.s0, i64 c.k0, i64 c.s1, i64 c.k1, i64 c.s2, i64 c.k2, i64 c.s3, i64 c.k3, i64 c.m, i64 c.f]] _ _ from pcreate_no c _ hc).mono ?_
      rintro e w2 ⟨rfl, hb2⟩
      have HF := hid (HP.out w2 ((HBA.out _).trans (hb2.mono (HBA.out _).size)) (H1.out (.inr hc)))
      clear hb2 hc
      go_wp2
      exact bodyPost_ret (v := .tuple #[.pointer none, i64 5]) (by simp [results, Try.results18, go_sem]) rfl HF.out

theorem zload_any (v : Value) (b : List Int) (w : World) (hr : RowB w v b) (hb : ByteL b) (hlow : OutB (fun k => w.heap.size ≤ k) v) :
    Calls Try.prog 18 #[v] w fun e w' => LoadPost w b e w' := by
  by_cases h7 : b.length < 7
  · exact load_bad v b w (head_short v b w hr h7) (loadL_head (.inl h7))
  by_cases hm : b.take 4 = sunL
  · by_cases hh : 4 < b.getD 6 0 ∨ b.length < 7 + 8 * (b.getD 6 0).toNat
    · refine load_bad v b w ?_ (loadL_head (.inr (.inr hh)))
      exact head_rest v b w hr hb (by omega) hm _ (fun _ w' h => ⟨rfl, h⟩) (fun h => absurd hh h)
    · refine zload_go v b (b.drop (7 + 8 * (b.getD 6 0).toNat)) (cfgRead b (b.getD 6 0).toNat) ((cfgRead b (b.getD 6 0).toNat).many == (b.getD 6 0).toNat) w ?_ (fun x hx => hb x (List.mem_of_mem_drop hx)) ?_ ?_ ?_
      · exact head_rest v b w hr hb (by omega) hm _ (fun h => absurd h hh) (fun _ v' w' h1 h2 h3 => ⟨v', rfl, h1, h2, h3 _ hlow⟩)
      · rintro (h | h)
        · exact loadL_cfg (.inr (beq_eq_false_iff_ne.1 h))
        · exact loadL_cfg (.inl h)
      · intro hq _ h
        rw [beq_iff_eq.1 hq] at h
        exact loadL_slots h
      · intro hq hc hl A hA
        rw [beq_iff_eq.1 hq] at hl hA
        exact loadL_ok (by omega) hm hh hc (beq_iff_eq.1 hq) hl hA
  · exact load_bad v b w (head_mark v b w hr hb (by omega) hm) (loadL_head (.inr (.inl hm)))
end Go.Proofs.Ythbbfjfekchdiaa
