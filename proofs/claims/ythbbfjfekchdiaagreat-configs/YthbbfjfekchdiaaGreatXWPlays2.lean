import Derived.Test.YthbbfjfekchdiaaGreatXWPlays
namespace Go.Proofs.YthbbfjfekchdiaaGreat
open Go.RowKit
set_option linter.unusedSimpArgs false

theorem wpList_append_script (wF : World) {ops : Array Oper} {rest : List Oper} {o : Oper} {a : Act} {Q : Exit → Act → World → Prop} (hgd : o.guard = none) (s x : Operand)
    (ho : o.op = .call { callee := .builtin .append, args := #[s, x], argTypes := #[22, 22] }) (i : TypeInfo) {z : Value} (hi : Tryz.prog.info? 43 = some i) (hz : i.zero = some z)
    (hs1 : i.size = 17) (hb1 : i.bytes = 160) (w : World) (gF : Nat) (xs : List Value) (hs : a.eval s = .slice (some ⟨gF, 0, none⟩) 8 8) (hbF : Below w.heap.size w wF)
    (hown : wF.ownsRow w.heap.size 43 17 (.slice (some ⟨gF, 0, none⟩) 8 8) 8 xs) (hrow : OpRow 8 xs) (ad : Addr) (m sc N : Nat) (hN : N = 8 + m) (news : List Value) (hx : a.eval x = .slice (some ad) m sc)
    (hr : OpRow m news) (hnews : ∀ j u, news[j]? = some u → w.cell? (ad.add j) = some u) (hsz : m * 160 ≤ 140737488351232) (hzc : z.cells.size = 17)
    (h : ∀ g cap wA, (Below w.heap.size w wA ∧ AllRow wA g N) → wpList Tryz.prog ops Q rest (a.put o.dst (.slice (some ⟨g, 0, none⟩) N cap)) wA) : wpList Tryz.prog ops Q (o :: rest) a wF := by
  subst hN
  refine wpList_append_own wF hgd s x _ ho w.heap.size 43 i z 17 160 Tryz.underlying22 hi hz hs1 hb1 hzc (by decide) _ 8 xs hs hown ad m sc news hx hr.length (fun j u hj => cell_later hbF (hnews j u hj)) hr.one (by unfold maxLen; omega) (by omega) hbF.size ?_
  intro v' wA hown' hgrow _
  obtain ⟨g, cap, hv, hall⟩ := allrow_of hown' (by omega) (hrow.append hr)
  rw [hv]
  refine h g cap wA ⟨?_, hall⟩
  exact Below.grown hbF hgrow hbF.size fun k hk => (hown.lt k hk).1

set_option maxRecDepth 100000 in
set_option maxHeartbeats 4000000 in
theorem plays_some (p : Nat) (ad : Addr) (m sc : Nat) (news : List Value) (w : World) (hsz : m * 160 ≤ 140737488351232) (hrow0 : OpRow m news) (hnews : ∀ j u, news[j]? = some u → w.cell? (ad.add j) = some u) (h0 : w.cell? ⟨p, 0, none⟩ = some (i64 1)) (h1 : w.cell? ⟨p, 1, none⟩ = some (i64 2)) (h2 : w.cell? ⟨p, 2, none⟩ = some (i64 3)) :
    Calls Tryz.prog 8 #[.slice (some ad) m sc, .slice (some ⟨p, 0, none⟩) 3 3] w fun e w' => e = .returned (.bool true) ∧ Below w.heap.size w w' := by
  obtain ⟨i0, hi, hz0, hz1, hz2⟩ := info_parts Tryz.infoOp
  have HI0 := hid (And.intro hi (And.intro hz0 (And.intro hz1 hz2)))
  clear hi hz0 hz1 hz2
  have HN0 := hid hrow0
  have HN1 := hid hnews
  clear hrow0 hnews
  go_enter Tryz.func8, Tryz.ntmps8
  go_wp2_with fail
  refine (first_ex _).mono ?_
  rintro e wF ⟨gF, xs, rfl, hbF, hown, hrow⟩
  have HF := hid hbF
  have HO := hid hown
  have HX := hid hrow
  obtain ⟨N, hN⟩ : ∃ N, N = 8 + m := ⟨_, rfl⟩
  have hN8 : N ≤ 1000000000000 := by omega
  have HNN := hid hN
  clear hbF hown hrow hN
  go_wp2_with (at_builtin; refine wpList_append_script wF (by rfl) (.tmp 13) (.tmp 14) (by rfl) i0 HI0.out.1 HI0.out.2.1 HI0.out.2.2.1 HI0.out.2.2.2 w gF xs (by rfl) HF.out HO.out HX.out ad m sc N HNN.out news (by rfl) HN0.out HN1.out hsz (by rfl) ?_)
  intro g cap wA hbA hall
  have HA := hid hbA
  have HR := hid hall
  have hzA := hbA.size
  clear hbA hall hsz
  go_wp2_with fail
  go_loopw [7] (fun i wr => ∃ (k : Nat) (cs : List Cfg), k ≤ N ∧ i = i64 k ∧ PI (wA.alloc (.cells #[.slice none 0 0, .slice none 0 0, .slice none 0 0, .slice none 0 0] 35)) wr wA.heap.size k cs) (fun i _ => N - (intOf i).toNat)
  case atStart => exact ⟨0, [], by omega, rfl, pi_start wA⟩
  case round =>
    obtain ⟨k, cs, hk, rfl, I⟩ := hrel
    have HI := hid I
    have hz : wA.heap.size < wr.heap.size := I.inv.lt
    clear I
    by_cases hlt : k < N
    case neg =>
      obtain ⟨x1, x2, x3⟩ := HI.out.inv.book
      clear x2 x3
      go_wp2_with (go_at_call 13; refine (apart_none wA.heap.size _ x1).mono ?_; rintro e w' ⟨rfl, rfl⟩)
      go_ret
      exact ⟨rfl, HA.out.trans (((Below.refl wA.heap.size wA).alloc (Nat.le_refl _) _).trans HI.out.old |>.mono hzA)⟩
    have hkb : k < 1000000000000 := by omega
    generalize hM : (144115188075855872 : Int) = M
    have hbig : (k : Int) < M := by omega
    clear hM
    obtain ⟨l, hl, hq⟩ := ((HR.out.keep (Keep.below ((Below.refl wA.heap.size wA).alloc (Nat.le_refl _) _))).keep HI.out.keep).at k hlt
    obtain ⟨kd, oa, ob, od, oe, c, la, ln, lc, ss, ⟨ha1, ha2⟩, rfl⟩ := hl
    have HG := hid (show wr.rangeAt g (k * 17) [i64 kd, i64 oa, i64 ob, i64 od, i64 oe, i64 c.s0, i64 c.k0, i64 c.s1, i64 c.k1, i64 c.s2, i64 c.k2, i64 c.s3, i64 c.k3, i64 c.m, i64 c.f, .slice la ln lc, .string ss] from fun j v hv => by
      have hj : j < 17 := by
        have := List.getElem?_eq_some_iff.1 hv
        obtain ⟨h, _⟩ := this
        simpa using h
      exact (hq j hj).trans hv)
    have m0 := play_cell HA.out HI.out.old h0
    have m1 := play_cell HA.out HI.out.old h1
    have m2 := play_cell HA.out HI.out.old h2
    have hpw : p < w.heap.size := World.block_lt_of_cell? _ _ h0
    have hpr : p < wr.heap.size := by omega
    clear hq
    go_wp2_with (refine wpList_load_mid (by rfl) 43 (.tmp 30) (by rfl) g (k * 17) (by rfl) _ _ HG.out Tryz.underlying43 (by rfl) (by kernel_rfl) ?_)
    refine (among_any p _ _ ?_ ?_ ?_).mono ?_
    · exact cell_later ((Below.refl _ _).alloc (Nat.le_refl _) _) m0
    · exact cell_later ((Below.refl _ _).alloc (Nat.le_refl _) _) m1
    · exact cell_later ((Below.refl _ _).alloc (Nat.le_refl _) _) m2
    rintro e w' ⟨rfl, rfl⟩
    clear m0 m1 m2
    by_cases hin : kd = 1 ∨ kd = 2 ∨ kd = 3
    case neg =>
      have hd : decide (kd = 1 ∨ kd = 2 ∨ kd = 3) = false := decide_eq_false hin
      clear hin
      rw [hd]
      clear hd
      go_wp2
      go_roundw
      case rel => first | exact ⟨k + 1, cs, by omega, by go_num, pi_skip HI.out _⟩ | ((repeat apply Exists.intro); exact ⟨⟨k + 1, cs, by omega, by go_num, pi_skip HI.out _⟩, rfl⟩)
      case measure => simp [intOf]; omega
    have hd : decide (kd = 1 ∨ kd = 2 ∨ kd = 3) = true := decide_eq_true hin
    have HK := hid hin
    clear hin
    rw [hd]
    clear hd
    go_wp2_with fail
    refine (step_any kd oa ob od oe c la ln lc ss wA.heap.size cs _ HK.out (HI.out.inv.new _) (by have := HI.out.len; omega) ha1 ha2).mono ?_
    rintro e w1 ⟨rfl, hl1⟩
    obtain ⟨cs', hP⟩ := pi_step HI.out hl1
    have HS := hid hP
    have hz1 : wA.heap.size < w1.heap.size := hP.inv.lt
    obtain ⟨x1, x2, x3⟩ := hP.inv.book
    clear hl1 hP
    go_wp2_with fail
    refine (looks_none wA.heap.size _ x1 x2 x3).mono ?_
    rintro e w2 ⟨rfl, rfl⟩
    go_wp2
    go_roundw
    case rel => first | exact ⟨k + 1, cs', by omega, by go_num, HS.out⟩ | ((repeat apply Exists.intro); exact ⟨⟨k + 1, cs', by omega, by go_num, HS.out⟩, rfl⟩)
    case measure => simp [intOf]; omega
end Go.Proofs.YthbbfjfekchdiaaGreat
