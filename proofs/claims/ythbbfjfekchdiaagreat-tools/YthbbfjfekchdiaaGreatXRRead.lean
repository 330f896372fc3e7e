import Derived.Test.YthbbfjfekchdiaaGreatXRWrites
import Derived.Test.YthbbfjfekchdiaaGreatXZFirst
import Derived.Test.YthbbfjfekchdiaaGreatXLeafWalks
import Derived.Test.YthbbfjfekchdiaaGreatXZNum
import Derived.Deep.QuietTactic
import Derived.BigQuiet
namespace Go.Proofs.YthbbfjfekchdiaaGreat
open Go.RowKit
set_option linter.unusedSimpArgs false
attribute [local go_sem] Go.wp_at_zero Go.wp_at_succ
theorem slotAt_no {c : Cfg} {i j : Nat} {l : List Pt} (h : ∀ (n : Nat) (q : Pt), l[n]? = some q → (slotOf c i q.1 == (j : Int)) = false) : slotAt c i l j = none := by
  unfold slotAt
  rw [List.find?_eq_none]
  intro x hx
  obtain ⟨n, hn⟩ := List.mem_iff_getElem?.1 hx
  rw [h n x hn]; simp
theorem slotAt_at {c : Cfg} {i j : Nat} : ∀ {l : List Pt} {k : Nat} {q : Pt}, l[k]? = some q → (∀ (n : Nat) (q' : Pt), n < k → l[n]? = some q' → (slotOf c i q'.1 == (j : Int)) = false) → (slotOf c i q.1 == (j : Int)) = true → slotAt c i l j = some q
  | [], k, q, h, _, _ => by simp at h
  | x :: l, 0, q, h, _, hq => by
    simp at h; subst h
    unfold slotAt
    rw [List.find?_cons_of_pos (p := fun q : Pt => slotOf c i q.1 == (j : Int)) hq]
  | x :: l, k + 1, q, h, hz, hq => by
    unfold slotAt
    rw [List.find?_cons_of_neg (p := fun q : Pt => slotOf c i q.1 == (j : Int)) (by rw [hz 0 x (by omega) rfl]; simp)]
    exact slotAt_at (l := l) (k := k) (by simpa using h) (fun n q' hn h' => hz (n + 1) q' (by omega) (by simpa using h')) hq
def slotP (c : Cfg) (i : Nat) (l : List Pt) (j : Nat) : Pt := (slotAt c i l j).getD (0, 0)
set_option maxHeartbeats 2000000 in
theorem slot_ref (p i j : Nat) (d : RDb) (l : List Pt) (In : Nat → Prop) (w : World) (hrep : RRep w In p d) (hd : d.Ok) (hi : d.L[i]? = some l) :
    Calls Tryz.prog 60 #[.pointer (some ⟨p, 0, none⟩), i64 i, i64 j] w fun e w' => e = .returned (.tuple #[.agg #[i64 (slotP d.c i l j).1, i64 (slotP d.c i l j).2], .bool (slotAt d.c i l j).isSome]) ∧ Below w.heap.size w w' := by
  obtain ⟨ip, gl, vs, hp, hg, hs, ig, hr⟩ := hrep
  obtain ⟨vi, hvi, hown0, _⟩ := hr i l hi
  have hin : i < d.c.many := by
    obtain ⟨x, _⟩ := List.getElem?_eq_some_iff.1 hi
    rw [← hd.len]; exact x
  have h4 := d.c.many_le
  have hbd := (bdB_all (d.c.ok_iff.1 hd.cfg).2.2.2.2.1) i hin
  obtain ⟨b1, b2, b3, b4⟩ := (show 1 ≤ d.c.s i ∧ d.c.s i ≤ 86400 ∧ 1 ≤ d.c.k i ∧ d.c.k i ≤ 60 from hbd)
  have HPT := hid (hd.pts i l hi)
  have hlen : l.length ≤ 60 := (hd.pts i l hi).2
  obtain ⟨y0, y1⟩ := cfg_cell hp i (by omega)
  have x10 : w.cell? ⟨p, 10, none⟩ = some (.slice (some ⟨gl, 0, none⟩) d.c.many d.c.many) := cell_of_blk hp 10
  have xi : w.cell? ⟨gl, i, none⟩ = some vi := (cell_of_blk hg i).trans hvi
  have hpz : p < w.heap.size := blk_lt hp
  have hgz : gl < w.heap.size := blk_lt hg
  have i0 : (0 : Int) ≤ (i : Int) := by omega
  have i1 : (i : Int) < 4 := by omega
  have i2 : (i : Int) < (d.c.many : Int) := by omega
  obtain ⟨ai, capi, rfl, hrow⟩ := rowAt_of hown0
  have HROW := hid hrow
  obtain ⟨s, hsd⟩ : ∃ s, s = d.c.s i := ⟨_, rfl⟩
  obtain ⟨kk, hkd⟩ : ∃ k, k = d.c.k i := ⟨_, rfl⟩
  rw [← hsd] at y0 b1 b2
  rw [← hkd] at y1 b3 b4
  have HSD := hid hsd
  have HKD := hid hkd
  clear hp hg hs ip ig hr hvi hown0 hrow hbd hd hi hsd hkd
  go_enter Tryz.func60, Tryz.ntmps60
  go_wp2
  go_loopw [9] (fun n' wr => ∃ n : Nat, n ≤ l.length ∧ n' = i64 n ∧ Below w.heap.size w wr ∧ wr.heap[w.heap.size]? = some (.cells #[i64 0, i64 0] 48) ∧ wr.heap[w.heap.size + 1]? = some (.cells #[i64 s, i64 kk] 37) ∧ ∀ (m : Nat) (q : Pt), m < n → l[m]? = some q → (slotOf d.c i q.1 == (j : Int)) = false) (fun n' _ => l.length - (intOf n').toNat)
  case atStart =>
    have I := si_start w 0 0 s kk
    exact ⟨0, by omega, rfl, I.old, I.pb, I.ab, fun m q hm => absurd hm (by omega)⟩
  case round =>
    obtain ⟨n, hn, rfl, hold, hpb, hab, hz⟩ := hrel
    have HZ := hid hz
    have HOLD := hid hold
    have z10 : wr.cell? ⟨p, 10, none⟩ = some (.slice (some ⟨gl, 0, none⟩) d.c.many d.c.many) := cell_later hold x10
    have zi : wr.cell? ⟨gl, i, none⟩ = some (.slice ai l.length capi) := cell_later hold xi
    have zs : wr.cell? ⟨w.heap.size + 1, 0, none⟩ = some (i64 s) := cell_of_blk hab 0
    have zk : wr.cell? ⟨w.heap.size + 1, 1, none⟩ = some (i64 kk) := cell_of_blk hab 1
    have zt : wr.cell? ⟨w.heap.size, 0, none⟩ = some (i64 0) := cell_of_blk hpb 0
    have zv : wr.cell? ⟨w.heap.size, 1, none⟩ = some (i64 0) := cell_of_blk hpb 1
    have ft : wr.frozen? ⟨w.heap.size, 0, none⟩ = false := frozen_of_blk hpb 0
    have fv : wr.frozen? ⟨w.heap.size, 1, none⟩ = false := frozen_of_blk hpb 1
    have HPB := hid hpb
    have HAB := hid hab
    have hzr : w.heap.size + 1 < wr.heap.size := blk_lt hab
    have hzr0 : w.heap.size < wr.heap.size := by omega
    have hzp : p < wr.heap.size := by omega
    have hzg : gl < wr.heap.size := by omega
    clear hz hold hpb hab
    by_cases hlt : n < l.length
    case neg =>
      have HN := hid (slotAt_no (c := d.c) (i := i) (j := j) (l := l) fun m q hm => HZ.out m q (by have := List.getElem?_eq_some_iff.1 hm; obtain ⟨x, _⟩ := this; omega) hm)
      go_wp2
      refine bodyPost_ret (v := .tuple #[.agg #[i64 0, i64 0], .bool false]) (by simp [results, Tryz.results60, go_sem, zt, zv]) rfl ⟨?_, ?_⟩
      · unfold slotP; rw [HN.out]; rfl
      · repeat (first | (with_reducible refine Below.setCell ?_ (by dsimp only; omega) _) | (with_reducible refine below_drewN ?_ _))
        exact HOLD.out
    obtain ⟨q, hq⟩ : ∃ q, l[n]? = some q := ⟨_, List.getElem?_eq_getElem hlt⟩
    obtain ⟨b, rfl, hbz, c0, c1⟩ := HROW.out n q hq
    obtain ⟨w0, w1, _, _⟩ := HPT.out.1 q (List.mem_iff_getElem?.2 ⟨n, hq⟩)
    have zc0 : wr.cell? ⟨b, n * 2, none⟩ = some (i64 q.1) := cell_later HOLD.out c0
    have zc1 : wr.cell? ⟨b, n * 2 + 1, none⟩ = some (i64 q.2) := cell_later HOLD.out c1
    have hzb : b < wr.heap.size := by omega
    have n0 : (0 : Int) ≤ (n : Int) := by omega
    have nl : (n : Int) < (l.length : Int) := by omega
    have HSL := hid (show slotOf d.c i q.1 = q.1 / s % kk by rw [HSD.out, HKD.out]; rfl)
    have HQ := hid hq
    have n1 : ¬ s = 0 := by omega
    have n2 : ¬ kk = 0 := by omega
    have dq0 : 0 ≤ q.1 / s := Int.ediv_nonneg w0 (by omega)
    have dq1 : q.1 / s ≤ 2147483647 := Int.le_trans (Int.ediv_le_self _ w0) w1
    have m1 : IntKind.i64.wrap (q.1.tdiv s) = q.1 / s := IntWalk.i64_quo _ _ ⟨w0, by omega, b1⟩
    have m3 : (q.1 / s).tmod kk = q.1 / s % kk := IntWalk.rem_in _ _ dq0
    clear hq c0 c1
    cases hne : (q.1 / s % kk == (j : Int)) with
    | false =>
      have HX := hid (show ∀ (m : Nat) (q' : Pt), m < n + 1 → l[m]? = some q' → (slotOf d.c i q'.1 == (j : Int)) = false from fun m q' hm h' => by
        by_cases e : m = n
        · subst e
          have : q' = q := by rw [HQ.out] at h'; simpa using h'.symm
          rw [this, HSL.out]; exact hne
        · exact HZ.out m q' (by omega) h')
      go_wp2_with fail
      go_quiet (fail)
      go_wp2
      go_roundw
      case rel => first | exact ⟨n + 1, by omega, by go_num, below_drewN HOLD.out _, HPB.out, HAB.out, HX.out⟩ | ((repeat apply Exists.intro); exact ⟨⟨n + 1, by omega, by go_num, below_drewN HOLD.out _, HPB.out, HAB.out, HX.out⟩, rfl⟩)
      case measure => simp [intOf]; omega
    | true =>
      have HX := hid (slotAt_at (c := d.c) (i := i) (j := j) HQ.out HZ.out (by rw [HSL.out]; exact hne))
      go_wp2_with fail
      go_quiet (fail)
      go_wp2
      have T0 : ∀ nq, ((wr.drewN nq).setCell ⟨w.heap.size, 0, none⟩ (i64 q.1)).cell? ⟨w.heap.size, 0, none⟩ = some (i64 q.1) := fun nq => cell_of_blk (blk_setCell (w := wr.drewN nq) HPB.out 0 _) 0
      have T1 : ∀ nq, (((wr.drewN nq).setCell ⟨w.heap.size, 0, none⟩ (i64 q.1)).setCell ⟨w.heap.size, 1, none⟩ (i64 q.2)).cell? ⟨w.heap.size, 1, none⟩ = some (i64 q.2) := fun nq => cell_of_blk (blk_setCell (blk_setCell (w := wr.drewN nq) HPB.out 0 _) 1 _) 1
      refine bodyPost_ret (v := .tuple #[.agg #[i64 q.1, i64 q.2], .bool true]) (by simp [results, Tryz.results60, go_sem, T0, T1]) rfl ⟨?_, ?_⟩
      · unfold slotP; rw [HX.out]; rfl
      · repeat (first | (with_reducible refine Below.setCell ?_ (by dsimp only; omega) _) | (with_reducible refine below_drewN ?_ _))
        exact HOLD.out
end Go.Proofs.YthbbfjfekchdiaaGreat
namespace Go.Proofs.YthbbfjfekchdiaaGreat
open Go.RowKit
set_option linter.unusedSimpArgs false
def ofB (s : ByteArray) : List Int := s.data.toList.map fun b => (b.toNat : Int)
theorem ofB_len (s : ByteArray) : (ofB s).length = s.size := by unfold ofB; rw [List.length_map]; rfl
theorem ofB_byte (s : ByteArray) : ByteL (ofB s) := by
  intro b hb
  obtain ⟨x, _, rfl⟩ := List.mem_map.1 hb
  have := x.toNat_lt
  omega
theorem ofB_at {s : ByteArray} {m : Nat} (h : m < s.size) : (ofB s)[m]? = some ((s[m]'h).toNat : Int) := by
  unfold ofB
  rw [List.getElem?_map, List.getElem?_eq_getElem (by exact h)]
  rfl
set_option maxRecDepth 4000 in
set_option maxHeartbeats 2000000 in
theorem read_any (s : ByteArray) (w : World) (h : s.size ≤ 8) :
    Calls Tryz.prog 47 #[.string s] w fun e w' => e = .returned (i64 (readN (ofB s))) ∧ w' = w := by
  have HR := hid (readN_adj (ofB s))
  have HL := hid (show (adjL (ofB s)).length = s.size by rw [adjL_len, ofB_len])
  have HBD := hid (fun (m : Nat) (hm : m < s.size) => adj_bd (ofB_byte s) (by rw [ofB_len]; exact h) (by rw [ofB_len]; exact hm))
  go_enter Tryz.func47, Tryz.ntmps47
  go_wp2
  go_loopw [3, 4] (fun t i wr => ∃ m : Nat, m ≤ s.size ∧ i = i64 m ∧ t = i64 (readU ((adjL (ofB s)).take m)) ∧ wr = w) (fun _ i _ => s.size - (intOf i).toNat)
  case atStart => exact ⟨0, by omega, rfl, rfl, rfl⟩
  case round =>
    obtain ⟨m, hm, rfl, rfl, hw⟩ := hrel
    have hw := hw.symm
    subst hw
    obtain ⟨T, hT⟩ : ∃ T, T = readU ((adjL (ofB s)).take m) := ⟨_, rfl⟩
    rw [← hT]
    have HT := hid hT
    by_cases hlt : m < s.size
    rotate_left
    · have HE := hid (show T = readN (ofB s) by rw [hT, HR.out, List.take_of_length_le (by rw [HL.out]; omega)])
      clear hT
      go_wp2
      go_ret
      exact ⟨ret_int (by rw [HE.out]), rfl⟩
    have hbd := HBD.out m hlt
    rw [← hT] at hbd
    obtain ⟨T0, T1⟩ := hbd
    have m0 : (0 : Int) ≤ (m : Int) := by omega
    have m1 : (m : Int) < (s.size : Int) := by omega
    have b0 : (0 : Int) ≤ ((s[m]'hlt).toNat : Int) := by omega
    have b1 : ((s[m]'hlt).toNat : Int) < 256 := by have := (s[m]'hlt).toNat_lt; omega
    have hat := ofB_at hlt
    clear hT
    by_cases h0 : m = 0 ∧ s.size = 8
    · obtain ⟨rfl, h8⟩ := h0
      have hT0 : T = 0 := by rw [HT.out]; rfl
      have hhd : (ofB s).headD 0 = ((s[0]'hlt).toNat : Int) := by
        have : (ofB s).head? = some ((s[0]'hlt).toNat : Int) := by rw [List.head?_eq_getElem?]; exact hat
        cases hx : ofB s with
        | nil => rw [hx] at this; cases this
        | cons a t => rw [hx] at this; simp at this; rw [List.headD_cons]; exact this
      have HT0 := hid hT0
      have t0 : -1 ≤ T := by omega
      have t1 : T ≤ 1 := by omega
      clear hT0 T0 T1
      have h8' : ((s.size : Int) == 8) = true := by rw [beq_iff_eq]; omega
      have H8 := hid h8
      by_cases hs : 127 < ((s[0]'hlt).toNat : Int)
      · have HN := hid (show readU ((adjL (ofB s)).take 1) = ((s[0]'hlt).toNat : Int) - 256 by
          have e : adjL (ofB s) = (((s[0]'hlt).toNat : Int) - 256) :: (ofB s).tail := by
            unfold adjL
            rw [hhd, if_pos ⟨hs, by rw [ofB_len]; exact h8⟩]
          rw [e]
          simp [readU])
        clear hat hhd h8
        go_wp2
        go_roundw
        case rel => exact ⟨1, by have := H8.out; omega, by go_num, congrArg i64 (by rw [HN.out]; have := HT0.out; omega), trivial⟩
        case measure => simp [intOf]; omega
      · have HN := hid (show readU ((adjL (ofB s)).take 1) = ((s[0]'hlt).toNat : Int) by
          have e : adjL (ofB s) = ofB s := by
            unfold adjL
            rw [hhd, if_neg (fun x => hs x.1)]
          rw [e, show (1 : Nat) = 0 + 1 from rfl, readU_take hat]
          simp [readU])
        clear hat hhd h8
        go_wp2
        go_roundw
        case rel => exact ⟨1, by have := H8.out; omega, by go_num, congrArg i64 (by rw [HN.out]; have := HT0.out; omega), trivial⟩
        case measure => simp [intOf]; omega
    · have HN := hid (show readU ((adjL (ofB s)).take (m + 1)) = T * 256 + ((s[m]'hlt).toNat : Int) by
        have e : (adjL (ofB s))[m]? = some ((s[m]'hlt).toNat : Int) := by
          unfold adjL
          split
          · rename_i hx
            have h8 : s.size = 8 := by rw [← ofB_len]; exact hx.2
            have hm0 : m ≠ 0 := fun e => h0 ⟨e, h8⟩
            obtain ⟨j, rfl⟩ : ∃ j, m = j + 1 := ⟨m - 1, by omega⟩
            rw [List.getElem?_cons_succ, List.getElem?_tail]
            exact hat
          · exact hat
        rw [readU_take e, ← HT.out])
      clear hat
      by_cases hm0 : m = 0
      · subst hm0
        have h8 : ¬ (s.size : Int) = 8 := by omega
        go_wp2
        go_roundw
        case rel => exact ⟨1, by omega, by go_num, congrArg i64 (by rw [HN.out]), trivial⟩
        case measure => simp [intOf]; omega
      · have hm0' : ((m : Int) == 0) = false := beq_eq_false_iff_ne.2 (by omega)
        go_wp2
        go_roundw
        case rel => exact ⟨m + 1, by omega, by go_num, congrArg i64 (by rw [HN.out]), trivial⟩
        case measure => simp [intOf]; omega
end Go.Proofs.YthbbfjfekchdiaaGreat
