import Derived.Test.YthbbfjfekchdiaaGreatXPConf
import Derived.Test.YthbbfjfekchdiaaGreatXZFirst
import Derived.Test.YthbbfjfekchdiaaGreatXZPoints
import Derived.Test.YthbbfjfekchdiaaGreatXRWrites
/-
  The program: Config.
-/
namespace Go.Proofs.YthbbfjfekchdiaaGreat
open Go.RowKit

theorem zconfig_any (p : Nat) (d : RDb) (In : Nat → Prop) (w : World) (h : ZRep w In p d) :
    Calls Tryz.prog 28 #[.pointer (some ⟨p, 0, none⟩)] w fun e w' => e = .returned (.agg d.c.cells) ∧ Below w.heap.size w w' := by
  refine config_cells d.c p w h.ok.cfg ?_
  obtain ⟨gl, cap, cur, gs, a, b, c, e, f, gi, r⟩ := h.mem
  refine ⟨gl, cap, b, fun j hj => ?_⟩
  obtain ⟨x, hx⟩ : ∃ x, gs[j]? = some x := ⟨_, List.getElem?_eq_getElem (by omega)⟩
  obtain ⟨r1, r2, _⟩ := r j x _ hx (List.getElem?_eq_getElem (by rw [h.ok.len]; exact hj))
  refine ⟨?_, some ⟨x, 0, none⟩, ?_⟩
  · rw [cell_of_blk c, Nat.mul_comm]; exact r1
  · rw [cell_of_blk c, Nat.mul_comm]; exact r2
end Go.Proofs.YthbbfjfekchdiaaGreat
/-
  The program: the values of points.
-/
namespace Go.Proofs.YthbbfjfekchdiaaGreat
open Go.RowKit
set_option linter.unusedSimpArgs false

theorem wpList_append_int (w : World) {ops : Array Oper} {rest : List Oper} {o : Oper} {a : Act} {Q : Exit → Act → World → Prop} (hgd : o.guard = none) (s x : Operand)
    (ho : o.op = .call { callee := .builtin .append, args := #[s, x], argTypes := #[24, 24] }) (base : Nat) (v xv : Value) (os : List Int) (q : Int) (hs : a.eval s = v) (hx : a.eval x = xv) (tgt : List Int) (htgt : Hid (tgt = os ++ [q]))
    (hown : w.ownsRow base 3 1 v os.length (os.map i64)) (b c : Nat) (hsv : xv = .slice (some ⟨b, 0, none⟩) 1 c) (hsrc : w.cell? ⟨b, 0, none⟩ = some (i64 q)) (hlen : os.length ≤ 1000) (hbase : base ≤ w.heap.size)
    (h : ∀ v' w', w'.ownsRow base 3 1 v' tgt.length (tgt.map i64) → w.grownBy w' v.ownBlock → wpList Tryz.prog ops Q rest (a.put o.dst v') w') : wpList Tryz.prog ops Q (o :: rest) a w := by
  have htgt := htgt.out
  subst htgt
  subst hsv
  obtain ⟨q0, hi0, hz0, hz1, hz2⟩ := info_parts Tryz.infoInt
  refine wpList_append_own w hgd s x _ ho base 3 q0 _ 1 8 Tryz.underlying24 hi0 hz0 hz1 hz2 rfl (by decide) v os.length (os.map i64) hs hown ⟨b, 0, none⟩ 1 c [i64 q] hx rfl ?_ ?_ (by unfold maxLen; omega) (by omega) hbase ?_
  · intro j u hj
    have hj0 : j = 0 := by obtain ⟨y, _⟩ := List.getElem?_eq_some_iff.1 hj; simp at y; exact y
    subst hj0
    simp at hj
    subst hj
    rw [show (⟨b, 0, none⟩ : Addr).add 0 = ⟨b, 0, none⟩ from rfl]
    exact hsrc
  · intro u hu
    simp at hu
    subst hu
    rfl
  · intro v' w' ho' hg' _
    refine h v' w' ?_ hg'
    rw [List.map_append, List.length_append]
    exact ho'

set_option maxHeartbeats 4000000 in
theorem zvalues_any (v : Value) (pts : List Pt) (w : World) (hr : RowAt w v pts) (hl : pts.length ≤ 1000) :
    Calls Tryz.prog 104 #[v] w fun e w' => ∃ v', e = .returned v' ∧ Below w.heap.size w w' ∧ w'.ownsRow w.heap.size 3 1 v' (pts.map (·.2)).length ((pts.map (·.2)).map i64) := by
  have HR := hid hr
  obtain ⟨a, cap, rfl, _⟩ := hr
  go_enter Tryz.func104, Tryz.ntmps104
  go_wp2
  go_loopw [3, 8] (fun v' i wr => ∃ m : Nat, m ≤ pts.length ∧ i = i64 m ∧ wr.ownsRow w.heap.size 3 1 v' ((pts.take m).map (·.2)).length (((pts.take m).map (·.2)).map i64) ∧ Below w.heap.size w wr) (fun _ i _ => pts.length - (intOf i).toNat)
  case atStart => exact ⟨0, by omega, rfl, World.ownsRow_nil _ _ _ _, Below.refl _ _⟩
  case round =>
    obtain ⟨m, hm, rfl, ho, hb⟩ := hrel
    have HO := hid ho
    have HB := hid hb
    have hzr := hb.size
    obtain ⟨os, hos⟩ : ∃ os, os = (pts.take m).map (·.2) := ⟨_, rfl⟩
    rw [← hos] at HO
    have hol : os.length ≤ 1000 := by
      rw [hos, List.length_map]
      have := List.length_take_le m pts
      omega
    have HOS := hid hos
    obtain ⟨a', c', hv', hrow⟩ := HR.out.later hb
    simp only [Value.slice.injEq, true_and] at hv'
    obtain ⟨rfl, rfl⟩ := hv'
    have HROW := hid hrow
    clear ho hb hos hrow
    obtain ⟨a3, c3, rfl⟩ : ∃ a c, u3 = .slice a os.length c := by
      obtain ⟨_, ⟨h, h0⟩ | ⟨g, cap, cur, h, _⟩⟩ := HO.out
      · exact ⟨none, 0, by rw [h, h0]⟩
      · exact ⟨_, _, h⟩
    by_cases hlt : m < pts.length
    rotate_left
    · have HOS2 := hid (show os = pts.map (·.2) by rw [HOS.out, List.take_of_length_le (by omega)])
      go_wp2
      go_ret
      exact ⟨_, rfl, HB.out, by rw [← HOS2.out]; exact HO.out⟩
    obtain ⟨q, hq⟩ : ∃ q, pts[m]? = some q := ⟨_, List.getElem?_eq_getElem hlt⟩
    obtain ⟨b, rfl, hbz, x0, x1⟩ := HROW.out m q hq
    have HN := hid (show (pts.take (m + 1)).map (·.2) = os ++ [q.2] by rw [List.take_add_one, hq, List.map_append, HOS.out]; rfl)
    obtain ⟨qt, qv⟩ := q
    dsimp only at x0 x1 HN
    obtain ⟨tg, htg⟩ : ∃ t, t = os ++ [qv] := ⟨_, rfl⟩
    rw [← htg] at HN
    have HTG := hid htg
    have m0 : (0 : Int) ≤ (m : Int) := by omega
    have m1 : (m : Int) < (pts.length : Int) := by omega
    clear hq htg
    go_wp2_with (at_builtin; go_must (refine wpList_append_int _ (by rfl) (.tmp 12) (.tmp 15) (by rfl) w.heap.size _ _ os qv (by rfl) (by rfl) tg HTG ((HO.out.alloc _).alloc _) (wr.heap.size + 1) 1 (by rfl) (by simp) hol (by simp; omega) ?_))
    intro v' w' hown hgrow
    have HOW := hid hown
    have HBW := hid (show Below w.heap.size w w' from Below.grown ((HB.out.alloc hzr _).alloc (by simp; omega) _) hgrow (by simp; omega) (fun j hj => (HO.out.lt j hj).1))
    clear hown hgrow
    go_wp2
    go_roundw
    case rel => first | exact ⟨m + 1, by omega, by go_num, by rw [HN.out]; exact HOW.out, HBW.out⟩ | ((repeat apply Exists.intro); exact ⟨⟨m + 1, by omega, by go_num, by rw [HN.out]; exact HOW.out, HBW.out⟩, rfl⟩)
    case measure => simp [intOf]; omega
end Go.Proofs.YthbbfjfekchdiaaGreat
