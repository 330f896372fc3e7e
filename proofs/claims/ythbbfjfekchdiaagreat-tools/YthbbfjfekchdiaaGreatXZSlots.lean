import Derived.Test.YthbbfjfekchdiaaGreatXZHead
import Derived.Test.YthbbfjfekchdiaaGreatXZSave
import Derived.Test.YthbbfjfekchdiaaGreatXZCreate
import Derived.Deep.DeepCutAuto
namespace Go.Proofs.YthbbfjfekchdiaaGreat
open Go.RowKit
set_option linter.unusedSimpArgs false
attribute [local go_sem] Go.wp_at_zero Go.wp_at_succ
theorem slots_setO {L : List (Option Pt)} {n : Nat} (hn : n < L.length) {o : Option Pt} {x y z : Value} (ho : slotCells o = [x, y, z]) : (((L.flatMap slotCells).set (n * 3) x).set (n * 3 + 1) y).set (n * 3 + 2) z = (L.set n o).flatMap slotCells := by
  induction L generalizing n with
  | nil => simp at hn
  | cons a L ih =>
    cases n with
    | zero =>
      rw [List.set_cons_zero, List.flatMap_cons, List.flatMap_cons, ho]
      cases a <;> rfl
    | succ n =>
      rw [List.set_cons_succ, List.flatMap_cons, List.flatMap_cons, ← ih (by simpa using hn)]
      rw [List.set_append_right _ _ (by rw [slotCells_len]; omega), List.set_append_right _ _ (by rw [slotCells_len]; omega), List.set_append_right _ _ (by rw [slotCells_len]; omega), slotCells_len]
      congr 1
      rw [show (n + 1) * 3 - 3 = n * 3 by omega, show (n + 1) * 3 + 1 - 3 = n * 3 + 1 by omega, show (n + 1) * 3 + 2 - 3 = n * 3 + 2 by omega]
theorem slotBlk_setO {L : List (Option Pt)} {n : Nat} (hn : n < L.length) {o : Option Pt} {x y z : Value} (ho : slotCells o = [x, y, z]) : (((slotBlk L).setIfInBounds (n * 3) x).setIfInBounds (n * 3 + 1) y).setIfInBounds (n * 3 + 2) z = slotBlk (L.set n o) := by
  unfold slotBlk
  rw [← slots_setO hn ho]
  simp
def memAt (c : Cfg) (A : List (List (Option Pt))) (L : List (Option Pt)) (i j x : Nat) : List (Option Pt) :=
  if x < i then (A[x]?).getD [] else if x = i then L ++ List.replicate ((c.k i).toNat - j) none else List.replicate (c.k x).toNat none
theorem memAt_start (c : Cfg) (x : Nat) : memAt c [] [] 0 0 x = List.replicate (c.k x).toNat none := by
  unfold memAt
  rw [if_neg (by omega)]
  by_cases h : x = 0
  · subst h; simp
  · rw [if_neg h]
theorem memAt_next {c : Cfg} {A : List (List (Option Pt))} {L : List (Option Pt)} {i x : Nat} (hA : A.length = i) : memAt c A L i (c.k i).toNat x = memAt c (A ++ [L]) [] (i + 1) 0 x := by
  unfold memAt
  by_cases h : x < i
  · rw [if_pos h, if_pos (by omega), List.getElem?_append_left (by omega)]
  · rw [if_neg h]
    by_cases h2 : x = i
    · subst h2
      rw [if_pos rfl, if_pos (by omega), List.getElem?_append_right (by omega), hA, Nat.sub_self, Nat.sub_self]
      simp
    · rw [if_neg h2, if_neg (by omega)]
      by_cases h3 : x = i + 1
      · subst h3; rw [if_pos rfl]; simp
      · rw [if_neg h3]
theorem memAt_slot {c : Cfg} {A : List (List (Option Pt))} {L : List (Option Pt)} {i j : Nat} {o : Option Pt} (hL : L.length = j) (hj : j < (c.k i).toNat) : (memAt c A L i j i).set j o = memAt c A (L ++ [o]) i (j + 1) i ∧ (memAt c A L i j i).length = (c.k i).toNat := by
  unfold memAt
  rw [if_neg (by omega), if_pos rfl, if_neg (by omega), if_pos rfl]
  obtain ⟨e, he⟩ : ∃ e, (c.k i).toNat - j = e + 1 := ⟨(c.k i).toNat - j - 1, by omega⟩
  rw [he, show (c.k i).toNat - (j + 1) = e by omega, List.replicate_succ]
  constructor
  · rw [List.set_append_right _ _ (by omega), hL, Nat.sub_self, List.set_cons_zero, List.append_assoc]
    rfl
  · rw [List.length_append, List.length_cons, List.length_replicate]; omega
theorem memAt_other {c : Cfg} {A : List (List (Option Pt))} {L M : List (Option Pt)} {i j j' x : Nat} (h : x ≠ i) : memAt c A L i j x = memAt c A M i j' x := by
  unfold memAt
  by_cases h1 : x < i
  · rw [if_pos h1, if_pos h1]
  · rw [if_neg h1, if_neg h1, if_neg h, if_neg h]
structure SlI (w wr : World) (In : Nat → Prop) (p gl cap : Nat) (cur : Array Value) (gs : List Nat) (c : Cfg) (b : List Int) (v' : Value) (i j : Nat) (A : List (List (Option Pt))) (L : List (Option Pt)) (r : List Int) : Prop where
  pb : wr.heap[p]? = some (.cells #[.slice (some ⟨gl, 0, none⟩) c.many cap, .iface (methT c.m) (.agg #[]), i64 c.f] 89)
  gb : wr.heap[gl]? = some (.cells cur 94)
  sl : ∀ x g : Nat, gs[x]? = some g → wr.heap[g]? = some (.cells (slotBlk (memAt c A L i j x)) 116)
  fr : Fr In w wr
  got : Got c b i j A L r
  row : RowB wr v' r
  out : OutB In v'
  len : slotLen c 0 i + 12 * j ≤ b.length
theorem SlI.below {w wr w' : World} {In : Nat → Prop} {p gl cap : Nat} {cur : Array Value} {gs : List Nat} {c : Cfg} {b : List Int} {v' : Value} {i j : Nat} {A : List (List (Option Pt))} {L : List (Option Pt)} {r : List Int} (h : SlI w wr In p gl cap cur gs c b v' i j A L r) (hb : Below wr.heap.size wr w') : SlI w w' In p gl cap cur gs c b v' i j A L r :=
  ⟨blk_later hb (blk_lt h.pb) h.pb, blk_later hb (blk_lt h.gb) h.gb, fun x g hg => blk_later hb (blk_lt (h.sl x g hg)) (h.sl x g hg), h.fr.trans (Fr.below (In := fun _ => False) hb) (fun _ x => x.elim), h.got, h.row.later hb, h.out, h.len⟩
theorem SlI.put {w wr w' : World} {In : Nat → Prop} {p gl cap : Nat} {cur : Array Value} {gs : List Nat} {c : Cfg} {b : List Int} {v' v'' : Value} {i j g : Nat} {A : List (List (Option Pt))} {L : List (Option Pt)} {r : List Int} {o : Option Pt} {x y z : Value} (h : SlI w wr In p gl cap cur gs c b v' i j A L r)
    (hg : gs[i]? = some g) (hgi : In g) (hnd : gs.Nodup) (hgp : g ≠ p) (hgg : g ≠ gl) (hj : j < (c.k i).toNat) (ho : slotCells o = [x, y, z]) (hr : slotRead c i j (readU (r.take 4)) (readN ((r.drop 4).take 8)) = some o)
    (hw : w' = (((wr.setCell ⟨g, j * 3, none⟩ x).setCell ⟨g, j * 3 + 1, none⟩ y).setCell ⟨g, j * 3 + 2, none⟩ z)) (hrow : RowB wr v'' (r.drop 12)) (hout : OutB In v'') (h12 : 12 ≤ r.length) : SlI w w' In p gl cap cur gs c b v'' i (j + 1) A (L ++ [o]) (r.drop 12) := by
  subst hw
  have hf : Fr (fun k => k = g) wr (((wr.setCell ⟨g, j * 3, none⟩ x).setCell ⟨g, j * 3 + 1, none⟩ y).setCell ⟨g, j * 3 + 2, none⟩ z) :=
    Fr.setCell (In := fun k => k = g) (Fr.setCell (In := fun k => k = g) (Fr.setCell (In := fun k => k = g) (Fr.refl _ _) rfl _ _) rfl _ _) rfl _ _
  have hL := h.got.len.2.1
  obtain ⟨m1, m2⟩ := memAt_slot (c := c) (A := A) (o := o) hL hj
  refine ⟨(hf.block p (blk_lt h.pb) (fun e => hgp e.symm)).trans h.pb, (hf.block gl (blk_lt h.gb) (fun e => hgg e.symm)).trans h.gb, fun k g' hg' => ?_, h.fr.trans hf (fun k hk => .inl (by have hk' : k = g := hk; subst hk'; exact hgi)), h.got.slot hr, hrow.fr hf fun a n c e hn hk => ?_, hout, ?_⟩
  · by_cases hk : k = i
    · subst hk
      have : g' = g := by rw [hg] at hg'; exact (Option.some.inj hg').symm
      subst this
      rw [← m1, ← slotBlk_setO (by rw [m2]; exact hj) ho]
      exact blk_setCell (blk_setCell (blk_setCell (h.sl k g' hg') _ _) _ _) _ _
    · have hne : g' ≠ g := fun e => by
        subst e
        exact hk ((List.getElem?_inj (List.getElem?_eq_some_iff.1 hg').1 hnd).1 (hg'.trans hg.symm))
      rw [memAt_other (M := L) (j' := j) hk]
      exact (hf.block g' (blk_lt (h.sl k g' hg')) hne).trans (h.sl k g' hg')
  · have hk' : a.block = g := hk
    exact hout a n c e hn (by rw [hk']; exact hgi)
  · have := h.got.len.2.2
    rw [this, List.length_drop] at h12
    omega
theorem SlI.arc {w wr : World} {In : Nat → Prop} {p gl cap : Nat} {cur : Array Value} {gs : List Nat} {c : Cfg} {b : List Int} {v' : Value} {i : Nat} {A : List (List (Option Pt))} {L : List (Option Pt)} {r : List Int} (h : SlI w wr In p gl cap cur gs c b v' i (c.k i).toNat A L r) : SlI w wr In p gl cap cur gs c b v' (i + 1) 0 (A ++ [L]) [] r := by
  refine ⟨h.pb, h.gb, fun x g hg => ?_, h.fr, h.got.arc, h.row, h.out, ?_⟩
  · rw [← memAt_next h.got.len.1]
    exact h.sl x g hg
  · have := h.len
    rw [slotLen_add i 1 0, Nat.zero_add, slotLen_one]
    omega
theorem SlI.done {w wr : World} {In : Nat → Prop} {p gl cap : Nat} {cur : Array Value} {gs : List Nat} {c : Cfg} {b : List Int} {v' : Value} {A : List (List (Option Pt))} {L : List (Option Pt)} {r : List Int} (h : SlI w wr In p gl cap cur gs c b v' c.many 0 A L r) (hc : c.Ok) (hb : ByteL b) (hlen : b.length = slotLen c 0 c.many)
    (hip : In p) (hig : In gl) (hgl : gs.length = c.many) (hnd : gs.Nodup) (hin : ∀ g ∈ gs, In g) (hcur : ∀ i g : Nat, gs[i]? = some g → cur[i * 2]? = some (i64 (c.s i)) ∧ cur[i * 2 + 1]? = some (.slice (some ⟨g, 0, none⟩) (c.k i).toNat (c.k i).toNat)) :
    r = [] ∧ arcsRead c 0 c.many b = some (A, []) ∧ ZRep wr In p ⟨c, A.map listOf⟩ := by
  have hr : r = [] := by
    rw [h.got.len.2.2, Nat.mul_zero, Nat.add_zero, ← hlen, List.drop_length]
  subst hr
  have ha := h.got.done
  obtain ⟨a1, a2, a3⟩ := arcsRead_back c.many 0 b A [] hb (by omega) ha
  have hdb : (⟨c, A.map listOf⟩ : RDb).Ok ∧ (⟨c, A.map listOf⟩ : RDb).Al :=
    arcs_ok hc a1 fun j M hM => by have := a2 j M hM; rwa [Nat.zero_add] at this
  refine ⟨rfl, ha, hdb.1, hdb.2, hip, gl, cap, cur, gs, hig, h.pb, h.gb, hgl, hnd, hin, fun i g l hg hl => ?_⟩
  obtain ⟨c1, c2⟩ := hcur i g hg
  refine ⟨c1, c2, ?_⟩
  have hi : i < c.many := by rw [← hgl]; exact (List.getElem?_eq_some_iff.1 hg).1
  obtain ⟨M, hM⟩ : ∃ M, A[i]? = some M := ⟨_, List.getElem?_eq_getElem (by omega)⟩
  have hsl := h.sl i g hg
  have e1 : memAt c A L c.many 0 i = M := by
    unfold memAt
    rw [if_pos hi, hM]; rfl
  have e2 : l = listOf M := by
    have hl' : (A.map listOf)[i]? = some l := hl
    rw [List.getElem?_map, hM] at hl'
    exact (Option.some.inj hl').symm
  have hs := a2 i M hM
  rw [Nat.zero_add] at hs
  rw [e1] at hsl
  rw [e2]
  show wr.heap[g]? = some (.cells (slotBlk (slotsL c i (listOf M) (c.k i).toNat)) 116)
  rw [slots_listOf hs]
  exact hsl
set_option maxRecDepth 4000 in
set_option maxHeartbeats 4000000 in
theorem readSlots_any (p : Nat) (c : Cfg) (In : Nat → Prop) (v : Value) (b : List Int) (w : World) (h : ZRep w In p (RDb.new c)) (hrow : RowB w v b) (hb : ByteL b) (hout : OutB In v) :
    Calls Tryz.prog 46 #[.pointer (some ⟨p, 0, none⟩), v] w fun e w' => Fr In w w' ∧ ((e = .returned (.bool true) ∧ b.length = slotLen c 0 c.many ∧ ∃ A, arcsRead c 0 c.many b = some (A, []) ∧ ZRep w' In p ⟨c, A.map listOf⟩) ∨ (e = .returned (.bool false) ∧ (arcsRead c 0 c.many b = none ∨ b.length ≠ slotLen c 0 c.many))) := by
  have hc : c.Ok := h.ok.cfg
  have h4 := c.many_le
  obtain ⟨_, _, hn1, _, hbd, _⟩ := c.ok_iff.1 hc
  have HBD := hid (bdB_all hbd)
  have HB := hid hb
  have HC := hid hc
  obtain ⟨gl, cap, cur, gs, m1, m2, m3, m4, m5, m6, m7⟩ := h.mem
  have hnew : ∀ i, i < c.many → (RDb.new c).L[i]? = some [] := fun i hi => by
    show (List.replicate c.many ([] : List Pt))[i]? = some []
    rw [List.getElem?_replicate_of_lt hi]
  have HGS := hid (show ∀ i, i < c.many → ∃ g, gs[i]? = some g ∧ In g ∧ g ≠ p ∧ g ≠ gl ∧ g < w.heap.size from fun i hi => by
    obtain ⟨g, hg⟩ : ∃ g, gs[i]? = some g := ⟨_, List.getElem?_eq_getElem (by rw [m4]; exact hi)⟩
    obtain ⟨_, _, r3⟩ := m7 i g [] hg (hnew i hi)
    exact ⟨g, hg, m6 g (List.mem_of_getElem? hg), (fun e => by rw [e, m2] at r3; simp at r3), (fun e => by rw [e, m3] at r3; simp at r3), blk_lt r3⟩)
  have HCUR := hid (show ∀ i g : Nat, gs[i]? = some g → cur[i * 2]? = some (i64 (c.s i)) ∧ cur[i * 2 + 1]? = some (.slice (some ⟨g, 0, none⟩) (c.k i).toNat (c.k i).toNat) from fun i g hg => by
    have hi : i < c.many := by
      have := (List.getElem?_eq_some_iff.1 hg).1
      rw [m4] at this
      exact this
    obtain ⟨r1, r2, _⟩ := m7 i g [] hg (hnew i hi)
    exact ⟨r1, r2⟩)
  have HND := hid m5
  have HIN := hid (And.intro h.inp (And.intro m1 (And.intro (show gs.length = c.many from m4) m6)))
  have HST := hid (show SlI w w In p gl cap cur gs c b v 0 0 [] [] b from ⟨m2, m3, fun x g hg => by
    have hx : x < c.many := by
      have := (List.getElem?_eq_some_iff.1 hg).1
      rw [m4] at this
      exact this
    obtain ⟨_, _, r3⟩ := m7 x g [] hg (hnew x hx)
    rw [memAt_start, ← slotsL_nil c x]
    exact r3, Fr.refl _ _, Got.start c b, hrow, hout, by simp [slotLen]⟩)
  have x0 : w.cell? ⟨p, 0, none⟩ = some (.slice (some ⟨gl, 0, none⟩) c.many cap) := cell_of_blk m2 0
  have hpz : p < w.heap.size := blk_lt m2
  clear h hrow hb hout hc hbd m1 m2 m3 m4 m5 m6 m7 hnew
  obtain ⟨n, hn⟩ : ∃ n, n = c.many := ⟨_, rfl⟩
  have HN := hid hn
  rw [← hn] at h4 hn1 x0
  clear hn
  go_enter Tryz.func46, Tryz.ntmps46
  go_wp2
  go_loopw [1, 14] (fun v' i' wr => ∃ (i : Nat) (A : List (List (Option Pt))) (r : List Int), i ≤ n ∧ i' = i64 i ∧ SlI w wr In p gl cap cur gs c b v' i 0 A [] r) (fun _ i' _ => n - (intOf i').toNat)
  case atStart => exact ⟨0, [], b, by omega, rfl, HST.out⟩
  clear HST x0 hpz
  case round =>
    obtain ⟨i, A, r, hi, rfl, I⟩ := hrel
    have HI := hid I
    clear I
    by_cases hlt : i < n
    case neg =>
      have ei : n = i := by omega
      subst ei
      obtain ⟨a1, c1, hv, _⟩ := HI.out.row
      subst hv
      have HL := hid HI.out.got.len.2.2
      have HLN := hid HI.out.len
      by_cases hr : r.length = 0
      · have e0 : (((r.length : Nat) : Int) == 0) = true := by rw [hr]; rfl
        have HR := hid (show b.length = slotLen c 0 c.many from by
          have h1 := HL.out
          have h2 := HLN.out
          rw [h1, List.length_drop] at hr
          rw [← HN.out]
          omega)
        have HF := hid ((show SlI w wr In p gl cap cur gs c b (.slice a1 r.length c1) c.many 0 A [] r by rw [← HN.out]; exact HI.out).done HC.out HB.out HR.out HIN.out.1 HIN.out.2.1 HIN.out.2.2.1 HND.out HIN.out.2.2.2 HCUR.out)
        go_wp2
        go_ret
        exact ⟨HI.out.fr, .inl ⟨rfl, HR.out, A, HF.out.2.1, HF.out.2.2⟩⟩
      · have e0 : (((r.length : Nat) : Int) == 0) = false := beq_eq_false_iff_ne.2 (by omega)
        have HR := hid (show b.length ≠ slotLen c 0 c.many from fun e => by
          apply hr
          rw [HL.out, List.length_drop, e, HN.out]
          omega)
        go_wp2
        go_ret
        exact ⟨HI.out.fr, .inr ⟨rfl, .inr HR.out⟩⟩
    obtain ⟨g, hg, hgi, hgp, hgg, hgw⟩ := HGS.out i (by rw [← HN.out]; exact hlt)
    obtain ⟨r1, r2⟩ := HCUR.out i g hg
    obtain ⟨b1, b2, b3, b4⟩ := (show 1 ≤ c.s i ∧ c.s i ≤ 86400 ∧ 1 ≤ c.k i ∧ c.k i ≤ 60 from HBD.out i (by rw [← HN.out]; exact hlt))
    have y0 : wr.cell? ⟨gl, i * 2, none⟩ = some (i64 (c.s i)) := by rw [cell_of_blk HI.out.gb]; exact r1
    have y1 : wr.cell? ⟨gl, i * 2 + 1, none⟩ = some (.slice (some ⟨g, 0, none⟩) (c.k i).toNat (c.k i).toNat) := by rw [cell_of_blk HI.out.gb]; exact r2
    have hgz : gl < wr.heap.size := World.block_lt_of_cell? _ _ y0
    have i0 : (0 : Int) ≤ (i : Int) := by omega
    have i1 : (i : Int) < (n : Int) := by omega
    obtain ⟨s, hs⟩ : ∃ s, s = c.s i := ⟨_, rfl⟩
    obtain ⟨k, hk⟩ : ∃ k, k = (c.k i).toNat := ⟨_, rfl⟩
    have HS := hid hs
    have HK := hid hk
    rw [← hs] at y0 b1 b2
    rw [← hk] at y1
    have k1 : 1 ≤ k := by omega
    have k2 : k ≤ 60 := by omega
    have hwz : w.heap.size ≤ wr.heap.size := HI.out.fr.size
    have HG := hid (And.intro hg (And.intro hgi (And.intro hgp hgg)))
    have HB3 := hid b3
    clear hs hk r1 r2 hg hgi hgp hgg b3 b4
    go_upto_region 5 with fail
    have HI1 := hid (HI.out.below ((Below.refl _ wr).alloc (Nat.le_refl _) (.cells #[i64 s, .slice (some ⟨g, 0, none⟩) k k] 94)))
    have HBX := hid (blk_new wr (.cells #[i64 s, .slice (some ⟨g, 0, none⟩) k k] 94))
    obtain ⟨bx, hbx⟩ : ∃ bx, bx = wr.heap.size := ⟨_, rfl⟩
    rw [← hbx] at HBX ⊢
    have hbx1 : w.heap.size ≤ bx := by omega
    clear HI y0 y1 hgz hbx
    go_loopw [1, 21] (fun v' j' wx => ∃ (j : Nat) (L : List (Option Pt)) (r : List Int), j ≤ k ∧ j' = i64 j ∧ SlI w wx In p gl cap cur gs c b v' i j A L r ∧ wx.heap[bx]? = some (.cells #[i64 s, .slice (some ⟨g, 0, none⟩) k k] 94)) (fun _ j' _ => k - (intOf j').toNat)
    case atStart => exact ⟨0, [], r, by omega, rfl, HI1.out, HBX.out⟩
    clear HI1 HBX hwz
    case round =>
      obtain ⟨j, L, r, hj, rfl, I, hbx⟩ := hrel
      have HI := hid I
      have HBX := hid hbx
      clear I
      by_cases hlj : j < k
      case neg =>
        have ej : k = j := by omega
        subst ej
        have HA := hid (show SlI w wr In p gl cap cur gs c b u1 (i + 1) 0 (A ++ [L]) [] r from SlI.arc (by rw [← HK.out]; exact HI.out))
        clear hbx
        go_wp2
        go_roundw
        case rel => first | exact ⟨i + 1, A ++ [L], r, by omega, by go_num, HA.out⟩ | ((repeat apply Exists.intro); exact ⟨⟨i + 1, A ++ [L], r, by omega, by go_num, HA.out⟩, rfl⟩)
        case measure => simp [intOf]; omega
      by_cases h12 : r.length < 12
      · have HS1 := hid (HI.out.got.short (n := c.many) h12 (by rw [← HN.out]; exact hlt) (by rw [← HK.out]; exact hlj))
        obtain ⟨a1, c1, hv, _⟩ := HI.out.row
        subst hv
        have e12 : ((r.length : Nat) : Int) < 12 := by omega
        clear hbx
        go_wp2
        go_ret
        exact ⟨HI.out.fr, .inr ⟨rfl, .inr (by have := HS1.out; omega)⟩⟩
      obtain ⟨rb, ro, rc, hu, hc1, hrg⟩ := HI.out.row.some' (fun e => by rw [e] at h12; simp at h12)
      have HRW := hid HI.out.row
      have HOT := hid HI.out.out
      rw [hu] at HRW HOT
      obtain ⟨hr12, ho12⟩ := HRW.out.from' 12 (by omega)
      have hl12 : (r.take 12).length = 12 := by rw [List.length_take]; omega
      have hbr : ByteL (r.take 12) := fun x hx => by
        have hx2 := List.mem_of_mem_take hx
        rw [HI.out.got.len.2.2] at hx2
        exact HB.out x (List.mem_of_mem_drop hx2)
      have HBS := hid (fun (w : World) => bytes_slot (r.take 12) w hl12 hbr)
      have hsr : slotRead c i j (readU (r.take 4)) (readN ((r.drop 4).take 8)) = if okB (c.s i) k j (slotFrom (r.take 12)) = true then some (slotFrom (r.take 12)) else none := by
        have := slotRead_from (c := c) (i := i) (n := j) hl12 hbr (k := k) (by have := HB3.out; rw [HK.out]; omega)
        rw [List.take_take, List.drop_take, List.take_take] at this
        exact this
      have HSR := hid hsr
      obtain ⟨o, ho⟩ : ∃ o, o = slotFrom (r.take 12) := ⟨_, rfl⟩
      rw [← ho] at HBS HSR
      rw [← HS.out] at HSR
      have HMB := hid (fun (w : World) => mayBe_any o s g k k j w b1 (by omega) k1 (by omega))
      obtain ⟨t, a, e, hf⟩ := slotCells_form o
      have HF := hid hf
      rw [hf] at HBS HMB
      obtain ⟨cs, hcs⟩ : ∃ x, x = bs (r.take 12) := ⟨_, rfl⟩
      rw [← hcs] at HBS
      have HRG := hid (show wr.rangeAt rb ro cs by rw [hcs, ← bs_take]; exact range_take hrg 12)
      have HSZ := hid (show (Tryz.prog.info? 118).map (·.size) = some cs.length by rw [hcs, bs_len, hl12]; exact Tryz.infoBytes)
      obtain ⟨M, hMM⟩ : ∃ x, x = r.length := ⟨_, rfl⟩
      have HMM := hid hMM
      rw [← hMM] at hu hr12 ho12 HOT hc1 h12
      have harr := fun (w : World) => run_array_at (P := Tryz.prog) w 118 5 12 Tryz.underlying118 ⟨rb, ro, none⟩ 12 rc (by omega)
      have HR12 := hid hr12
      have HO12 := hid ho12
      have m12 : (12 : Int) ≤ (rc : Int) := by omega
      have m12' : ¬ ((M : Nat) : Int) < 12 := by omega
      have j0 : (0 : Int) ≤ (j : Int) := by omega
      have j1 : (j : Int) < (k : Int) := by omega
      have z0 : wr.cell? ⟨bx, 0, none⟩ = some (i64 s) := cell_of_blk hbx 0
      have z1 : wr.cell? ⟨bx, 1, none⟩ = some (.slice (some ⟨g, 0, none⟩) k k) := cell_of_blk hbx 1
      have hbz : bx < wr.heap.size := blk_lt hbx
      have hrbz : rb < wr.heap.size := World.block_lt_of_cell? _ _ (hrg 0 _ (by unfold bs; rw [List.getElem?_map, List.getElem?_eq_getElem (by omega)]; rfl))
      subst hu
      clear hr12 ho12 hl12 hbr hsr ho hf hcs hMM hrg hbx HRW
      go_wp2_with (refine wpList_load_mid (by rfl) 118 (.tmp 29) (by rfl) rb ro (by rfl) cs _ HRG.out Tryz.underlying118 (by rfl) HSZ.out ?_)
      refine (HBS.out _).mono ?_
      rintro e2 w2 ⟨rfl, hb2⟩
      have HI2 := hid ((HI.out.below hb2).below ((Below.refl _ w2).alloc (Nat.le_refl _) (.cells #[.bool t, i64 a, i64 e] 116)))
      have HBX2 := hid (blk_alloc (o' := .cells #[.bool t, i64 a, i64 e] 116) (blk_later hb2 hbz HBX.out))
      have y0 : w2.cell? ⟨bx, 0, none⟩ = some (i64 s) := cell_later hb2 z0
      have y1 : w2.cell? ⟨bx, 1, none⟩ = some (.slice (some ⟨g, 0, none⟩) k k) := cell_later hb2 z1
      have hbz2 : bx < w2.heap.size := Nat.lt_of_lt_of_le hbz hb2.size
      have HR2 := hid ((HR12.out.later hb2).later ((Below.refl _ w2).alloc (Nat.le_refl _) (.cells #[.bool t, i64 a, i64 e] 116)))
      clear hb2 z0 z1 HI HBX HBS HRG harr HR12
      go_wp2_with fail
      refine (HMB.out _).mono ?_
      rintro e3 w3 ⟨rfl, hb3⟩
      have HI3 := hid (HI2.out.below hb3)
      have HBX3 := hid (blk_later hb3 (blk_lt HBX2.out) HBX2.out)
      have HR3 := hid (HR2.out.later hb3)
      have q0 : w3.cell? ⟨bx, 0, none⟩ = some (i64 s) := cell_of_blk HBX3.out 0
      have q1 : w3.cell? ⟨bx, 1, none⟩ = some (.slice (some ⟨g, 0, none⟩) k k) := cell_of_blk HBX3.out 1
      have hbz3 : bx < w3.heap.size := blk_lt HBX3.out
      have v0 : w3.cell? ⟨w2.heap.size, 0, none⟩ = some (.bool t) := cell_later hb3 (show (w2.alloc (.cells #[.bool t, i64 a, i64 e] 116)).cell? ⟨w2.heap.size, 0, none⟩ = some (.bool t) by simp)
      have v1 : w3.cell? ⟨w2.heap.size, 1, none⟩ = some (i64 a) := cell_later hb3 (show (w2.alloc (.cells #[.bool t, i64 a, i64 e] 116)).cell? ⟨w2.heap.size, 1, none⟩ = some (i64 a) by simp)
      have v2 : w3.cell? ⟨w2.heap.size, 2, none⟩ = some (i64 e) := cell_later hb3 (show (w2.alloc (.cells #[.bool t, i64 a, i64 e] 116)).cell? ⟨w2.heap.size, 2, none⟩ = some (i64 e) by simp)
      have hw2z : w2.heap.size < w3.heap.size := World.block_lt_of_cell? _ _ v0
      have hgb := HI3.out.sl i g HG.out.1
      have hms := (memAt_slot (c := c) (A := A) (o := o) HI3.out.got.len.2.1 (show j < (c.k i).toNat by rw [← HK.out]; exact hlj)).2
      have hsz : (slotBlk (memAt c A L i j i)).size = 3 * k := by
        unfold slotBlk
        rw [List.size_toArray, slots_len, hms, HK.out]
      obtain ⟨g0, hg0⟩ : ∃ x, w3.cell? ⟨g, j * 3, none⟩ = some x := ⟨_, by rw [cell_of_blk hgb, Array.getElem?_eq_getElem (by omega)]⟩
      obtain ⟨g1, hg1⟩ : ∃ x, w3.cell? ⟨g, j * 3 + 1, none⟩ = some x := ⟨_, by rw [cell_of_blk hgb, Array.getElem?_eq_getElem (by omega)]⟩
      obtain ⟨g2, hg2⟩ : ∃ x, w3.cell? ⟨g, j * 3 + 2, none⟩ = some x := ⟨_, by rw [cell_of_blk hgb, Array.getElem?_eq_getElem (by omega)]⟩
      have f0 : w3.frozen? ⟨g, j * 3, none⟩ = false := frozen_of_blk hgb _
      have f1 : w3.frozen? ⟨g, j * 3 + 1, none⟩ = false := frozen_of_blk hgb _
      have f2 : w3.frozen? ⟨g, j * 3 + 2, none⟩ = false := frozen_of_blk hgb _
      have hgz3 : g < w3.heap.size := blk_lt hgb
      clear hb3 HI2 HBX2 HR2 HMB y0 y1 hbz2 hgb hms hsz
      cases hok : okB s k j o with
      | false =>
        rw [hok] at HSR
        have HBAD := hid (HI3.out.got.bad (n := c.many) HSR.out (by rw [← HN.out]; exact hlt) (by rw [← HK.out]; exact hlj))
        go_wp2
        go_ret
        exact ⟨HI3.out.fr, .inr ⟨rfl, .inl HBAD.out⟩⟩
      | true =>
        rw [hok] at HSR
        have HPUT := hid (HI3.out.put HG.out.1 HG.out.2.1 HND.out HG.out.2.2.1 HG.out.2.2.2 (show j < (c.k i).toNat by rw [← HK.out]; exact hlj) HF.out HSR.out rfl HR3.out (HO12.out _ HOT.out) (by rw [← HMM.out]; omega))
        have HBXN := hid (show ((((w3.setCell ⟨g, j * 3, none⟩ (.bool t)).setCell ⟨g, j * 3 + 1, none⟩ (i64 a)).setCell ⟨g, j * 3 + 2, none⟩ (i64 e)).heap[bx]? = some (.cells #[i64 s, .slice (some ⟨g, 0, none⟩) k k] 94)) from by
          have hne : bx ≠ g := by omega
          rw [blk_setCell_far (by exact hne), blk_setCell_far (by exact hne), blk_setCell_far (by exact hne)]
          exact HBX3.out)
        go_wp2
        exact ⟨⟨j + 1, L ++ [o], r.drop 12, by omega, by go_num, HPUT.out, HBXN.out⟩, by simp [intOf]; omega⟩
end Go.Proofs.YthbbfjfekchdiaaGreat
