import Derived.Test.YthbbfjfekchdiaaGreatXLeafWalks
import Derived.Test.YthbbfjfekchdiaaGreatXCGood
import Derived.Test.YthbbfjfekchdiaaGreatXRHas
import Derived.RegionTactic
import Derived.Laws.MakeOwn
import Derived.Deep.RegionLaw
import Derived.Deep.RegionHeld3
import Derived.Deep.DrawnRows
namespace Go.Proofs.YthbbfjfekchdiaaGreat
open Go.RowKit
theorem Tryz.infoSlot : (Tryz.prog.info? 116).map (fun i => (i.zero, i.size, i.bytes)) = some (some (.agg #[.bool false, .int .i64 0, .int .i64 0]), 3, 24) := by kernel_rfl
end Go.Proofs.YthbbfjfekchdiaaGreat
namespace Go.Proofs.YthbbfjfekchdiaaGreat
open Go.RowKit
set_option linter.unusedSimpArgs false
attribute [local go_sem] Go.wp_at_zero Go.wp_at_succ
def ArcRow (c : Cfg) (k : Nat) (xs : List Value) : Prop :=
  xs.length = 2 * k ∧ ∀ j, j < k → xs[2 * j]? = some (i64 (c.s j)) ∧ ∃ ad, xs[2 * j + 1]? = some (.slice ad (c.k j).toNat (c.k j).toNat)
theorem ArcRow.nil {c : Cfg} : ArcRow c 0 [] := ⟨rfl, fun j hj => absurd hj (by omega)⟩
theorem ArcRow.snoc {c : Cfg} {k : Nat} {xs : List Value} (h : ArcRow c k xs) (ad : Option Addr) : ArcRow c (k + 1) (xs ++ [i64 (c.s k), .slice ad (c.k k).toNat (c.k k).toNat]) := by
  obtain ⟨hl, hr⟩ := h
  refine ⟨by rw [List.length_append, hl]; simp; omega, fun j hj => ?_⟩
  by_cases e : j = k
  · subst e
    refine ⟨?_, ad, ?_⟩
    · rw [List.getElem?_append_right (by omega), hl]; simp
    · rw [List.getElem?_append_right (by omega), hl]; simp
  · obtain ⟨a, ad', b⟩ := hr j (by omega)
    refine ⟨?_, ad', ?_⟩
    · rw [List.getElem?_append_left (by omega)]; exact a
    · rw [List.getElem?_append_left (by omega)]; exact b
theorem Tryz.infoArchive : (Tryz.prog.info? 94).map (fun i => (i.zero, i.size, i.bytes)) = some (some (.agg #[.int .i64 0, .slice none 0 0]), 2, 32) := by kernel_rfl
structure CI (c : Cfg) (D : Nat) (w1 wr : World) (k : Nat) (v : Value) (xs : List Value) : Prop where
  old : Below D w1 wr
  big : D + 2 ≤ wr.heap.size
  blk : wr.heap[D]? = some (.cells #[v, .iface (methT c.m) (.agg #[]), i64 c.f] 89)
  box : Box wr (D + 1) c
  own : wr.ownsRow (D + 2) 94 2 v k xs
  arc : ArcRow c k xs
theorem ci_start (c : Cfg) (w1 : World) : CI c w1.heap.size w1 ((w1.alloc (.cells #[.slice none 0 0, .iface (methT c.m) (.agg #[]), i64 c.f] 89)).alloc (.cells #[i64 c.s0, i64 c.k0, i64 c.s1, i64 c.k1, i64 c.s2, i64 c.k2, i64 c.s3, i64 c.k3, i64 c.m, i64 c.f] 40)) 0 (.slice none 0 0) [] where
  old := ((Below.refl _ _).alloc (Nat.le_refl _) _).alloc (by simp) _
  big := by simp
  blk := blk_alloc (blk_new _ _)
  box := box_two w1 c _
  own := World.ownsRow_nil _ _ _ _
  arc := .nil
theorem box_far {w w' : World} {b : Nat} {c : Cfg} (h : Box w b c) (hb : w'.heap[b]? = w.heap[b]?) : Box w' b c := by
  have e : ∀ o, w'.cell? ⟨b, o, none⟩ = w.cell? ⟨b, o, none⟩ := fun o => World.cell?_of_block hb
  exact ⟨(e 0).trans h.c0, (e 1).trans h.c1, (e 2).trans h.c2, (e 3).trans h.c3, (e 4).trans h.c4, (e 5).trans h.c5, (e 6).trans h.c6, (e 7).trans h.c7, (e 8).trans h.c8, (e 9).trans h.c9⟩
theorem ci_step {c : Cfg} {D : Nat} {w1 wr wN w3 : World} {k g cap : Nat} {v : Value} {xs : List Value} {A O : Obj} {ad : Option Addr} (I : CI c D w1 wr k v xs)
    (hb : Below (wr.heap.size + 1) (wr.alloc A).drew wN)
    (hown : w3.ownsRow (D + 2) 94 2 (.slice (some ⟨g, 0, none⟩) (k + 1) cap) (k + 1) (xs ++ [i64 (c.s k), .slice ad (c.k k).toNat (c.k k).toNat]))
    (hgrow : (wN.alloc O).grownBy w3 v.ownBlock) :
    CI c D w1 (w3.setCell ⟨D, 0, none⟩ (.slice (some ⟨g, 0, none⟩) (k + 1) cap)) (k + 1) (.slice (some ⟨g, 0, none⟩) (k + 1) cap) (xs ++ [i64 (c.s k), .slice ad (c.k k).toNat (c.k k).toNat]) := by
  have hbig := I.big
  have hs1 : wr.heap.size + 1 ≤ wN.heap.size := by have := hb.size; have e : (wr.alloc A).drew.heap.size = wr.heap.size + 1 := (by show (wr.alloc A).heap.size = _; simp); omega
  have hs2 := hgrow.size
  have e2 : (wN.alloc O).heap.size = wN.heap.size + 1 := by simp
  have far : ∀ j, j < wr.heap.size → some j ≠ v.ownBlock → w3.heap[j]? = wr.heap[j]? := by
    intro j hj hne
    rw [hgrow.block j (by omega) hne, Below.heap_alloc wN O j (by omega), hb.block j (by omega)]
    exact Below.heap_alloc wr A j hj
  constructor
  · refine Below.setCell ?_ (p := ⟨D, 0, none⟩) (Nat.le_refl D) _
    have b1 : Below D w1 wN := ((I.old.alloc (by omega) A).drew).trans (hb.mono (by omega))
    refine Below.grown (b1.alloc (by omega) O) hgrow (by omega) ?_
    intro j hj
    have := (I.own.lt j hj).1
    omega
  · rw [size_setCell]; omega
  · have h := far D (by omega) (owns_not I.own (by omega))
    exact blk_setCell (h.trans I.blk) 0 _
  · refine box_far I.box ?_
    rw [blk_setCell_far (by simp)]
    exact far (D + 1) (by omega) (owns_not I.own (by omega))
  · exact ownsRow_setCell_below hown (by simp) _
  · exact .snoc I.arc ad
set_option maxHeartbeats 1000000 in
theorem pcreate_no (c : Cfg) (w : World) (h : ¬ c.Ok) :
    Calls Tryz.prog 21 #[.agg c.cells] w fun e w' => e = .returned (.tuple #[.pointer none, i64 2]) ∧ Below w.heap.size w w' := by
  show Calls Tryz.prog 21 #[.agg #[i64 c.s0, i64 c.k0, i64 c.s1, i64 c.k1, i64 c.s2, i64 c.k2, i64 c.s3, i64 c.k3, i64 c.m, i64 c.f]] w _
  have he := c.err_no h
  clear h
  go_enter Tryz.func21, Tryz.ntmps21
  go_wp2_with (go_at_call 20; refine (pcheck_any c _).mono ?_; rintro e w' ⟨rfl, hb⟩)
  go_ret2
  exact ⟨rfl, below_one hb⟩
end Go.Proofs.YthbbfjfekchdiaaGreat
namespace Go.Proofs.YthbbfjfekchdiaaGreat
open Go.RowKit
theorem ta00 (w : World) : (Instr.typeAssert (.iface 139 (.agg #[])) 84 139 true).run Tryz.prog w = .ok (.tuple #[.agg #[], .bool true]) w := by kernel_rfl
theorem ta10 (w : World) : (Instr.typeAssert (.iface 140 (.agg #[])) 84 139 true).run Tryz.prog w = .ok (.tuple #[.agg #[], .bool false]) w := by kernel_rfl
theorem ta11 (w : World) : (Instr.typeAssert (.iface 140 (.agg #[])) 84 140 true).run Tryz.prog w = .ok (.tuple #[.agg #[], .bool true]) w := by kernel_rfl
theorem ta20 (w : World) : (Instr.typeAssert (.iface 141 (.agg #[])) 84 139 true).run Tryz.prog w = .ok (.tuple #[.agg #[], .bool false]) w := by kernel_rfl
theorem ta21 (w : World) : (Instr.typeAssert (.iface 141 (.agg #[])) 84 140 true).run Tryz.prog w = .ok (.tuple #[.agg #[], .bool false]) w := by kernel_rfl
theorem ta22 (w : World) : (Instr.typeAssert (.iface 141 (.agg #[])) 84 141 true).run Tryz.prog w = .ok (.tuple #[.agg #[], .bool true]) w := by kernel_rfl
theorem ta30 (w : World) : (Instr.typeAssert (.iface 142 (.agg #[])) 84 139 true).run Tryz.prog w = .ok (.tuple #[.agg #[], .bool false]) w := by kernel_rfl
theorem ta31 (w : World) : (Instr.typeAssert (.iface 142 (.agg #[])) 84 140 true).run Tryz.prog w = .ok (.tuple #[.agg #[], .bool false]) w := by kernel_rfl
theorem ta32 (w : World) : (Instr.typeAssert (.iface 142 (.agg #[])) 84 141 true).run Tryz.prog w = .ok (.tuple #[.agg #[], .bool false]) w := by kernel_rfl
theorem ta33 (w : World) : (Instr.typeAssert (.iface 142 (.agg #[])) 84 142 true).run Tryz.prog w = .ok (.tuple #[.agg #[], .bool true]) w := by kernel_rfl
theorem ta40 (w : World) : (Instr.typeAssert (.iface 143 (.agg #[])) 84 139 true).run Tryz.prog w = .ok (.tuple #[.agg #[], .bool false]) w := by kernel_rfl
theorem ta41 (w : World) : (Instr.typeAssert (.iface 143 (.agg #[])) 84 140 true).run Tryz.prog w = .ok (.tuple #[.agg #[], .bool false]) w := by kernel_rfl
theorem ta42 (w : World) : (Instr.typeAssert (.iface 143 (.agg #[])) 84 141 true).run Tryz.prog w = .ok (.tuple #[.agg #[], .bool false]) w := by kernel_rfl
theorem ta43 (w : World) : (Instr.typeAssert (.iface 143 (.agg #[])) 84 142 true).run Tryz.prog w = .ok (.tuple #[.agg #[], .bool false]) w := by kernel_rfl
theorem ta44 (w : World) : (Instr.typeAssert (.iface 143 (.agg #[])) 84 143 true).run Tryz.prog w = .ok (.tuple #[.agg #[], .bool true]) w := by kernel_rfl
theorem ta50 (w : World) : (Instr.typeAssert (.iface 144 (.agg #[])) 84 139 true).run Tryz.prog w = .ok (.tuple #[.agg #[], .bool false]) w := by kernel_rfl
theorem ta51 (w : World) : (Instr.typeAssert (.iface 144 (.agg #[])) 84 140 true).run Tryz.prog w = .ok (.tuple #[.agg #[], .bool false]) w := by kernel_rfl
theorem ta52 (w : World) : (Instr.typeAssert (.iface 144 (.agg #[])) 84 141 true).run Tryz.prog w = .ok (.tuple #[.agg #[], .bool false]) w := by kernel_rfl
theorem ta53 (w : World) : (Instr.typeAssert (.iface 144 (.agg #[])) 84 142 true).run Tryz.prog w = .ok (.tuple #[.agg #[], .bool false]) w := by kernel_rfl
theorem ta54 (w : World) : (Instr.typeAssert (.iface 144 (.agg #[])) 84 143 true).run Tryz.prog w = .ok (.tuple #[.agg #[], .bool false]) w := by kernel_rfl
theorem ta55 (w : World) : (Instr.typeAssert (.iface 144 (.agg #[])) 84 144 true).run Tryz.prog w = .ok (.tuple #[.agg #[], .bool true]) w := by kernel_rfl
set_option maxHeartbeats 1000000 in
theorem number_any (m : Int) (w : World) (h1 : 1 ≤ m) (h2 : m ≤ 6) :
    Calls Tryz.prog 48 #[.iface (methT m) (.agg #[])] w fun e w' => e = .returned (i64 m) ∧ w' = w := by
  have h : m = 1 ∨ m = 2 ∨ m = 3 ∨ m = 4 ∨ m = 5 ∨ m = 6 := by omega
  rcases h with rfl | rfl | rfl | rfl | rfl | rfl
  · show Calls Tryz.prog 48 #[.iface 139 (.agg #[])] w _
    have q0 := ta00
    go_enter Tryz.func48, Tryz.ntmps48
    go_wp2
    go_ret
    exact ⟨rfl, rfl⟩
  · show Calls Tryz.prog 48 #[.iface 140 (.agg #[])] w _
    have q0 := ta10
    have q1 := ta11
    go_enter Tryz.func48, Tryz.ntmps48
    go_wp2
    go_ret
    exact ⟨rfl, rfl⟩
  · show Calls Tryz.prog 48 #[.iface 141 (.agg #[])] w _
    have q0 := ta20
    have q1 := ta21
    have q2 := ta22
    go_enter Tryz.func48, Tryz.ntmps48
    go_wp2
    go_ret
    exact ⟨rfl, rfl⟩
  · show Calls Tryz.prog 48 #[.iface 142 (.agg #[])] w _
    have q0 := ta30
    have q1 := ta31
    have q2 := ta32
    have q3 := ta33
    go_enter Tryz.func48, Tryz.ntmps48
    go_wp2
    go_ret
    exact ⟨rfl, rfl⟩
  · show Calls Tryz.prog 48 #[.iface 143 (.agg #[])] w _
    have q0 := ta40
    have q1 := ta41
    have q2 := ta42
    have q3 := ta43
    have q4 := ta44
    go_enter Tryz.func48, Tryz.ntmps48
    go_wp2
    go_ret
    exact ⟨rfl, rfl⟩
  · show Calls Tryz.prog 48 #[.iface 144 (.agg #[])] w _
    have q0 := ta50
    have q1 := ta51
    have q2 := ta52
    have q3 := ta53
    have q4 := ta54
    have q5 := ta55
    go_enter Tryz.func48, Tryz.ntmps48
    go_wp2
    go_ret
    exact ⟨rfl, rfl⟩
set_option maxHeartbeats 1000000 in
theorem shape_any (s : Int) (ad : Option Addr) (n : Nat) (w : World) :
    Calls Tryz.prog 49 #[.agg #[i64 s, .slice ad n n]] w fun e w' => e = .returned (.agg #[i64 s, i64 n]) ∧ Below w.heap.size w w' := by
  go_enter Tryz.func49, Tryz.ntmps49
  go_wp2
  refine bodyPost_ret (v := .agg #[i64 s, i64 n]) (by simp [results, Tryz.results49, go_sem]) rfl ⟨rfl, ?_⟩
  exact (((Below.refl _ _).alloc (Nat.le_refl _) _).alloc (by simp) _)
end Go.Proofs.YthbbfjfekchdiaaGreat
