import Derived.Test.YtaccihhnpheecaaXPCreate
import Derived.Test.YtaccihhnpheecaaXZFirst
import Derived.Test.YtaccihhnpheecaaXZUpdate2
import Derived.Test.YtaccihhnpheecaaXZFetch
import Derived.Test.YtaccihhnpheecaaXZCreate
import Derived.Test.YtaccihhnpheecaaXZSort
import Derived.Test.YtaccihhnpheecaaXKWorks
import Derived.Test.YtaccihhnpheecaaXZLeaf
namespace Go.Proofs.Ytaccihhnpheecaa
open Go.RowKit

theorem ta00 (w : World) : (Instr.typeAssert (.iface 96 (.agg #[])) 73 96 true).run Try.prog w = .ok (.tuple #[.agg #[], .bool true]) w := by kernel_rfl
theorem ta10 (w : World) : (Instr.typeAssert (.iface 97 (.agg #[])) 73 96 true).run Try.prog w = .ok (.tuple #[.agg #[], .bool false]) w := by kernel_rfl
theorem ta11 (w : World) : (Instr.typeAssert (.iface 97 (.agg #[])) 73 97 true).run Try.prog w = .ok (.tuple #[.agg #[], .bool true]) w := by kernel_rfl
theorem ta20 (w : World) : (Instr.typeAssert (.iface 98 (.agg #[])) 73 96 true).run Try.prog w = .ok (.tuple #[.agg #[], .bool false]) w := by kernel_rfl
theorem ta21 (w : World) : (Instr.typeAssert (.iface 98 (.agg #[])) 73 97 true).run Try.prog w = .ok (.tuple #[.agg #[], .bool false]) w := by kernel_rfl
theorem ta22 (w : World) : (Instr.typeAssert (.iface 98 (.agg #[])) 73 98 true).run Try.prog w = .ok (.tuple #[.agg #[], .bool true]) w := by kernel_rfl
theorem ta30 (w : World) : (Instr.typeAssert (.iface 99 (.agg #[])) 73 96 true).run Try.prog w = .ok (.tuple #[.agg #[], .bool false]) w := by kernel_rfl
theorem ta31 (w : World) : (Instr.typeAssert (.iface 99 (.agg #[])) 73 97 true).run Try.prog w = .ok (.tuple #[.agg #[], .bool false]) w := by kernel_rfl
theorem ta32 (w : World) : (Instr.typeAssert (.iface 99 (.agg #[])) 73 98 true).run Try.prog w = .ok (.tuple #[.agg #[], .bool false]) w := by kernel_rfl
theorem ta33 (w : World) : (Instr.typeAssert (.iface 99 (.agg #[])) 73 99 true).run Try.prog w = .ok (.tuple #[.agg #[], .bool true]) w := by kernel_rfl
theorem ta40 (w : World) : (Instr.typeAssert (.iface 100 (.agg #[])) 73 96 true).run Try.prog w = .ok (.tuple #[.agg #[], .bool false]) w := by kernel_rfl
theorem ta41 (w : World) : (Instr.typeAssert (.iface 100 (.agg #[])) 73 97 true).run Try.prog w = .ok (.tuple #[.agg #[], .bool false]) w := by kernel_rfl
theorem ta42 (w : World) : (Instr.typeAssert (.iface 100 (.agg #[])) 73 98 true).run Try.prog w = .ok (.tuple #[.agg #[], .bool false]) w := by kernel_rfl
theorem ta43 (w : World) : (Instr.typeAssert (.iface 100 (.agg #[])) 73 99 true).run Try.prog w = .ok (.tuple #[.agg #[], .bool false]) w := by kernel_rfl
theorem ta44 (w : World) : (Instr.typeAssert (.iface 100 (.agg #[])) 73 100 true).run Try.prog w = .ok (.tuple #[.agg #[], .bool true]) w := by kernel_rfl
theorem ta50 (w : World) : (Instr.typeAssert (.iface 101 (.agg #[])) 73 96 true).run Try.prog w = .ok (.tuple #[.agg #[], .bool false]) w := by kernel_rfl
theorem ta51 (w : World) : (Instr.typeAssert (.iface 101 (.agg #[])) 73 97 true).run Try.prog w = .ok (.tuple #[.agg #[], .bool false]) w := by kernel_rfl
theorem ta52 (w : World) : (Instr.typeAssert (.iface 101 (.agg #[])) 73 98 true).run Try.prog w = .ok (.tuple #[.agg #[], .bool false]) w := by kernel_rfl
theorem ta53 (w : World) : (Instr.typeAssert (.iface 101 (.agg #[])) 73 99 true).run Try.prog w = .ok (.tuple #[.agg #[], .bool false]) w := by kernel_rfl
theorem ta54 (w : World) : (Instr.typeAssert (.iface 101 (.agg #[])) 73 100 true).run Try.prog w = .ok (.tuple #[.agg #[], .bool false]) w := by kernel_rfl
theorem ta55 (w : World) : (Instr.typeAssert (.iface 101 (.agg #[])) 73 101 true).run Try.prog w = .ok (.tuple #[.agg #[], .bool true]) w := by kernel_rfl

end Go.Proofs.Ytaccihhnpheecaa
namespace Go.Proofs.Ytaccihhnpheecaa
open Go.RowKit
set_option linter.unusedSimpArgs false
attribute [local go_sem] Go.wp_at_zero Go.wp_at_succ

theorem ArcRow.length {c : Cfg} {k : Nat} {xs : List Value} (h : ArcRow c k xs) : xs.length = 2 * k := h.1
theorem ArcRow.at {c : Cfg} {k : Nat} {xs : List Value} (h : ArcRow c k xs) : ∀ j, j < k → xs[2 * j]? = some (i64 (c.s j)) ∧ ∃ ad, xs[2 * j + 1]? = some (.slice ad (c.k j).toNat (c.k j).toNat) := h.2

theorem repD_cells {w : World} {p : Nat} {c : Cfg} (h : RepD w p c) (h1 : 1 ≤ c.many) :
    ∃ g cap, w.heap[p]? = some (.cells #[.slice (some ⟨g, 0, none⟩) c.many cap, .iface (methT c.m) (.agg #[]), i64 c.f] 75) ∧
      ∀ j, j < c.many → w.cell? ⟨g, 2 * j, none⟩ = some (i64 (c.s j)) ∧ ∃ ad, w.cell? ⟨g, 2 * j + 1, none⟩ = some (.slice ad (c.k j).toNat (c.k j).toNat) := by
  obtain ⟨v, xs, hp, ho, ha⟩ := h
  obtain ⟨g, cap, cur, rfl, _, hg, ht, hs⟩ := owns_block ho (by omega)
  refine ⟨g, cap, hp, fun j hj => ?_⟩
  have hc : ∀ o, o < c.many * 2 → w.cell? ⟨g, o, none⟩ = xs[o]? := by
    intro o hlt
    rw [cell_of_blk hg o, ← ht, List.getElem?_take_of_lt hlt]
    simp
  obtain ⟨a, ad, b⟩ := ha.at j hj
  exact ⟨(hc _ (by omega)).trans a, ad, (hc _ (by omega)).trans b⟩

/-- Config's variable behind k rounds -/
def Cfg.part (c : Cfg) (k : Nat) : Array Value :=
  #[i64 (if 0 < k then c.s0 else 0), i64 (if 0 < k then c.k0 else 0), i64 (if 1 < k then c.s1 else 0), i64 (if 1 < k then c.k1 else 0), i64 (if 2 < k then c.s2 else 0), i64 (if 2 < k then c.k2 else 0), i64 (if 3 < k then c.s3 else 0), i64 (if 3 < k then c.k3 else 0), i64 c.m, i64 c.f]
theorem Cfg.part_all {c : Cfg} (h : c.Ok) : c.part c.many = c.cells := by
  have hz : ∀ i, i < 4 → ¬ i < c.many → c.Zero i := fun i h4 hn => (h.2.1 i h4).1 (by omega)
  have e : ∀ i, i < 4 → (if i < c.many then c.s i else 0) = c.s i ∧ (if i < c.many then c.k i else 0) = c.k i := by
    intro i h4
    by_cases x : i < c.many
    · simp [x]
    · have z := hz i h4 x; simp [x, z.1, z.2]
  have e0 := e 0 (by omega); have e1 := e 1 (by omega); have e2 := e 2 (by omega); have e3 := e 3 (by omega)
  simp only [Cfg.s, Cfg.k] at e0 e1 e2 e3
  unfold Cfg.part
  rw [e0.1, e0.2, e1.1, e1.2, e2.1, e2.2, e3.1, e3.2]

structure KI (c : Cfg) (w wr : World) (k : Nat) : Prop where
  old : Below w.heap.size w wr
  blkR : wr.heap[w.heap.size]? = some (.cells #[i64 0, i64 0, i64 0, i64 0, i64 0, i64 0, i64 0, i64 0, i64 0, i64 0] 29)
  blkC : wr.heap[w.heap.size + 1]? = some (.cells (c.part k) 29)

theorem ki_start (c : Cfg) (w : World) : KI c w ((w.alloc (.cells #[i64 0, i64 0, i64 0, i64 0, i64 0, i64 0, i64 0, i64 0, i64 0, i64 0] 29)).alloc (.cells #[i64 0, i64 0, i64 0, i64 0, i64 0, i64 0, i64 0, i64 0, i64 c.m, i64 c.f] 29)).drew 0 where
  old := (((Below.refl _ w).alloc (Nat.le_refl _) _).alloc (by simp) _).drew
  blkR := blk_alloc (blk_new w _)
  blkC := by
    have h := blk_new (w.alloc (.cells #[i64 0, i64 0, i64 0, i64 0, i64 0, i64 0, i64 0, i64 0, i64 0, i64 0] 29)) (.cells #[i64 0, i64 0, i64 0, i64 0, i64 0, i64 0, i64 0, i64 0, i64 c.m, i64 c.f] 29)
    have e : (w.alloc (.cells #[i64 0, i64 0, i64 0, i64 0, i64 0, i64 0, i64 0, i64 0, i64 0, i64 0] 29)).heap.size = w.heap.size + 1 := by simp
    rw [e] at h
    exact h

theorem ki_step {c : Cfg} {w wr wS : World} {k : Nat} {A : Obj} {a b : Int} (I : KI c w wr k) (hb : Below (wr.alloc A).heap.size (wr.alloc A) wS)
    (hp : ((c.part k).setIfInBounds (2 * k) (i64 a)).setIfInBounds (2 * k + 1) (i64 b) = c.part (k + 1)) :
    KI c w ((wS.setCell ⟨w.heap.size + 1, 2 * k, none⟩ (i64 a)).setCell ⟨w.heap.size + 1, 2 * k + 1, none⟩ (i64 b)) (k + 1) := by
  have hz := blk_lt I.blkC
  have e : (wr.alloc A).heap.size = wr.heap.size + 1 := by simp
  rw [e] at hb
  refine ⟨?_, ?_, ?_⟩
  · refine Below.setCell (p := ⟨w.heap.size + 1, 2 * k + 1, none⟩) (Below.setCell (p := ⟨w.heap.size + 1, 2 * k, none⟩) ?_ (Nat.le_succ _) _) (Nat.le_succ _) _
    exact (I.old.alloc (by omega) A).trans (hb.mono (by omega))
  · rw [blk_setCell_far (by show w.heap.size ≠ w.heap.size + 1; omega), blk_setCell_far (by show w.heap.size ≠ w.heap.size + 1; omega)]
    exact blk_later hb (by omega) (blk_alloc I.blkR)
  · rw [← hp]
    exact blk_setCell (blk_setCell (blk_later hb (by omega) (blk_alloc I.blkC)) _ _) _ _

end Go.Proofs.Ytaccihhnpheecaa
/-
  The program: Config.
-/
namespace Go.Proofs.Ytaccihhnpheecaa
open Go.RowKit

end Go.Proofs.Ytaccihhnpheecaa
/-
  The program's contracts, together.
-/
namespace Go.Proofs.Ytaccihhnpheecaa

theorem progOk : ProgOk ZRep where
  weak := fun h hs => h.weak hs
  lim := fun h => h.lim
  fr := fun h hf hn => h.fr hf hn
  check := fun c w => pcheck_any c w
  createNo := fun c w h => pcreate_no c w h
  create := fun c w h => zcreate_yes c w h
  update := fun p now v l d In w h _ hr ho hl => (zupdate_any (hid sortOk) p now v l d In w h hr ho hl).mono fun _ _ ⟨a, b, c⟩ => ⟨a, b.weak fun _ x => .inl x, c⟩
  fetch := fun p now fr un d In w h _ => zfetch_any (hid sortOk) p now fr un d In w h
end Go.Proofs.Ytaccihhnpheecaa
/-
  Told, of this program.
-/
namespace Go.Proofs.Ytaccihhnpheecaa

theorem toldProved : Rows.ToldSaid := told_of progOk
end Go.Proofs.Ytaccihhnpheecaa
