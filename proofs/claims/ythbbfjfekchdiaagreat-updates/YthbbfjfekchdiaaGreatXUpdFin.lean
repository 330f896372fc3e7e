import Derived.Test.YthbbfjfekchdiaaGreatXPConf
import Derived.Test.YthbbfjfekchdiaaGreatXZFirst
import Derived.Test.YthbbfjfekchdiaaGreatXZUpdate2
import Derived.Test.YthbbfjfekchdiaaGreatXZFetch
import Derived.Test.YthbbfjfekchdiaaGreatXZCreate
import Derived.Test.YthbbfjfekchdiaaGreatXZSort
import Derived.Test.YthbbfjfekchdiaaGreatXHKeepsP
import Derived.Test.YthbbfjfekchdiaaGreatXUpdCore
/-
  The program: Config.
-/
namespace Go.Proofs.YthbbfjfekchdiaaGreat
open Go.RowKit

theorem zconfig_any (p : Nat) (d : RDb) (In : Nat → Prop) (w : World) (h : ZRep w In p d) :
    Calls Tryz.prog 28 #[.pointer (some ⟨p, 0, none⟩)] w fun e w' => e = .returned (.agg d.c.cells) ∧ Below w.heap.size w w' := by
  refine config_cells d.c p w h.ok.cfg ?_
  obtain ⟨gl, cap, cur, gs, a, b, c, e, f, gi, r⟩ := h.mem
  refine ⟨gl, cap, b, fun j hj => ?_⟩
  obtain ⟨x, hx⟩ : ∃ x, gs[j]? = some x := ⟨_, List.getElem?_eq_getElem (by omega)⟩
  obtain ⟨r1, r2, _⟩ := r j x _ hx (List.getElem?_eq_getElem (by rw [h.ok.len]; exact hj))
  refine ⟨?_, some ⟨x, 0, none⟩, ?_⟩
  · rw [cell_of_blk c, Nat.mul_comm]; exact r1
  · rw [cell_of_blk c, Nat.mul_comm]; exact r2
end Go.Proofs.YthbbfjfekchdiaaGreat
/-
  The program's contracts, together.
-/
namespace Go.Proofs.YthbbfjfekchdiaaGreat

theorem progOk : ProgOk ZRep where
  weak := fun h hs => h.weak hs
  lim := fun h => h.lim
  fr := fun h hf hn => h.fr hf hn
  check := fun c w => pcheck_any c w
  createNo := fun c w h => pcreate_no c w h
  create := fun c w h => zcreate_yes c w h
  config := fun p d In w h _ => zconfig_any p d In w h
  update := fun p now v l d In w h _ hr ho hl => (zupdate_any (hid sortOk) p now v l d In w h hr ho hl).mono fun _ _ ⟨a, b, c⟩ => ⟨a, b.weak fun _ x => .inl x, c⟩
  fetch := fun p now fr un d In w h _ => zfetch_any (hid sortOk) p now fr un d In w h
end Go.Proofs.YthbbfjfekchdiaaGreat
/-
  Updates, of this program.
-/
namespace Go.Proofs.YthbbfjfekchdiaaGreat

theorem updatesProved : Rows.UpdatesSaid := updates_of progOk
end Go.Proofs.YthbbfjfekchdiaaGreat
