/-
  No cell of these rows narrows 'for every input' (looked for: loops, veiled, ifaces, maps, wideKeys, modest, calm, conditions, laid).
  DERIVED. THE GIVEN ROWS OF THIS SEAT. 5 by the template 'for every input the law returns true; each argument reads behind the call as it read before'; 0 by the template 'total and deterministic' (their statements: YthbbfjfekchdiaaTotals.lean).
  GIVEN WITH THE SEED: the statements are not yours to turn. If you find one false, say at which input.
  Laid BY PROGRAM, IN A SANDBOX (cutbox-rows.mjs): the forced cells as the released guide's own fill.sh prints them over the translation bef20ea80b1506f6… (all of the seat's roots in one cut). By AI agents, Wed Nov 11 2026. No macro, syntax, notation, axiom, sorry.
-/
import Derived.Test.YthbbfjfekchdiaaChecked
import GoSem.Claim
import GoSem.ClaimJoined
import GoSem.ClaimMapViews
import Derived.JoinedTies
import Derived.KernelRfl
namespace Go.Proofs.Ythbbfjfekchdiaa
/- THE CELL 'sum', in the pinned program and in every row, IS THE sha256 OF THE DUMP (.gsa) THAT YthbbfjfekchdiaaProg.lean LOADS. Nothing in Lean hashes anything: it is a label: what it is worth is what the hold of that sum in a sandbox is worth. -/
noncomputable def Try.pinned : Pinned := { name := "ythbbfjfekchdiaa", sum := "bef20ea80b1506f6c4199de76231b2ce556193463c37830f0b903f821792f222", checked := Try.checked }
namespace Rows
def none {H : Type} : Left H := { results := [], args := [] }

/-- 'sundialkeep.Told': WHATEVER THE INPUT: true; the input reads as it did. -/
def toldSpec : ChangeSpec := { name := "told", fn := fun _ => fun
  | [d1, d2, d3, d4] => { results := [.lit (.bool true)], args := [d1, d2, d3, d4] }
  | _ => none }
def toldRow : OpenClaim := { program := "ythbbfjfekchdiaa", sum := "bef20ea80b1506f6c4199de76231b2ce556193463c37830f0b903f821792f222", func := "sundial/sundialkeep.Told", spec := "told", unfollowed := true, recurses := true, apart := false }
def ToldSaid : Prop := toldRow.holds Try.pinned (OpenSpec.ofChange toldSpec)

/-- ITS FALSE NEIGHBOUR: 'it returns false'. Refute it at one input. -/
def toldWrong : ChangeSpec := { name := "told", fn := fun _ => fun
  | [d1, d2, d3, d4] => { results := [.lit (.bool false)], args := [d1, d2, d3, d4] }
  | _ => none }
def ToldWrongFalsely : Prop := toldRow.holds Try.pinned (OpenSpec.ofChange toldWrong)

/-- 'sundialkeep.Bounded': WHATEVER THE INPUT: true; the input reads as it did. -/
def boundedSpec : ChangeSpec := { name := "bounded", fn := fun _ => fun
  | [d1, d2, d3, d4, d5, d6] => { results := [.lit (.bool true)], args := [d1, d2, d3, d4, d5, d6] }
  | _ => none }
def boundedRow : OpenClaim := { program := "ythbbfjfekchdiaa", sum := "bef20ea80b1506f6c4199de76231b2ce556193463c37830f0b903f821792f222", func := "sundial/sundialkeep.Bounded", spec := "bounded", unfollowed := true, recurses := true, apart := false }
def BoundedSaid : Prop := boundedRow.holds Try.pinned (OpenSpec.ofChange boundedSpec)

/-- ITS FALSE NEIGHBOUR: 'it returns false'. Refute it at one input. -/
def boundedWrong : ChangeSpec := { name := "bounded", fn := fun _ => fun
  | [d1, d2, d3, d4, d5, d6] => { results := [.lit (.bool false)], args := [d1, d2, d3, d4, d5, d6] }
  | _ => none }
def BoundedWrongFalsely : Prop := boundedRow.holds Try.pinned (OpenSpec.ofChange boundedWrong)

/-- 'sundialkeep.Round': WHATEVER THE INPUT: true; the input reads as it did. -/
def roundSpec : ChangeSpec := { name := "round", fn := fun _ => fun
  | [d1, d2, d3, d4, d5, d6] => { results := [.lit (.bool true)], args := [d1, d2, d3, d4, d5, d6] }
  | _ => none }
def roundRow : OpenClaim := { program := "ythbbfjfekchdiaa", sum := "bef20ea80b1506f6c4199de76231b2ce556193463c37830f0b903f821792f222", func := "sundial/sundialkeep.Round", spec := "round", unfollowed := true, recurses := true, apart := false }
def RoundSaid : Prop := roundRow.holds Try.pinned (OpenSpec.ofChange roundSpec)

/-- ITS FALSE NEIGHBOUR: 'it returns false'. Refute it at one input. -/
def roundWrong : ChangeSpec := { name := "round", fn := fun _ => fun
  | [d1, d2, d3, d4, d5, d6] => { results := [.lit (.bool false)], args := [d1, d2, d3, d4, d5, d6] }
  | _ => none }
def RoundWrongFalsely : Prop := roundRow.holds Try.pinned (OpenSpec.ofChange roundWrong)

/-- 'sundialkeep.Resized': WHATEVER THE INPUT: true; the input reads as it did. -/
def resizedSpec : ChangeSpec := { name := "resized", fn := fun _ => fun
  | [d1, d2, d3, d4] => { results := [.lit (.bool true)], args := [d1, d2, d3, d4] }
  | _ => none }
def resizedRow : OpenClaim := { program := "ythbbfjfekchdiaa", sum := "bef20ea80b1506f6c4199de76231b2ce556193463c37830f0b903f821792f222", func := "sundial/sundialkeep.Resized", spec := "resized", unfollowed := true, recurses := true, apart := false }
def ResizedSaid : Prop := resizedRow.holds Try.pinned (OpenSpec.ofChange resizedSpec)

/-- ITS FALSE NEIGHBOUR: 'it returns false'. Refute it at one input. -/
def resizedWrong : ChangeSpec := { name := "resized", fn := fun _ => fun
  | [d1, d2, d3, d4] => { results := [.lit (.bool false)], args := [d1, d2, d3, d4] }
  | _ => none }
def ResizedWrongFalsely : Prop := resizedRow.holds Try.pinned (OpenSpec.ofChange resizedWrong)

/-- 'sundialkeep.Quiet': WHATEVER THE INPUT: true; the input reads as it did. -/
def quietSpec : ChangeSpec := { name := "quiet", fn := fun _ => fun
  | [d1, d2, d3, d4, d5] => { results := [.lit (.bool true)], args := [d1, d2, d3, d4, d5] }
  | _ => none }
def quietRow : OpenClaim := { program := "ythbbfjfekchdiaa", sum := "bef20ea80b1506f6c4199de76231b2ce556193463c37830f0b903f821792f222", func := "sundial/sundialkeep.Quiet", spec := "quiet", unfollowed := true, recurses := true, apart := false }
def QuietSaid : Prop := quietRow.holds Try.pinned (OpenSpec.ofChange quietSpec)

/-- ITS FALSE NEIGHBOUR: 'it returns false'. Refute it at one input. -/
def quietWrong : ChangeSpec := { name := "quiet", fn := fun _ => fun
  | [d1, d2, d3, d4, d5] => { results := [.lit (.bool false)], args := [d1, d2, d3, d4, d5] }
  | _ => none }
def QuietWrongFalsely : Prop := quietRow.holds Try.pinned (OpenSpec.ofChange quietWrong)

/- THE SECOND FORM. 'bulk': how many values and letters a reading holds, each counted each time it is reached (what is shared counts as often as it is met; a slice's spare places count too). A statement '..UptoSaid' is the law's where the arguments, and the package variables that the reading takes, are together of bulk at most 1048576: NARROWER than '..Said'. Prove '..Said' where nothing that the law and all that it calls make is longer than what came in: it says more and counts as full. Else prove '..UptoSaid'. A law counts once. -/
mutual
def uptoBulk {H : Type} : DataW H → Nat
  | .lit (.string bytes) => bytes.length + 1
  | .lit _ => 1
  | .nil => 1
  | .ptr d => uptoBulk d + 1
  | .slice elems spare => uptoBulkAll elems + uptoBulkAll spare + 1
  | .agg parts => uptoBulkAll parts + 1
  | .iface _ d => uptoBulk d + 1
  | .map entries => uptoBulkEntries entries + 1
  | .held _ => 1
def uptoBulkAll {H : Type} : List (DataW H) → Nat
  | [] => 0
  | d :: r => uptoBulk d + uptoBulkAll r
def uptoBulkEntries {H : Type} : List (Lit × DataW H) → Nat
  | [] => 0
  | x :: r => uptoBulkEntry x + uptoBulkEntries r
def uptoBulkEntry {H : Type} : Lit × DataW H → Nat
  | (.string bytes, d) => bytes.length + uptoBulk d + 1
  | (_, d) => uptoBulk d + 1
 end
def uptoSmall : (H : Type) → List (DataW H) → Bool := fun _ ds => decide (uptoBulkAll ds ≤ 1048576)
def OpenSpec.upto (s : _root_.Go.ChangeSpec) : _root_.Go.OpenSpec := { _root_.Go.OpenSpec.ofChange s with cond := some uptoSmall }

/-- 'sundialkeep.Told', WHERE WHAT IT READS IS OF BULK AT MOST 1048576: true; the input reads as it did. -/
def toldUptoRow : OpenClaim := { program := "ythbbfjfekchdiaa", sum := "bef20ea80b1506f6c4199de76231b2ce556193463c37830f0b903f821792f222", func := "sundial/sundialkeep.Told", spec := "told", unfollowed := true, recurses := true, apart := false, narrowed := true }
def ToldUptoSaid : Prop := toldUptoRow.holds Try.pinned (OpenSpec.upto toldSpec)

/-- 'sundialkeep.Bounded', WHERE WHAT IT READS IS OF BULK AT MOST 1048576: true; the input reads as it did. -/
def boundedUptoRow : OpenClaim := { program := "ythbbfjfekchdiaa", sum := "bef20ea80b1506f6c4199de76231b2ce556193463c37830f0b903f821792f222", func := "sundial/sundialkeep.Bounded", spec := "bounded", unfollowed := true, recurses := true, apart := false, narrowed := true }
def BoundedUptoSaid : Prop := boundedUptoRow.holds Try.pinned (OpenSpec.upto boundedSpec)

/-- 'sundialkeep.Round', WHERE WHAT IT READS IS OF BULK AT MOST 1048576: true; the input reads as it did. -/
def roundUptoRow : OpenClaim := { program := "ythbbfjfekchdiaa", sum := "bef20ea80b1506f6c4199de76231b2ce556193463c37830f0b903f821792f222", func := "sundial/sundialkeep.Round", spec := "round", unfollowed := true, recurses := true, apart := false, narrowed := true }
def RoundUptoSaid : Prop := roundUptoRow.holds Try.pinned (OpenSpec.upto roundSpec)

/-- 'sundialkeep.Resized', WHERE WHAT IT READS IS OF BULK AT MOST 1048576: true; the input reads as it did. -/
def resizedUptoRow : OpenClaim := { program := "ythbbfjfekchdiaa", sum := "bef20ea80b1506f6c4199de76231b2ce556193463c37830f0b903f821792f222", func := "sundial/sundialkeep.Resized", spec := "resized", unfollowed := true, recurses := true, apart := false, narrowed := true }
def ResizedUptoSaid : Prop := resizedUptoRow.holds Try.pinned (OpenSpec.upto resizedSpec)

/-- 'sundialkeep.Quiet', WHERE WHAT IT READS IS OF BULK AT MOST 1048576: true; the input reads as it did. -/
def quietUptoRow : OpenClaim := { program := "ythbbfjfekchdiaa", sum := "bef20ea80b1506f6c4199de76231b2ce556193463c37830f0b903f821792f222", func := "sundial/sundialkeep.Quiet", spec := "quiet", unfollowed := true, recurses := true, apart := false, narrowed := true }
def QuietUptoSaid : Prop := quietUptoRow.holds Try.pinned (OpenSpec.upto quietSpec)

end Rows
end Go.Proofs.Ythbbfjfekchdiaa
