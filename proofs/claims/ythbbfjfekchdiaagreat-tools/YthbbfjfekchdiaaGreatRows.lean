/-
  No cell of these rows narrows 'for every input' (looked for: loops, veiled, ifaces, maps, wideKeys, modest, calm, conditions, laid).
  DERIVED. THE GIVEN ROWS OF THIS SEAT. 5 by the template 'for every input the law returns true; each argument reads behind the call as it read before'; 0 by the template 'total and deterministic' (their statements: YthbbfjfekchdiaaGreatTotals.lean).
  GIVEN WITH THE SEED: the statements are not yours to turn. If you find one false, say at which input.
  Laid BY PROGRAM, IN A SANDBOX (cutbox-rows.mjs): the forced cells as the released guide's own fill.sh prints them over the translation b18f61c09d52f738… (all of the seat's roots in one cut). By AI agents, Wed Nov 11 2026. No macro, syntax, notation, axiom, sorry.
-/
import Derived.Test.YthbbfjfekchdiaaGreatChecked
import GoSem.Claim
import GoSem.ClaimJoined
import GoSem.ClaimMapViews
import Derived.JoinedTies
import Derived.KernelRfl
namespace Go.Proofs.YthbbfjfekchdiaaGreat
/- THE CELL 'sum', in the pinned program and in every row, IS THE sha256 OF THE DUMP (.gsa) THAT YthbbfjfekchdiaaGreatProg.lean LOADS. Nothing in Lean hashes anything: it is a label: what it is worth is what the hold of that sum in a sandbox is worth. -/
noncomputable def Tryz.pinned : Pinned := { name := "ythbbfjfekchdiaagreat", sum := "b18f61c09d52f73822835fc6f86cc5397be499989860ee903ac5e50d08ba18ea", checked := Tryz.checked }
namespace Rows
def none {H : Type} : Left H := { results := [], args := [] }

/-- 'sundiallaw.Configs': WHATEVER THE INPUT: true; the input reads as it did. -/
def configsSpec : ChangeSpec := { name := "configs", fn := fun _ => fun
  | [d] => { results := [.lit (.bool true)], args := [d] }
  | _ => none }
def configsRow : OpenClaim := { program := "ythbbfjfekchdiaagreat", sum := "b18f61c09d52f73822835fc6f86cc5397be499989860ee903ac5e50d08ba18ea", func := "sundial/sundiallaw.Configs", spec := "configs", unfollowed := true, recurses := true, apart := false }
def ConfigsSaid : Prop := configsRow.holds Tryz.pinned (OpenSpec.ofChange configsSpec)

/-- ITS FALSE NEIGHBOUR: 'it returns false'. Refute it at one input. -/
def configsWrong : ChangeSpec := { name := "configs", fn := fun _ => fun
  | [d] => { results := [.lit (.bool false)], args := [d] }
  | _ => none }
def ConfigsWrongFalsely : Prop := configsRow.holds Tryz.pinned (OpenSpec.ofChange configsWrong)

/-- 'sundiallaw.Updates': WHATEVER THE INPUT: true; the input reads as it did. -/
def updatesSpec : ChangeSpec := { name := "updates", fn := fun _ => fun
  | [d] => { results := [.lit (.bool true)], args := [d] }
  | _ => none }
def updatesRow : OpenClaim := { program := "ythbbfjfekchdiaagreat", sum := "b18f61c09d52f73822835fc6f86cc5397be499989860ee903ac5e50d08ba18ea", func := "sundial/sundiallaw.Updates", spec := "updates", unfollowed := true, recurses := true, apart := false }
def UpdatesSaid : Prop := updatesRow.holds Tryz.pinned (OpenSpec.ofChange updatesSpec)

/-- ITS FALSE NEIGHBOUR: 'it returns false'. Refute it at one input. -/
def updatesWrong : ChangeSpec := { name := "updates", fn := fun _ => fun
  | [d] => { results := [.lit (.bool false)], args := [d] }
  | _ => none }
def UpdatesWrongFalsely : Prop := updatesRow.holds Tryz.pinned (OpenSpec.ofChange updatesWrong)

/-- 'sundiallaw.Files': WHATEVER THE INPUT: true; the input reads as it did. -/
def filesSpec : ChangeSpec := { name := "files", fn := fun _ => fun
  | [d] => { results := [.lit (.bool true)], args := [d] }
  | _ => none }
def filesRow : OpenClaim := { program := "ythbbfjfekchdiaagreat", sum := "b18f61c09d52f73822835fc6f86cc5397be499989860ee903ac5e50d08ba18ea", func := "sundial/sundiallaw.Files", spec := "files", unfollowed := true, recurses := true, apart := false }
def FilesSaid : Prop := filesRow.holds Tryz.pinned (OpenSpec.ofChange filesSpec)

/-- ITS FALSE NEIGHBOUR: 'it returns false'. Refute it at one input. -/
def filesWrong : ChangeSpec := { name := "files", fn := fun _ => fun
  | [d] => { results := [.lit (.bool false)], args := [d] }
  | _ => none }
def FilesWrongFalsely : Prop := filesRow.holds Tryz.pinned (OpenSpec.ofChange filesWrong)

/-- 'sundiallaw.Tools': WHATEVER THE INPUT: true; the input reads as it did. -/
def toolsSpec : ChangeSpec := { name := "tools", fn := fun _ => fun
  | [d] => { results := [.lit (.bool true)], args := [d] }
  | _ => none }
def toolsRow : OpenClaim := { program := "ythbbfjfekchdiaagreat", sum := "b18f61c09d52f73822835fc6f86cc5397be499989860ee903ac5e50d08ba18ea", func := "sundial/sundiallaw.Tools", spec := "tools", unfollowed := true, recurses := true, apart := false }
def ToolsSaid : Prop := toolsRow.holds Tryz.pinned (OpenSpec.ofChange toolsSpec)

/-- ITS FALSE NEIGHBOUR: 'it returns false'. Refute it at one input. -/
def toolsWrong : ChangeSpec := { name := "tools", fn := fun _ => fun
  | [d] => { results := [.lit (.bool false)], args := [d] }
  | _ => none }
def ToolsWrongFalsely : Prop := toolsRow.holds Tryz.pinned (OpenSpec.ofChange toolsWrong)

/-- 'sundiallaw.All': WHATEVER THE INPUT: true; the input reads as it did. -/
def allSpec : ChangeSpec := { name := "all", fn := fun _ => fun
  | [d] => { results := [.lit (.bool true)], args := [d] }
  | _ => none }
def allRow : OpenClaim := { program := "ythbbfjfekchdiaagreat", sum := "b18f61c09d52f73822835fc6f86cc5397be499989860ee903ac5e50d08ba18ea", func := "sundial/sundiallaw.All", spec := "all", unfollowed := true, recurses := true, apart := false }
def AllSaid : Prop := allRow.holds Tryz.pinned (OpenSpec.ofChange allSpec)

/-- ITS FALSE NEIGHBOUR: 'it returns false'. Refute it at one input. -/
def allWrong : ChangeSpec := { name := "all", fn := fun _ => fun
  | [d] => { results := [.lit (.bool false)], args := [d] }
  | _ => none }
def AllWrongFalsely : Prop := allRow.holds Tryz.pinned (OpenSpec.ofChange allWrong)

/- THE SECOND FORM. 'bulk': how many values and letters a reading holds, each counted each time it is reached (what is shared counts as often as it is met; a slice's spare places count too). A statement '..UptoSaid' is the law's where the arguments, and the package variables that the reading takes, are together of bulk at most 1048576: NARROWER than '..Said'. Prove '..Said' where nothing that the law and all that it calls make is longer than what came in: it says more and counts as full. Else prove '..UptoSaid'. A law counts once. -/
mutual
def uptoBulk {H : Type} : DataW H → Nat
  | .lit (.string bytes) => bytes.length + 1
  | .lit _ => 1
  | .nil => 1
  | .ptr d => uptoBulk d + 1
  | .slice elems spare => uptoBulkAll elems + uptoBulkAll spare + 1
  | .agg parts => uptoBulkAll parts + 1
  | .iface _ d => uptoBulk d + 1
  | .map entries => uptoBulkEntries entries + 1
  | .held _ => 1
def uptoBulkAll {H : Type} : List (DataW H) → Nat
  | [] => 0
  | d :: r => uptoBulk d + uptoBulkAll r
def uptoBulkEntries {H : Type} : List (Lit × DataW H) → Nat
  | [] => 0
  | x :: r => uptoBulkEntry x + uptoBulkEntries r
def uptoBulkEntry {H : Type} : Lit × DataW H → Nat
  | (.string bytes, d) => bytes.length + uptoBulk d + 1
  | (_, d) => uptoBulk d + 1
 end
def uptoSmall : (H : Type) → List (DataW H) → Bool := fun _ ds => decide (uptoBulkAll ds ≤ 1048576)
def OpenSpec.upto (s : _root_.Go.ChangeSpec) : _root_.Go.OpenSpec := { _root_.Go.OpenSpec.ofChange s with cond := some uptoSmall }

/-- 'sundiallaw.Configs', WHERE WHAT IT READS IS OF BULK AT MOST 1048576: true; the input reads as it did. -/
def configsUptoRow : OpenClaim := { program := "ythbbfjfekchdiaagreat", sum := "b18f61c09d52f73822835fc6f86cc5397be499989860ee903ac5e50d08ba18ea", func := "sundial/sundiallaw.Configs", spec := "configs", unfollowed := true, recurses := true, apart := false, narrowed := true }
def ConfigsUptoSaid : Prop := configsUptoRow.holds Tryz.pinned (OpenSpec.upto configsSpec)

/-- 'sundiallaw.Updates', WHERE WHAT IT READS IS OF BULK AT MOST 1048576: true; the input reads as it did. -/
def updatesUptoRow : OpenClaim := { program := "ythbbfjfekchdiaagreat", sum := "b18f61c09d52f73822835fc6f86cc5397be499989860ee903ac5e50d08ba18ea", func := "sundial/sundiallaw.Updates", spec := "updates", unfollowed := true, recurses := true, apart := false, narrowed := true }
def UpdatesUptoSaid : Prop := updatesUptoRow.holds Tryz.pinned (OpenSpec.upto updatesSpec)

/-- 'sundiallaw.Files', WHERE WHAT IT READS IS OF BULK AT MOST 1048576: true; the input reads as it did. -/
def filesUptoRow : OpenClaim := { program := "ythbbfjfekchdiaagreat", sum := "b18f61c09d52f73822835fc6f86cc5397be499989860ee903ac5e50d08ba18ea", func := "sundial/sundiallaw.Files", spec := "files", unfollowed := true, recurses := true, apart := false, narrowed := true }
def FilesUptoSaid : Prop := filesUptoRow.holds Tryz.pinned (OpenSpec.upto filesSpec)

/-- 'sundiallaw.Tools', WHERE WHAT IT READS IS OF BULK AT MOST 1048576: true; the input reads as it did. -/
def toolsUptoRow : OpenClaim := { program := "ythbbfjfekchdiaagreat", sum := "b18f61c09d52f73822835fc6f86cc5397be499989860ee903ac5e50d08ba18ea", func := "sundial/sundiallaw.Tools", spec := "tools", unfollowed := true, recurses := true, apart := false, narrowed := true }
def ToolsUptoSaid : Prop := toolsUptoRow.holds Tryz.pinned (OpenSpec.upto toolsSpec)

/-- 'sundiallaw.All', WHERE WHAT IT READS IS OF BULK AT MOST 1048576: true; the input reads as it did. -/
def allUptoRow : OpenClaim := { program := "ythbbfjfekchdiaagreat", sum := "b18f61c09d52f73822835fc6f86cc5397be499989860ee903ac5e50d08ba18ea", func := "sundial/sundiallaw.All", spec := "all", unfollowed := true, recurses := true, apart := false, narrowed := true }
def AllUptoSaid : Prop := allUptoRow.holds Tryz.pinned (OpenSpec.upto allSpec)

end Rows
end Go.Proofs.YthbbfjfekchdiaaGreat
