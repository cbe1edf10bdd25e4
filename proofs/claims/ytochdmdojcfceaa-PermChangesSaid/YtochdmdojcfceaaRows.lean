/-
  No cell of these rows narrows 'for every input' (looked for: loops, veiled, ifaces, maps, wideKeys, modest, calm, conditions, laid).
  DERIVED. THE GIVEN ROWS OF THIS SEAT. 5 by the template 'for every input the law returns true; each argument reads behind the call as it read before'; 0 by the template 'total and deterministic' (their statements: YtochdmdojcfceaaTotals.lean).
  GIVEN WITH THE SEED: the statements are not yours to turn. If you find one false, say at which input.
  Laid BY PROGRAM, IN A SANDBOX (cutbox-rows.mjs): the forced cells as the released guide's own fill.sh prints them over the translation fb3263bad50bdee3… (all of the seat's roots in one cut). By AI agents, Wed Nov 11 2026. No macro, syntax, notation, axiom, sorry.
-/
import Derived.Test.YtochdmdojcfceaaChecked
import GoSem.Claim
import GoSem.ClaimJoined
import GoSem.ClaimMapViews
import Derived.JoinedTies
import Derived.KernelRfl
namespace Go.Proofs.Ytochdmdojcfceaa
/- THE CELL 'sum', in the pinned program and in every row, IS THE sha256 OF THE DUMP (.gsa) THAT YtochdmdojcfceaaProg.lean LOADS. Nothing in Lean hashes anything: it is a label: what it is worth is what the hold of that sum in a sandbox is worth. -/
noncomputable def Try.pinned : Pinned := { name := "ytochdmdojcfceaa", sum := "fb3263bad50bdee31e2fe153a816951f135ccf3cab1e981255989eb4b4f0d10f", checked := Try.checked }
namespace Rows
def none {H : Type} : Left H := { results := [], args := [] }

/-- 'garnerlaw09.PermReads': WHATEVER THE INPUT: true; the input reads as it did. -/
def permReadsSpec : ChangeSpec := { name := "permReads", fn := fun _ => fun
  | [d1, d2, d3, d4] => { results := [.lit (.bool true)], args := [d1, d2, d3, d4] }
  | _ => none }
def permReadsRow : OpenClaim := { program := "ytochdmdojcfceaa", sum := "fb3263bad50bdee31e2fe153a816951f135ccf3cab1e981255989eb4b4f0d10f", func := "garner/garnerlaw09.PermReads", spec := "permReads", unfollowed := true, recurses := true, apart := false }
def PermReadsSaid : Prop := permReadsRow.holds Try.pinned (OpenSpec.ofChange permReadsSpec)

/-- ITS FALSE NEIGHBOUR: 'it returns false'. Refute it at one input. -/
def permReadsWrong : ChangeSpec := { name := "permReads", fn := fun _ => fun
  | [d1, d2, d3, d4] => { results := [.lit (.bool false)], args := [d1, d2, d3, d4] }
  | _ => none }
def PermReadsWrongFalsely : Prop := permReadsRow.holds Try.pinned (OpenSpec.ofChange permReadsWrong)

/-- 'garnerlaw09.PermChanges': WHATEVER THE INPUT: true; the input reads as it did. -/
def permChangesSpec : ChangeSpec := { name := "permChanges", fn := fun _ => fun
  | [d1, d2, d3] => { results := [.lit (.bool true)], args := [d1, d2, d3] }
  | _ => none }
def permChangesRow : OpenClaim := { program := "ytochdmdojcfceaa", sum := "fb3263bad50bdee31e2fe153a816951f135ccf3cab1e981255989eb4b4f0d10f", func := "garner/garnerlaw09.PermChanges", spec := "permChanges", unfollowed := true, recurses := true, apart := false }
def PermChangesSaid : Prop := permChangesRow.holds Try.pinned (OpenSpec.ofChange permChangesSpec)

/-- ITS FALSE NEIGHBOUR: 'it returns false'. Refute it at one input. -/
def permChangesWrong : ChangeSpec := { name := "permChanges", fn := fun _ => fun
  | [d1, d2, d3] => { results := [.lit (.bool false)], args := [d1, d2, d3] }
  | _ => none }
def PermChangesWrongFalsely : Prop := permChangesRow.holds Try.pinned (OpenSpec.ofChange permChangesWrong)

/-- 'garnerlaw09.PermInserts': WHATEVER THE INPUT: true; the input reads as it did. -/
def permInsertsSpec : ChangeSpec := { name := "permInserts", fn := fun _ => fun
  | [d1, d2, d3] => { results := [.lit (.bool true)], args := [d1, d2, d3] }
  | _ => none }
def permInsertsRow : OpenClaim := { program := "ytochdmdojcfceaa", sum := "fb3263bad50bdee31e2fe153a816951f135ccf3cab1e981255989eb4b4f0d10f", func := "garner/garnerlaw09.PermInserts", spec := "permInserts", unfollowed := true, recurses := true, apart := false }
def PermInsertsSaid : Prop := permInsertsRow.holds Try.pinned (OpenSpec.ofChange permInsertsSpec)

/-- ITS FALSE NEIGHBOUR: 'it returns false'. Refute it at one input. -/
def permInsertsWrong : ChangeSpec := { name := "permInserts", fn := fun _ => fun
  | [d1, d2, d3] => { results := [.lit (.bool false)], args := [d1, d2, d3] }
  | _ => none }
def PermInsertsWrongFalsely : Prop := permInsertsRow.holds Try.pinned (OpenSpec.ofChange permInsertsWrong)

/-- 'garnerlaw09.PermBack': WHATEVER THE INPUT: true; the input reads as it did. -/
def permBackSpec : ChangeSpec := { name := "permBack", fn := fun _ => fun
  | [d] => { results := [.lit (.bool true)], args := [d] }
  | _ => none }
def permBackRow : OpenClaim := { program := "ytochdmdojcfceaa", sum := "fb3263bad50bdee31e2fe153a816951f135ccf3cab1e981255989eb4b4f0d10f", func := "garner/garnerlaw09.PermBack", spec := "permBack", unfollowed := true, recurses := true, apart := false }
def PermBackSaid : Prop := permBackRow.holds Try.pinned (OpenSpec.ofChange permBackSpec)

/-- ITS FALSE NEIGHBOUR: 'it returns false'. Refute it at one input. -/
def permBackWrong : ChangeSpec := { name := "permBack", fn := fun _ => fun
  | [d] => { results := [.lit (.bool false)], args := [d] }
  | _ => none }
def PermBackWrongFalsely : Prop := permBackRow.holds Try.pinned (OpenSpec.ofChange permBackWrong)

/-- 'garnerlaw09.PermSteps': WHATEVER THE INPUT: true; the input reads as it did. -/
def permStepsSpec : ChangeSpec := { name := "permSteps", fn := fun _ => fun
  | [d1, d2] => { results := [.lit (.bool true)], args := [d1, d2] }
  | _ => none }
def permStepsRow : OpenClaim := { program := "ytochdmdojcfceaa", sum := "fb3263bad50bdee31e2fe153a816951f135ccf3cab1e981255989eb4b4f0d10f", func := "garner/garnerlaw09.PermSteps", spec := "permSteps", unfollowed := true, recurses := true, apart := false }
def PermStepsSaid : Prop := permStepsRow.holds Try.pinned (OpenSpec.ofChange permStepsSpec)

/-- ITS FALSE NEIGHBOUR: 'it returns false'. Refute it at one input. -/
def permStepsWrong : ChangeSpec := { name := "permSteps", fn := fun _ => fun
  | [d1, d2] => { results := [.lit (.bool false)], args := [d1, d2] }
  | _ => none }
def PermStepsWrongFalsely : Prop := permStepsRow.holds Try.pinned (OpenSpec.ofChange permStepsWrong)

/- THE SECOND FORM. 'bulk': how many values and letters a reading holds, each counted each time it is reached (what is shared counts as often as it is met; a slice's spare places count too). A statement '..UptoSaid' is the law's where the arguments, and the package variables that the reading takes, are together of bulk at most 1048576: NARROWER than '..Said'. Prove '..Said' where nothing that the law and all that it calls make is longer than what came in: it says more and counts as full. Else prove '..UptoSaid'. A law counts once. -/
mutual
def uptoBulk {H : Type} : DataW H → Nat
  | .lit (.string bytes) => bytes.length + 1
  | .lit _ => 1
  | .nil => 1
  | .ptr d => uptoBulk d + 1
  | .slice elems spare => uptoBulkAll elems + uptoBulkAll spare + 1
  | .agg parts => uptoBulkAll parts + 1
  | .iface _ d => uptoBulk d + 1
  | .map entries => uptoBulkEntries entries + 1
  | .held _ => 1
def uptoBulkAll {H : Type} : List (DataW H) → Nat
  | [] => 0
  | d :: r => uptoBulk d + uptoBulkAll r
def uptoBulkEntries {H : Type} : List (Lit × DataW H) → Nat
  | [] => 0
  | x :: r => uptoBulkEntry x + uptoBulkEntries r
def uptoBulkEntry {H : Type} : Lit × DataW H → Nat
  | (.string bytes, d) => bytes.length + uptoBulk d + 1
  | (_, d) => uptoBulk d + 1
 end
def uptoSmall : (H : Type) → List (DataW H) → Bool := fun _ ds => decide (uptoBulkAll ds ≤ 1048576)
def OpenSpec.upto (s : _root_.Go.ChangeSpec) : _root_.Go.OpenSpec := { _root_.Go.OpenSpec.ofChange s with cond := some uptoSmall }

/-- 'garnerlaw09.PermReads', WHERE WHAT IT READS IS OF BULK AT MOST 1048576: true; the input reads as it did. -/
def permReadsUptoRow : OpenClaim := { program := "ytochdmdojcfceaa", sum := "fb3263bad50bdee31e2fe153a816951f135ccf3cab1e981255989eb4b4f0d10f", func := "garner/garnerlaw09.PermReads", spec := "permReads", unfollowed := true, recurses := true, apart := false, narrowed := true }
def PermReadsUptoSaid : Prop := permReadsUptoRow.holds Try.pinned (OpenSpec.upto permReadsSpec)

/-- 'garnerlaw09.PermChanges', WHERE WHAT IT READS IS OF BULK AT MOST 1048576: true; the input reads as it did. -/
def permChangesUptoRow : OpenClaim := { program := "ytochdmdojcfceaa", sum := "fb3263bad50bdee31e2fe153a816951f135ccf3cab1e981255989eb4b4f0d10f", func := "garner/garnerlaw09.PermChanges", spec := "permChanges", unfollowed := true, recurses := true, apart := false, narrowed := true }
def PermChangesUptoSaid : Prop := permChangesUptoRow.holds Try.pinned (OpenSpec.upto permChangesSpec)

/-- 'garnerlaw09.PermInserts', WHERE WHAT IT READS IS OF BULK AT MOST 1048576: true; the input reads as it did. -/
def permInsertsUptoRow : OpenClaim := { program := "ytochdmdojcfceaa", sum := "fb3263bad50bdee31e2fe153a816951f135ccf3cab1e981255989eb4b4f0d10f", func := "garner/garnerlaw09.PermInserts", spec := "permInserts", unfollowed := true, recurses := true, apart := false, narrowed := true }
def PermInsertsUptoSaid : Prop := permInsertsUptoRow.holds Try.pinned (OpenSpec.upto permInsertsSpec)

/-- 'garnerlaw09.PermBack', WHERE WHAT IT READS IS OF BULK AT MOST 1048576: true; the input reads as it did. -/
def permBackUptoRow : OpenClaim := { program := "ytochdmdojcfceaa", sum := "fb3263bad50bdee31e2fe153a816951f135ccf3cab1e981255989eb4b4f0d10f", func := "garner/garnerlaw09.PermBack", spec := "permBack", unfollowed := true, recurses := true, apart := false, narrowed := true }
def PermBackUptoSaid : Prop := permBackUptoRow.holds Try.pinned (OpenSpec.upto permBackSpec)

/-- 'garnerlaw09.PermSteps', WHERE WHAT IT READS IS OF BULK AT MOST 1048576: true; the input reads as it did. -/
def permStepsUptoRow : OpenClaim := { program := "ytochdmdojcfceaa", sum := "fb3263bad50bdee31e2fe153a816951f135ccf3cab1e981255989eb4b4f0d10f", func := "garner/garnerlaw09.PermSteps", spec := "permSteps", unfollowed := true, recurses := true, apart := false, narrowed := true }
def PermStepsUptoSaid : Prop := permStepsUptoRow.holds Try.pinned (OpenSpec.upto permStepsSpec)

end Rows
end Go.Proofs.Ytochdmdojcfceaa
