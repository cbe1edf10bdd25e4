/-
  No cell of these rows narrows 'for every input' (looked for: loops, veiled, ifaces, maps, wideKeys, modest, calm, conditions, laid).
  DERIVED. THE GIVEN ROWS OF THIS SEAT. 7 by the template 'for every input the law returns true; each argument reads behind the call as it read before'; 0 by the template 'total and deterministic' (their statements: YtglkndoghnblcaaGreatTotals.lean).
  GIVEN WITH THE SEED: the statements are not yours to turn. If you find one false, say at which input.
  Laid BY PROGRAM, IN A SANDBOX (cutbox-rows.mjs): the forced cells as the released guide's own fill.sh prints them over the translation 7b54ddc798a7d7b8… (all of the seat's roots in one cut). By AI agents, Wed Nov 11 2026. No macro, syntax, notation, axiom, sorry.
-/
import Derived.Test.YtglkndoghnblcaaGreatChecked
import GoSem.Claim
import GoSem.ClaimJoined
import GoSem.ClaimMapViews
import Derived.JoinedTies
import Derived.KernelRfl
namespace Go.Proofs.YtglkndoghnblcaaGreat
/- THE CELL 'sum', in the pinned program and in every row, IS THE sha256 OF THE DUMP (.gsa) THAT YtglkndoghnblcaaGreatProg.lean LOADS. Nothing in Lean hashes anything: it is a label: what it is worth is what the hold of that sum in a sandbox is worth. -/
noncomputable def Tryz.pinned : Pinned := { name := "ytglkndoghnblcaagreat", sum := "7b54ddc798a7d7b83777fc5baf15f1c0aa853becee847de3ba2ddcc8b2290929", checked := Tryz.checked }
namespace Rows
def none {H : Type} : Left H := { results := [], args := [] }

/-- 'garnerlaw15.LogFrames': WHATEVER THE INPUT: true; the input reads as it did. -/
def logFramesSpec : ChangeSpec := { name := "logFrames", fn := fun _ => fun
  | [d1, d2, d3] => { results := [.lit (.bool true)], args := [d1, d2, d3] }
  | _ => none }
def logFramesRow : OpenClaim := { program := "ytglkndoghnblcaagreat", sum := "7b54ddc798a7d7b83777fc5baf15f1c0aa853becee847de3ba2ddcc8b2290929", func := "garner/garnerlaw15.LogFrames", spec := "logFrames", inPlace := ["internal/bytealg.Compare"], unfollowed := true, recurses := true, apart := false }
def LogFramesSaid : Prop := logFramesRow.holds Tryz.pinned (OpenSpec.ofChange logFramesSpec)

/-- ITS FALSE NEIGHBOUR: 'it returns false'. Refute it at one input. -/
def logFramesWrong : ChangeSpec := { name := "logFrames", fn := fun _ => fun
  | [d1, d2, d3] => { results := [.lit (.bool false)], args := [d1, d2, d3] }
  | _ => none }
def LogFramesWrongFalsely : Prop := logFramesRow.holds Tryz.pinned (OpenSpec.ofChange logFramesWrong)

/-- 'garnerlaw15.LogTxns': WHATEVER THE INPUT: true; the input reads as it did. -/
def logTxnsSpec : ChangeSpec := { name := "logTxns", fn := fun _ => fun
  | [d1, d2] => { results := [.lit (.bool true)], args := [d1, d2] }
  | _ => none }
def logTxnsRow : OpenClaim := { program := "ytglkndoghnblcaagreat", sum := "7b54ddc798a7d7b83777fc5baf15f1c0aa853becee847de3ba2ddcc8b2290929", func := "garner/garnerlaw15.LogTxns", spec := "logTxns", inPlace := ["internal/bytealg.Compare"], unfollowed := true, recurses := true, apart := false }
def LogTxnsSaid : Prop := logTxnsRow.holds Tryz.pinned (OpenSpec.ofChange logTxnsSpec)

/-- ITS FALSE NEIGHBOUR: 'it returns false'. Refute it at one input. -/
def logTxnsWrong : ChangeSpec := { name := "logTxns", fn := fun _ => fun
  | [d1, d2] => { results := [.lit (.bool false)], args := [d1, d2] }
  | _ => none }
def LogTxnsWrongFalsely : Prop := logTxnsRow.holds Tryz.pinned (OpenSpec.ofChange logTxnsWrong)

/-- 'garnerlaw15.LogCheckpoints': WHATEVER THE INPUT: true; the input reads as it did. -/
def logCheckpointsSpec : ChangeSpec := { name := "logCheckpoints", fn := fun _ => fun
  | [d1, d2] => { results := [.lit (.bool true)], args := [d1, d2] }
  | _ => none }
def logCheckpointsRow : OpenClaim := { program := "ytglkndoghnblcaagreat", sum := "7b54ddc798a7d7b83777fc5baf15f1c0aa853becee847de3ba2ddcc8b2290929", func := "garner/garnerlaw15.LogCheckpoints", spec := "logCheckpoints", inPlace := ["internal/bytealg.Compare"], unfollowed := true, recurses := true, apart := false }
def LogCheckpointsSaid : Prop := logCheckpointsRow.holds Tryz.pinned (OpenSpec.ofChange logCheckpointsSpec)

/-- ITS FALSE NEIGHBOUR: 'it returns false'. Refute it at one input. -/
def logCheckpointsWrong : ChangeSpec := { name := "logCheckpoints", fn := fun _ => fun
  | [d1, d2] => { results := [.lit (.bool false)], args := [d1, d2] }
  | _ => none }
def LogCheckpointsWrongFalsely : Prop := logCheckpointsRow.holds Tryz.pinned (OpenSpec.ofChange logCheckpointsWrong)

/-- 'garnerlaw15.LogManifests': WHATEVER THE INPUT: true; the input reads as it did. -/
def logManifestsSpec : ChangeSpec := { name := "logManifests", fn := fun _ => fun
  | [d1, d2, d3] => { results := [.lit (.bool true)], args := [d1, d2, d3] }
  | _ => none }
def logManifestsRow : OpenClaim := { program := "ytglkndoghnblcaagreat", sum := "7b54ddc798a7d7b83777fc5baf15f1c0aa853becee847de3ba2ddcc8b2290929", func := "garner/garnerlaw15.LogManifests", spec := "logManifests", inPlace := ["internal/bytealg.Compare"], unfollowed := true, recurses := true, apart := false }
def LogManifestsSaid : Prop := logManifestsRow.holds Tryz.pinned (OpenSpec.ofChange logManifestsSpec)

/-- ITS FALSE NEIGHBOUR: 'it returns false'. Refute it at one input. -/
def logManifestsWrong : ChangeSpec := { name := "logManifests", fn := fun _ => fun
  | [d1, d2, d3] => { results := [.lit (.bool false)], args := [d1, d2, d3] }
  | _ => none }
def LogManifestsWrongFalsely : Prop := logManifestsRow.holds Tryz.pinned (OpenSpec.ofChange logManifestsWrong)

/-- 'garnerlaw15.LogOrder': WHATEVER THE INPUT: true; the input reads as it did. -/
def logOrderSpec : ChangeSpec := { name := "logOrder", fn := fun _ => fun
  | [d] => { results := [.lit (.bool true)], args := [d] }
  | _ => none }
def logOrderRow : OpenClaim := { program := "ytglkndoghnblcaagreat", sum := "7b54ddc798a7d7b83777fc5baf15f1c0aa853becee847de3ba2ddcc8b2290929", func := "garner/garnerlaw15.LogOrder", spec := "logOrder", inPlace := ["internal/bytealg.Compare"], unfollowed := true, recurses := true, apart := false }
def LogOrderSaid : Prop := logOrderRow.holds Tryz.pinned (OpenSpec.ofChange logOrderSpec)

/-- ITS FALSE NEIGHBOUR: 'it returns false'. Refute it at one input. -/
def logOrderWrong : ChangeSpec := { name := "logOrder", fn := fun _ => fun
  | [d] => { results := [.lit (.bool false)], args := [d] }
  | _ => none }
def LogOrderWrongFalsely : Prop := logOrderRow.holds Tryz.pinned (OpenSpec.ofChange logOrderWrong)

/-- 'garnerlaw15.LogTorn': WHATEVER THE INPUT: true; the input reads as it did. -/
def logTornSpec : ChangeSpec := { name := "logTorn", fn := fun _ => fun
  | [d1, d2, d3] => { results := [.lit (.bool true)], args := [d1, d2, d3] }
  | _ => none }
def logTornRow : OpenClaim := { program := "ytglkndoghnblcaagreat", sum := "7b54ddc798a7d7b83777fc5baf15f1c0aa853becee847de3ba2ddcc8b2290929", func := "garner/garnerlaw15.LogTorn", spec := "logTorn", inPlace := ["internal/bytealg.Compare"], unfollowed := true, recurses := true, apart := false }
def LogTornSaid : Prop := logTornRow.holds Tryz.pinned (OpenSpec.ofChange logTornSpec)

/-- ITS FALSE NEIGHBOUR: 'it returns false'. Refute it at one input. -/
def logTornWrong : ChangeSpec := { name := "logTorn", fn := fun _ => fun
  | [d1, d2, d3] => { results := [.lit (.bool false)], args := [d1, d2, d3] }
  | _ => none }
def LogTornWrongFalsely : Prop := logTornRow.holds Tryz.pinned (OpenSpec.ofChange logTornWrong)

/-- 'garnerlaw15.LogBack': WHATEVER THE INPUT: true; the input reads as it did. -/
def logBackSpec : ChangeSpec := { name := "logBack", fn := fun _ => fun
  | [d] => { results := [.lit (.bool true)], args := [d] }
  | _ => none }
def logBackRow : OpenClaim := { program := "ytglkndoghnblcaagreat", sum := "7b54ddc798a7d7b83777fc5baf15f1c0aa853becee847de3ba2ddcc8b2290929", func := "garner/garnerlaw15.LogBack", spec := "logBack", inPlace := ["internal/bytealg.Compare"], unfollowed := true, recurses := true, apart := false }
def LogBackSaid : Prop := logBackRow.holds Tryz.pinned (OpenSpec.ofChange logBackSpec)

/-- ITS FALSE NEIGHBOUR: 'it returns false'. Refute it at one input. -/
def logBackWrong : ChangeSpec := { name := "logBack", fn := fun _ => fun
  | [d] => { results := [.lit (.bool false)], args := [d] }
  | _ => none }
def LogBackWrongFalsely : Prop := logBackRow.holds Tryz.pinned (OpenSpec.ofChange logBackWrong)

/- THE SECOND FORM. 'bulk': how many values and letters a reading holds, each counted each time it is reached (what is shared counts as often as it is met; a slice's spare places count too). A statement '..UptoSaid' is the law's where the arguments, and the package variables that the reading takes, are together of bulk at most 1048576: NARROWER than '..Said'. Prove '..Said' where nothing that the law and all that it calls make is longer than what came in: it says more and counts as full. Else prove '..UptoSaid'. A law counts once. -/
mutual
def uptoBulk {H : Type} : DataW H → Nat
  | .lit (.string bytes) => bytes.length + 1
  | .lit _ => 1
  | .nil => 1
  | .ptr d => uptoBulk d + 1
  | .slice elems spare => uptoBulkAll elems + uptoBulkAll spare + 1
  | .agg parts => uptoBulkAll parts + 1
  | .iface _ d => uptoBulk d + 1
  | .map entries => uptoBulkEntries entries + 1
  | .held _ => 1
def uptoBulkAll {H : Type} : List (DataW H) → Nat
  | [] => 0
  | d :: r => uptoBulk d + uptoBulkAll r
def uptoBulkEntries {H : Type} : List (Lit × DataW H) → Nat
  | [] => 0
  | x :: r => uptoBulkEntry x + uptoBulkEntries r
def uptoBulkEntry {H : Type} : Lit × DataW H → Nat
  | (.string bytes, d) => bytes.length + uptoBulk d + 1
  | (_, d) => uptoBulk d + 1
 end
def uptoSmall : (H : Type) → List (DataW H) → Bool := fun _ ds => decide (uptoBulkAll ds ≤ 1048576)
def OpenSpec.upto (s : _root_.Go.ChangeSpec) : _root_.Go.OpenSpec := { _root_.Go.OpenSpec.ofChange s with cond := some uptoSmall }

/-- 'garnerlaw15.LogFrames', WHERE WHAT IT READS IS OF BULK AT MOST 1048576: true; the input reads as it did. -/
def logFramesUptoRow : OpenClaim := { program := "ytglkndoghnblcaagreat", sum := "7b54ddc798a7d7b83777fc5baf15f1c0aa853becee847de3ba2ddcc8b2290929", func := "garner/garnerlaw15.LogFrames", spec := "logFrames", inPlace := ["internal/bytealg.Compare"], unfollowed := true, recurses := true, apart := false, narrowed := true }
def LogFramesUptoSaid : Prop := logFramesUptoRow.holds Tryz.pinned (OpenSpec.upto logFramesSpec)

/-- 'garnerlaw15.LogTxns', WHERE WHAT IT READS IS OF BULK AT MOST 1048576: true; the input reads as it did. -/
def logTxnsUptoRow : OpenClaim := { program := "ytglkndoghnblcaagreat", sum := "7b54ddc798a7d7b83777fc5baf15f1c0aa853becee847de3ba2ddcc8b2290929", func := "garner/garnerlaw15.LogTxns", spec := "logTxns", inPlace := ["internal/bytealg.Compare"], unfollowed := true, recurses := true, apart := false, narrowed := true }
def LogTxnsUptoSaid : Prop := logTxnsUptoRow.holds Tryz.pinned (OpenSpec.upto logTxnsSpec)

/-- 'garnerlaw15.LogCheckpoints', WHERE WHAT IT READS IS OF BULK AT MOST 1048576: true; the input reads as it did. -/
def logCheckpointsUptoRow : OpenClaim := { program := "ytglkndoghnblcaagreat", sum := "7b54ddc798a7d7b83777fc5baf15f1c0aa853becee847de3ba2ddcc8b2290929", func := "garner/garnerlaw15.LogCheckpoints", spec := "logCheckpoints", inPlace := ["internal/bytealg.Compare"], unfollowed := true, recurses := true, apart := false, narrowed := true }
def LogCheckpointsUptoSaid : Prop := logCheckpointsUptoRow.holds Tryz.pinned (OpenSpec.upto logCheckpointsSpec)

/-- 'garnerlaw15.LogManifests', WHERE WHAT IT READS IS OF BULK AT MOST 1048576: true; the input reads as it did. -/
def logManifestsUptoRow : OpenClaim := { program := "ytglkndoghnblcaagreat", sum := "7b54ddc798a7d7b83777fc5baf15f1c0aa853becee847de3ba2ddcc8b2290929", func := "garner/garnerlaw15.LogManifests", spec := "logManifests", inPlace := ["internal/bytealg.Compare"], unfollowed := true, recurses := true, apart := false, narrowed := true }
def LogManifestsUptoSaid : Prop := logManifestsUptoRow.holds Tryz.pinned (OpenSpec.upto logManifestsSpec)

/-- 'garnerlaw15.LogOrder', WHERE WHAT IT READS IS OF BULK AT MOST 1048576: true; the input reads as it did. -/
def logOrderUptoRow : OpenClaim := { program := "ytglkndoghnblcaagreat", sum := "7b54ddc798a7d7b83777fc5baf15f1c0aa853becee847de3ba2ddcc8b2290929", func := "garner/garnerlaw15.LogOrder", spec := "logOrder", inPlace := ["internal/bytealg.Compare"], unfollowed := true, recurses := true, apart := false, narrowed := true }
def LogOrderUptoSaid : Prop := logOrderUptoRow.holds Tryz.pinned (OpenSpec.upto logOrderSpec)

/-- 'garnerlaw15.LogTorn', WHERE WHAT IT READS IS OF BULK AT MOST 1048576: true; the input reads as it did. -/
def logTornUptoRow : OpenClaim := { program := "ytglkndoghnblcaagreat", sum := "7b54ddc798a7d7b83777fc5baf15f1c0aa853becee847de3ba2ddcc8b2290929", func := "garner/garnerlaw15.LogTorn", spec := "logTorn", inPlace := ["internal/bytealg.Compare"], unfollowed := true, recurses := true, apart := false, narrowed := true }
def LogTornUptoSaid : Prop := logTornUptoRow.holds Tryz.pinned (OpenSpec.upto logTornSpec)

/-- 'garnerlaw15.LogBack', WHERE WHAT IT READS IS OF BULK AT MOST 1048576: true; the input reads as it did. -/
def logBackUptoRow : OpenClaim := { program := "ytglkndoghnblcaagreat", sum := "7b54ddc798a7d7b83777fc5baf15f1c0aa853becee847de3ba2ddcc8b2290929", func := "garner/garnerlaw15.LogBack", spec := "logBack", inPlace := ["internal/bytealg.Compare"], unfollowed := true, recurses := true, apart := false, narrowed := true }
def LogBackUptoSaid : Prop := logBackUptoRow.holds Tryz.pinned (OpenSpec.upto logBackSpec)

end Rows
end Go.Proofs.YtglkndoghnblcaaGreat
