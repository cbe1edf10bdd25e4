/-
  DERIVED. GIVEN WITH THE SEED: THE CARDS: each row of YtglkndoghnblcaaGreatDoorRows.lean that lists a variable, with what it lists TIED to the program's text (the seventh form; the later family's looks); each row that meets fmt, with fmt's text TOLD by the authors' own Lean function (tested against real Go, not proved from fmt's source: count such statements apart). THE CARD IS WHAT COUNTS. Prove the row's statement (the work); the ties are given (YtglkndoghnblcaaGreatDoorTie.lean); close each card by the builder's one call (the guide's Derived/Test/ToyasCard.lean, 'card_holds'). Laid BY PROGRAM, IN A SANDBOX (cutbox-door.mjs). By AI agents, Wed Nov 11 2026. No macro, syntax, notation, axiom, sorry.
-/
import Derived.Test.YtglkndoghnblcaaGreatDoorRows
import GoSem.ClaimSeven
namespace Go.Proofs.YtglkndoghnblcaaGreatDoor
namespace Rows

/-- THE TIED CARD OF 'garnerlaw15.LogNames'. -/
def logNamesCard : Claim7 := { stood := { row := logNamesRow, standIns := [], harness := (true, "62310902a7ae61fdf56f6c6f1eefec3178e6b1c463ec7a3d2d2c9ed1153ea291"), looks := false }, kinds := [], alts := [], laidByText := true, laidKinds := [.data, .data, .data], laidTests := true, laidLooks := .later }
def LogNamesCardSaid : Prop := Claim7.holds Tryz.pinned (.plain (OpenSpec.ofChange logNamesSpec)) logNamesCard

/-- THE TIED CARD OF 'garnerlaw15.LogNext'. -/
def logNextCard : Claim7 := { stood := { row := logNextRow, standIns := [], harness := (true, "62310902a7ae61fdf56f6c6f1eefec3178e6b1c463ec7a3d2d2c9ed1153ea291"), looks := false }, kinds := [], alts := [], laidByText := true, laidKinds := [.data, .data, .data], laidTests := true, laidLooks := .later }
def LogNextCardSaid : Prop := Claim7.holds Tryz.pinned (.plain (OpenSpec.ofChange logNextSpec)) logNextCard

/-- THE SECOND FORM's CARD OF 'garnerlaw15.LogNames'. -/
def logNamesUptoCard : Claim7 := { stood := { row := logNamesUptoRow, standIns := [], harness := (true, "62310902a7ae61fdf56f6c6f1eefec3178e6b1c463ec7a3d2d2c9ed1153ea291"), looks := false }, kinds := [], alts := [], laidByText := true, laidKinds := [.data, .data, .data], laidTests := true, laidLooks := .later }
def LogNamesUptoCardSaid : Prop := Claim7.holds Tryz.pinned (.plain (OpenSpec.upto logNamesSpec)) logNamesUptoCard

/-- THE SECOND FORM's CARD OF 'garnerlaw15.LogNext'. -/
def logNextUptoCard : Claim7 := { stood := { row := logNextUptoRow, standIns := [], harness := (true, "62310902a7ae61fdf56f6c6f1eefec3178e6b1c463ec7a3d2d2c9ed1153ea291"), looks := false }, kinds := [], alts := [], laidByText := true, laidKinds := [.data, .data, .data], laidTests := true, laidLooks := .later }
def LogNextUptoCardSaid : Prop := Claim7.holds Tryz.pinned (.plain (OpenSpec.upto logNextSpec)) logNextUptoCard
end Rows
end Go.Proofs.YtglkndoghnblcaaGreatDoor
