/-
  DERIVED. GIVEN WITH THE SEED: THE CARDS: each row of YtkgcbhpgkcfkhaaDoorRows.lean that lists a variable, with what it lists TIED to the program's text (the seventh form; the later family's looks); each row that meets fmt, with fmt's text TOLD by the authors' own Lean function (tested against real Go, not proved from fmt's source: count such statements apart). THE CARD IS WHAT COUNTS. Prove the row's statement (the work); the ties are given (YtkgcbhpgkcfkhaaDoorTie.lean); close each card by the builder's one call (the guide's Derived/Test/ToyasCard.lean, 'card_holds'). Laid BY PROGRAM, IN A SANDBOX (cutbox-door.mjs). By AI agents, Wed Nov 11 2026. No macro, syntax, notation, axiom, sorry.
-/
import Derived.Test.YtkgcbhpgkcfkhaaDoorRows
import GoSem.ClaimSeven
namespace Go.Proofs.YtkgcbhpgkcfkhaaDoor
namespace Rows

/-- THE TIED CARD OF 'garnerlaw13.RowReads'. -/
def rowReadsCard : Claim7 := { stood := { row := rowReadsRow, standIns := [], harness := (true, "420c584da2b3e2e386023dcc98ee52cbb39f5a0616910971da57db566dec11f3"), looks := false }, kinds := [], alts := [], laidByText := true, laidKinds := [.data, .pinned], laidTests := true, laidLooks := .later }
def RowReadsCardSaid : Prop := Claim7.holds Tryd.pinned (.plain (OpenSpec.ofChange rowReadsSpec)) rowReadsCard

/-- THE TIED CARD OF 'garnerlaw13.RowBack'. -/
def rowBackCard : Claim7 := { stood := { row := rowBackRow, standIns := [], harness := (true, "420c584da2b3e2e386023dcc98ee52cbb39f5a0616910971da57db566dec11f3"), looks := false }, kinds := [], alts := [], laidByText := true, laidKinds := [.data, .pinned], laidTests := true, laidLooks := .later }
def RowBackCardSaid : Prop := Claim7.holds Tryd.pinned (.plain (OpenSpec.ofChange rowBackSpec)) rowBackCard

/-- THE TIED CARD OF 'garnerlaw13.RowBounds'. -/
def rowBoundsCard : Claim7 := { stood := { row := rowBoundsRow, standIns := [], harness := (true, "420c584da2b3e2e386023dcc98ee52cbb39f5a0616910971da57db566dec11f3"), looks := false }, kinds := [], alts := [], laidByText := true, laidKinds := [.data, .pinned], laidTests := true, laidLooks := .later }
def RowBoundsCardSaid : Prop := Claim7.holds Tryd.pinned (.plain (OpenSpec.ofChange rowBoundsSpec)) rowBoundsCard

/-- THE SECOND FORM's CARD OF 'garnerlaw13.RowReads'. -/
def rowReadsUptoCard : Claim7 := { stood := { row := rowReadsUptoRow, standIns := [], harness := (true, "420c584da2b3e2e386023dcc98ee52cbb39f5a0616910971da57db566dec11f3"), looks := false }, kinds := [], alts := [], laidByText := true, laidKinds := [.data, .pinned], laidTests := true, laidLooks := .later }
def RowReadsUptoCardSaid : Prop := Claim7.holds Tryd.pinned (.plain (OpenSpec.upto rowReadsSpec)) rowReadsUptoCard

/-- THE SECOND FORM's CARD OF 'garnerlaw13.RowBack'. -/
def rowBackUptoCard : Claim7 := { stood := { row := rowBackUptoRow, standIns := [], harness := (true, "420c584da2b3e2e386023dcc98ee52cbb39f5a0616910971da57db566dec11f3"), looks := false }, kinds := [], alts := [], laidByText := true, laidKinds := [.data, .pinned], laidTests := true, laidLooks := .later }
def RowBackUptoCardSaid : Prop := Claim7.holds Tryd.pinned (.plain (OpenSpec.upto rowBackSpec)) rowBackUptoCard

/-- THE SECOND FORM's CARD OF 'garnerlaw13.RowBounds'. -/
def rowBoundsUptoCard : Claim7 := { stood := { row := rowBoundsUptoRow, standIns := [], harness := (true, "420c584da2b3e2e386023dcc98ee52cbb39f5a0616910971da57db566dec11f3"), looks := false }, kinds := [], alts := [], laidByText := true, laidKinds := [.data, .pinned], laidTests := true, laidLooks := .later }
def RowBoundsUptoCardSaid : Prop := Claim7.holds Tryd.pinned (.plain (OpenSpec.upto rowBoundsSpec)) rowBoundsUptoCard
end Rows
end Go.Proofs.YtkgcbhpgkcfkhaaDoor
