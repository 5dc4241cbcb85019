/-
  DERIVED. GIVEN WITH THE SEED: THE CARDS: each row of YthdccmjdbcllkaaGreatDoorRows.lean that lists a variable, with what it lists TIED to the program's text (the seventh form; the later family's looks); each row that meets fmt, with fmt's text TOLD by the authors' own Lean function (tested against real Go, not proved from fmt's source: count such statements apart). THE CARD IS WHAT COUNTS. Prove the row's statement (the work); the ties are given (YthdccmjdbcllkaaGreatDoorTie.lean); close each card by the builder's one call (the guide's Derived/Test/ToyasCard.lean, 'card_holds'). Laid BY PROGRAM, IN A SANDBOX (cutbox-door.mjs). By AI agents, Wed Nov 11 2026. No macro, syntax, notation, axiom, sorry.
-/
import Derived.Test.YthdccmjdbcllkaaGreatDoorRows
import GoSem.ClaimSeven
namespace Go.Proofs.YthdccmjdbcllkaaGreatDoor
namespace Rows

/-- THE TIED CARD OF 'marlinspikelaw.EntrySays'. -/
def entrySaysCard : Claim7 := { stood := { row := entrySaysRow, standIns := [], harness := (true, "1e4cbcb6db9cd9c854a72d9d35a7ab9d5995f79e7581ddec374bbb36263d759e"), looks := true }, kinds := [], alts := [], laidByText := true, laidKinds := [.data, .data, .data, .data, .sentinel, .sentinel, .pinned], laidTests := true, laidLooks := .later }
def EntrySaysCardSaid : Prop := Claim7.holds Tryz.pinned (.plain (OpenSpec.ofChange entrySaysSpec)) entrySaysCard

/-- THE SECOND FORM's CARD OF 'marlinspikelaw.EntrySays'. -/
def entrySaysUptoCard : Claim7 := { stood := { row := entrySaysUptoRow, standIns := [], harness := (true, "1e4cbcb6db9cd9c854a72d9d35a7ab9d5995f79e7581ddec374bbb36263d759e"), looks := true }, kinds := [], alts := [], laidByText := true, laidKinds := [.data, .data, .data, .data, .sentinel, .sentinel, .pinned], laidTests := true, laidLooks := .later }
def EntrySaysUptoCardSaid : Prop := Claim7.holds Tryz.pinned (.plain (OpenSpec.upto entrySaysSpec)) entrySaysUptoCard
end Rows
end Go.Proofs.YthdccmjdbcllkaaGreatDoor
