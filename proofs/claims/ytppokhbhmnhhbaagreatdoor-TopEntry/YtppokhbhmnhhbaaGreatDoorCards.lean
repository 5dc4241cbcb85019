/-
  DERIVED. GIVEN WITH THE SEED: THE CARDS: each row of YtppokhbhmnhhbaaGreatDoorRows.lean that lists a variable, with what it lists TIED to the program's text (the seventh form; the later family's looks); each row that meets fmt, with fmt's text TOLD by the authors' own Lean function (tested against real Go, not proved from fmt's source: count such statements apart). THE CARD IS WHAT COUNTS. Prove the row's statement (the work); the ties are given (YtppokhbhmnhhbaaGreatDoorTie.lean); close each card by the builder's one call (the guide's Derived/Test/ToyasCard.lean, 'card_holds'). Laid BY PROGRAM, IN A SANDBOX (cutbox-door.mjs). By AI agents, Wed Nov 11 2026. No macro, syntax, notation, axiom, sorry.
-/
import Derived.Test.YtppokhbhmnhhbaaGreatDoorRows
import GoSem.ClaimSeven
namespace Go.Proofs.YtppokhbhmnhhbaaGreatDoor
namespace Rows

/-- THE TIED CARD OF 'marlinspiketop.TopEntry'. -/
def topEntryCard : Claim7 := { stood := { row := topEntryRow, standIns := [], harness := (true, "7c7dfecd8a52171b7e5f13a9150e15d2ee922826edcd6be09c68e04d00cae7f6"), looks := true }, kinds := [], alts := [], laidByText := true, laidKinds := [.data, .data, .data, .data, .sentinel, .sentinel, .pinned], laidTests := true, laidLooks := .later }
def TopEntryCardSaid : Prop := Claim7.holds Tryz.pinned (.plain (OpenSpec.ofChange topEntrySpec)) topEntryCard

/-- THE SECOND FORM's CARD OF 'marlinspiketop.TopEntry'. -/
def topEntryUptoCard : Claim7 := { stood := { row := topEntryUptoRow, standIns := [], harness := (true, "7c7dfecd8a52171b7e5f13a9150e15d2ee922826edcd6be09c68e04d00cae7f6"), looks := true }, kinds := [], alts := [], laidByText := true, laidKinds := [.data, .data, .data, .data, .sentinel, .sentinel, .pinned], laidTests := true, laidLooks := .later }
def TopEntryUptoCardSaid : Prop := Claim7.holds Tryz.pinned (.plain (OpenSpec.upto topEntrySpec)) topEntryUptoCard
end Rows
end Go.Proofs.YtppokhbhmnhhbaaGreatDoor
