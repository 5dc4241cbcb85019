/-
  DERIVED. GIVEN WITH THE SEED: THE CARDS: each row of YtlcdacldhalnnaaGreatDoorRows.lean that lists a variable, with what it lists TIED to the program's text (the seventh form; the later family's looks); each row that meets fmt, with fmt's text TOLD by the authors' own Lean function (tested against real Go, not proved from fmt's source: count such statements apart). THE CARD IS WHAT COUNTS. Prove the row's statement (the work); the ties are given (YtlcdacldhalnnaaGreatDoorTie.lean); close each card by the builder's one call (the guide's Derived/Test/ToyasCard.lean, 'card_holds'). Laid BY PROGRAM, IN A SANDBOX (cutbox-door.mjs). By AI agents, Wed Nov 11 2026. No macro, syntax, notation, axiom, sorry.
-/
import Derived.Test.YtlcdacldhalnnaaGreatDoorRows
import GoSem.ClaimSeven
namespace Go.Proofs.YtlcdacldhalnnaaGreatDoor
namespace Rows

/-- THE TIED CARD OF 'marlinspikelaw.ShelfSays'. -/
def shelfSaysCard : Claim7 := { stood := { row := shelfSaysRow, standIns := [], harness := (true, "c3a21aec0288736b52e6b4da62ef8a72aebfcb49b6e74c09cfaa08b8bfc1b0a0"), looks := true }, kinds := [], alts := [], laidByText := true, laidKinds := [.data, .data, .data, .data, .sentinel, .sentinel, .pinned], laidTests := true, laidLooks := .later }
def ShelfSaysCardSaid : Prop := Claim7.holds Tryz.pinned (.plain (OpenSpec.ofChange shelfSaysSpec)) shelfSaysCard

/-- THE SECOND FORM's CARD OF 'marlinspikelaw.ShelfSays'. -/
def shelfSaysUptoCard : Claim7 := { stood := { row := shelfSaysUptoRow, standIns := [], harness := (true, "c3a21aec0288736b52e6b4da62ef8a72aebfcb49b6e74c09cfaa08b8bfc1b0a0"), looks := true }, kinds := [], alts := [], laidByText := true, laidKinds := [.data, .data, .data, .data, .sentinel, .sentinel, .pinned], laidTests := true, laidLooks := .later }
def ShelfSaysUptoCardSaid : Prop := Claim7.holds Tryz.pinned (.plain (OpenSpec.upto shelfSaysSpec)) shelfSaysUptoCard
end Rows
end Go.Proofs.YtlcdacldhalnnaaGreatDoor
