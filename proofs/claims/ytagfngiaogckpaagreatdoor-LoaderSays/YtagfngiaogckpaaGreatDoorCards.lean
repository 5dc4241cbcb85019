/-
  DERIVED. GIVEN WITH THE SEED: THE CARDS: each row of YtagfngiaogckpaaGreatDoorRows.lean that lists a variable, with what it lists TIED to the program's text (the seventh form; the later family's looks); each row that meets fmt, with fmt's text TOLD by the authors' own Lean function (tested against real Go, not proved from fmt's source: count such statements apart). THE CARD IS WHAT COUNTS. Prove the row's statement (the work); the ties are given (YtagfngiaogckpaaGreatDoorTie.lean); close each card by the builder's one call (the guide's Derived/Test/ToyasCard.lean, 'card_holds'). Laid BY PROGRAM, IN A SANDBOX (cutbox-door.mjs). By AI agents, Wed Nov 11 2026. No macro, syntax, notation, axiom, sorry.
-/
import Derived.Test.YtagfngiaogckpaaGreatDoorRows
import GoSem.ClaimSeven
namespace Go.Proofs.YtagfngiaogckpaaGreatDoor
namespace Rows

/-- THE TIED CARD OF 'marlinspikelaw.LoaderSays'. -/
def loaderSaysCard : Claim7 := { stood := { row := loaderSaysRow, standIns := [], harness := (true, "c546aa35ca8881fd5845e29aa1e1ffdacf7018afc62f274824c0d98d33d6b816"), looks := true }, kinds := [], alts := [], laidByText := true, laidKinds := [.data, .data, .data, .data, .sentinel, .sentinel, .pinned], laidTests := true, laidLooks := .later }
def LoaderSaysCardSaid : Prop := Claim7.holds Tryz.pinned (.plain (OpenSpec.ofChange loaderSaysSpec)) loaderSaysCard

/-- THE SECOND FORM's CARD OF 'marlinspikelaw.LoaderSays'. -/
def loaderSaysUptoCard : Claim7 := { stood := { row := loaderSaysUptoRow, standIns := [], harness := (true, "c546aa35ca8881fd5845e29aa1e1ffdacf7018afc62f274824c0d98d33d6b816"), looks := true }, kinds := [], alts := [], laidByText := true, laidKinds := [.data, .data, .data, .data, .sentinel, .sentinel, .pinned], laidTests := true, laidLooks := .later }
def LoaderSaysUptoCardSaid : Prop := Claim7.holds Tryz.pinned (.plain (OpenSpec.upto loaderSaysSpec)) loaderSaysUptoCard
end Rows
end Go.Proofs.YtagfngiaogckpaaGreatDoor
