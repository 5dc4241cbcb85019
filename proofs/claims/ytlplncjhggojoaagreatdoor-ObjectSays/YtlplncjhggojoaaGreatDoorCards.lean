/-
  DERIVED. GIVEN WITH THE SEED: THE CARDS: each row of YtlplncjhggojoaaGreatDoorRows.lean that lists a variable, with what it lists TIED to the program's text (the seventh form; the later family's looks); each row that meets fmt, with fmt's text TOLD by the authors' own Lean function (tested against real Go, not proved from fmt's source: count such statements apart). THE CARD IS WHAT COUNTS. Prove the row's statement (the work); the ties are given (YtlplncjhggojoaaGreatDoorTie.lean); close each card by the builder's one call (the guide's Derived/Test/ToyasCard.lean, 'card_holds'). Laid BY PROGRAM, IN A SANDBOX (cutbox-door.mjs). By AI agents, Wed Nov 11 2026. No macro, syntax, notation, axiom, sorry.
-/
import Derived.Test.YtlplncjhggojoaaGreatDoorRows
import GoSem.ClaimSeven
namespace Go.Proofs.YtlplncjhggojoaaGreatDoor
namespace Rows

/-- THE TIED CARD OF 'marlinspikelaw.ObjectSays'. -/
def objectSaysCard : Claim7 := { stood := { row := objectSaysRow, standIns := [], harness := (true, "6ff54c471bf56dfef7fad7a0ef6570a4429438dcbf29455eefa8d559fdd16215"), looks := true }, kinds := [], alts := [], laidByText := true, laidKinds := [.data, .data, .data, .data, .sentinel, .sentinel, .pinned], laidTests := true, laidLooks := .later }
def ObjectSaysCardSaid : Prop := Claim7.holds Tryz.pinned (.plain (OpenSpec.ofChange objectSaysSpec)) objectSaysCard

/-- THE SECOND FORM's CARD OF 'marlinspikelaw.ObjectSays'. -/
def objectSaysUptoCard : Claim7 := { stood := { row := objectSaysUptoRow, standIns := [], harness := (true, "6ff54c471bf56dfef7fad7a0ef6570a4429438dcbf29455eefa8d559fdd16215"), looks := true }, kinds := [], alts := [], laidByText := true, laidKinds := [.data, .data, .data, .data, .sentinel, .sentinel, .pinned], laidTests := true, laidLooks := .later }
def ObjectSaysUptoCardSaid : Prop := Claim7.holds Tryz.pinned (.plain (OpenSpec.upto objectSaysSpec)) objectSaysUptoCard
end Rows
end Go.Proofs.YtlplncjhggojoaaGreatDoor
