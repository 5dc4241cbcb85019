/-
  DERIVED. GIVEN WITH THE SEED: THE CARDS: each row of YtbbhjpbacobmjaaGreatDoorRows.lean that lists a variable, with what it lists TIED to the program's text (the seventh form; the later family's looks); each row that meets fmt, with fmt's text TOLD by the authors' own Lean function (tested against real Go, not proved from fmt's source: count such statements apart). THE CARD IS WHAT COUNTS. Prove the row's statement (the work); the ties are given (YtbbhjpbacobmjaaGreatDoorTie.lean); close each card by the builder's one call (the guide's Derived/Test/ToyasCard.lean, 'card_holds'). Laid BY PROGRAM, IN A SANDBOX (cutbox-door.mjs). By AI agents, Wed Nov 11 2026. No macro, syntax, notation, axiom, sorry.
-/
import Derived.Test.YtbbhjpbacobmjaaGreatDoorRows
import GoSem.ClaimSeven
namespace Go.Proofs.YtbbhjpbacobmjaaGreatDoor
namespace Rows

/-- THE TIED CARD OF 'marlinspikelaw.ScopeSays'. -/
def scopeSaysCard : Claim7 := { stood := { row := scopeSaysRow, standIns := [], harness := (true, "ff5a69849483d50e3a90c589edbe5721017e43128c61cec8ccd2edc9b888defb"), looks := true }, kinds := [], alts := [], laidByText := true, laidKinds := [.data, .data, .data, .data, .sentinel, .sentinel, .pinned], laidTests := true, laidLooks := .later }
def ScopeSaysCardSaid : Prop := Claim7.holds Tryz.pinned (.plain (OpenSpec.ofChange scopeSaysSpec)) scopeSaysCard

/-- THE TIED CARD OF 'marlinspikelaw.ImageSays'. -/
def imageSaysCard : Claim7 := { stood := { row := imageSaysRow, standIns := [], harness := (true, "ff5a69849483d50e3a90c589edbe5721017e43128c61cec8ccd2edc9b888defb"), looks := true }, kinds := [], alts := [], laidByText := true, laidKinds := [.data, .data, .data, .data, .sentinel, .sentinel, .pinned], laidTests := true, laidLooks := .later }
def ImageSaysCardSaid : Prop := Claim7.holds Tryz.pinned (.plain (OpenSpec.ofChange imageSaysSpec)) imageSaysCard

/-- THE TIED CARD OF 'marlinspikelaw.EntrySays'. -/
def entrySaysCard : Claim7 := { stood := { row := entrySaysRow, standIns := [], harness := (true, "ff5a69849483d50e3a90c589edbe5721017e43128c61cec8ccd2edc9b888defb"), looks := true }, kinds := [], alts := [], laidByText := true, laidKinds := [.data, .data, .data, .data, .sentinel, .sentinel, .pinned], laidTests := true, laidLooks := .later }
def EntrySaysCardSaid : Prop := Claim7.holds Tryz.pinned (.plain (OpenSpec.ofChange entrySaysSpec)) entrySaysCard

/-- THE TIED CARD OF 'marlinspikelaw.LoaderSays'. -/
def loaderSaysCard : Claim7 := { stood := { row := loaderSaysRow, standIns := [], harness := (true, "ff5a69849483d50e3a90c589edbe5721017e43128c61cec8ccd2edc9b888defb"), looks := true }, kinds := [], alts := [], laidByText := true, laidKinds := [.data, .data, .data, .data, .sentinel, .sentinel, .pinned], laidTests := true, laidLooks := .later }
def LoaderSaysCardSaid : Prop := Claim7.holds Tryz.pinned (.plain (OpenSpec.ofChange loaderSaysSpec)) loaderSaysCard

/-- THE SECOND FORM's CARD OF 'marlinspikelaw.ScopeSays'. -/
def scopeSaysUptoCard : Claim7 := { stood := { row := scopeSaysUptoRow, standIns := [], harness := (true, "ff5a69849483d50e3a90c589edbe5721017e43128c61cec8ccd2edc9b888defb"), looks := true }, kinds := [], alts := [], laidByText := true, laidKinds := [.data, .data, .data, .data, .sentinel, .sentinel, .pinned], laidTests := true, laidLooks := .later }
def ScopeSaysUptoCardSaid : Prop := Claim7.holds Tryz.pinned (.plain (OpenSpec.upto scopeSaysSpec)) scopeSaysUptoCard

/-- THE SECOND FORM's CARD OF 'marlinspikelaw.ImageSays'. -/
def imageSaysUptoCard : Claim7 := { stood := { row := imageSaysUptoRow, standIns := [], harness := (true, "ff5a69849483d50e3a90c589edbe5721017e43128c61cec8ccd2edc9b888defb"), looks := true }, kinds := [], alts := [], laidByText := true, laidKinds := [.data, .data, .data, .data, .sentinel, .sentinel, .pinned], laidTests := true, laidLooks := .later }
def ImageSaysUptoCardSaid : Prop := Claim7.holds Tryz.pinned (.plain (OpenSpec.upto imageSaysSpec)) imageSaysUptoCard

/-- THE SECOND FORM's CARD OF 'marlinspikelaw.EntrySays'. -/
def entrySaysUptoCard : Claim7 := { stood := { row := entrySaysUptoRow, standIns := [], harness := (true, "ff5a69849483d50e3a90c589edbe5721017e43128c61cec8ccd2edc9b888defb"), looks := true }, kinds := [], alts := [], laidByText := true, laidKinds := [.data, .data, .data, .data, .sentinel, .sentinel, .pinned], laidTests := true, laidLooks := .later }
def EntrySaysUptoCardSaid : Prop := Claim7.holds Tryz.pinned (.plain (OpenSpec.upto entrySaysSpec)) entrySaysUptoCard

/-- THE SECOND FORM's CARD OF 'marlinspikelaw.LoaderSays'. -/
def loaderSaysUptoCard : Claim7 := { stood := { row := loaderSaysUptoRow, standIns := [], harness := (true, "ff5a69849483d50e3a90c589edbe5721017e43128c61cec8ccd2edc9b888defb"), looks := true }, kinds := [], alts := [], laidByText := true, laidKinds := [.data, .data, .data, .data, .sentinel, .sentinel, .pinned], laidTests := true, laidLooks := .later }
def LoaderSaysUptoCardSaid : Prop := Claim7.holds Tryz.pinned (.plain (OpenSpec.upto loaderSaysSpec)) loaderSaysUptoCard
end Rows
end Go.Proofs.YtbbhjpbacobmjaaGreatDoor
