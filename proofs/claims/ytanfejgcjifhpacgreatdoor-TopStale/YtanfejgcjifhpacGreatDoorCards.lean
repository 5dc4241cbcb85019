/-
  DERIVED. GIVEN WITH THE SEED: THE CARDS: each row of YtanfejgcjifhpacGreatDoorRows.lean that lists a variable, with what it lists TIED to the program's text (the seventh form; the later family's looks); each row that meets fmt, with fmt's text TOLD by the authors' own Lean function (tested against real Go, not proved from fmt's source: count such statements apart). THE CARD IS WHAT COUNTS. Prove the row's statement (the work); the ties are given (YtanfejgcjifhpacGreatDoorTie.lean); close each card by the builder's one call (the guide's Derived/Test/ToyasCard.lean, 'card_holds'). Laid BY PROGRAM, IN A SANDBOX (cutbox-door.mjs). By AI agents, Wed Nov 11 2026. No macro, syntax, notation, axiom, sorry.
-/
import Derived.Test.YtanfejgcjifhpacGreatDoorRows
import GoSem.ClaimSeven
namespace Go.Proofs.YtanfejgcjifhpacGreatDoor
namespace Rows

/-- THE TIED CARD OF 'marlinspikelaw.EntrySays'. -/
def entrySaysCard : Claim7 := { stood := { row := entrySaysRow, standIns := [], harness := (true, "04f6a4c45ca52752f48598edc9f98c4ce20d193966641c80357e1a815d872f90"), looks := true }, kinds := [], alts := [], laidByText := true, laidKinds := [.data, .data, .data, .data, .sentinel, .sentinel, .pinned], laidTests := true, laidLooks := .later }
def EntrySaysCardSaid : Prop := Claim7.holds Tryz.pinned (.plain (OpenSpec.ofChange entrySaysSpec)) entrySaysCard

/-- THE TIED CARD OF 'marlinspiketop.TopEntry'. -/
def topEntryCard : Claim7 := { stood := { row := topEntryRow, standIns := [], harness := (true, "04f6a4c45ca52752f48598edc9f98c4ce20d193966641c80357e1a815d872f90"), looks := true }, kinds := [], alts := [], laidByText := true, laidKinds := [.data, .data, .data, .data, .sentinel, .sentinel, .pinned], laidTests := true, laidLooks := .later }
def TopEntryCardSaid : Prop := Claim7.holds Tryz.pinned (.plain (OpenSpec.ofChange topEntrySpec)) topEntryCard

/-- THE TIED CARD OF 'marlinspiketop.TopTwice'. -/
def topTwiceCard : Claim7 := { stood := { row := topTwiceRow, standIns := [], harness := (true, "04f6a4c45ca52752f48598edc9f98c4ce20d193966641c80357e1a815d872f90"), looks := true }, kinds := [], alts := [], laidByText := true, laidKinds := [.data, .data, .data, .data, .sentinel, .sentinel, .pinned], laidTests := true, laidLooks := .later }
def TopTwiceCardSaid : Prop := Claim7.holds Tryz.pinned (.plain (OpenSpec.ofChange topTwiceSpec)) topTwiceCard

/-- THE TIED CARD OF 'marlinspiketop.TopStale'. -/
def topStaleCard : Claim7 := { stood := { row := topStaleRow, standIns := [], harness := (true, "04f6a4c45ca52752f48598edc9f98c4ce20d193966641c80357e1a815d872f90"), looks := true }, kinds := [], alts := [], laidByText := true, laidKinds := [.data, .data, .data, .data, .sentinel, .sentinel, .pinned], laidTests := true, laidLooks := .later }
def TopStaleCardSaid : Prop := Claim7.holds Tryz.pinned (.plain (OpenSpec.ofChange topStaleSpec)) topStaleCard

/-- THE SECOND FORM's CARD OF 'marlinspikelaw.EntrySays'. -/
def entrySaysUptoCard : Claim7 := { stood := { row := entrySaysUptoRow, standIns := [], harness := (true, "04f6a4c45ca52752f48598edc9f98c4ce20d193966641c80357e1a815d872f90"), looks := true }, kinds := [], alts := [], laidByText := true, laidKinds := [.data, .data, .data, .data, .sentinel, .sentinel, .pinned], laidTests := true, laidLooks := .later }
def EntrySaysUptoCardSaid : Prop := Claim7.holds Tryz.pinned (.plain (OpenSpec.upto entrySaysSpec)) entrySaysUptoCard

/-- THE SECOND FORM's CARD OF 'marlinspiketop.TopEntry'. -/
def topEntryUptoCard : Claim7 := { stood := { row := topEntryUptoRow, standIns := [], harness := (true, "04f6a4c45ca52752f48598edc9f98c4ce20d193966641c80357e1a815d872f90"), looks := true }, kinds := [], alts := [], laidByText := true, laidKinds := [.data, .data, .data, .data, .sentinel, .sentinel, .pinned], laidTests := true, laidLooks := .later }
def TopEntryUptoCardSaid : Prop := Claim7.holds Tryz.pinned (.plain (OpenSpec.upto topEntrySpec)) topEntryUptoCard

/-- THE SECOND FORM's CARD OF 'marlinspiketop.TopTwice'. -/
def topTwiceUptoCard : Claim7 := { stood := { row := topTwiceUptoRow, standIns := [], harness := (true, "04f6a4c45ca52752f48598edc9f98c4ce20d193966641c80357e1a815d872f90"), looks := true }, kinds := [], alts := [], laidByText := true, laidKinds := [.data, .data, .data, .data, .sentinel, .sentinel, .pinned], laidTests := true, laidLooks := .later }
def TopTwiceUptoCardSaid : Prop := Claim7.holds Tryz.pinned (.plain (OpenSpec.upto topTwiceSpec)) topTwiceUptoCard

/-- THE SECOND FORM's CARD OF 'marlinspiketop.TopStale'. -/
def topStaleUptoCard : Claim7 := { stood := { row := topStaleUptoRow, standIns := [], harness := (true, "04f6a4c45ca52752f48598edc9f98c4ce20d193966641c80357e1a815d872f90"), looks := true }, kinds := [], alts := [], laidByText := true, laidKinds := [.data, .data, .data, .data, .sentinel, .sentinel, .pinned], laidTests := true, laidLooks := .later }
def TopStaleUptoCardSaid : Prop := Claim7.holds Tryz.pinned (.plain (OpenSpec.upto topStaleSpec)) topStaleUptoCard
end Rows
end Go.Proofs.YtanfejgcjifhpacGreatDoor
