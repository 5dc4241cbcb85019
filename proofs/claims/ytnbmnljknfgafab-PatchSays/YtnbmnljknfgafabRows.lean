/-
  No cell of these rows narrows 'for every input' (looked for: loops, veiled, ifaces, maps, wideKeys, modest, calm, conditions, laid).
  DERIVED. THE GIVEN ROWS OF THIS SEAT. 6 by the template 'for every input the law returns true; each argument reads behind the call as it read before'; 0 by the template 'total and deterministic' (their statements: YtnbmnljknfgafabTotals.lean).
  GIVEN WITH THE SEED: the statements are not yours to turn. If you find one false, say at which input.
  Laid BY PROGRAM, IN A SANDBOX (cutbox-rows.mjs): the forced cells as the released guide's own fill.sh prints them over the translation f1d7ac7128fb58c2… (all of the seat's roots in one cut). By AI agents, Wed Nov 11 2026. No macro, syntax, notation, axiom, sorry.
-/
import Derived.Test.YtnbmnljknfgafabChecked
import GoSem.Claim
import GoSem.ClaimJoined
import GoSem.ClaimMapViews
import Derived.JoinedTies
import Derived.KernelRfl
namespace Go.Proofs.Ytnbmnljknfgafab
/- THE CELL 'sum', in the pinned program and in every row, IS THE sha256 OF THE DUMP (.gsa) THAT YtnbmnljknfgafabProg.lean LOADS. Nothing in Lean hashes anything: it is a label: what it is worth is what the hold of that sum in a sandbox is worth. -/
noncomputable def Try.pinned : Pinned := { name := "ytnbmnljknfgafab", sum := "f1d7ac7128fb58c20b876e333e61dd4f8ca1874fdafe169a0a33d877f2fcf188", checked := Try.checked }
namespace Rows
def none {H : Type} : Left H := { results := [], args := [] }

/-- 'marlinspiketop.TopWeak': WHATEVER THE INPUT: true; the input reads as it did. -/
def topWeakSpec : ChangeSpec := { name := "topWeak", fn := fun _ => fun
  | [d1, d2, d3, d4] => { results := [.lit (.bool true)], args := [d1, d2, d3, d4] }
  | _ => none }
def topWeakRow : OpenClaim := { program := "ytnbmnljknfgafab", sum := "f1d7ac7128fb58c20b876e333e61dd4f8ca1874fdafe169a0a33d877f2fcf188", func := "marlinspike/marlinspiketop.TopWeak", spec := "topWeak", apart := false }
def TopWeakSaid : Prop := topWeakRow.holds Try.pinned (OpenSpec.ofChange topWeakSpec)

/-- ITS FALSE NEIGHBOUR: 'it returns false'. Refute it at one input. -/
def topWeakWrong : ChangeSpec := { name := "topWeak", fn := fun _ => fun
  | [d1, d2, d3, d4] => { results := [.lit (.bool false)], args := [d1, d2, d3, d4] }
  | _ => none }
def TopWeakWrongFalsely : Prop := topWeakRow.holds Try.pinned (OpenSpec.ofChange topWeakWrong)

/-- 'marlinspikelaw.PlaceSays': WHATEVER THE INPUT: true; the input reads as it did. -/
def placeSaysSpec : ChangeSpec := { name := "placeSays", fn := fun _ => fun
  | [d1, d2] => { results := [.lit (.bool true)], args := [d1, d2] }
  | _ => none }
def placeSaysRow : OpenClaim := { program := "ytnbmnljknfgafab", sum := "f1d7ac7128fb58c20b876e333e61dd4f8ca1874fdafe169a0a33d877f2fcf188", func := "marlinspike/marlinspikelaw.PlaceSays", spec := "placeSays", unfollowed := true, recurses := true, apart := false }
def PlaceSaysSaid : Prop := placeSaysRow.holds Try.pinned (OpenSpec.ofChange placeSaysSpec)

/-- ITS FALSE NEIGHBOUR: 'it returns false'. Refute it at one input. -/
def placeSaysWrong : ChangeSpec := { name := "placeSays", fn := fun _ => fun
  | [d1, d2] => { results := [.lit (.bool false)], args := [d1, d2] }
  | _ => none }
def PlaceSaysWrongFalsely : Prop := placeSaysRow.holds Try.pinned (OpenSpec.ofChange placeSaysWrong)

/-- 'marlinspikelaw.PatchSays': WHATEVER THE INPUT: true; the input reads as it did. -/
def patchSaysSpec : ChangeSpec := { name := "patchSays", fn := fun _ => fun
  | [d1, d2, d3, d4] => { results := [.lit (.bool true)], args := [d1, d2, d3, d4] }
  | _ => none }
def patchSaysRow : OpenClaim := { program := "ytnbmnljknfgafab", sum := "f1d7ac7128fb58c20b876e333e61dd4f8ca1874fdafe169a0a33d877f2fcf188", func := "marlinspike/marlinspikelaw.PatchSays", spec := "patchSays", apart := false }
def PatchSaysSaid : Prop := patchSaysRow.holds Try.pinned (OpenSpec.ofChange patchSaysSpec)

/-- ITS FALSE NEIGHBOUR: 'it returns false'. Refute it at one input. -/
def patchSaysWrong : ChangeSpec := { name := "patchSays", fn := fun _ => fun
  | [d1, d2, d3, d4] => { results := [.lit (.bool false)], args := [d1, d2, d3, d4] }
  | _ => none }
def PatchSaysWrongFalsely : Prop := patchSaysRow.holds Try.pinned (OpenSpec.ofChange patchSaysWrong)

/-- 'marlinspiketop.TopApart': WHATEVER THE INPUT: true; the input reads as it did. -/
def topApartSpec : ChangeSpec := { name := "topApart", fn := fun _ => fun
  | [d1, d2] => { results := [.lit (.bool true)], args := [d1, d2] }
  | _ => none }
def topApartRow : OpenClaim := { program := "ytnbmnljknfgafab", sum := "f1d7ac7128fb58c20b876e333e61dd4f8ca1874fdafe169a0a33d877f2fcf188", func := "marlinspike/marlinspiketop.TopApart", spec := "topApart", unfollowed := true, recurses := true, apart := false }
def TopApartSaid : Prop := topApartRow.holds Try.pinned (OpenSpec.ofChange topApartSpec)

/-- ITS FALSE NEIGHBOUR: 'it returns false'. Refute it at one input. -/
def topApartWrong : ChangeSpec := { name := "topApart", fn := fun _ => fun
  | [d1, d2] => { results := [.lit (.bool false)], args := [d1, d2] }
  | _ => none }
def TopApartWrongFalsely : Prop := topApartRow.holds Try.pinned (OpenSpec.ofChange topApartWrong)

/-- 'marlinspiketop.TopFull': WHATEVER THE INPUT: true; the input reads as it did. -/
def topFullSpec : ChangeSpec := { name := "topFull", fn := fun _ => fun
  | [d] => { results := [.lit (.bool true)], args := [d] }
  | _ => none }
def topFullRow : OpenClaim := { program := "ytnbmnljknfgafab", sum := "f1d7ac7128fb58c20b876e333e61dd4f8ca1874fdafe169a0a33d877f2fcf188", func := "marlinspike/marlinspiketop.TopFull", spec := "topFull", unfollowed := true, recurses := true, apart := false }
def TopFullSaid : Prop := topFullRow.holds Try.pinned (OpenSpec.ofChange topFullSpec)

/-- ITS FALSE NEIGHBOUR: 'it returns false'. Refute it at one input. -/
def topFullWrong : ChangeSpec := { name := "topFull", fn := fun _ => fun
  | [d] => { results := [.lit (.bool false)], args := [d] }
  | _ => none }
def TopFullWrongFalsely : Prop := topFullRow.holds Try.pinned (OpenSpec.ofChange topFullWrong)

/-- 'marlinspiketop.TopPatch': WHATEVER THE INPUT: true; the input reads as it did. -/
def topPatchSpec : ChangeSpec := { name := "topPatch", fn := fun _ => fun
  | [d1, d2] => { results := [.lit (.bool true)], args := [d1, d2] }
  | _ => none }
def topPatchRow : OpenClaim := { program := "ytnbmnljknfgafab", sum := "f1d7ac7128fb58c20b876e333e61dd4f8ca1874fdafe169a0a33d877f2fcf188", func := "marlinspike/marlinspiketop.TopPatch", spec := "topPatch", apart := false }
def TopPatchSaid : Prop := topPatchRow.holds Try.pinned (OpenSpec.ofChange topPatchSpec)

/-- ITS FALSE NEIGHBOUR: 'it returns false'. Refute it at one input. -/
def topPatchWrong : ChangeSpec := { name := "topPatch", fn := fun _ => fun
  | [d1, d2] => { results := [.lit (.bool false)], args := [d1, d2] }
  | _ => none }
def TopPatchWrongFalsely : Prop := topPatchRow.holds Try.pinned (OpenSpec.ofChange topPatchWrong)

/- THE SECOND FORM. 'bulk': how many values and letters a reading holds, each counted each time it is reached (what is shared counts as often as it is met; a slice's spare places count too). A statement '..UptoSaid' is the law's where the arguments, and the package variables that the reading takes, are together of bulk at most 1048576: NARROWER than '..Said'. Prove '..Said' where nothing that the law and all that it calls make is longer than what came in: it says more and counts as full. Else prove '..UptoSaid'. A law counts once. -/
mutual
def uptoBulk {H : Type} : DataW H → Nat
  | .lit (.string bytes) => bytes.length + 1
  | .lit _ => 1
  | .nil => 1
  | .ptr d => uptoBulk d + 1
  | .slice elems spare => uptoBulkAll elems + uptoBulkAll spare + 1
  | .agg parts => uptoBulkAll parts + 1
  | .iface _ d => uptoBulk d + 1
  | .map entries => uptoBulkEntries entries + 1
  | .held _ => 1
def uptoBulkAll {H : Type} : List (DataW H) → Nat
  | [] => 0
  | d :: r => uptoBulk d + uptoBulkAll r
def uptoBulkEntries {H : Type} : List (Lit × DataW H) → Nat
  | [] => 0
  | x :: r => uptoBulkEntry x + uptoBulkEntries r
def uptoBulkEntry {H : Type} : Lit × DataW H → Nat
  | (.string bytes, d) => bytes.length + uptoBulk d + 1
  | (_, d) => uptoBulk d + 1
 end
def uptoSmall : (H : Type) → List (DataW H) → Bool := fun _ ds => decide (uptoBulkAll ds ≤ 1048576)
def OpenSpec.upto (s : _root_.Go.ChangeSpec) : _root_.Go.OpenSpec := { _root_.Go.OpenSpec.ofChange s with cond := some uptoSmall }

/-- 'marlinspiketop.TopWeak', WHERE WHAT IT READS IS OF BULK AT MOST 1048576: true; the input reads as it did. -/
def topWeakUptoRow : OpenClaim := { program := "ytnbmnljknfgafab", sum := "f1d7ac7128fb58c20b876e333e61dd4f8ca1874fdafe169a0a33d877f2fcf188", func := "marlinspike/marlinspiketop.TopWeak", spec := "topWeak", apart := false, narrowed := true }
def TopWeakUptoSaid : Prop := topWeakUptoRow.holds Try.pinned (OpenSpec.upto topWeakSpec)

/-- 'marlinspikelaw.PlaceSays', WHERE WHAT IT READS IS OF BULK AT MOST 1048576: true; the input reads as it did. -/
def placeSaysUptoRow : OpenClaim := { program := "ytnbmnljknfgafab", sum := "f1d7ac7128fb58c20b876e333e61dd4f8ca1874fdafe169a0a33d877f2fcf188", func := "marlinspike/marlinspikelaw.PlaceSays", spec := "placeSays", unfollowed := true, recurses := true, apart := false, narrowed := true }
def PlaceSaysUptoSaid : Prop := placeSaysUptoRow.holds Try.pinned (OpenSpec.upto placeSaysSpec)

/-- 'marlinspikelaw.PatchSays', WHERE WHAT IT READS IS OF BULK AT MOST 1048576: true; the input reads as it did. -/
def patchSaysUptoRow : OpenClaim := { program := "ytnbmnljknfgafab", sum := "f1d7ac7128fb58c20b876e333e61dd4f8ca1874fdafe169a0a33d877f2fcf188", func := "marlinspike/marlinspikelaw.PatchSays", spec := "patchSays", apart := false, narrowed := true }
def PatchSaysUptoSaid : Prop := patchSaysUptoRow.holds Try.pinned (OpenSpec.upto patchSaysSpec)

/-- 'marlinspiketop.TopApart', WHERE WHAT IT READS IS OF BULK AT MOST 1048576: true; the input reads as it did. -/
def topApartUptoRow : OpenClaim := { program := "ytnbmnljknfgafab", sum := "f1d7ac7128fb58c20b876e333e61dd4f8ca1874fdafe169a0a33d877f2fcf188", func := "marlinspike/marlinspiketop.TopApart", spec := "topApart", unfollowed := true, recurses := true, apart := false, narrowed := true }
def TopApartUptoSaid : Prop := topApartUptoRow.holds Try.pinned (OpenSpec.upto topApartSpec)

/-- 'marlinspiketop.TopFull', WHERE WHAT IT READS IS OF BULK AT MOST 1048576: true; the input reads as it did. -/
def topFullUptoRow : OpenClaim := { program := "ytnbmnljknfgafab", sum := "f1d7ac7128fb58c20b876e333e61dd4f8ca1874fdafe169a0a33d877f2fcf188", func := "marlinspike/marlinspiketop.TopFull", spec := "topFull", unfollowed := true, recurses := true, apart := false, narrowed := true }
def TopFullUptoSaid : Prop := topFullUptoRow.holds Try.pinned (OpenSpec.upto topFullSpec)

/-- 'marlinspiketop.TopPatch', WHERE WHAT IT READS IS OF BULK AT MOST 1048576: true; the input reads as it did. -/
def topPatchUptoRow : OpenClaim := { program := "ytnbmnljknfgafab", sum := "f1d7ac7128fb58c20b876e333e61dd4f8ca1874fdafe169a0a33d877f2fcf188", func := "marlinspike/marlinspiketop.TopPatch", spec := "topPatch", apart := false, narrowed := true }
def TopPatchUptoSaid : Prop := topPatchUptoRow.holds Try.pinned (OpenSpec.upto topPatchSpec)

end Rows
end Go.Proofs.Ytnbmnljknfgafab
