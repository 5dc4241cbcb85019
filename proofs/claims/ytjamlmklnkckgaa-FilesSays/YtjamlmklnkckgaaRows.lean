/-
  No cell of these rows narrows 'for every input' (looked for: loops, veiled, ifaces, maps, wideKeys, modest, calm, conditions, laid).
  DERIVED. THE GIVEN ROWS OF THIS SEAT. 7 by the template 'for every input the law returns true; each argument reads behind the call as it read before'; 0 by the template 'total and deterministic' (their statements: YtjamlmklnkckgaaTotals.lean).
  GIVEN WITH THE SEED: the statements are not yours to turn. If you find one false, say at which input.
  Laid BY PROGRAM, IN A SANDBOX (cutbox-rows.mjs): the forced cells as the released guide's own fill.sh prints them over the translation 2042ada111f138c6… (all of the seat's roots in one cut). By AI agents, Wed Nov 11 2026. No macro, syntax, notation, axiom, sorry.
-/
import Derived.Test.YtjamlmklnkckgaaChecked
import GoSem.Claim
import GoSem.ClaimJoined
import GoSem.ClaimMapViews
import Derived.JoinedTies
import Derived.KernelRfl
namespace Go.Proofs.Ytjamlmklnkckgaa
/- THE CELL 'sum', in the pinned program and in every row, IS THE sha256 OF THE DUMP (.gsa) THAT YtjamlmklnkckgaaProg.lean LOADS. Nothing in Lean hashes anything: it is a label: what it is worth is what the hold of that sum in a sandbox is worth. -/
noncomputable def Try.pinned : Pinned := { name := "ytjamlmklnkckgaa", sum := "2042ada111f138c6db377778562cb17f56488a43e54cbb694308e9a1ff8ee9b4", checked := Try.checked }
namespace Rows
def none {H : Type} : Left H := { results := [], args := [] }

/-- 'marlinspikelaw.NameSays': WHATEVER THE INPUT: true; the input reads as it did. -/
def nameSaysSpec : ChangeSpec := { name := "nameSays", fn := fun _ => fun
  | [d] => { results := [.lit (.bool true)], args := [d] }
  | _ => none }
def nameSaysRow : OpenClaim := { program := "ytjamlmklnkckgaa", sum := "2042ada111f138c6db377778562cb17f56488a43e54cbb694308e9a1ff8ee9b4", func := "marlinspike/marlinspikelaw.NameSays", spec := "nameSays", apart := false }
def NameSaysSaid : Prop := nameSaysRow.holds Try.pinned (OpenSpec.ofChange nameSaysSpec)

/-- ITS FALSE NEIGHBOUR: 'it returns false'. Refute it at one input. -/
def nameSaysWrong : ChangeSpec := { name := "nameSays", fn := fun _ => fun
  | [d] => { results := [.lit (.bool false)], args := [d] }
  | _ => none }
def NameSaysWrongFalsely : Prop := nameSaysRow.holds Try.pinned (OpenSpec.ofChange nameSaysWrong)

/-- 'marlinspikelaw.TableSays': WHATEVER THE INPUT: true; the input reads as it did. -/
def tableSaysSpec : ChangeSpec := { name := "tableSays", fn := fun _ => fun
  | [d1, d2, d3, d4] => { results := [.lit (.bool true)], args := [d1, d2, d3, d4] }
  | _ => none }
def tableSaysRow : OpenClaim := { program := "ytjamlmklnkckgaa", sum := "2042ada111f138c6db377778562cb17f56488a43e54cbb694308e9a1ff8ee9b4", func := "marlinspike/marlinspikelaw.TableSays", spec := "tableSays", unfollowed := true, recurses := true, apart := false }
def TableSaysSaid : Prop := tableSaysRow.holds Try.pinned (OpenSpec.ofChange tableSaysSpec)

/-- ITS FALSE NEIGHBOUR: 'it returns false'. Refute it at one input. -/
def tableSaysWrong : ChangeSpec := { name := "tableSays", fn := fun _ => fun
  | [d1, d2, d3, d4] => { results := [.lit (.bool false)], args := [d1, d2, d3, d4] }
  | _ => none }
def TableSaysWrongFalsely : Prop := tableSaysRow.holds Try.pinned (OpenSpec.ofChange tableSaysWrong)

/-- 'marlinspiketop.TopHash': WHATEVER THE INPUT: true; the input reads as it did. -/
def topHashSpec : ChangeSpec := { name := "topHash", fn := fun _ => fun
  | [d1, d2] => { results := [.lit (.bool true)], args := [d1, d2] }
  | _ => none }
def topHashRow : OpenClaim := { program := "ytjamlmklnkckgaa", sum := "2042ada111f138c6db377778562cb17f56488a43e54cbb694308e9a1ff8ee9b4", func := "marlinspike/marlinspiketop.TopHash", spec := "topHash", apart := false }
def TopHashSaid : Prop := topHashRow.holds Try.pinned (OpenSpec.ofChange topHashSpec)

/-- ITS FALSE NEIGHBOUR: 'it returns false'. Refute it at one input. -/
def topHashWrong : ChangeSpec := { name := "topHash", fn := fun _ => fun
  | [d1, d2] => { results := [.lit (.bool false)], args := [d1, d2] }
  | _ => none }
def TopHashWrongFalsely : Prop := topHashRow.holds Try.pinned (OpenSpec.ofChange topHashWrong)

/-- 'marlinspiketop.TopTable': WHATEVER THE INPUT: true; the input reads as it did. -/
def topTableSpec : ChangeSpec := { name := "topTable", fn := fun _ => fun
  | [d1, d2, d3] => { results := [.lit (.bool true)], args := [d1, d2, d3] }
  | _ => none }
def topTableRow : OpenClaim := { program := "ytjamlmklnkckgaa", sum := "2042ada111f138c6db377778562cb17f56488a43e54cbb694308e9a1ff8ee9b4", func := "marlinspike/marlinspiketop.TopTable", spec := "topTable", unfollowed := true, recurses := true, apart := false }
def TopTableSaid : Prop := topTableRow.holds Try.pinned (OpenSpec.ofChange topTableSpec)

/-- ITS FALSE NEIGHBOUR: 'it returns false'. Refute it at one input. -/
def topTableWrong : ChangeSpec := { name := "topTable", fn := fun _ => fun
  | [d1, d2, d3] => { results := [.lit (.bool false)], args := [d1, d2, d3] }
  | _ => none }
def TopTableWrongFalsely : Prop := topTableRow.holds Try.pinned (OpenSpec.ofChange topTableWrong)

/-- 'marlinspikelaw.FilesSays': WHATEVER THE INPUT: true; the input reads as it did. -/
def filesSaysSpec : ChangeSpec := { name := "filesSays", fn := fun _ => fun
  | [d] => { results := [.lit (.bool true)], args := [d] }
  | _ => none }
def filesSaysRow : OpenClaim := { program := "ytjamlmklnkckgaa", sum := "2042ada111f138c6db377778562cb17f56488a43e54cbb694308e9a1ff8ee9b4", func := "marlinspike/marlinspikelaw.FilesSays", spec := "filesSays", recurses := true, apart := false }
def FilesSaysSaid : Prop := filesSaysRow.holds Try.pinned (OpenSpec.ofChange filesSaysSpec)

/-- ITS FALSE NEIGHBOUR: 'it returns false'. Refute it at one input. -/
def filesSaysWrong : ChangeSpec := { name := "filesSays", fn := fun _ => fun
  | [d] => { results := [.lit (.bool false)], args := [d] }
  | _ => none }
def FilesSaysWrongFalsely : Prop := filesSaysRow.holds Try.pinned (OpenSpec.ofChange filesSaysWrong)

/-- 'marlinspiketop.TopStamp': WHATEVER THE INPUT: true; the input reads as it did. -/
def topStampSpec : ChangeSpec := { name := "topStamp", fn := fun _ => fun
  | [d1, d2, d3] => { results := [.lit (.bool true)], args := [d1, d2, d3] }
  | _ => none }
def topStampRow : OpenClaim := { program := "ytjamlmklnkckgaa", sum := "2042ada111f138c6db377778562cb17f56488a43e54cbb694308e9a1ff8ee9b4", func := "marlinspike/marlinspiketop.TopStamp", spec := "topStamp", recurses := true, apart := false }
def TopStampSaid : Prop := topStampRow.holds Try.pinned (OpenSpec.ofChange topStampSpec)

/-- ITS FALSE NEIGHBOUR: 'it returns false'. Refute it at one input. -/
def topStampWrong : ChangeSpec := { name := "topStamp", fn := fun _ => fun
  | [d1, d2, d3] => { results := [.lit (.bool false)], args := [d1, d2, d3] }
  | _ => none }
def TopStampWrongFalsely : Prop := topStampRow.holds Try.pinned (OpenSpec.ofChange topStampWrong)

/-- 'marlinspiketop.TopFind': WHATEVER THE INPUT: true; the input reads as it did. -/
def topFindSpec : ChangeSpec := { name := "topFind", fn := fun _ => fun
  | [d1, d2] => { results := [.lit (.bool true)], args := [d1, d2] }
  | _ => none }
def topFindRow : OpenClaim := { program := "ytjamlmklnkckgaa", sum := "2042ada111f138c6db377778562cb17f56488a43e54cbb694308e9a1ff8ee9b4", func := "marlinspike/marlinspiketop.TopFind", spec := "topFind", apart := false }
def TopFindSaid : Prop := topFindRow.holds Try.pinned (OpenSpec.ofChange topFindSpec)

/-- ITS FALSE NEIGHBOUR: 'it returns false'. Refute it at one input. -/
def topFindWrong : ChangeSpec := { name := "topFind", fn := fun _ => fun
  | [d1, d2] => { results := [.lit (.bool false)], args := [d1, d2] }
  | _ => none }
def TopFindWrongFalsely : Prop := topFindRow.holds Try.pinned (OpenSpec.ofChange topFindWrong)

/- THE SECOND FORM. 'bulk': how many values and letters a reading holds, each counted each time it is reached (what is shared counts as often as it is met; a slice's spare places count too). A statement '..UptoSaid' is the law's where the arguments, and the package variables that the reading takes, are together of bulk at most 1048576: NARROWER than '..Said'. Prove '..Said' where nothing that the law and all that it calls make is longer than what came in: it says more and counts as full. Else prove '..UptoSaid'. A law counts once. -/
mutual
def uptoBulk {H : Type} : DataW H → Nat
  | .lit (.string bytes) => bytes.length + 1
  | .lit _ => 1
  | .nil => 1
  | .ptr d => uptoBulk d + 1
  | .slice elems spare => uptoBulkAll elems + uptoBulkAll spare + 1
  | .agg parts => uptoBulkAll parts + 1
  | .iface _ d => uptoBulk d + 1
  | .map entries => uptoBulkEntries entries + 1
  | .held _ => 1
def uptoBulkAll {H : Type} : List (DataW H) → Nat
  | [] => 0
  | d :: r => uptoBulk d + uptoBulkAll r
def uptoBulkEntries {H : Type} : List (Lit × DataW H) → Nat
  | [] => 0
  | x :: r => uptoBulkEntry x + uptoBulkEntries r
def uptoBulkEntry {H : Type} : Lit × DataW H → Nat
  | (.string bytes, d) => bytes.length + uptoBulk d + 1
  | (_, d) => uptoBulk d + 1
 end
def uptoSmall : (H : Type) → List (DataW H) → Bool := fun _ ds => decide (uptoBulkAll ds ≤ 1048576)
def OpenSpec.upto (s : _root_.Go.ChangeSpec) : _root_.Go.OpenSpec := { _root_.Go.OpenSpec.ofChange s with cond := some uptoSmall }

/-- 'marlinspikelaw.NameSays', WHERE WHAT IT READS IS OF BULK AT MOST 1048576: true; the input reads as it did. -/
def nameSaysUptoRow : OpenClaim := { program := "ytjamlmklnkckgaa", sum := "2042ada111f138c6db377778562cb17f56488a43e54cbb694308e9a1ff8ee9b4", func := "marlinspike/marlinspikelaw.NameSays", spec := "nameSays", apart := false, narrowed := true }
def NameSaysUptoSaid : Prop := nameSaysUptoRow.holds Try.pinned (OpenSpec.upto nameSaysSpec)

/-- 'marlinspikelaw.TableSays', WHERE WHAT IT READS IS OF BULK AT MOST 1048576: true; the input reads as it did. -/
def tableSaysUptoRow : OpenClaim := { program := "ytjamlmklnkckgaa", sum := "2042ada111f138c6db377778562cb17f56488a43e54cbb694308e9a1ff8ee9b4", func := "marlinspike/marlinspikelaw.TableSays", spec := "tableSays", unfollowed := true, recurses := true, apart := false, narrowed := true }
def TableSaysUptoSaid : Prop := tableSaysUptoRow.holds Try.pinned (OpenSpec.upto tableSaysSpec)

/-- 'marlinspiketop.TopHash', WHERE WHAT IT READS IS OF BULK AT MOST 1048576: true; the input reads as it did. -/
def topHashUptoRow : OpenClaim := { program := "ytjamlmklnkckgaa", sum := "2042ada111f138c6db377778562cb17f56488a43e54cbb694308e9a1ff8ee9b4", func := "marlinspike/marlinspiketop.TopHash", spec := "topHash", apart := false, narrowed := true }
def TopHashUptoSaid : Prop := topHashUptoRow.holds Try.pinned (OpenSpec.upto topHashSpec)

/-- 'marlinspiketop.TopTable', WHERE WHAT IT READS IS OF BULK AT MOST 1048576: true; the input reads as it did. -/
def topTableUptoRow : OpenClaim := { program := "ytjamlmklnkckgaa", sum := "2042ada111f138c6db377778562cb17f56488a43e54cbb694308e9a1ff8ee9b4", func := "marlinspike/marlinspiketop.TopTable", spec := "topTable", unfollowed := true, recurses := true, apart := false, narrowed := true }
def TopTableUptoSaid : Prop := topTableUptoRow.holds Try.pinned (OpenSpec.upto topTableSpec)

/-- 'marlinspikelaw.FilesSays', WHERE WHAT IT READS IS OF BULK AT MOST 1048576: true; the input reads as it did. -/
def filesSaysUptoRow : OpenClaim := { program := "ytjamlmklnkckgaa", sum := "2042ada111f138c6db377778562cb17f56488a43e54cbb694308e9a1ff8ee9b4", func := "marlinspike/marlinspikelaw.FilesSays", spec := "filesSays", recurses := true, apart := false, narrowed := true }
def FilesSaysUptoSaid : Prop := filesSaysUptoRow.holds Try.pinned (OpenSpec.upto filesSaysSpec)

/-- 'marlinspiketop.TopStamp', WHERE WHAT IT READS IS OF BULK AT MOST 1048576: true; the input reads as it did. -/
def topStampUptoRow : OpenClaim := { program := "ytjamlmklnkckgaa", sum := "2042ada111f138c6db377778562cb17f56488a43e54cbb694308e9a1ff8ee9b4", func := "marlinspike/marlinspiketop.TopStamp", spec := "topStamp", recurses := true, apart := false, narrowed := true }
def TopStampUptoSaid : Prop := topStampUptoRow.holds Try.pinned (OpenSpec.upto topStampSpec)

/-- 'marlinspiketop.TopFind', WHERE WHAT IT READS IS OF BULK AT MOST 1048576: true; the input reads as it did. -/
def topFindUptoRow : OpenClaim := { program := "ytjamlmklnkckgaa", sum := "2042ada111f138c6db377778562cb17f56488a43e54cbb694308e9a1ff8ee9b4", func := "marlinspike/marlinspiketop.TopFind", spec := "topFind", apart := false, narrowed := true }
def TopFindUptoSaid : Prop := topFindUptoRow.holds Try.pinned (OpenSpec.upto topFindSpec)

end Rows
end Go.Proofs.Ytjamlmklnkckgaa
