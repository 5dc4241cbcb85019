/- Slices that came in, opened: a row of numbers, a row of -/
import Derived.Test.YtbcpcbonlhlhpaaGreatDoorCheckSmall
import Derived.Deep.Slices
import Derived.Deep.Strs
import Derived.ChangeSlices
namespace Go.Proofs.YtbcpcbonlhlhpaaGreatDoor
open Go.RowKit Go.Deep Go.ChangeShapes Go.WideShapes
theorem rowAt_of_adds{w:World}{x:Addr}{n:Nat}{f:Nat->Value}(h:∀i,i<n->w.cell? (x.add i)=some (f i)):z1z w (some x) n f:=by
 by_cases h0:n=0
 ·exact .inl h0
 ·obtain⟨b,o,sp⟩:=x;have hc:=h 0 (by omega);have hsp:sp=none:=by simpa[Addr.add]using World.cell?_spot hc
  subst hsp;refine .inr ⟨b,o,rfl,fun i hi=>?_⟩;have:=h i hi;cases i with
  |zero=>simpa[Addr.add]using this
  |succ i=>simpa[Addr.add]using this
section
variable {H:Type} {enc:TypeId×Value->H} {P:Program} {w:World} {base:Nat} {held:Bool}
theorem open_row_strs{t e:TypeId}{fuel:Nat}{a:Option Addr}{n c:Nat}{x:DataW H×List MemPlace}(ht:P.underlying t=some (.slice e))(he:P.underlying e=some .string)(hc:P.cellsOf e=1)
 (h:DataW.trod enc P w base (fun _=>true) held fuel t [.slice a n c]=some x) :
 ∃f:Nat->ByteArray,z1z w a n (fun i=>.string (f i))/\n<=maxLen/\∀i,i<n->(f i).size<=maxLen:=by
 rcases open_strs ht he hc h with⟨hcs,_⟩|⟨y,l,cc,m,Sx,hcs,_,hl,hm,hmm,_,hx⟩
 ·simp at hcs;obtain⟨rfl,rfl,rfl⟩:=hcs;exact⟨fun _=>ByteArray.empty,.inl rfl,Nat.zero_le _,fun i hi=>by omega⟩
 ·simp at hcs;obtain⟨rfl,rfl,rfl⟩:=hcs;simp at hmm;exact⟨Sx,rowAt_of_adds (fun i hi=>(hx i (by omega)).1),by omega,fun i hi=>(hx i (by omega)).2⟩
end
end Go.Proofs.YtbcpcbonlhlhpaaGreatDoor
