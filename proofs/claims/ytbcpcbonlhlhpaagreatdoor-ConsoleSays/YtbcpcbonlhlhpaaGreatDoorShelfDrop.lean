/- What a kept entry is worth, in plain words: it was made of -/
import Derived.Test.YtbcpcbonlhlhpaaGreatDoorPlainMade
set_option maxRecDepth 100000
set_option maxHeartbeats 8000000
namespace Go.Proofs.YtbcpcbonlhlhpaaGreatDoor
section
open Go.RowKit Go.Maps
structure Since(D0:DataW Unit)(k0:Nat)(D:DataW Unit)(k:Nat):Prop where
 le:k0<=k
 was:∀x t n,Maps.has D (keyB x)=true->D.atKey (keyB x) (z1s [] 0)=z1s t n->n<=(k0:Int)->Maps.has D0 (keyB x)=true/\D0.atKey (keyB x) (z1s [] 0)=z1s t n
theorem Since.refl(D:DataW Unit)(k:Nat):Since D k D k:=⟨Nat.le_refl _,fun _ _ _ h ha _=>⟨h,ha⟩⟩
theorem Since.put{D0 D:DataW Unit}{k0 k:Nat}{s:ByteArray}{t:List UInt8}(hI:Inv D k)(h:Since D0 k0 D k):Since D0 k0 (D.put (keyB s) (z1s t ((k:Int)+1))) (k+1):=⟨Nat.le_succ_of_le h.le,fun x t' n hx ha hn=>by
 by_cases e:x=s
 ·subst e;rw[atKey_put_same hI.tidy.isMap (z4p x)]at ha;have:=z4L ha;have:=h.le;omega
 ·rw[has_put_other (fun q=>e (z2A q))]at hx;rw[atKey_put_other (fun q=>e (z2A q))]at ha;exact h.was x t' n hx ha hn⟩
theorem Since.del{D0 D:DataW Unit}{k0 k:Nat}{s:ByteArray}(h:Since D0 k0 D k):Since D0 k0 (D.del (keyB s)) k:=⟨h.le,fun x t' n hx ha hn=>by
 by_cases e:x=s
 ·subst e;rw[has_del_same]at hx;cases hx
 ·rw[has_del_other (fun q=>e (z2A q))]at hx;rw[atKey_del_other (fun q=>e (z2A q))]at ha;exact h.was x t' n hx ha hn⟩
structure Made(D:DataW Unit)(k:Nat)(e:EntF)(D0:DataW Unit)(k0:Nat)(T0:ByteArray->ByteArray)(S0:ByteArray->Int)(m:Nat)(B:Nat->Int)(P Q:ByteArray->Int):Prop where
 since:Since D0 k0 D k
 inv:Inv D0 k0
 texts:z4C D0 T0
 stamps:z3q D0 S0
 reck:z0Z (rdD D0 T0) e.root m B P Q
 same:z2H e (z4t (rdD D0 T0) S0 e.root m B (z0l (rdD D0 T0) e.root m B P Q))
def Held(D:DataW Unit)(k:Nat)(e:EntF):Prop:=∃D0 k0 T0 S0 m B P Q,Made D k e D0 k0 T0 S0 m B P Q
theorem Held.step{D D':DataW Unit}{k k':Nat}{e:EntF}(h:Held D k e)(f:∀D0 k0,Since D0 k0 D k->Since D0 k0 D' k'):Held D' k' e:=by
 obtain⟨D0,k0,T0,S0,m,B,P,Q,h⟩:=h;exact⟨D0,k0,T0,S0,m,B,P,Q,{h with since:=f _ _ h.since}⟩
theorem any_false{f:Nat->Bool}{n:Nat}(h:z0H f n=false):∀i,i<n->f i=false:=by
 induction n with
 |zero=>intro i hi;omega
 |succ n ih=>
  intro i hi;simp only[z0H,Bool.or_eq_false_iff]at h;by_cases e:i=n
  ·subst e;exact h.2
  ·exact ih h.1 i (by omega)
theorem ofIs_read{rd:ByteArray->Nat×ObjF}{root:ByteArray}{F m:Nat}(h:OfIs rd root F m)(hF:F=0):z5L rd root m:=by
 cases h with
 |bad i h hi hf=>exact absurd hF hf
 |ok i h hi=>exact h
theorem Made.reads{D:DataW Unit}{k:Nat}{e:EntF}{D0:DataW Unit}{k0:Nat}{T0:ByteArray->ByteArray}{S0:ByteArray->Int}{m:Nat}{B:Nat->Int}{P Q:ByteArray->Int}(h:Made D k e D0 k0 T0 S0 m B P Q){T:ByteArray->ByteArray}{S:ByteArray->Int}(hI:Inv D k)(hT:z4C D T)(hS:z3q D S)(hst:z0R D S (nmAt (rdD D0 T0) e.root) (fun j=>S0 (nmAt (rdD D0 T0) e.root j)) m=false) :
 ∀j,j<m->rdD D T (nmAt (rdD D0 T0) e.root j)=rdD D0 T0 (nmAt (rdD D0 T0) e.root j):=by
 intro j hj;have h1:=any_false hst j hj;simp only[Bool.not_eq_false',Bool.and_eq_true,decide_eq_true_eq]at h1;obtain⟨hh,hs⟩:=h1;have hrd:=(ofIs_read h.reck.of rfl j hj).2;generalize nmAt (rdD D0 T0) e.root j=x at *;obtain⟨n,hn⟩:=texts_at hI hT hh;have hn1:n=S0 x:=(hS.is x _ n hh hn).trans hs;have h0:Maps.has D0 (keyB x)=true->n<=(k0:Int):=fun h2=>by
  obtain⟨t,n',ha,hle⟩:=h.inv.st _ h2;have:=h.stamps.is x t n' h2 ha;omega
 by_cases h2:Maps.has D0 (keyB x)=true
 ·obtain⟨_,ha⟩:=h.since.was x _ n hh hn (h0 h2);have ht:=h.texts.is x (T x) n h2 ha;unfold rdD;rw[if_pos hh,if_pos h2,ht]
 ·rw[show rdD D0 T0 x=(5,z0d) by unfold rdD;rw[if_neg h2]]at hrd;cases hrd
theorem Held.new{D:DataW Unit}{k:Nat}{T:ByteArray->ByteArray}{S:ByteArray->Int}{root:ByteArray}{m:Nat}{B:Nat->Int}{P Q:ByteArray->Int}(hI:Inv D k)(hT:z4C D T)(hS:z3q D S)(h:z0Z (rdD D T) root m B P Q):Held D k (z4t (rdD D T) S root m B (z0l (rdD D T) root m B P Q)):=
 ⟨D,k,T,S,m,B,P,Q,Since.refl D k,hI,hT,hS,h,z2H.refl _⟩
end
section
open Go.RowKit
theorem drop_any(w:World)(B p n g:Nat)(s:DSt)(E:Nat->EntF)(k:Nat)(root:ByteArray)(h:Disk w B p n s)(hS:z0X s n E k)(hg:z0T w g p)(hE:Env w) :
 Calls Tryz.prog 105 #[.pointer (some ⟨g,0,none⟩),.string root] w fun e w'=>∃s',ShPut s n E k (z2F E k root) s' e/\Disk w' B p n s'/\Spun B w w':=by
 have hB:=h.base;have HE:=z4G w B p n g s E k h hS hg hE;go_enter Tryz.func105,Tryz.ntmps105;go_wp2_with fail;refine(show Calls _ _ _ _ _ from HE).mono ?_;rintro e w1 ⟨vl,V,E',rfl,hEO,hSm,hb1⟩;clear HE;obtain⟨a,c,rfl,hRow⟩:=hEO.ents;have hk3:=hS.good.few;have HF:=z4n a k c V E' root w1 (by omega) hRow;have efind:findF E' root k 0=findF E root k 0:=z6g (fun i hi=>(hSm i hi).root) _ 0 rfl;rw[efind]at HF;have hGood:z1M E' k:=hS.good.same fun i hi=>(hSm i hi).symm
 clear efind;go_wp2_with fail;refine(show Calls _ _ _ _ _ from HF).mono ?_;rintro e w2 ⟨rfl,hb2⟩;clear HF;have hbB:=hb1.trans (hb2.mono hb1.size);have hEO2:=hEO.later (Nat.zero_le _) hb2;clear hEO hRow;by_cases hneg:findF E root k 0<0
 ·have HEND:ShPut s n E k (z2F E k root) s (.returned (errV 5)):=by
   have e:=dropE_none hneg;have:=ShPut.bad (s:=s) (n:=n) (E:=E) (k:=k) (r:=z2F E k root) (s':=s) (by rw[e];exact(by decide:(5:Nat)≠0)) rfl;rw[e]at this ⊢;exact this
  generalize findF E root k 0=f at *;go_wp2;go_ret;exact⟨s,HEND,h.later hbB,Spun.of hB hbB⟩
 ·obtain⟨j,_,hj,_,hfj⟩:=z2i _ 0 rfl (show 0<=findF E root k 0 by omega);have HP:Hid (z2F E k root=(0,cutV E j,k-1)):=dropE_cut hfj;rw[hfj];obtain⟨m,rfl⟩:∃m,k=m+1:=⟨k-1,by omega⟩;obtain⟨ga,ca,hv⟩:=ownsRow_succ hEO2.row;cases hv;have HDel:=entDelete_any w2 w.heap.size ga m c j V E' hEO2 (by omega) (by omega);have hG2:z1M (cutV E' j) m:=by
   have:=cut_ok hGood hj;rw[Nat.add_sub_cancel]at this;exact this
  rw[Nat.add_sub_cancel]at HP;have hsame:∀i,i<m->z2H (cutV E' j i) (cutV E j i):=fun i hi=>by
   unfold cutV;split
   ·exact hSm i (by omega)
   ·exact hSm (i+1) (by omega)
  clear hneg hfj hEO2;go_wp2_with fail;refine(show Calls _ _ _ _ _ from HDel).mono ?_;rintro e w3 ⟨rfl,hEO3,hb3⟩;clear HDel;have hb4:=hbB.trans hb3;obtain⟨a3,c3,hv3,hRow3⟩:=hEO3.ents;cases hv3;have HKE:=keep_any w3 B p n g s E (m+1) (some ⟨ga,0,none⟩) c _ _ m (h.later hb4) hS (hg.later hb4) (hE.later hb4) hRow3 hG2;clear hEO3 hRow3;go_wp2_with fail;refine(show Calls _ _ _ _ _ from HKE).mono ?_;rintro e w6 ⟨s',hKE,hD6,hS6⟩;have HEND:ShPut s n E (m+1) (z2F E (m+1) root) s' e:=by rw[HP.out];exact .keep e rfl (hKE.same hsame)
  clear HKE;cases hKE with
  |ok _ _=>
   go_wp2;go_ret;exact⟨s',HEND,hD6,(Spun.of hB hb4).trans hS6⟩
  |fell _ _=>
   go_wp2;go_ret;exact⟨s',HEND,hD6,(Spun.of hB hb4).trans hS6⟩
end
end Go.Proofs.YtbcpcbonlhlhpaaGreatDoor
