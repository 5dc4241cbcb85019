/- What read and join of package scope return, for every file, -/
import Derived.Test.YtbcpcbonlhlhpaaGreatDoorPlainTop
import Derived.Test.YtbcpcbonlhlhpaaGreatDoorFilesAgree
import Derived.Maps.AppendAt
import Derived.Maps.Range
set_option maxRecDepth 100000
set_option maxHeartbeats 4000000
namespace Go.Proofs.YtbcpcbonlhlhpaaGreatDoor
open Go.RowKit Go.Maps
theorem z2A {x y:ByteArray}(h:keyB x=keyB y):x=y:=by
 injection h with h;exact WideShapes.bytes_inj h
structure z4C (D:DataW Unit)(T:ByteArray->ByteArray):Prop where
 is:∀s t n,Maps.has D (keyB s)=true->D.atKey (keyB s) (z1s [] 0)=z1s t.data.toList n->t=T s
theorem fileD_txt{t t':List UInt8}{n n':Int}(h:z1s t n=z1s t' n'):t=t':=by
 simp[z1s]at h;exact h.1
theorem texts_some(D:DataW Unit):∃T,z4C D T:=by
 have h:∀s:ByteArray,∃T:ByteArray,∀t n,D.atKey (keyB s) (z1s [] 0)=z1s t.data.toList n->t=T:=fun s=>by
  by_cases e:∃t:ByteArray,∃n,D.atKey (keyB s) (z1s [] 0)=z1s t.data.toList n
  ·obtain⟨t,n,e⟩:=e;exact⟨t,fun t' n' e'=>WideShapes.bytes_inj (fileD_txt (e'.symm.trans e))⟩
  ·exact⟨⟨#[]⟩,fun t n e'=>absurd ⟨t,n,e'⟩ e⟩
 obtain⟨T,hT⟩:=Classical.axiomOfChoice h;exact⟨T,⟨fun s t n _ e=>hT s t n e⟩⟩
def rdD(D:DataW Unit)(T:ByteArray->ByteArray)(s:ByteArray):Nat×ObjF:=if Maps.has D (keyB s)=true then z0k (T s)else(5,z0d)
theorem has_few{D:DataW Unit}(hD:Tidy D):∀l:List ByteArray,l.Nodup->(∀s,s∈l->Maps.has D (keyB s)=true)->l.length<=Maps.size D:=by
 intro l
 induction l generalizing D with
 |nil=>intro _ _;exact Nat.zero_le _
 |cons s l ih=>
  intro hn hh;rw[List.nodup_cons]at hn;have h1:=ih (hD.del (keyB s)) hn.2 (fun x hx=>by
   rw[has_del_other (fun e=>hn.1 (by rw[<-z2A e];exact hx))];exact hh x (List.mem_cons_of_mem _ hx))
  have h2:=size_del (k:=keyB s) hD;rw[if_pos (hh s (List.mem_cons_self ..))]at h2;simp only[List.length_cons];omega
theorem z6y {D:DataW Unit}{k:Nat}{T:ByteArray->ByteArray}(hI:Inv D k):∀l:List ByteArray,l.Nodup->(∀s,s∈l->(rdD D T s).1=0)->l.length<=6:=fun l hn h=>
 Nat.le_trans (has_few hI.tidy l hn fun s hs=>by
  have:=h s hs;unfold rdD at this;split at this
  ·assumption
  ·cases this) hI.size
theorem parse_zero{s:ByteArray}(h:(z0k s).1=0):z3J (z0k s).2:=objOk (z6Q (parse_back h).1).1
theorem rd_ok{D:DataW Unit}{T:ByteArray->ByteArray}{s:ByteArray}(h:(rdD D T s).1=0):z3J (rdD D T s).2:=by
 unfold rdD at h ⊢;split
 ·rename_i hh;rw[if_pos hh]at h;exact parse_zero h
 ·rename_i hh;rw[if_neg hh]at h;cases h
theorem scopeRead_any(w:World)(p bm:Nat)(D:DataW Unit)(k:Nat)(T:ByteArray->ByteArray)(s:ByteArray)(h:z0q w p bm D k)(hT:z4C D T)(hE:Env w)(hs:s.size<=maxLen) :
 Calls Tryz.prog 239 #[.pointer (some ⟨p,0,none⟩),.string s] w fun e w'=>(∃v:ObjV,e=.returned (.tuple #[.agg (v.cells (rdD D T s).2),errV (rdD D T s).1])/\z1C w' v (rdD D T s).2/\z2Q w.heap.size v (rdD D T s).2)/\Below w.heap.size w w':=by
 have hx:Below w.heap.size w (w.alloc (.cells #[.slice none 0 0,.slice none 0 0,.slice none 0 0,.slice none 0 0] 56)):=(Below.refl _ _).alloc (Nat.le_refl _) _;have HR:=z4b (w.alloc (.cells #[.slice none 0 0,.slice none 0 0,.slice none 0 0,.slice none 0 0] 56)) p bm D k s (h.later hx) hs;have hE1:=hE.later hx;have hR0:(w.alloc (.cells #[.slice none 0 0,.slice none 0 0,.slice none 0 0,.slice none 0 0] 56)).heap[w.heap.size]?=some (.cells #[.slice none 0 0,.slice none 0 0,.slice none 0 0,.slice none 0 0] 56 (0,0)):=by
  show(w.heap.push _)[w.heap.size]?=_;rw[Array.getElem?_push_size]
 have hlt:w.heap.size<(w.alloc (.cells #[.slice none 0 0,.slice none 0 0,.slice none 0 0,.slice none 0 0] 56)).heap.size:=by simp
 go_enter Tryz.func239,Tryz.ntmps239;go_wp2_with fail;generalize w.alloc (.cells #[.slice none 0 0,.slice none 0 0,.slice none 0 0,.slice none 0 0] 56)=w0 at *;refine HR.mono ?_;rintro e w1 ⟨⟨t,n,f,rfl,hR⟩,hb1⟩;clear HR;have hb2:=hx.trans (hb1.mono hx.size);have hR1:w1.heap[w.heap.size]?=some (.cells #[.slice none 0 0,.slice none 0 0,.slice none 0 0,.slice none 0 0] 56 (0,0)):=(hb1.block _ hlt).trans hR0;have hE2:=hE1.later hb1;have hl2:w.heap.size<w1.heap.size:=Nat.lt_of_lt_of_le hlt hb1.size;cases hh:Maps.has D (keyB s)with
 |false=>
  obtain⟨rfl,rfl,rfl⟩:=hR.no hh;have HQ:Hid (rdD D T s=(5,z0d)):=by
   show rdD D T s=_;unfold rdD;rw[if_neg (by simp[hh])]
  have q0:w1.cell? ⟨w.heap.size,0,none⟩=some (.slice none 0 0):=by simp[World.cell?,hR1]
  have q1:w1.cell? ⟨w.heap.size,1,none⟩=some (.slice none 0 0):=by simp[World.cell?,hR1]
  have q2:w1.cell? ⟨w.heap.size,2,none⟩=some (.slice none 0 0):=by simp[World.cell?,hR1]
  have q3:w1.cell? ⟨w.heap.size,3,none⟩=some (.slice none 0 0):=by simp[World.cell?,hR1]
  have q4:∀i,w1.frozen? ⟨w.heap.size,i,none⟩=false:=fun i=>by simp[World.frozen?,hR1]
  have hY:=z0F hb2 (Nat.le_refl w.heap.size) (.slice none 0 0) (.slice none 0 0) (.slice none 0 0) (.slice none 0 0);have q5:errV 5=.iface 43 (.int .i64 5):=rfl;rw[q5];clear hR hh hR1 hR0 hE1 hE2 h hb1 hx q5;go_wp2;refine bodyPost_ret (v:=.tuple #[.agg #[.slice none 0 0,.slice none 0 0,.slice none 0 0,.slice none 0 0],.iface 43 (.int .i64 5)]) (by simp[results,Tryz.results239,go_sem,q0,q1,q2,q3]) rfl ?_;rw[HQ.out];exact⟨⟨noV,rfl,z4l _,z2Y _⟩,hY⟩
 |true=>
  obtain⟨rfl,ht⟩:=hR.yes hh;obtain rfl:=hT.is s t n hh ht;have HQ:Hid (rdD D T s=z0k (T s)):=by
   show rdD D T s=_;unfold rdD;rw[if_pos hh]
  have HP:=parse_new (T s) w1 hE2;have q5:errV 0=.nilIface:=rfl;rw[q5];clear hR hh hR0 hE1 hE2 h hx q5 ht;go_wp2_with fail;refine HP.mono ?_;rintro e w2 ⟨⟨v,rfl,hA,hNw⟩,hb3⟩;have hR2:w2.heap[w.heap.size]?=some (.cells #[.slice none 0 0,.slice none 0 0,.slice none 0 0,.slice none 0 0] 56 (0,0)):=(hb3.block _ hl2).trans hR1;have hb4:=hb2.trans (hb3.mono hb2.size);have q0:w2.cell? ⟨w.heap.size,0,none⟩=some (.slice none 0 0):=by simp[World.cell?,hR2]
  have q1:w2.cell? ⟨w.heap.size,1,none⟩=some (.slice none 0 0):=by simp[World.cell?,hR2]
  have q2:w2.cell? ⟨w.heap.size,2,none⟩=some (.slice none 0 0):=by simp[World.cell?,hR2]
  have q3:w2.cell? ⟨w.heap.size,3,none⟩=some (.slice none 0 0):=by simp[World.cell?,hR2]
  have q4:∀i,w2.frozen? ⟨w.heap.size,i,none⟩=false:=fun i=>by simp[World.frozen?,hR2]
  obtain⟨F,hF⟩:∃F,(z0k (T s)).2=F:=⟨_,rfl⟩;obtain⟨ev,hEv⟩:∃ev,errV (z0k (T s)).1=ev:=⟨_,rfl⟩;have HF:Hid ((z0k (T s)).2=F):=hF;have HEv:Hid (errV (z0k (T s)).1=ev):=hEv;rw[hF]at hA hNw ⊢;rw[hEv];obtain⟨aN,cN,aW,cW,aS,cS,aT,cT⟩:=v;have hY:=z0F hb4 (Nat.le_refl w.heap.size) (.slice aN F.nN cN) (.slice aW F.nW cW) (.slice aS F.nS cS) (.slice aT F.nT cT);have hAY:=hA.store4 hR2 aN F.nN cN aW F.nW cW aS F.nS cS aT F.nT cT;unfold ObjV.cells;clear hR2 hA hb4 hb3 hb2 HP hF hEv hR1 hb1;go_wp2;refine bodyPost_ret (v:=.tuple #[.agg #[.slice aN F.nN cN,.slice aW F.nW cW,.slice aS F.nS cS,.slice aT F.nT cT],ev]) (by simp[results,Tryz.results239,go_sem,q0,q1,q2,q3]) rfl ?_;rw[HQ.out,HF.out,HEv.out];exact⟨⟨⟨aN,cN,aW,cW,aS,cS,aT,cT⟩,rfl,hAY,hNw.lower (by omega)⟩,hY⟩
abbrev z5n (w:World)(B:Nat)(v:Value)(N:List ByteArray):Prop:=w.ownsRow B 9 1 v N.length (N.map Value.string)
theorem z3H {w:World}{B:Nat}{v:Value}{N:List ByteArray}(h:z5n w B v N):∃a c,v=.slice a N.length c/\N.length<=c/\z1z w a N.length fun i=>.string (N.getD i ⟨#[]⟩):=by
 obtain⟨a,c,rfl,hc⟩:=z0c h;refine⟨a,c,rfl,hc,?_⟩;by_cases h0:N.length=0
 ·exact .inl h0
 ·have key:∀i,i<N.length->∃g,a=some ⟨g,0,none⟩/\B<=g/\w.cell? ⟨g,i,none⟩=some (.string (N.getD i ⟨#[]⟩)):=fun i hi=>
   z0K h (by rw[List.getElem?_map,List.getElem?_eq_getElem hi,List.getD_eq_getElem?_getD,List.getElem?_eq_getElem hi];rfl)
  obtain⟨g,ha,_,_⟩:=key 0 (by omega);refine .inr ⟨g,0,ha,fun i hi=>?_⟩;obtain⟨g1,ha1,_,h1⟩:=key i hi;rw[ha]at ha1;injection ha1 with ha1;injection ha1 with ha1;subst ha1;simpa using h1
def z2M (B:Nat)(v u:Value):Prop:=u.ownBlock=v.ownBlock∨∃j,u.ownBlock=some j/\B<=j
theorem growTx{B:Nat}{w:World}{v:Value}{N:List ByteArray}(s:ByteArray)(hB:B<=w.heap.size)(h:z5n w B v N)(hn:N.length<1000000) :
 ∃v' W,(Builtin.append_ #[22,22] 22 #[v,.slice (some ⟨w.heap.size,0,none⟩) 1 1]).run Tryz.prog (w.alloc (.cells #[.string s] 9))=.ok v' W/\z5n W B v' (N++[s])/\(w.alloc (.cells #[.string s] 9)).grownBy W v.ownBlock/\z2M w.heap.size v v':=by
 have hinfo:(Tryz.prog.info? 9).map (fun i=>(i.zero,i.size,i.bytes))=some (some (.string ⟨#[]⟩),1,16):=by kernel_rfl
 obtain⟨i,hi,hzz⟩:=Option.map_eq_some_iff.1 hinfo;simp only[Prod.mk.injEq]at hzz;obtain⟨hz,hs,hb⟩:=hzz;obtain⟨v',W,h1,h2,h3,_,h5⟩:=run_append_own_at (P:=Tryz.prog) (w.alloc (.cells #[.string s] 9)) B 22 22 9 i (.string ⟨#[]⟩) 1 16 Tryz.underlying22 hi hz hs hb rfl (by decide) v N.length _ (h.alloc _) ⟨w.heap.size,0,none⟩ 1 1 [.string s] rfl
  (fun j u hj=>by
    match j,hj with
    |0,hj=>simp at hj;subst hj;simp[go_sem,Addr.add]
    |j+1,hj=>simp at hj) (fun u hu=>by simp at hu;subst hu;rfl) (by simp only[maxLen];omega) (by omega) (by simp;omega)
 refine⟨v',W,h1,?_,h3,?_⟩
 ·show W.ownsRow B 9 1 v' (N++[s]).length ((N++[s]).map Value.string);rw[List.length_append,List.map_append];exact h2
 ·rcases h5 with h5|h5
  ·exact .inl h5
  ·exact .inr ⟨_,h5,by simp⟩
theorem z1z.grown{w W:World}{a:Option Addr}{n:Nat}{f:Nat->Value}{row:Option Nat}(h:z1z w a n f)(hg:w.grownBy W row)(hs:∀b o,0<n->a=some ⟨b,o,none⟩->some b≠row):z1z W a n f:=by
 rcases h with h|⟨b,o,ha,hc⟩
 ·exact .inl h
 ·by_cases h0:n=0
  ·exact .inl h0
  ·exact .inr ⟨b,o,ha,fun i hi=>hg.cell (hc i hi) (hs b o (by omega) ha)⟩
theorem anyTo_mem{N:List ByteArray}{s:ByteArray}:z0H (fun j=>decide (N.getD j ⟨#[]⟩=s)) N.length=memB N s:=by
 have key:∀k,k<=N.length->z0H (fun j=>decide (N.getD j ⟨#[]⟩=s)) k=memB (N.take k) s:=by
  intro k
  induction k with
  |zero=>intro _;rfl
  |succ k ih=>
   intro hk;have e:N.take (k+1)=N.take k++[N[k]]:=by rw[List.take_succ_eq_append_getElem (by omega)]
   rw[e];show(z0H _ k||decide (N.getD k ⟨#[]⟩=s))=_;rw[ih (by omega),List.getD_eq_getElem?_getD,List.getElem?_eq_getElem (by omega:k<N.length)];unfold memB;rw[List.any_append];simp
 have:=key N.length (Nat.le_refl _)
 rwa [List.take_length]at this
theorem grownBy_refl(w:World)(row:Option Nat):w.grownBy w row:=⟨rfl,rfl,rfl,Nat.le_refl _,fun _ _ _=>rfl⟩
theorem join_any(w:World)(B:Nat)(v:Value)(N:List ByteArray)(aN:Option Addr)(cN:Nat)(o:ObjF)(h:z5n w B v N)(hr:z1z w aN o.nN fun i=>.string (o.needs i))(hsep:∀b f,0<o.nN->aN=some ⟨b,f,none⟩->some b≠v.ownBlock)(hB:B<=w.heap.size)(hn:N.length<=1000)(hm:o.nN<=1000) :
 Calls Tryz.prog 240 #[v,.slice aN o.nN cN] w fun e w'=>(∃v',e=.returned v'/\z5n w' B v' (z2C N (z0V o o.nN))/\z2M w.heap.size v v')/\w.grownBy w' v.ownBlock:=by
 go_enter Tryz.func240,Tryz.ntmps240;go_wp2;go_loopw [0,9] (fun x z wr=>∃(k:Nat) (u:Value),k<=o.nN/\z=.int .i64 k/\x=u/\z5n wr B u (z2C N (z0V o k))/\z2M w.heap.size v u/\w.grownBy wr v.ownBlock) (fun _ z _=>o.nN-(intOf z).toNat)
 case atStart=>exact⟨0,v,Nat.zero_le _,rfl,rfl,h,.inl rfl,grownBy_refl _ _⟩
 case round=>
  obtain⟨k,u,hk,rfl,rfl,ho,hsn,hg⟩:=hrel;have hlen:=joinL_len N (z0V o k);have hln:(z0V o k).length=k:=by simp[z0V]
  by_cases hlt:k<o.nN
  ·have hrk:=hr.grown hg hsep;rcases hrk with h0|⟨b,f,rfl,hc⟩
   ·omega
   have hck:=hc k hlt;obtain⟨au,cu,rfl,_,hru⟩:=z3H ho;have HC:=contains_any (fun i=>(z2C N (z0V o k)).getD i ⟨#[]⟩) au (z2C N (z0V o k)).length cu (o.needs k) wr (by omega) hru;rw[anyTo_mem]at HC;have hsz:B<=wr.heap.size:=Nat.le_trans hB hg.size;have hsucc:=joinL_snoc N (z0V o k) (o.needs k);rw[<-needsTo_succ]at hsucc;clear hc hru;cases hmem:memB (z2C N (z0V o k)) (o.needs k)with
   |true=>
    rw[hmem]at HC;rw[if_pos hmem]at hsucc;have ho2:z5n wr B (.slice au (z2C N (z0V o k)).length cu) (z2C N (z0V o (k+1))):=by rw[hsucc];exact ho
    clear hsucc hmem ho;go_wp2_with fail;refine HC.mono ?_;rintro e w' ⟨rfl,rfl⟩;clear HC;go_wp2;go_roundw
    case rel=>exact⟨k+1,_,by omega,by go_num,rfl,ho2,hsn,hg⟩
    case measure=>simp[intOf];omega
   |false=>
    rw[hmem]at HC;rw[if_neg (by simp[hmem])]at hsucc;obtain⟨v1,W1,happ1,hO1,hg1,hsn1⟩:=growTx (o.needs k) hsz ho (by omega);rw[<-hsucc]at hO1;have hg2:w.grownBy W1 v.ownBlock:=(hg.andThen (World.grownBy_alloc wr (.cells #[.string (o.needs k)] 9) none) (fun j hj=>by cases hj)).andThen hg1 (fun j hj=>by
     rcases hsn with e|⟨j',e,hj'⟩
     ·rw[e]at hj;exact .inr hj
     ·rw[e]at hj;injection hj with hj;subst hj;exact .inl hj')
    have hsn2:z2M w.heap.size v v1:=by
     rcases hsn1 with e|⟨j',e,hj'⟩
     ·rcases hsn with e2|⟨j2,e2,hj2⟩
      ·exact .inl (e.trans e2)
      ·exact .inr ⟨j2,e.trans e2,hj2⟩
     ·exact .inr ⟨j',e,Nat.le_trans hg.size hj'⟩
    clear hsucc hmem ho hg1 hsn1 hsn hg;go_wp2_with fail;refine HC.mono ?_;rintro e w' ⟨rfl,rfl⟩;clear HC;go_wp2_with (at_builtin;refine z0b rfl (.tmp 17) (.tmp 19) 22 rfl (.slice au (z2C N (z0V o k)).length cu) (.slice (some ⟨wr.heap.size,0,none⟩) 1 1) _ rfl rfl happ1 ?_);go_roundw
    case rel=>exact⟨k+1,v1,by omega,by go_num,rfl,hO1,hsn2,hg2⟩
    case measure=>simp[intOf];omega
  ·have e:k=o.nN:=by omega
   subst e;go_wp2;go_ret;exact⟨⟨_,rfl,ho,hsn⟩,hg⟩
end Go.Proofs.YtbcpcbonlhlhpaaGreatDoor
namespace Go.Proofs.YtbcpcbonlhlhpaaGreatDoor
open Go.RowKit
def objC(V:Nat->ObjV)(O:Nat->ObjF)(i:Nat):List Value:=[.slice (V i).aN (O i).nN (V i).cN,.slice (V i).aW (O i).nW (V i).cW,.slice (V i).aS (O i).nS (V i).cS,.slice (V i).aT (O i).nT (V i).cT]
theorem objC_len(V:Nat->ObjV)(O:Nat->ObjF)(i:Nat):(objC V O i).length=4:=rfl
abbrev z5v (B:Nat)(w:World)(v:Value)(n:Nat)(V:Nat->ObjV)(O:Nat->ObjF):Prop:=w.ownsRow B 56 4 v n (z0i (objC V O) n)
theorem objs_one{V:Nat->ObjV}{O:Nat->ObjF}{n:Nat}{u:Value}(h:u∈z0i (objC V O) n):u.oneCell'=true:=by
 obtain⟨i,_,hu⟩:=joinC_mem h;simp[objC]at hu;rcases hu with rfl|rfl|rfl|rfl <;> rfl
theorem z5v.row{B:Nat}{w:World}{v:Value}{n:Nat}{V:Nat->ObjV}{O:Nat->ObjF}(h:z5v B w v n V O)(hA:∀i,i<n->z1C w (V i) (O i)):∃a c,v=.slice a n c/\n<=c/\z3U w a n V O:=by
 obtain⟨a,c,rfl,hc⟩:=z0c h;refine⟨a,c,rfl,hc,?_⟩;by_cases h0:n=0
 ·exact .inl h0
 ·have cell:∀i k,i<n->k<4->∀u,(objC V O i)[k]?=some u->∃g,a=some ⟨g,0,none⟩/\B<=g/\w.cell? ⟨g,i*4+k,none⟩=some u:=fun i k hi hk u hu=>
   z0K h (by rw[z2G (s:=4) (fun i _=>objC_len V O i) hi hk];exact hu)
  obtain⟨g,ha,_,_⟩:=cell 0 0 (by omega) (by omega) _ rfl;refine .inr ⟨g,0,ha,fun i hi=>?_⟩;have get:∀k,k<4->∀u,(objC V O i)[k]?=some u->w.cell? ⟨g,i*4+k,none⟩=some u:=fun k hk u hu=>by
   obtain⟨g',ha',_,hc'⟩:=cell i k hi hk u hu;rw[ha]at ha';injection ha' with ha';injection ha' with ha';subst ha';exact hc'
  exact⟨by simpa using get 0 (by omega) _ rfl,by simpa using get 1 (by omega) _ rfl,by simpa using get 2 (by omega) _ rfl,by simpa using get 3 (by omega) _ rfl,hA i hi⟩
theorem owns_base{w:World}{B B':Nat}{e:TypeId}{s n:Nat}{v:Value}{xs:List Value}(h:w.ownsRow B e s v n xs)(hB:B'<=B):w.ownsRow B' e s v n xs:=by
 refine⟨h.1,?_⟩;rcases h.2 with h|⟨g,cap,cur,e1,e2,e3⟩
 ·exact .inl h
 ·exact .inr ⟨g,cap,cur,e1,Nat.le_trans hB e2,e3⟩
theorem ownObjs_nil(B:Nat)(w:World)(V:Nat->ObjV)(O:Nat->ObjF):z5v B w (.slice none 0 0) 0 V O:=World.ownsRow_nil w B 56 4
end Go.Proofs.YtbcpcbonlhlhpaaGreatDoor
namespace Go.Proofs.YtbcpcbonlhlhpaaGreatDoor
open Go.RowKit Go.Maps
def RowSep(a:Option Addr)(n:Nat)(row:Option Nat):Prop:=∀b f,0<n->a=some ⟨b,f,none⟩->some b≠row
structure z2g (v:ObjV)(o:ObjF)(row:Option Nat):Prop where
 needs:RowSep v.aN o.nN row
 words:RowSep v.aW o.nW row
 syms:RowSep v.aS o.nS row
 ties:RowSep v.aT o.nT row
theorem z7h.sep{B n:Nat}{a:Option Addr}{row:Option Nat}(h:z7h B a n)(hr:∀j,row=some j->j<B):RowSep a n row:=fun b f hn ha e=>by
 rcases h with h|⟨b',f',h1,h2⟩
 ·omega
 ·rw[ha]at h1;injection h1 with h1;injection h1 with h1;subst h1;have:=hr b e.symm;omega
theorem z2Q.sep{B:Nat}{v:ObjV}{o:ObjF}{row:Option Nat}(h:z2Q B v o)(hr:∀j,row=some j->j<B):z2g v o row:=⟨h.needs.sep hr,h.words.sep hr,h.syms.sep hr,h.ties.sep hr⟩
theorem z1C.grown{w W:World}{v:ObjV}{o:ObjF}{row:Option Nat}(h:z1C w v o)(hg:w.grownBy W row)(hs:z2g v o row):z1C W v o where
 needs:=h.needs.grown hg hs.needs
 words:=h.words.grown hg hs.words
 syms:=by
  rcases h.syms with h|⟨b,f,ha,hc⟩
  ·exact .inl h
  ·by_cases h0:o.nS=0
   ·exact .inl h0
   ·have hq:=hs.syms b f (by omega) ha;exact .inr ⟨b,f,ha,fun i hi=>⟨hg.cell (hc i hi).1 hq,hg.cell (hc i hi).2.1 hq,hg.cell (hc i hi).2.2 hq⟩⟩
 ties:=by
  rcases h.ties with h|⟨b,f,ha,hc⟩
  ·exact .inl h
  ·by_cases h0:o.nT=0
   ·exact .inl h0
   ·have hq:=hs.ties b f (by omega) ha;exact .inr ⟨b,f,ha,fun i hi=>⟨hg.cell (hc i hi).1 hq,hg.cell (hc i hi).2.1 hq,hg.cell (hc i hi).2.2.1 hq,hg.cell (hc i hi).2.2.2.1 hq,hg.cell (hc i hi).2.2.2.2 hq⟩⟩
 capN:=h.capN
 capS:=h.capS
theorem z6e {w:World}{B:Nat}{a:Option Addr}{n:Nat}{u u':Value}(hlt:∀b f,0<n->a=some ⟨b,f,none⟩->b<w.heap.size)(h:RowSep a n u.ownBlock)(hB:w.heap.size<=B)(hs:z2M B u u'):RowSep a n u'.ownBlock:=fun b f hn ha e=>by
 rcases hs with e2|⟨j,e2,hj⟩
 ·rw[e2]at e;exact h b f hn ha e
 ·rw[e2]at e;injection e with e;subst e;have:=hlt b f hn ha;omega
theorem z2g.next{w:World}{B:Nat}{v:ObjV}{o:ObjF}{u u':Value}(hA:z1C w v o)(h:z2g v o u.ownBlock)(hB:w.heap.size<=B)(hs:z2M B u u'):z2g v o u'.ownBlock where
 needs:=z6e (w:=w) (fun b f hn ha=>by
  rcases hA.needs with h|⟨b',f',h1,hc⟩
  ·omega
  ·rw[ha]at h1;injection h1 with h1;injection h1 with h1;subst h1;exact World.block_lt_of_cell? _ _ (hc 0 hn)) h.needs hB hs
 words:=z6e (w:=w) (fun b f hn ha=>by
  rcases hA.words with h|⟨b',f',h1,hc⟩
  ·omega
  ·rw[ha]at h1;injection h1 with h1;injection h1 with h1;subst h1;exact World.block_lt_of_cell? _ _ (hc 0 hn)) h.words hB hs
 syms:=z6e (w:=w) (fun b f hn ha=>by
  rcases hA.syms with h|⟨b',f',h1,hc⟩
  ·omega
  ·rw[ha]at h1;injection h1 with h1;injection h1 with h1;subst h1;exact World.block_lt_of_cell? _ _ (hc 0 hn).1) h.syms hB hs
 ties:=z6e (w:=w) (fun b f hn ha=>by
  rcases hA.ties with h|⟨b',f',h1,hc⟩
  ·omega
  ·rw[ha]at h1;injection h1 with h1;injection h1 with h1;subst h1;exact World.block_lt_of_cell? _ _ (hc 0 hn).1) h.ties hB hs
theorem growObj{B:Nat}{w:World}{x:Value}{n:Nat}{V V':Nat->ObjV}{O:Nat->ObjF}(v:ObjV)(hB:B<=w.heap.size)(h:z5v B w x n V O)(hn:n<1000)(hV:∀i,i<n->V i=V' i)(hv:V' n=v) :
 ∃x' W,(Builtin.append_ #[137,137] 137 #[x,.slice (some ⟨w.heap.size,0,none⟩) 1 1]).run Tryz.prog (w.alloc (.cells #[.slice v.aN (O n).nN v.cN,.slice v.aW (O n).nW v.cW,.slice v.aS (O n).nS v.cS,.slice v.aT (O n).nT v.cT] 56))=.ok x' W /\
  z5v B W x' (n+1) V' O/\(w.alloc (.cells #[.slice v.aN (O n).nN v.cN,.slice v.aW (O n).nW v.cW,.slice v.aS (O n).nS v.cS,.slice v.aT (O n).nT v.cT] 56)).grownBy W x.ownBlock/\z2M w.heap.size x x':=by
 have hinfo:(Tryz.prog.info? 56).map (fun i=>(i.zero,i.size,i.bytes))=some (some (.agg #[.slice none 0 0,.slice none 0 0,.slice none 0 0,.slice none 0 0]),4,96):=by kernel_rfl
 obtain⟨i,hi,hzz⟩:=Option.map_eq_some_iff.1 hinfo;simp only[Prod.mk.injEq]at hzz;obtain⟨hz,hs,hb⟩:=hzz;obtain⟨x',W,h1,h2,h3,_,h5⟩:=run_append_own_at (P:=Tryz.prog) (w.alloc (.cells #[.slice v.aN (O n).nN v.cN,.slice v.aW (O n).nW v.cW,.slice v.aS (O n).nS v.cS,.slice v.aT (O n).nT v.cT] 56)) B 137 137 56 i _ 4 96 Tryz.underlying137 hi hz hs hb rfl (by decide) x n _ (h.alloc _) ⟨w.heap.size,0,none⟩ 1 1 (objC V' O n) rfl
  (fun j u hj=>by
    simp only[objC,hv]at hj
    match j,hj with
    |0,hj=>simp at hj;subst hj;simp[go_sem,Addr.add]
    |1,hj=>simp at hj;subst hj;simp[go_sem,Addr.add]
    |2,hj=>simp at hj;subst hj;simp[go_sem,Addr.add]
    |3,hj=>simp at hj;subst hj;simp[go_sem,Addr.add]
    |j+4,hj=>simp at hj) (fun u hu=>objs_one (n:=n+1) (V:=V') (O:=O) (by show u∈z0i (objC V' O) n++objC V' O n;exact List.mem_append_right _ hu)) (by simp only[maxLen];omega) (by omega) (by simp;omega)
 refine⟨x',W,h1,?_,h3,?_⟩
 ·show W.ownsRow B 56 4 x' (n+1) (z0i (objC V' O) n++objC V' O n);rw[z1f (g:=objC V' O) (h:=objC V O) (fun i hi=>by simp[objC,hV i hi])];exact h2
 ·rcases h5 with h5|h5
  ·exact .inl h5
  ·exact .inr ⟨_,h5,by simp⟩
theorem z4j {w:World}{B B':Nat}{e e':TypeId}{s s' n n':Nat}{v v':Value}{xs xs':List Value}(h:w.ownsRow B e s v n xs)(h':w.ownsRow B' e' s' v' n' xs')(he:e≠e'):v.ownBlock=none∨v.ownBlock≠v'.ownBlock:=by
 rcases h.2 with⟨rfl,_⟩|⟨g,cap,cur,rfl,_,hg,_⟩
 ·exact .inl rfl
 ·rcases h'.2 with⟨rfl,_⟩|⟨g',cap',cur',rfl,_,hg',_⟩
  ·exact .inr (by simp[Value.ownBlock])
  ·refine .inr fun e2=>?_
   simp[Value.ownBlock]at e2;subst e2;rw[hg]at hg';injection hg' with hg';injection hg' with _ h2 _;exact he h2
structure ObjsIn(w:World)(B:Nat)(x:Value)(n:Nat)(V:Nat->ObjV)(O:Nat->ObjF):Prop where
 own:z5v B w x n V O
 at':∀j,j<n->z1C w (V j) (O j)
inductive OfEnd (w:World) (B:Nat) (rd:ByteArray->Nat×ObjF) (root:ByteArray):Ending->Prop
 |bad (F i:Nat) (h:OfIs rd root F i) (hf:F≠0):OfEnd w B rd root (.returned (.tuple #[.slice none 0 0,.slice none 0 0,errV F]))
 |ok (i:Nat) (u x:Value) (V:Nat->ObjV) (h:OfIs rd root 0 i) (hu:z5n w B u (z0g rd root i)) (hx:ObjsIn w B x i V fun j=>(rd (nmAt rd root j)).2):OfEnd w B rd root (.returned (.tuple #[u,x,.nilIface]))
theorem nm_size{D:DataW Unit}{T:ByteArray->ByteArray}{root:ByteArray}{i:Nat}(hroot:root.size<=maxLen)(hr:z5L (rdD D T) root i)(hi:i<(z0g (rdD D T) root i).length):(nmAt (rdD D T) root i).size<=maxLen:=by
 by_cases h0:i=0
 ·subst h0;exact hroot
 ·have hget:=z6C (rd:=rdD D T) (root:=root) (Nat.le_refl i) hi;obtain⟨k,q,hk,_,hq,e⟩:=names_wanted hget (by omega) hr;have:=(rd_ok (hr k hk).2).needs q hq;have hl:=z1k this;rw[e]at hl;have:(nmAt (rdD D T) root i).data.toList.length=(nmAt (rdD D T) root i).size:=by simp
  simp only[maxLen];omega
theorem of_any(w:World)(p bm:Nat)(D:DataW Unit)(k:Nat)(T:ByteArray->ByteArray)(root:ByteArray)(h:z0q w p bm D k)(hI:Inv D k)(hT:z4C D T)(hE:Env w)(hroot:root.size<=maxLen) :
 Calls Tryz.prog 199 #[.pointer (some ⟨p,0,none⟩),.string root] w fun e w'=>OfEnd w' w.heap.size (rdD D T) root e/\Below w.heap.size w w':=by
 have hO0:z5n (w.alloc (.cells #[.string root] 9)) w.heap.size (.slice (some ⟨w.heap.size,0,none⟩) 1 1) [root]:=by
  have e:(w.alloc (.cells #[.string root] 9)).heap[w.heap.size]?=some (.cells #[.string root] 9):=by
   show(w.heap.push _)[w.heap.size]?=_;rw[Array.getElem?_push_size]
  exact⟨rfl,.inr ⟨w.heap.size,1,#[.string root],rfl,Nat.le_refl _,e,Nat.le_refl _,by simp[maxLen],rfl,rfl⟩⟩
 have hx0:Below w.heap.size w (w.alloc (.cells #[.string root] 9)):=(Below.refl _ _).alloc (Nat.le_refl _) _;have hfew:=z6y (T:=T) hI;generalize hrd:rdD D T=rd at *;have HRD:Hid (rdD D T=rd):=hrd;clear hrd;go_enter Tryz.func199,Tryz.ntmps199;go_wp2;go_loopw [7,8,9] (fun a b z wr=>∃(i:Nat) (u x:Value) (V:Nat->ObjV),i<=6/\z=.int .i64 i/\a=u/\b=x/\z5n wr w.heap.size u (z0g rd root i)/\ObjsIn wr w.heap.size x i V (fun j=>(rd (nmAt rd root j)).2) /\
  (∀j,j<i->z2g (V j) (rd (nmAt rd root j)).2 u.ownBlock/\z2g (V j) (rd (nmAt rd root j)).2 x.ownBlock)/\Hid (z5L rd root i)/\Below w.heap.size w wr) (fun _ _ z _=>7-(intOf z).toNat)
 case atStart=>exact⟨0,_,_,fun _=>noV,by omega,rfl,rfl,rfl,hO0,⟨World.ownsRow_nil _ _ _ _,fun j hj=>by omega⟩,fun j hj=>by omega,fun j hj=>by omega,hx0⟩
 case round=>
  clear hO0 hx0;obtain⟨i,u,x,V,hi6,rfl,rfl,rfl,ho,hx,hsep,HR,hb⟩:=hrel;have hnn:∀j,j<i->(rd (nmAt rd root j)).2.nN<=4:=fun j hj=>by
   have h1:=(HR.out j hj).2;rw[<-HRD.out]at h1 ⊢;exact(rd_ok h1).nN
  have hlen:=names_len rd root i hnn;by_cases hlt:i<(z0g rd root i).length
  ·have hget:=z6C (rd:=rd) (root:=root) (Nat.le_refl i) hlt;have hsz:(nmAt rd root i).size<=maxLen:=by
    rw[<-HRD.out]at HR hlt ⊢;exact nm_size hroot HR.out hlt
   have hRd:=scopeRead_any wr p bm D k T (nmAt rd root i) (h.later hb) hT (hE.later hb) hsz;rw[HRD.out]at hRd;obtain⟨au,cu,rfl,hcu,hru⟩:=z3H ho;have hB:=hb.size;rcases hru with h0|⟨bu,fu,rfl,hcn⟩
   ·omega
   have hci:wr.cell? ⟨bu,fu+i,none⟩=some (.string (nmAt rd root i)):=hcn i hlt;clear hcn hget;have hltu:∀j,(Value.slice (some ⟨bu,fu,none⟩) (z0g rd root i).length cu).ownBlock=some j->j<wr.heap.size:=fun j e=>(ho.lt j e).2
   have hltx:∀j,u8.ownBlock=some j->j<wr.heap.size:=fun j e=>(hx.own.lt j e).2
   by_cases hf:(rd (nmAt rd root i)).1=0
   ·have HR2:Hid (z5L rd root (i+1)):=fun j hj=>by
     by_cases e:j=i
     ·subst e;exact⟨hlt,hf⟩
     ·exact HR.out j (by omega)
    have hi7:i+1<=6:=HR2.out.few hfew;have hok:z3J (rd (nmAt rd root i)).2:=by
     rw[<-HRD.out]at hf ⊢;exact rd_ok hf
    have hn4:=hok.nN;rw[hf]at hRd;have q5:errV 0=.nilIface:=rfl;rw[q5]at hRd;clear q5 hf;go_wp2_with fail;refine hRd.mono ?_;rintro e w1 ⟨⟨v,rfl,hA,hNw⟩,hb1⟩;clear hRd hci;have ho1:=z0e ho hb1;have hx1:∀j,j<i->z1C w1 (V j) (rd (nmAt rd root j)).2:=fun j hj=>(hx.at' j hj).later hb1
    have hxo1:=z0e hx.own hb1;have hb2:=hb.trans (hb1.mono hb.size);have hs1:=hb1.size;have hNu:=hNw.sep hltu;have hNx:=hNw.sep hltx;clear hNw hltu hltx hb1 hb hx ho;obtain⟨aN,cN,aW,cW,aS,cS,aT,cT⟩:=v;have hal:∀ob:Obj,Below w1.heap.size w1 (w1.alloc ob):=fun ob=>(Below.refl _ _).alloc (Nat.le_refl _) ob
    obtain⟨x',W,happ,hxW,hgW,hsnW⟩:=growObj (w:=w1.alloc (.cells #[.slice aN (rd (nmAt rd root i)).2.nN cN,.slice aW (rd (nmAt rd root i)).2.nW cW,.slice aS (rd (nmAt rd root i)).2.nS cS,.slice aT (rd (nmAt rd root i)).2.nT cT] 56)) (V:=V) (V':=fun j=>if j=i then⟨aN,cN,aW,cW,aS,cS,aT,cT⟩else V j) ⟨aN,cN,aW,cW,aS,cS,aT,cT⟩ (by simp;omega) (hxo1.alloc _) (by omega) (fun j hj=>by simp[Nat.ne_of_lt hj]) (by simp);have e1:(w1.alloc (.cells #[.slice aN (rd (nmAt rd root i)).2.nN cN,.slice aW (rd (nmAt rd root i)).2.nW cW,.slice aS (rd (nmAt rd root i)).2.nS cS,.slice aT (rd (nmAt rd root i)).2.nT cT] 56)).heap.size=w1.heap.size+1:=by simp
    rw[e1]at happ hsnW;clear e1;have hbA:Below w1.heap.size w1 ((w1.alloc (.cells #[.slice aN (rd (nmAt rd root i)).2.nN cN,.slice aW (rd (nmAt rd root i)).2.nW cW,.slice aS (rd (nmAt rd root i)).2.nS cS,.slice aT (rd (nmAt rd root i)).2.nT cT] 56)).alloc (.cells #[.slice aN (rd (nmAt rd root i)).2.nN cN,.slice aW (rd (nmAt rd root i)).2.nW cW,.slice aS (rd (nmAt rd root i)).2.nS cS,.slice aT (rd (nmAt rd root i)).2.nT cT] 56)):=(hal _).alloc (by simp) _;have hoW:z5n W w.heap.size (.slice (some ⟨bu,fu,none⟩) (z0g rd root i).length cu) (z0g rd root i):=((ho1.alloc _).alloc _).kept hgW (z4j ho1 hxo1 (by decide));have hxW1:∀j,j<i->z1C W (V j) (rd (nmAt rd root j)).2:=fun j hj=>((hx1 j hj).later hbA).grown hgW (hsep j hj).2
    have hAW:z1C W ⟨aN,cN,aW,cW,aS,cS,aT,cT⟩ (rd (nmAt rd root i)).2:=(hA.later hbA).grown hgW hNx;have hne:some w1.heap.size≠u8.ownBlock:=fun e=>by have:=(hxo1.lt _ e.symm).2;omega
    have c0:W.cell? ⟨w1.heap.size,0,none⟩=some (.slice aN (rd (nmAt rd root i)).2.nN cN):=hgW.cell (by simp[go_sem]) hne;have hbW:Below w.heap.size w W:=(hb2.trans (hbA.mono hb2.size)).grown hgW (Nat.le_trans hb2.size hbA.size) (fun j e=>(hxo1.lt j e).1);have HJ:=join_any W w.heap.size (.slice (some ⟨bu,fu,none⟩) (z0g rd root i).length cu) (z0g rd root i) aN cN (rd (nmAt rd root i)).2 hoW hAW.needs hNu.needs hbW.size (by omega) (by omega);have hsx2:∀j,j<i+1->z2g ((fun j=>if j=i then(⟨aN,cN,aW,cW,aS,cS,aT,cT⟩:ObjV)else V j) j) (rd (nmAt rd root j)).2 x'.ownBlock:=fun j hj=>by
     by_cases e:j=i
     ·subst e;simp only[if_pos];exact z2g.next hA hNx (Nat.le_succ _) hsnW
     ·simp only[if_neg e];exact z2g.next (hx1 j (by omega)) (hsep j (by omega)).2 (Nat.le_succ _) hsnW
    have hsu:∀j,j<i+1->z1C W ((fun j=>if j=i then(⟨aN,cN,aW,cW,aS,cS,aT,cT⟩:ObjV)else V j) j) (rd (nmAt rd root j)).2/\z2g ((fun j=>if j=i then(⟨aN,cN,aW,cW,aS,cS,aT,cT⟩:ObjV)else V j) j) (rd (nmAt rd root j)).2 (Value.slice (some ⟨bu,fu,none⟩) (z0g rd root i).length cu).ownBlock:=fun j hj=>by
     by_cases e:j=i
     ·subst e;simp only[if_pos];exact⟨hAW,hNu⟩
     ·simp only[if_neg e];exact⟨hxW1 j (by omega),(hsep j (by omega)).1⟩
    clear hx1 hA hNu hNx hsep hxW1 hAW hbA hal hb2 ho1 hxo1 hsnW hne hgW;unfold ObjV.cells;generalize (fun j=>if j=i then(⟨aN,cN,aW,cW,aS,cS,aT,cT⟩:ObjV)else V j)=V2 at *;go_wp2_with (at_builtin;refine z0b rfl (.tmp 32) (.tmp 34) 137 rfl u8 (.slice (some ⟨w1.heap.size+1,0,none⟩) 1 1) _ rfl rfl happ ?_);refine HJ.mono ?_;rintro e W2 ⟨⟨u',rfl,hu',hsn'⟩,hgJ⟩;have hxW2:z5v w.heap.size W2 x' (i+1) V2 (fun j=>(rd (nmAt rd root j)).2):=hxW.kept hgJ (z4j hxW hoW (by decide));have hA2:∀j,j<i+1->z1C W2 (V2 j) (rd (nmAt rd root j)).2:=fun j hj=>(hsu j hj).1.grown hgJ (hsu j hj).2
    have hsep2:∀j,j<i+1->z2g (V2 j) (rd (nmAt rd root j)).2 u'.ownBlock/\z2g (V2 j) (rd (nmAt rd root j)).2 x'.ownBlock:=fun j hj=>⟨z2g.next (hsu j hj).1 (hsu j hj).2 (Nat.le_refl _) hsn',hsx2 j hj⟩
    have hbW2:Below w.heap.size w W2:=hbW.grown hgJ hbW.size (fun j e=>(hoW.lt j e).1);have hu2:z5n W2 w.heap.size u' (z0g rd root (i+1)):=hu';clear HJ hu' hsn' hgJ hsu hsx2 hxW hoW hbW happ c0;go_wp2;go_roundw
    case rel=>exact⟨i+1,u',x',V2,hi7,by go_num,rfl,rfl,hu2,⟨hxW2,hA2⟩,hsep2,HR2,hbW2⟩
    case measure=>simp[intOf];omega
   ·obtain⟨z,hz⟩:∃z:Int,errV (rd (nmAt rd root i)).1=.iface 43 (.int .i64 z):=by
     cases e:(rd (nmAt rd root i)).1 with
     |zero=>exact absurd e hf
     |succ f=>exact⟨_,rfl⟩
    have HE:Hid (OfIs rd root (rd (nmAt rd root i)).1 i):=.bad i HR.out hlt hf;have H0:Hid ((rd (nmAt rd root i)).1≠0):=hf;have HZ:Hid (errV (rd (nmAt rd root i)).1=.iface 43 (.int .i64 z)):=hz;rw[hz]at hRd;clear hf hz hsep hltu hltx;go_wp2_with fail;refine hRd.mono ?_;rintro e w1 ⟨⟨v,rfl,hA,hNw⟩,hb1⟩;obtain⟨aN,cN,aW,cW,aS,cS,aT,cT⟩:=v;have hb2:=hb.trans (hb1.mono hb.size);clear hRd hA hNw;unfold ObjV.cells;go_wp2;go_ret3;exact⟨by rw[<-HZ.out];exact .bad _ i HE.out H0.out,hb2.alloc hb2.size _⟩
  ·have hei:(z0g rd root i).length=i:=by
    have:i<=(z0g rd root i).length:=by
     cases i with
     |zero=>omega
     |succ j=>
      have h1:=(HR.out j (by omega)).1;have h2:(z0g rd root j).length<=(z0g rd root (j+1)).length:=(z4F rd root (Nat.le_succ j)).length_le;omega
    omega
   have HE:Hid (OfIs rd root 0 i):=.ok i HR.out hei;obtain⟨au,cu,rfl,hcu,hru⟩:=z3H ho;clear hru hsep HR;go_wp2;go_ret3;exact⟨.ok i _ _ V HE.out ho hx,hb⟩
end Go.Proofs.YtbcpcbonlhlhpaaGreatDoor
namespace Go.Proofs.YtbcpcbonlhlhpaaGreatDoor
open Go.RowKit Go.Maps
structure Scoped(rd:ByteArray->Nat×ObjF)(root:ByteArray)(n:Nat)(nm:Nat->ByteArray)(O:Nat->ObjF):Prop where
 pos:0<n
 few:n<=6
 root:nm 0=root
 read:∀i,i<n->rd (nm i)=(0,O i)
 once:∀i j,i<n->j<n->nm i=nm j->i=j
 want:∀i,0<i->i<n->∃k q,k<i/\q<(O k).nN/\(O k).needs q=nm i
 need:∀k q,k<n->q<(O k).nN->∃i,i<n/\nm i=(O k).needs q
theorem z4s {rd:ByteArray->Nat×ObjF}{root:ByteArray}{i:Nat}(h:OfIs rd root 0 i)(hf:∀l:List ByteArray,l.Nodup->(∀s,s∈l->(rd s).1=0)->l.length<=6):Scoped rd root i (nmAt rd root) (fun j=>(rd (nmAt rd root j)).2)/\(z0g rd root i).length=i/\∀j,j<i->(z0g rd root i).getD j ⟨#[]⟩=nmAt rd root j:=by
 generalize hF:(0:Nat)=F at h;cases h with
 |bad _ _ _ hf=>exact absurd hF.symm hf
 |ok _ h hi=>
  have hget:∀j,j<i->(z0g rd root i)[j]?=some (nmAt rd root j):=fun j hj=>z6C (by omega) (h j hj).1
  refine⟨⟨?_,h.few hf,rfl,fun j hj=>?_,fun a b ha hb e=>?_,fun a h0 ha=>?_,fun k q hk hq=>?_⟩,hi,fun j hj=>?_⟩
  ·have:=names_one rd root i;omega
  ·exact Prod.ext (h j hj).2 rfl
  ·have h1:=hget a ha;have h2:=hget b hb;rw[e]at h1;have hla:a<(z0g rd root i).length:=by omega
   have hlb:b<(z0g rd root i).length:=by omega
   rw[List.getElem?_eq_getElem hla]at h1;rw[List.getElem?_eq_getElem hlb]at h2;have hnd:=List.pairwise_iff_getElem.1 (names_nodup rd root i);have e2:(z0g rd root i)[a]=(z0g rd root i)[b]:=(Option.some.inj h1).trans (Option.some.inj h2).symm;rcases Nat.lt_trichotomy a b with q|q|q
   ·exact absurd e2 (hnd a b hla hlb q)
   ·exact q
   ·exact absurd e2.symm (hnd b a hlb hla q)
  ·obtain⟨k,q,_,h2,h3,h4⟩:=names_wanted (hget a ha) h0 h;exact⟨k,q,h2,h3,h4⟩
  ·have hm:=names_needs (rd:=rd) (root:=root) hk hq;obtain⟨j,hj,e⟩:=List.getElem_of_mem hm;have hj':j<i:=by omega
   have:=hget j hj';rw[List.getElem?_eq_getElem hj]at this;exact⟨j,hj',by rw[<-Option.some.inj this];exact e⟩
  ·rw[List.getD_eq_getElem?_getD,hget j hj];rfl
end Go.Proofs.YtbcpcbonlhlhpaaGreatDoor
namespace Go.Proofs.YtbcpcbonlhlhpaaGreatDoor
open Go.RowKit
end Go.Proofs.YtbcpcbonlhlhpaaGreatDoor
namespace Go.Proofs.YtbcpcbonlhlhpaaGreatDoor
open Go.RowKit Go.Maps
theorem cell_turned{p bm:Nat}{w w':World}(hT:Turned p bm w w'){b o:Nat}{v:Value}(h:w.cell? ⟨b,o,none⟩=some v)(h1:b≠p)(h2:b≠bm):w'.cell? ⟨b,o,none⟩=some v:=by
 have hl:=World.block_lt_of_cell? _ _ h;exact(World.cell?_of_block (hT.block b hl h1 h2)).trans h
end Go.Proofs.YtbcpcbonlhlhpaaGreatDoor
