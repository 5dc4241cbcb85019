/- What number of the console returns, of any text; what -/
import Derived.Test.YtbcpcbonlhlhpaaGreatDoorPlainFault
import Derived.Lib.ItoaMem
import Derived.BigCall
import Derived.BigGuard
import Derived.Test.YtbcpcbonlhlhpaaGreatDoorSameTexts
set_option maxRecDepth 100000
set_option maxHeartbeats 6400000
namespace Go.Proofs.YtbcpcbonlhlhpaaGreatDoor
section
open Go.RowKit Go.Maps
theorem atoi_itoa(n:Nat)(h1:n<=1000000000000):Lib.atoiAll (Lib.itoa (n:Int))=.ok (n:Int):=by
 rw[Lib.itoa_nonneg];obtain⟨c,r,hc⟩:=List.exists_cons_of_ne_nil (dec_ne n);have hb:=z5F n n (Nat.le_refl _) c (by rw[hc];simp);have hm:=mag_dec n (by omega);rw[hc]at hm ⊢;unfold Lib.atoiAll;have e1:¬(c.toNat=43∨c.toNat=45):=by omega
 have e2:¬c.toNat=45:=by omega
 simp only[];rw[if_neg e1,hm];simp only[e2,not_false_eq_true,true_and,false_and,if_false];rw[if_neg (by omega)]
theorem atoi_in{l:List UInt8}{v:Int}(h:Lib.atoiAll l=.ok v):-9223372036854775808<=v/\v<=9223372036854775807:=by
 have:=numF_wf l;unfold numF at this;rw[h]at this;exact this
theorem itoa_fit{n:Nat}(h:n<=999):(Lib.itoa (n:Int)).length<=3:=by
 rw[Lib.itoa_nonneg,Lib.decDigits_length];have k:∀u:Nat,10<=u->Lib.nDigits u=Lib.nDigits (u / 10)+1:=fun u hu=>by rw[Lib.nDigits,dif_neg (by omega)]
 by_cases h1:n<10
 ·rw[Lib.nDigits_small h1];omega
 ·rw[k n (by omega)];by_cases h2:n / 10<10
  ·rw[Lib.nDigits_small h2];omega
  ·rw[k (n / 10) (by omega),Lib.nDigits_small (by omega)];omega
theorem cnumber_any(s:ByteArray)(w:World)(hE:Env w)(hs:s.size<=1000) :
 Calls Tryz.prog 70 #[.string s] w fun e w'=>(∃n:Int,e=.returned (.tuple #[.int .i64 n,.bool (numK s.data.toList)])/\0<=n/\n<=999)/\Below w.heap.size w w':=by
 have hsl:s.data.toList.length=s.size:=by simp
 cases hk:numK s.data.toList with
 |true=>
  obtain⟨n,hn,e⟩:=(numK_iff _).1 hk;have HA:=Tryz.strconv_Atoi_ok s (by omega) (n:Int) (by rw[e];exact atoi_itoa n (by omega)) w;have h3:¬(3:Int)<(s.size:Int):=by have:=itoa_fit hn;rw[<-e,hsl]at this;omega
  have hse:(⟨(Lib.itoa (n:Int)).toArray⟩:ByteArray)=s:=by rw[<-e]
  have hq:(s.toList==s.toList)=true:=by simp
  have HI:=fun(W:World) (hW:Env W)=>z4u (n:Int) W hW (by omega) (by omega)
  rw[hse]at HI;clear e hse hk hsl;go_enter Tryz.func70,Tryz.ntmps70;go_wp2_with fail;refine(show Calls _ _ _ _ _ from HA).mono ?_;rintro e w' ⟨rfl,hw⟩;have hb:Below w.heap.size w w':=by
   rcases hw with rfl|⟨t,rfl⟩
   ·exact Below.refl _ _
   ·exact Lib.bytesWorld_below _ _ _
  clear hw HA;have HI':=HI w' (hE.later hb);clear HI;go_wp2_with fail;refine(show Calls _ _ _ _ _ from HI').mono ?_;rintro e w2 ⟨rfl,hb2⟩;clear HI';go_wp2;go_ret2;exact⟨⟨(n:Int),rfl,by omega,by omega⟩,hb.trans (hb2.mono hb.size)⟩
 |false=>
  cases hq:Lib.atoiAll s.data.toList with
  |ok v=>
   have HA:=Tryz.strconv_Atoi_ok s (by omega) v hq w;have hv:=atoi_in hq;have HI:=fun(W:World) (hW:Env W)=>z4u v W hW (by omega) (by omega)
   have hne:0<=v->s.size<=3->((⟨(Lib.itoa v).toArray⟩:ByteArray).toList==s.toList)=false:=fun h0 h3=>by
    rw[beq_eq_false_iff_ne,ByteArray.toList_eq,ByteArray.toList_eq];intro e;have e':Lib.itoa v=s.data.toList:=by simpa using e
    have h9:=itoa_threeK h0 (by rw[e',hsl];exact h3);obtain⟨n,rfl⟩:∃n:Nat,v=(n:Int):=⟨v.toNat,by omega⟩;have:=(numK_iff s.data.toList).2 ⟨n,by omega,e'.symm⟩;rw[hk]at this;cases this
   generalize (⟨(Lib.itoa v).toArray⟩:ByteArray)=t at *;clear hk hq hsl;go_enter Tryz.func70,Tryz.ntmps70;go_wp2_with fail;refine(show Calls _ _ _ _ _ from HA).mono ?_;rintro e w' ⟨rfl,hw⟩;have hb:Below w.heap.size w w':=by
    rcases hw with rfl|⟨t,rfl⟩
    ·exact Below.refl _ _
    ·exact Lib.bytesWorld_below _ _ _
   clear hw HA;have HI':=HI w' (hE.later hb);clear HI;by_cases h0:v<0
   ·clear hne HI';go_wp2;go_ret2;exact⟨⟨0,rfl,by omega,by omega⟩,hb⟩
   ·by_cases h3:(3:Int)<(s.size:Int)
    ·clear hne HI';go_wp2;go_ret2;exact⟨⟨0,rfl,by omega,by omega⟩,hb⟩
    ·have hx:=hne (by omega) (by omega);clear hne;go_wp2_with fail;refine(show Calls _ _ _ _ _ from HI').mono ?_;rintro e w2 ⟨rfl,hb2⟩;clear HI';go_wp2;go_ret2;exact⟨⟨0,rfl,by omega,by omega⟩,hb.trans (hb2.mono hb.size)⟩
  |range=>
   obtain⟨ev,hv,hev⟩:=hE.errR;have HA:=Tryz.strconv_Atoi_range s (by omega) hq ev w hv hev;generalize Lib.atoiSat s.data.toList=v at *;clear hq hv hev hsl hk;go_enter Tryz.func70,Tryz.ntmps70;go_wp2_with fail;refine(show Calls _ _ _ _ _ from HA).mono ?_;rintro e w' ⟨N,rfl,_,_,hb⟩;clear HA;go_wp2;go_ret2;exact⟨⟨0,rfl,by omega,by omega⟩,hb⟩
  | «syntax» =>
   obtain⟨ev,hv,hev⟩:=hE.errS;have HA:=Tryz.strconv_Atoi_syntax s (by omega) hq ev w hv hev;clear hq hv hev hsl hk;go_enter Tryz.func70,Tryz.ntmps70;go_wp2_with fail;refine(show Calls _ _ _ _ _ from HA).mono ?_;rintro e w' ⟨N,rfl,_,_,hb⟩;clear HA;go_wp2;go_ret2;exact⟨⟨0,rfl,by omega,by omega⟩,hb⟩
open Go.Sort Go.Lib in
theorem holds_zero0(w:World)(T:TypeId)(nd:Nat)(hs:nd<=24):Holds (fun(b:UInt8)=>Value.int .u8 (b.toNat:Int)) (w.alloc (.cells zeros24 T)) w.heap.size 0 (Array.replicate nd (0:UInt8)):=fun j hj=>by
 have hj':j<nd:=by simpa using hj
 refine⟨?_,World.frozen?_alloc_new _ _ _ _⟩;rw[World.cell?_alloc_new,zeros24_at _ (by omega),getElem!_pos _ j hj];simp
open Go.Sort Go.Lib in
theorem fin_pos0(w:World)(o:Obj)(dk:Array UInt8)(k:Nat):∃os,(putRow (fun(b:UInt8)=>Value.int .u8 (b.toNat:Int)) (w.alloc o) w.heap.size 0 dk).drewN k=grow (w.drewN k) os:=by
 rw[alloc_eq_grow];obtain⟨os',_,e⟩:=putRow_grow_new (fun(b:UInt8)=>Value.int .u8 (b.toNat:Int)) w #[o] w.heap.size 0 dk (Nat.le_refl _);exact⟨os',by rw[e];rfl⟩
open Go.Sort Go.Lib in
theorem iformatUint_any(u:Nat)(hu:u<18446744073709551616)(w:World)(hE:Env w) :
 Calls Tryz.prog 111 #[.int .u64 u,.int .i64 10] w fun e w'=>e=.returned (.string ⟨(Lib.itoa (u:Int)).toArray⟩)/\Below w.heap.size w w':=by
 rw[Lib.itoa_nonneg];by_cases hs:u<100
 ·have HS:=Tryz.internal_strconv_small u hs w;go_enter Tryz.func111,Tryz.ntmps111;go_wp2_with fail;refine(show Calls _ _ _ _ _ from HS).mono ?_;rintro e w' ⟨rfl,rfl⟩;clear HS;go_wp2;go_ret;exact⟨rfl,Below.refl _ _⟩
 ·have hu1:1<=u:=by omega
  have hnd20:Lib.nDigits u<=20:=by have:=Lib.numDigits_eq u hu1 hu;split at this <;> omega
  have hnd1:Lib.nDigits u<=24:=by omega
  have hal:Tryz.prog.arrayLen 232=24:=by kernel_rfl
  have hsl1:∀W,(Instr.sliceAt 232 (.pointer (some ⟨w.heap.size,0,none⟩)) none (some (.int .i64 (Lib.nDigits u:Int))) none).run Tryz.prog W=.ok (.slice (some ⟨w.heap.size,0,none⟩) (Lib.nDigits u) 24) W:=fun W=>by
   rw[run_sliceAt_array_h W 232 ⟨w.heap.size,0,none⟩ (by kernel_rfl) .i64 (Lib.nDigits u:Int) (by omega) (by rw[hal];omega)];go_simp
   try omega
  have hH0:=holds_zero0 w 232 (Lib.nDigits u) (by omega);have hfmt:=Tryz.internal_strconv_formatBase10 w.heap.size 0 24 u (Array.replicate (Lib.nDigits u) 0) (w.alloc (.cells Lib.zeros24 232)) hH0 (by rw[Array.size_replicate];exact Lib.lt_pow_nDigits u) hu (by rw[Array.size_replicate];omega);rw[Array.size_replicate]at hfmt;have HH0:=Lib.hid hH0;have HND:=Tryz.internal_strconv_numDigits u hu1 hu (w.alloc (.cells Lib.zeros24 232)) (Lib.tabIs_alloc hE.pow _);clear hH0 hal;go_enter Tryz.func111,Tryz.ntmps111;go_wp2_with fail;refine(show Calls _ _ _ _ _ from HND).mono ?_;rintro e w' ⟨rfl,rfl⟩;clear HND;go_wp2_with fail;refine(show Calls _ _ _ _ _ from hfmt).mono ?_;rintro e w' ⟨rfl,k,v',dk,rfl,hF⟩;clear hfmt;have hcv:(convert 102 9 (.slice (some ⟨w.heap.size,0,none⟩) (Lib.nDigits u) 24)).run Tryz.prog ((putRow (fun(b:UInt8)=>Value.int .u8 (b.toNat:Int)) (w.alloc (.cells Lib.zeros24 232)) w.heap.size 0 dk).drewN k)=.ok (.string ⟨(Lib.decDigits u).toArray⟩) ((putRow (fun(b:UInt8)=>Value.int .u8 (b.toNat:Int)) (w.alloc (.cells Lib.zeros24 232)) w.heap.size 0 dk).drewN k):=by
   have h:=run_convert_bytes_back (P:=Tryz.prog) ((putRow (fun(b:UInt8)=>Value.int .u8 (b.toNat:Int)) (w.alloc (.cells Lib.zeros24 232)) w.heap.size 0 dk).drewN k) 102 9 5 ⟨w.heap.size,0,none⟩ 24 (Lib.decDigits u) Tryz.underlying102 Tryz.underlying5 Tryz.underlying9 (fun j hj=>by
    rw[Lib.row_is_numeral hF j hj,Lib.add_plain,World.cell?_drewN];exact cell?_putRow (fun(b:UInt8)=>Value.int .u8 (b.toNat:Int)) _ w.heap.size 0 _ dk HH0.out (by rw[hF.size,Array.size_replicate]) j (by rw[hF.size];rw[Lib.decDigits_length]at hj;exact hj))
   rw[Lib.decDigits_length]at h;exact h
  obtain⟨os,eo⟩:=fin_pos0 w (.cells Lib.zeros24 232) dk k;have hbl:Below w.heap.size w ((putRow (fun(b:UInt8)=>Value.int .u8 (b.toNat:Int)) (w.alloc (.cells Lib.zeros24 232)) w.heap.size 0 dk).drewN k):=by
   rw[eo];exact Lib.below_grow _ _ (Nat.le_refl _) _ _
  clear eo;go_wp2;go_ret;exact⟨rfl,hbl⟩
theorem formatUint_any(u:Nat)(hu:u<18446744073709551616)(w:World)(hE:Env w) :
 Calls Tryz.prog 80 #[.int .u64 u,.int .i64 10] w fun e w'=>e=.returned (.string ⟨(Lib.itoa (u:Int)).toArray⟩)/\Below w.heap.size w w':=by
 have HI:=iformatUint_any u hu w hE;go_enter Tryz.func80,Tryz.ntmps80;go_wp2_with fail;refine(show Calls _ _ _ _ _ from HI).mono ?_;rintro e w1 ⟨rfl,hb⟩;clear HI;go_wp2;go_ret;exact⟨rfl,hb⟩
end
section
open Go.RowKit Go.Maps
abbrev sessC(pf p l:Nat)(t:ByteArray):Array Value:=#[.pointer (some ⟨pf,0,none⟩),.pointer (some ⟨p,0,none⟩),.pointer (some ⟨l,0,none⟩),.string t]
structure CAt(w0 W:World)(B z p pf bm l g:Nat)(s:DSt)(st:CSt):Prop where
 sess:W.heap[z]?=some (.cells (sessC pf p l st.text) 87 (0,0))
 disk:Disk W B p 120 s
 stands:z0X s 120 st.E st.k
 calm:s.left=-1
 loader:z1u W l pf g
 shelf:z0T W g p
 files:z0q W pf bm st.D st.kf
 below:Below w0.heap.size w0 W
structure CLow(w0:World)(B z pf bm:Nat):Prop where
 disk:w0.heap.size<=B
 sess:w0.heap.size<=z
 files:w0.heap.size<=pf
 map:w0.heap.size<=bm
section
variable {w0 W W':World} {B z p pf bm l g:Nat} {s:DSt} {st:CSt}
theorem CAt.lt(h:CAt w0 W B z p pf bm l g s st):z<W.heap.size:=(Array.getElem?_eq_some_iff.1 h.sess).1
theorem CAt.c0(h:CAt w0 W B z p pf bm l g s st):W.cell? ⟨z,0,none⟩=some (.pointer (some ⟨pf,0,none⟩)):=by simp[World.cell?,h.sess]
theorem CAt.c1(h:CAt w0 W B z p pf bm l g s st):W.cell? ⟨z,1,none⟩=some (.pointer (some ⟨p,0,none⟩)):=by simp[World.cell?,h.sess]
theorem CAt.c2(h:CAt w0 W B z p pf bm l g s st):W.cell? ⟨z,2,none⟩=some (.pointer (some ⟨l,0,none⟩)):=by simp[World.cell?,h.sess]
theorem CAt.c3(h:CAt w0 W B z p pf bm l g s st):W.cell? ⟨z,3,none⟩=some (.string st.text):=by simp[World.cell?,h.sess]
theorem CAt.f2(h:CAt w0 W B z p pf bm l g s st):W.frozen? ⟨z,2,none⟩=false:=by simp[World.frozen?,h.sess]
theorem CAt.f3(h:CAt w0 W B z p pf bm l g s st):W.frozen? ⟨z,3,none⟩=false:=by simp[World.frozen?,h.sess]
theorem CAt.later(h:CAt w0 W B z p pf bm l g s st)(hb:Below W.heap.size W W'):CAt w0 W' B z p pf bm l g s st:=
 ⟨(hb.block _ h.lt).trans h.sess,h.disk.later hb,h.stands,h.calm,h.loader.later hb,h.shelf.later hb,h.files.later hb,h.below.trans (hb.mono h.below.size)⟩
theorem CAt.put(h:CAt w0 W B z p pf bm l g s st)(hlo:CLow w0 B z pf bm)(x:ByteArray):CAt w0 (W.setCell ⟨z,3,none⟩ (.string x)) B z p pf bm l g s {st with text:=x}:=by
 have ho:=Only.set h.sess 3 (.string x);refine⟨heap_setCell W z 3 _ _ _ h.sess,h.disk.only ho (by decide) (by decide) (by decide),h.stands,h.calm,h.loader.only ho (by decide),h.shelf.only ho (by decide),h.files.only ho (by decide) (by decide),?_⟩;exact h.below.trans ⟨rfl,rfl,rfl,by simp[World.setCell],fun k hk=>Below.heap_setCell _ _ _ _ (Nat.ne_of_lt (Nat.lt_of_lt_of_le hk hlo.sess))⟩
theorem CAt.turn(h:CAt w0 W B z p pf bm l g s st)(hlo:CLow w0 B z pf bm){D':DataW Unit}{kf':Nat}(hT:Turned pf bm W W')(hF:z0q W' pf bm D' kf'):CAt w0 W' B z p pf bm l g s {st with D:=D',kf:=kf'}:=by
 have ho:=Only.of_turned hT h.files;exact⟨ho.block _ _ h.sess (by simp[z5l,tsFiles]),h.disk.only ho (by decide) (by decide) (by decide),h.stands,h.calm,h.loader.only ho (by decide),h.shelf.only ho (by decide),hF,h.below.trans (hT.below h.below.size hlo.files hlo.map)⟩
theorem CAt.spin(h:CAt w0 W B z p pf bm l g s st)(hlo:CLow w0 B z pf bm){s':DSt}{E':Nat->EntF}{k':Nat}(hD:Disk W' B p 120 s')(hS:Spun B W W')(hSt:z0X s' 120 E' k')(hl:s'.left=-1):CAt w0 W' B z p pf bm l g s' {st with E:=E',k:=k'}:=by
 have ho:=Only.of_spun hS;exact⟨ho.block _ _ h.sess (by simp[z5l,tsDisk]),hD,hSt,hl,h.loader.only ho (by decide),h.shelf.only ho (by decide),h.files.only ho (by decide) (by decide),h.below.trans (hS.below.mono hlo.disk)⟩
end
def Told(e:Ending)(a:List UInt8):Prop:=
 (∃t:ByteArray,e=.returned (.tuple #[.string t,.nilIface])/\t.data.toList=a)∨(∃(t:ByteArray) (F:Nat),F≠0/\F<=1000/\e=.returned (.tuple #[.string t,errV F])/\a=z1h F)
theorem Well.next{st:CSt}{i:Nat}(h:Well st i):Well st (i+1):={h with text:=by have:=h.text;omega,few:=by have:=h.few;omega}
theorem told_done{F:Nat}(h:F<=1000):Told (.returned (.tuple #[.string ⟨#[111,107]⟩,errV F])) (z5z F):=by
 unfold z5z;by_cases h0:F=0
 ·subst h0;rw[if_pos rfl];exact .inl ⟨_,rfl,rfl⟩
 ·rw[if_neg h0];exact .inr ⟨_,F,h0,h,rfl,rfl⟩
theorem putF_in{X:Nat->Nat->Int}{p t v:Nat->Int}{i j:Nat}(P:Int->Prop)(h0:P (X i j)):∀n,(∀k,k<n->P (v k))->P (putF X p t v n i j)
 |0,_=>h0
 |n+1,h=>by
  have ih:=putF_in (p:=p) (t:=t) P h0 n fun k hk=>h k (by omega)
  unfold putF;split
  ·exact h n (by omega)
  ·exact ih
theorem tell_ok{D:DataW Unit}{k:Nat}{T:ByteArray->ByteArray}{S:ByteArray->Int}{root:ByteArray}{m:Nat}{B:Nat->Int}{P Q:ByteArray->Int}(hI:Inv D k)(hN:z2X D)(hP:z1y D)(hS:z3q D S)(hk:k<=1000000)(h:z0Z (rdD D T) root m B P Q) :
 TellOk m (nmAt (rdD D T) root) B (fun i=>(obAt (rdD D T) root i).nW) (z4m (rdD D T) root m B P Q)/\0<m:=by
 have hok:=z5t (z7I hI hN hP hS hk h);obtain⟨hSc,_,_⟩:=z4s h.of (z6y (T:=T) hI);have hob:∀j,j<m->z3J (obAt (rdD D T) root j):=fun j hj=>rd_ok (D:=D) (T:=T) (s:=nmAt (rdD D T) root j) (by rw[hSc.read j hj])
 have hparts:∀i,i<m->z0r (nmAt (rdD D T) root i).data.toList=0/\0<=B i/\B i<256:=fun i hi=>by
  have:=hok.parts i hi;exact⟨this.1,this.2.2.2.1,this.2.2.2.2⟩
 refine⟨⟨hok.nP,fun i hi=>?_,fun i hi=>(hob i hi).nW,fun i hi=>?_,fun i hi j hj=>?_⟩,hok.nP0⟩
 ·have h1:=z1k (hparts i hi).1;have h2:(nmAt (rdD D T) root i).data.toList.length=(nmAt (rdD D T) root i).size:=by simp
  omega
 ·have:=hparts i hi;omega
 ·have:=putF_in (X:=fun a b=>(obAt (rdD D T) root a).words b) (p:=pP (z0l (rdD D T) root m B P Q)) (t:=pT (z0l (rdD D T) root m B P Q)) (v:=pV (z0l (rdD D T) root m B P Q)) (i:=i) (j:=j) (fun x=>-9223372036854775807<=x/\x<=9223372036854775807) (by have:=(hob i hi).words j hj;show -9223372036854775807<=(obAt (rdD D T) root i).words j/\(obAt (rdD D T) root i).words j<=9223372036854775807;omega) (z0l (rdD D T) root m B P Q).length fun q hq=>by
   obtain⟨_,_,_,_,h1,h2⟩:=hok.pats q hq;have h1':-2147483648<=pV (z0l (rdD D T) root m B P Q) q:=h1;have h2':pV (z0l (rdD D T) root m B P Q) q<=2147483647:=h2;omega
  exact this
theorem z1K {t:ByteArray}{a:List UInt8}(h:t.data.toList=a):Told (.returned (.tuple #[.string t,.nilIface])) a:=.inl ⟨t,rfl,h⟩
theorem cload_any(w0 W:World)(B z p pf bm l g:Nat)(s:DSt)(st:CSt)(i:Nat)(n:ByteArray)(h:CAt w0 W B z p pf bm l g s st)(hw:Well st i)(hi:i<=1000)(hE:Env w0)(hn:n.size<=100) :
 Calls Tryz.prog 78 #[.pointer (some ⟨z,0,none⟩),.string n] W fun e W'=>Told e (sayC st (.load n)).2/\Below W.heap.size W W':=by
 have HL:=loaderLoad_any W B p 120 l g pf bm s st.E st.k st.D st.kf (txD st.D) (stD st.D) n h.disk h.stands h.loader h.shelf (hE.later h.below) h.files hw.inv (txD_is _) (z6n _) (Nat.le_trans hn (by decide));have c2:=h.c2;have hkf:st.kf<=1000000:=by have:=hw.few;omega
 go_enter Tryz.func78,Tryz.ntmps78;go_wp2_with fail;refine(show Calls _ _ _ _ _ from HL).mono ?_;rintro e w1 ⟨hLE,hb1⟩;clear HL c2;obtain⟨u,F,wx,Bx,rfl,hkp,_,hbx,hLd⟩:=loads_flag hLE hw.inv (txD_is _) (z6n _) hw.held;have hAns:(sayC st (.load n)).2=if (loadC (rdC st) n).1=0 then(if keptC st n=true then keptT else newT)++(loadC (rdC st) n).2 else z1h (loadC (rdC st) n).1:=rfl
 obtain⟨fl,hfl⟩:∃fl,((getE st.E st.k n).1&&z5c st.D (stD st.D) (getE st.E st.k n).2)=fl:=⟨_,rfl⟩;have hkc:keptC st n=fl:=hfl;rw[hfl]at hkp ⊢;rcases hLd.which with⟨hF,rfl,hRk⟩|⟨rfl,m,Bs,P,Q,g1,A,C,G,hRk,hPI⟩
 ·have hle:=reckIs_le hRk;rw[loadC_bad hRk hF]at hAns;rw[if_neg hF]at hAns;have HT:Hid (Told (.returned (.tuple #[.string ⟨#[]⟩,errV F])) (sayC st (.load n)).2):=.inr ⟨_,F,hF,by omega,rfl,hAns⟩;obtain⟨zz,hz⟩:=z5Y hF;rw[hz]at HT;rw[hz];clear hLE hLd hRk hAns hbx hkp hfl hkc hz;go_wp2;go_ret2;exact⟨HT.out,hb1⟩
 ·obtain⟨hok,hm⟩:=tell_ok hw.inv hw.names hw.pos (z6n st.D) hkf hRk;rw[loadC_ok hRk]at hAns;rw[if_pos rfl,hkc]at hAns;obtain⟨au,cu,rfl,_,hrow⟩:=parts_row hPI;have HTL:=tell_any au m cu (nmAt (rdC st) n) Bs A _ C _ w1 (hE.later (h.below.trans (hb1.mono h.below.size))) (hrow.later hbx) hok hm;rw[show errV 0=.nilIface from rfl];generalize hjt:Lib.join (z1P (nmAt (rdC st) n) Bs (z4m (rdC st) n m Bs P Q) (fun i=>(obAt (rdC st) n i).nW) m) [59,32]=jt at *;have hjl:jt.length<=6012:=by rw[<-hjt];exact parts_join hok (Nat.le_refl _)
  have HAN:Hid ((sayC st (.load n)).2=(if fl=true then keptT else newT)++jt):=hAns;clear hLE hLd hRk hAns hPI hrow hok hbx hkp hfl hkc hjt;cases fl with
  |true=>
   have HAN2:Hid ((sayC st (.load n)).2=keptT++jt):=HAN.out;clear HAN;go_wp2_with fail;refine(show Calls _ _ _ _ _ from HTL).mono ?_;rintro e w2 ⟨⟨t,rfl,ht⟩,hb2⟩;clear HTL;have hts:t.size<=6012:=by rw[z1W ht];exact hjl
   have HT:Hid (Told (.returned (.tuple #[.string (⟨#[107,101,112,116,32]⟩++t),.nilIface])) (sayC st (.load n)).2):=z1K (by rw[HAN2.out,<-ht];simp);clear HAN2 ht;go_wp2;go_ret2;exact⟨HT.out,hb1.trans (hb2.mono hb1.size)⟩
  |false=>
   have HAN2:Hid ((sayC st (.load n)).2=newT++jt):=HAN.out;clear HAN;go_wp2_with fail;refine(show Calls _ _ _ _ _ from HTL).mono ?_;rintro e w2 ⟨⟨t,rfl,ht⟩,hb2⟩;clear HTL;have hts:t.size<=6012:=by rw[z1W ht];exact hjl
   have HT:Hid (Told (.returned (.tuple #[.string (⟨#[110,101,119,32]⟩++t),.nilIface])) (sayC st (.load n)).2):=z1K (by rw[HAN2.out,<-ht];simp);clear HAN2 ht;go_wp2;go_ret2;exact⟨HT.out,hb1.trans (hb2.mono hb1.size)⟩
theorem loaderGet_any(w:World)(B p n l f g:Nat)(s:DSt)(E:Nat->EntF)(k:Nat)(root:ByteArray)(h:Disk w B p n s)(hS:z0X s n E k)(hl:z1u w l f g)(hg:z0T w g p)(hE:Env w) :
 Calls Tryz.prog 108 #[.pointer (some ⟨l,0,none⟩),.string root] w fun e w'=>∃v en,e=.returned (.tuple #[.agg (z1r v en),.bool (getE E k root).1])/\z2H en (getE E k root).2/\z5k w' v en/\Below w.heap.size w w':=by
 have hb0:Below w.heap.size w (w.alloc (.cells #[.string ⟨#[]⟩,.slice none 0 0,.slice none 0 0] 71)):=(Below.refl _ _).alloc (Nat.le_refl _) _;have hres:(w.alloc (.cells #[.string ⟨#[]⟩,.slice none 0 0,.slice none 0 0] 71)).heap[w.heap.size]?=some (.cells #[.string ⟨#[]⟩,.slice none 0 0,.slice none 0 0] 71 (0,0)):=Array.getElem?_push_size;have hz0:w.heap.size<(w.alloc (.cells #[.string ⟨#[]⟩,.slice none 0 0,.slice none 0 0] 71)).heap.size:=by simp
 have HD:=get_any _ B p n g s E k root (h.later hb0) hS (hg.later hb0) (hE.later hb0);have c1:=(hl.later hb0).c1;generalize getE E k root=r at *;obtain⟨rb,re⟩:=r;dsimp only at *;go_enter Tryz.func108,Tryz.ntmps108;go_wp2_with fail;refine(show Calls _ _ _ _ _ from HD).mono ?_;rintro e w1 ⟨v,en,rfl,hSm,hA,hb1⟩;clear HD c1;have hres1:=(hb1.block _ hz0).trans hres;have hbA:=hb0.trans (hb1.mono hb0.size);obtain⟨q0,q1,q2,f0,f1,f2⟩:=resAt hres1;have hNB:=z5b hbA (Nat.le_refl w.heap.size) (.string en.root) (.slice v.aP en.nP v.cP) (.slice v.aQ en.nQ v.cQ);have hAn:=(entNew_set hA hres1 (.string en.root) (.slice v.aP en.nP v.cP) (.slice v.aQ en.nQ v.cQ)).here;clear hA hb0 hb1 hbA hres hres1 hz0;go_wp2;refine bodyPost_ret (v:=.tuple #[.agg #[.string en.root,.slice v.aP en.nP v.cP,.slice v.aQ en.nQ v.cQ],.bool rb]) (by simp[results,Tryz.results108,go_sem,q0,q1,q2]) rfl ?_;exact⟨v,en,rfl,hSm,hAn,hNB⟩
theorem trim_line(x:List UInt8):Lib.trimSuffix (x++[10]) [10]=(x++[10]).dropLast:=by
 have h:Lib.hasSuffix (x++[10]) [10]=true:=by
  unfold Lib.hasSuffix;rw[List.isSuffixOf_iff_suffix];exact List.suffix_append x [10]
 unfold Lib.trimSuffix;rw[if_pos h];simp
theorem centry_any(w0 W:World)(B z p pf bm l g:Nat)(s:DSt)(st:CSt)(n:ByteArray)(h:CAt w0 W B z p pf bm l g s st)(hE:Env w0) :
 Calls Tryz.prog 79 #[.pointer (some ⟨z,0,none⟩),.string n] W fun e W'=>Told e (sayC st (.entry n)).2/\Below W.heap.size W W':=by
 have HG:=loaderGet_any W B p 120 l pf g s st.E st.k n h.disk h.stands h.loader h.shelf (hE.later h.below);have c2:=h.c2;have hAns:(sayC st (.entry n)).2=if (getE st.E st.k n).1=true then(z0D (getE st.E st.k n).2).dropLast else z1h 5:=rfl
 have hgood:(getE st.E st.k n).1=true->entF (getE st.E st.k n).2=0:=fun hh=>by
  unfold getE at hh ⊢;split
  ·rename_i hlt;rw[if_pos hlt]at hh;cases hh
  ·rename_i hlt;obtain⟨j,_,hj,_,hfj⟩:=z2i _ 0 rfl (show 0<=findF st.E n st.k 0 by omega);rw[hfj];exact h.stands.good.ok j hj
 generalize getE st.E st.k n=r at *;obtain⟨rb,re⟩:=r;dsimp only at *;have HAN:Hid ((sayC st (.entry n)).2=if rb=true then(z0D re).dropLast else z1h 5):=hAns;have hEw:=hE.later h.below;clear hAns;go_enter Tryz.func79,Tryz.ntmps79;go_wp2_with fail;refine(show Calls _ _ _ _ _ from HG).mono ?_;rintro e w1 ⟨v,en,rfl,hSm,hA,hb1⟩;clear HG c2;have hbx:Below w1.heap.size w1 (w1.alloc (.cells (z1r v en) 71)):=(Below.refl _ _).alloc (Nat.le_refl _) _;have hx:(w1.alloc (.cells (z1r v en) 71)).heap[w1.heap.size]?=some (.cells (z1r v en) 71 (0,0)):=Array.getElem?_push_size;have hA2:=hA.later hbx;have hb2:=hb1.trans (hbx.mono hb1.size);cases rb with
 |false=>
  have HT:Hid (Told (.returned (.tuple #[.string ⟨#[]⟩,errV 5])) (sayC st (.entry n)).2):=.inr ⟨_,5,by decide,by decide,rfl,HAN.out⟩;clear HAN hgood hA hA2 hSm;go_wp2;go_ret2;exact⟨HT.out,hb2⟩
 |true=>
  obtain⟨hen,hln⟩:entF en=0/\z0D en=z0D re:=by
   have h1:=hgood rfl;have h2:=hSm.symm.line h1;exact⟨h2.1,h2.2.symm⟩
  have HTX:=z7l v en (w1.alloc (.cells (z1r v en) 71)) hA2 (z5t hen).fit ((hEw.later hb1).later hbx);rw[textE_ok hen]at HTX;have hsl:(z0D en).length<=100000:=by
   have hOk:=z5t hen;have h1:=(z3P (entW en) (z3X hOk)).1;have h2:=z6P en;have h3:=hOk.nP;have h4:=hOk.nQ;unfold z0D;rw[List.length_append,List.length_singleton];omega
  have hAN2:(sayC st (.entry n)).2=(z0D en).dropLast:=by rw[HAN.out,if_pos rfl,hln]
  have hlast:(z0D en)=Lib.join (entW en) [32]++[10]:=rfl;have hszz:(⟨(z0D en).toArray⟩:ByteArray).size<=100000:=by show(z0D en).toArray.size<=100000;simpa using hsl
  have HTR:=fun W=>Tryz.strings_TrimSuffix ⟨(z0D en).toArray⟩ ⟨#[10]⟩ W (by omega)
  have hd:(⟨(z0D en).toArray⟩:ByteArray).data.toList=z0D en:=by simp
  rw[hd]at HTR;have e10:(⟨#[10]⟩:ByteArray).data.toList=[10]:=rfl;rw[e10,hlast,trim_line,<-hlast]at HTR;have HT:Hid (Told (.returned (.tuple #[.string ⟨(z0D en).dropLast.toArray⟩,.nilIface])) (sayC st (.entry n)).2):=z1K (by rw[hAN2]);obtain⟨c0,c1,c2⟩:(w1.alloc (.cells (z1r v en) 71)).cell? ⟨w1.heap.size,0,none⟩=some (.string en.root)/\(w1.alloc (.cells (z1r v en) 71)).cell? ⟨w1.heap.size,1,none⟩=some (.slice v.aP en.nP v.cP)/\(w1.alloc (.cells (z1r v en) 71)).cell? ⟨w1.heap.size,2,none⟩=some (.slice v.aQ en.nQ v.cQ):=⟨by simp only[World.cell?,hx];rfl,by simp only[World.cell?,hx];rfl,by simp only[World.cell?,hx];rfl⟩;generalize (⟨(z0D en).toArray⟩:ByteArray)=tl at *;generalize (⟨(z0D en).dropLast.toArray⟩:ByteArray)=tt at *;rw[show errV 0=.nilIface from rfl]at HTX;clear HAN hgood hA hA2 hSm hAN2 hlast hd e10 hsl hln hen hx;go_wp2_with fail;refine(show Calls _ _ _ _ _ from HTX).mono ?_;rintro e w3 ⟨rfl,hb3⟩;clear HTX c0 c1 c2;go_wp2_with fail;refine(show Calls _ _ _ _ _ from HTR _).mono ?_;rintro e w4 ⟨rfl,rfl⟩;clear HTR;go_wp2;go_ret2;exact⟨HT.out,hb2.trans (hb3.mono hb2.size)⟩
end
end Go.Proofs.YtbcpcbonlhlhpaaGreatDoor
