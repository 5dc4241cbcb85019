/- Plain words: what a line of a session asks, and what is -/
import Derived.Test.YtbcpcbonlhlhpaaGreatDoorPlainHash
set_option maxRecDepth 100000
set_option maxHeartbeats 8000000
namespace Go.Proofs.YtbcpcbonlhlhpaaGreatDoor
section
open Go.RowKit Go.Maps
structure CSt where
 text:ByteArray
 D:DataW Unit
 kf:Nat
 E:Nat->EntF
 k:Nat
inductive Cmd
 |bad
 |line (t:List UInt8)
 |clear
 |object
 |list
 |roots
 |write (n:ByteArray)
 |remove (n:ByteArray)
 |stamp (n:ByteArray)
 |build (n:ByteArray)
 |drop (n:ByteArray)
 |load (n:ByteArray)
 |entry (n:ByteArray)
 |hash (n:ByteArray)
 |restart
abbrev cLine:List UInt8:=[108,105,110,101]
abbrev cClear:List UInt8:=[99,108,101,97,114]
abbrev cObject:List UInt8:=[111,98,106,101,99,116]
abbrev cList:List UInt8:=[108,105,115,116]
abbrev cRoots:List UInt8:=[114,111,111,116,115]
abbrev cWrite:List UInt8:=[119,114,105,116,101]
abbrev cRemove:List UInt8:=[114,101,109,111,118,101]
abbrev cStamp:List UInt8:=[115,116,97,109,112]
abbrev cBuild:List UInt8:=[98,117,105,108,100]
abbrev cDrop:List UInt8:=[100,114,111,112]
abbrev cLoad:List UInt8:=[108,111,97,100]
abbrev cEntry:List UInt8:=[101,110,116,114,121]
abbrev cHash:List UInt8:=[104,97,115,104]
abbrev cArm:List UInt8:=[97,114,109]
abbrev z6V:List UInt8:=[114,101,115,116,97,114,116]
def wOf(l:List UInt8):List UInt8:=l.takeWhile (· != 32)
def rOf(l:List UInt8):List UInt8:=(l.dropWhile (· != 32)).drop 1
def numK(r:List UInt8):Bool:=match z1I r with|some n=>decide (0<=n)&&decide (n<=999)|none=>false
def z2h (l:List UInt8):Cmd:=if l=cClear then .clear else if l=cObject then .object else if l=cList then .list else if l=cRoots then .roots else .bad
def z1e (w:List UInt8)(r:ByteArray):Cmd:=
 if w=cWrite then .write r else if w=cRemove then .remove r else if w=cStamp then .stamp r else if w=cBuild then .build r else if w=cDrop then .drop r else if w=cLoad then .load r else if w=cEntry then .entry r else if w=cHash then .hash r else .bad
def z3F (w r:List UInt8):Cmd:=if w=cLine then .line r else if (32:UInt8)∈r then .bad else if w=z6V then(if numK r=true then .restart else .bad)else z1e w ⟨r.toArray⟩
def z1n (l:List UInt8):Cmd:=if 60<l.length then .bad else if (32:UInt8)∈l then z3F (wOf l) (rOf l)else z2h l
abbrev okT:List UInt8:=[111,107]
def z1h (F:Nat):List UInt8:=[101,114,114,111,114,32]++Lib.itoa (F:Int)
def z5z (F:Nat):List UInt8:=if F=0 then okT else z1h F
def listT(l:List (List UInt8)):List UInt8:=if l=[]then [45]else Lib.join l [32]
def z3c (X:Nat->Int):Nat->List UInt8
 |0=>[]
 |j+1=>z3c X j++([32]++Lib.itoa (X j))
def partT(nm:ByteArray)(b:Int)(X:Nat->Int)(M:Nat):List UInt8:=nm.data.toList++[32]++Lib.itoa b++[58]++z3c X M
def z1P (nm:Nat->ByteArray)(B:Nat->Int)(X:Nat->Nat->Int)(M:Nat->Nat):Nat->List (List UInt8)
 |0=>[]
 |i+1=>z1P nm B X M i++[partT (nm i) (B i) (X i) (M i)]
def z5E (E:Nat->EntF):Nat->List (List UInt8)
 |0=>[]
 |i+1=>z5E E i++[(E i).root.data.toList]
noncomputable def txD (D:DataW Unit):ByteArray->ByteArray:=(texts_some D).choose
theorem txD_is(D:DataW Unit):z4C D (txD D):=(texts_some D).choose_spec
noncomputable def stD (D:DataW Unit):ByteArray->Int:=(stamps_some D).choose
theorem z6n (D:DataW Unit):z3q D (stD D):=(stamps_some D).choose_spec
noncomputable abbrev rdC (st:CSt):ByteArray->Nat×ObjF:=rdD st.D (txD st.D)
theorem RBuilt.unique{E:Nat->EntF}{k:Nat}{rd:ByteArray->Nat×ObjF}{S:ByteArray->Int}{root:ByteArray}{F F':Nat}{r r':(Nat->EntF)×Nat}(h:RBuilt E k rd S root F r)(h':RBuilt E k rd S root F' r'):F=F'/\r=r':=by
 cases h with
 |bad F h1 hf=>
  cases h' with
  |bad F' h2 hf2=>exact⟨h1.unique h2,rfl⟩
  |put m Bs P Q h2=>exact(h1.not h2).elim
 |put m Bs P Q h1=>
  cases h' with
  |bad F' h2 hf2=>exact(h2.not h1).elim
  |put m' Bs' P' Q' h2=>
   obtain⟨rfl,rfl,rfl,rfl⟩:=h2.unique h1;exact⟨rfl,rfl⟩
open Classical in
noncomputable def builtC (st:CSt) (n:ByteArray):Nat×(Nat->EntF)×Nat:=
 if h:∃x:Nat×(Nat->EntF)×Nat,RBuilt st.E st.k (rdC st) (stD st.D) n x.1 x.2 then h.choose else(0,st.E,st.k)
theorem builtC_is{st:CSt}{n:ByteArray}{F:Nat}{r:(Nat->EntF)×Nat}(h:RBuilt st.E st.k (rdC st) (stD st.D) n F r):builtC st n=(F,r):=by
 have hx:∃x:Nat×(Nat->EntF)×Nat,RBuilt st.E st.k (rdC st) (stD st.D) n x.1 x.2:=⟨(F,r),h⟩;unfold builtC;rw[dif_pos hx];obtain⟨e1,e2⟩:=hx.choose_spec.unique h;exact Prod.ext e1 e2
open Classical in
noncomputable def loadC (rd:ByteArray->Nat×ObjF) (n:ByteArray):Nat×List UInt8:=
 if h:∃F,F≠0/\ReckIs rd n F then(h.choose,[])
 else if h:∃x:Nat×(Nat->Int)×(ByteArray->Int)×(ByteArray->Int),z0Z rd n x.1 x.2.1 x.2.2.1 x.2.2.2 then
  (0,Lib.join (z1P (nmAt rd n) h.choose.2.1 (z4m rd n h.choose.1 h.choose.2.1 h.choose.2.2.1 h.choose.2.2.2) (fun i=>(obAt rd n i).nW) h.choose.1) [59,32])
 else(0,[])
theorem loadC_bad{rd:ByteArray->Nat×ObjF}{n:ByteArray}{F:Nat}(h:ReckIs rd n F)(hf:F≠0):loadC rd n=(F,[]):=by
 have hx:∃F,F≠0/\ReckIs rd n F:=⟨F,hf,h⟩;unfold loadC;rw[dif_pos hx];rw[hx.choose_spec.2.unique h]
theorem loadC_ok{rd:ByteArray->Nat×ObjF}{n:ByteArray}{m:Nat}{B:Nat->Int}{P Q:ByteArray->Int}(h:z0Z rd n m B P Q):loadC rd n=(0,Lib.join (z1P (nmAt rd n) B (z4m rd n m B P Q) (fun i=>(obAt rd n i).nW) m) [59,32]):=by
 have h1:¬ ∃F,F≠0/\ReckIs rd n F:=fun⟨F,_,hF⟩=>hF.not h
 have hx:∃x:Nat×(Nat->Int)×(ByteArray->Int)×(ByteArray->Int),z0Z rd n x.1 x.2.1 x.2.2.1 x.2.2.2:=⟨(m,B,P,Q),h⟩;unfold loadC;rw[dif_neg h1,dif_pos hx];obtain⟨e1,e2,e3,e4⟩:=hx.choose_spec.unique h;rw[e1,e2,e3,e4]
noncomputable def keptC (st:CSt) (n:ByteArray):Bool:=(getE st.E st.k n).1&&z5c st.D (stD st.D) (getE st.E st.k n).2
abbrev keptT:List UInt8:=[107,101,112,116,32]
abbrev newT:List UInt8:=[110,101,119,32]
abbrev manyT:List UInt8:=[32,119,111,114,100,115]
noncomputable def sayC (st:CSt):Cmd->CSt×List UInt8
 | .bad=>(st,z1h 4)
 | .line t=>({st with text:=st.text++⟨t.toArray⟩++⟨#[10]⟩},okT)
 | .clear=>({st with text:=⟨#[]⟩},okT)
 | .object=>(st,if (z0k st.text).1=0 then Lib.itoa (((z0k st.text).2.nW:Nat):Int)++manyT else z1h (z0k st.text).1)
 | .list=>(st,listT (z3L st.D))
 | .roots=>(st,listT (z5E st.E st.k))
 | .write n=>(if writeF st.D st.kf n st.text=0 then {st with D:=st.D.put (keyB n) (z1s st.text.data.toList ((st.kf:Int)+1)),kf:=st.kf+1}else st,z5z (writeF st.D st.kf n st.text))
 | .remove n=>({st with D:=st.D.del (keyB n)},z5z (if Maps.has st.D (keyB n)=true then 0 else 5))
 | .stamp n=>(st,if Maps.has st.D (keyB n)=true then Lib.itoa (stD st.D n)else z1h 5)
 | .build n=>({st with E:=(builtC st n).2.1,k:=(builtC st n).2.2},z5z (builtC st n).1)
 | .drop n=>({st with E:=(z2F st.E st.k n).2.1,k:=(z2F st.E st.k n).2.2},z5z (z2F st.E st.k n).1)
 | .load n=>(st,if (loadC (rdC st) n).1=0 then(if keptC st n=true then keptT else newT)++(loadC (rdC st) n).2 else z1h (loadC (rdC st) n).1)
 | .entry n=>(st,if (getE st.E st.k n).1=true then(z0D (getE st.E st.k n).2).dropLast else z1h 5)
 | .hash n=>(st,Lib.itoa ((z5r n.data.toList:Nat):Int))
 | .restart=>(st,okT)
noncomputable def stAt (X:Nat->ByteArray):Nat->CSt
 |0=>⟨⟨#[]⟩,.map [],0,fun _=>z1g,0⟩
 |i+1=>(sayC (stAt X i) (z1n (X i).data.toList)).1
noncomputable def ansAt (X:Nat->ByteArray) (i:Nat):List UInt8:=(sayC (stAt X i) (z1n (X i).data.toList)).2
def Real(D:DataW Unit):Prop:=∃(w:World) (bm n:Nat),w.ownsMap Tryz.prog 9 z2t bm n D
structure Well(st:CSt)(i:Nat):Prop where
 text:st.text.size<=61*i
 inv:Inv st.D st.kf
 names:z2X st.D
 pos:z1y st.D
 few:st.kf<=i
 held:∀j,j<st.k->Held st.D st.kf (st.E j)
 good:z1M st.E st.k
 real:Real st.D
theorem z5D:∀ {l:List UInt8},(32:UInt8)∈l->l=wOf l++32 :: rOf l/\(32:UInt8) ∉ wOf l
 | [],h=>by cases h
 |b :: l,h=>by
  by_cases e:b=32
  ·subst e;exact⟨by simp[wOf,rOf],by simp[wOf]⟩
  ·have h':(32:UInt8)∈l:=by
    rcases List.mem_cons.1 h with e'|e'
    ·exact absurd e'.symm e
    ·exact e'
   obtain⟨h1,h2⟩:=z5D h';have hb:(b != 32)=true:=by rw[bne_iff_ne];exact e
   have e1:wOf (b :: l)=b :: wOf l:=by unfold wOf;rw[List.takeWhile_cons,if_pos hb]
   have e2:rOf (b :: l)=rOf l:=by unfold rOf;rw[List.dropWhile_cons,if_pos hb]
   rw[e1,e2];refine⟨by rw[List.cons_append,<-h1],fun hm=>?_⟩;rcases List.mem_cons.1 hm with e'|e'
   ·exact e e'.symm
   ·exact h2 e'
theorem words_one{l:List UInt8}(h:(32:UInt8) ∉ l):z0O l=[l]:=z1H l h
theorem words_more{l:List UInt8}(h:(32:UInt8)∈l):z0O l=wOf l :: z0O (rOf l):=by
 obtain⟨h1,h2⟩:=z5D h;have:=z0N (wOf l) (rOf l) h2
 rwa [<-h1]at this
theorem words_pos(l:List UInt8):1<=(z0O l).length:=by unfold z0O;simp
theorem words_few{l:List UInt8}(h:(32:UInt8)∈l):2<=(z0O l).length:=by
 rw[words_more h];have:=words_pos (rOf l);simp;omega
theorem z6w (n:Int)(w:World)(hE:Env w)(h0:-9223372036854775808<=n)(h1:n<=9223372036854775807) :
 Calls Tryz.prog 47 #[.int .i64 n] w fun e w'=>e=.returned (.string ⟨(Lib.itoa n).toArray⟩)/\Below w.heap.size w w':=by
 have HI:=z4u n w hE h0 h1;go_enter Tryz.func47,Tryz.ntmps47;go_wp2_with fail;refine(show Calls _ _ _ _ _ from HI).mono ?_;rintro e w1 ⟨rfl,hb⟩;clear HI;go_wp2;go_ret;exact⟨rfl,hb⟩
theorem cfault_any(F:Nat)(w:World)(hE:Env w)(hF:F≠0)(h:F<=1000) :
 Calls Tryz.prog 34 #[errV F] w fun e w'=>(∃t:ByteArray,e=.returned (.string t)/\t.data.toList=z1h F)/\Below w.heap.size w w':=by
 obtain⟨f,rfl⟩:∃f,F=f+1:=⟨F-1,by omega⟩;unfold z1h;have HC:=z6w ((f+1:Nat):Int) w hE (by omega) (by omega);have hsz:(⟨(Lib.itoa ((f+1:Nat):Int)).toArray⟩:ByteArray).size<=21:=by
  show(Lib.itoa _).toArray.size<=21;rw[List.size_toArray];exact Nat.le_trans (z1v _ (by omega) (by omega)) (by decide)
 show Calls _ _ #[.iface 43 (.int .i64 ((f+1:Nat):Int))] _ _;have ht:∀t:ByteArray,t=⟨(Lib.itoa ((f+1:Nat):Int)).toArray⟩->((⟨#[101,114,114,111,114,32]⟩:ByteArray)++t).data.toList=[101,114,114,111,114,32]++Lib.itoa ((f+1:Nat):Int):=fun t e=>by subst e;simp
 generalize hz:((f+1:Nat):Int)=z at *;have ha:=assert_errno z;generalize hT:(⟨(Lib.itoa z).toArray⟩:ByteArray)=t at *;have HT:Hid (((⟨#[101,114,114,111,114,32]⟩:ByteArray)++t).data.toList=[101,114,114,111,114,32]++Lib.itoa z):=ht t rfl;clear ht hT hz;go_enter Tryz.func34,Tryz.ntmps34;go_wp2_with fail;refine(show Calls _ _ _ _ _ from HC).mono ?_;rintro e w1 ⟨rfl,hb⟩;clear HC;go_wp2;go_ret;exact⟨⟨_,rfl,HT.out⟩,hb⟩
theorem z4S (v:Value)(w:World):Calls Tryz.prog 50 #[v] w fun e w'=>e=.returned (.tuple #[.string ⟨#[111,107]⟩,v])/\w'=w:=by
 go_enter Tryz.func50,Tryz.ntmps50;go_wp2;go_ret2;exact⟨rfl,rfl⟩
theorem clist_any(B:Nat)(a:Option Addr)(n c:Nat)(l:List (List UInt8))(w:World)(h:w.ownsRow B 9 1 (.slice a n c) n (z1A l))(hn:n<=1000)(hlen:(Lib.join l [32]).length<=100000) :
 Calls Tryz.prog 66 #[.slice a n c] w fun e w'=>(∃t:ByteArray,e=.returned (.string t)/\t.data.toList=listT l)/\Below w.heap.size w w':=by
 have hl:l.length=n:=by have:=h.1;simpa[z1A]using this
 by_cases h0:n=0
 ·have hl0:l=[]:=List.eq_nil_of_length_eq_zero (hl.trans h0);subst h0;subst hl0;go_enter Tryz.func66,Tryz.ntmps66;go_wp2;go_ret;exact⟨⟨_,rfl,rfl⟩,Below.refl _ _⟩
 ·have HJ:=joinW h (by omega) hn hlen;have hne:l ≠ []:=fun e=>h0 (by rw[<-hl,e];rfl)
  have hn0:((n:Int)==0)=false:=by rw[beq_eq_false_iff_ne];omega
  have HL:Hid ((⟨(Lib.join l [32]).toArray⟩:ByteArray).data.toList=listT l):=(by unfold listT;rw[if_neg hne]:(⟨(Lib.join l [32]).toArray⟩:ByteArray).data.toList=listT l);generalize (⟨(Lib.join l [32]).toArray⟩:ByteArray)=t at *;clear hne h0 hl h hlen;go_enter Tryz.func66,Tryz.ntmps66;go_wp2_with fail;refine(show Calls _ _ _ _ _ from HJ).mono ?_;rintro e w1 ⟨rfl,hb⟩;clear HJ;go_wp2;go_ret;exact⟨⟨_,rfl,HL.out⟩,hb⟩
end
section
open Go.RowKit Go.Maps
structure TellOk(n:Nat)(nm:Nat->ByteArray)(B:Nat->Int)(M:Nat->Nat)(X:Nat->Nat->Int):Prop where
 few:n<=6
 names:∀i,i<n->(nm i).size<=100
 many:∀i,i<n->M i<=40
 bases:∀i,i<n -> -9223372036854775807<=B i/\B i<=9223372036854775807
 words:∀i,i<n->∀j,j<M i -> -9223372036854775807<=X i j/\X i j<=9223372036854775807
theorem z4J {n:Int}(h:-9223372036854775807<=n/\n<=9223372036854775807):(Lib.itoa n).length<=20:=z1v n (by omega) (by omega)
theorem wordsT_len{X:Nat->Int}{M:Nat}(h:∀j,j<M -> -9223372036854775807<=X j/\X j<=9223372036854775807):(z3c X M).length<=21*M:=by
 induction M with
 |zero=>exact Nat.le_refl _
 |succ M ih=>
  have h1:=ih fun j hj=>h j (by omega)
  have h2:=z4J (h M (by omega));show(z3c X M++([32]++Lib.itoa (X M))).length<=_;simp only[List.length_append,List.length_singleton];omega
theorem partT_len{n:Nat}{nm:Nat->ByteArray}{B:Nat->Int}{M:Nat->Nat}{X:Nat->Nat->Int}(h:TellOk n nm B M X){i:Nat}(hi:i<n):(partT (nm i) (B i) (X i) (M i)).length<=1000:=by
 have h1:=h.names i hi;have h2:=z4J (h.bases i hi);have h3:=h.many i hi;have h4:=wordsT_len (h.words i hi);have h5:(nm i).data.toList.length=(nm i).size:=by simp
 unfold partT;simp only[List.length_append,List.length_singleton];omega
theorem z6b (nm:Nat->ByteArray)(B:Nat->Int)(X:Nat->Nat->Int)(M:Nat->Nat):∀i,(z1P nm B X M i).length=i
 |0=>rfl
 |i+1=>by
  show(z1P nm B X M i++[_]).length=i+1;rw[List.length_append,z6b nm B X M i];rfl
theorem partsT_mem{nm:Nat->ByteArray}{B:Nat->Int}{X:Nat->Nat->Int}{M:Nat->Nat}{x:List UInt8}:∀ {i:Nat},x∈z1P nm B X M i->∃j,j<i/\x=partT (nm j) (B j) (X j) (M j)
 |0,h=>by cases h
 |i+1,h=>by
  rcases List.mem_append.1 h with h|h
  ·obtain⟨j,hj,e⟩:=partsT_mem h;exact⟨j,by omega,e⟩
  ·rw[List.mem_singleton]at h;exact⟨i,by omega,h⟩
theorem z7E (sep:List UInt8)(L:Nat):∀r:List (List UInt8),(∀x∈r,x.length<=L)->(Lib.joinTail sep r).length<=r.length*(L+sep.length)
 | [],_=>by simp[Lib.joinTail]
 |x :: r,h=>by
  have h1:=h x (List.mem_cons_self ..);have h2:=z7E sep L r fun z hz=>h z (List.mem_cons_of_mem _ hz)
  have e:Lib.joinTail sep (x :: r)=sep++x++Lib.joinTail sep r:=by simp[Lib.joinTail]
  rw[e];simp only[List.length_append,List.length_cons];rw[Nat.add_mul];omega
theorem join_most(sep:List UInt8)(L:Nat)(ws:List (List UInt8))(h:∀x∈ws,x.length<=L):(Lib.join ws sep).length<=ws.length*(L+sep.length):=by
 cases ws with
 |nil=>rw[Lib.join_nil];exact Nat.zero_le _
 |cons x r=>
  have h1:=h x (List.mem_cons_self ..);have h2:=z7E sep L r fun z hz=>h z (List.mem_cons_of_mem _ hz)
  rw[Lib.join_cons,List.length_append,List.length_cons,Nat.add_mul];omega
theorem join_snoc(sep:List UInt8)(ws:List (List UInt8))(x:List UInt8)(h:ws ≠ []):Lib.join (ws++[x]) sep=Lib.join ws sep++(sep++x):=by
 cases ws with
 |nil=>exact absurd rfl h
 |cons y r=>
  rw[List.cons_append,Lib.join_cons,Lib.join_cons];have e:Lib.joinTail sep (r++[x])=Lib.joinTail sep r++(sep++x):=by simp[Lib.joinTail]
  rw[e,List.append_assoc]
theorem parts_join{n:Nat}{nm:Nat->ByteArray}{B:Nat->Int}{M:Nat->Nat}{X:Nat->Nat->Int}(h:TellOk n nm B M X){i:Nat}(hi:i<=n):(Lib.join (z1P nm B X M i) [59,32]).length<=6012:=by
 have h1:=join_most [59,32] 1000 (z1P nm B X M i) fun x hx=>by
  obtain⟨j,hj,rfl⟩:=partsT_mem hx;exact partT_len h (by omega)
 rw[z6b]at h1;have h2:=h.few;have h3:i*(1000 + [59,32].length)<=6*1002:=Nat.mul_le_mul (by omega) (by decide);omega
theorem joinS{B n:Nat}{w:World}{a:Option Addr}{c:Nat}{l:List (List UInt8)}(sep:ByteArray)(h:w.ownsRow B 9 1 (.slice a n c) n (z1A l))(h0:0<n)(hn:n<=1000)(hlen:(Lib.join l sep.data.toList).length<=100000) :
 Calls Tryz.prog 96 #[.slice a n c,.string sep] w fun e w'=>e=.returned (.string ⟨(Lib.join l sep.data.toList).toArray⟩)/\Below w.heap.size w w':=by
 have hl:l.length=n:=by have:=h.1;simpa[z1A]using this
 obtain⟨a',c',hv,hc⟩:=z0c h;injection hv with _ _ hcc;subst hcc;obtain⟨g,rfl,hB,hc0⟩:=z0K h (j:=0) (u:=.string ⟨(l[0]'(by omega)).toArray⟩) (by simp[z1A,hl,h0]);have hm:(l.map fun x=>(⟨x.toArray⟩:ByteArray)).map (fun x=>x.data.toList)=l:=by
  rw[List.map_map];exact(List.map_congr_left (fun x _=>by simp)).trans (List.map_id _)
 have:=Tryz.strings_Join g 0 c (l.map fun x=>(⟨x.toArray⟩:ByteArray)) sep w (fun j x hj=>by
  obtain⟨g',hg',_,hcj⟩:=z0K h (j:=j) (u:=.string x) (by
   rw[List.getElem?_map]at hj;unfold z1A;rw[List.getElem?_map];cases hx:l[j]? with
   |none=>rw[hx]at hj;simp at hj
   |some y=>rw[hx]at hj;simp at hj;simp[hj])
  injection hg' with hg';injection hg' with hg';rw[Nat.zero_add,hg'];exact hcj) (h.lt g rfl).2 (by simp;omega) (by simp;omega) (by rw[hm];exact Nat.le_trans hlen (by decide))
 rw[hm,List.length_map,hl]at this;exact this
theorem growStrs{B m:Nat}{w:World}{v:Value}{l:List (List UInt8)}(s:ByteArray)(x:List UInt8)(hx:s.data.toList=x)(hB:B<=w.heap.size)(h:w.ownsRow B 9 1 v m (z1A l))(hm:m<=1000) :
 ∃v' W,(Builtin.append_ #[22,22] 22 #[v,.slice (some ⟨w.heap.size,0,none⟩) 1 1]).run Tryz.prog (w.alloc (.cells #[.string s] 9))=.ok v' W/\W.ownsRow B 9 1 v' (m+1) (z1A (l++[x]))/\Below B w W/\(w.alloc (.cells #[.string s] 9)).grownBy W v.ownBlock:=by
 obtain⟨v',W,h1,h2⟩:=strGrow2 (.string s) rfl hB h (by omega);have e:z1A (l++[x])=z1A l++[.string s]:=by
  rw[z6B];have:(⟨x.toArray⟩:ByteArray)=s:=by rw[<-hx]
  simp[z1A,this]
 refine⟨v',W,h1,by rw[e];exact h2.own,?_,h2.grown⟩;exact((Below.refl B w).alloc hB _).trans (z4T (h.alloc _) (by simp;omega) h2.grown)
theorem z1t (l:List UInt8):(⟨l.toArray⟩:ByteArray).data.toList=l:=by simp
theorem z1W {t:ByteArray}{l:List UInt8}(h:t.data.toList=l):t.size=l.length:=by rw[<-h];simp
theorem part_head{s r:ByteArray}{b:Int}(hr:r.data.toList=Lib.itoa b):(s++⟨#[32]⟩++r++⟨#[58]⟩).data.toList=s.data.toList++[32]++Lib.itoa b++[58]++z3c (fun _=>0) 0:=by
 rw[<-hr];simp[z3c]
theorem part_word{t r:ByteArray}{p:List UInt8}{X:Nat->Int}{j:Nat}(ht:t.data.toList=p++z3c X j)(hr:r.data.toList=Lib.itoa (X j)):(t++(⟨#[32]⟩++r)).data.toList=p++z3c X (j+1):=by
 show _=p++(z3c X j++([32]++Lib.itoa (X j)));rw[<-List.append_assoc,<-ht,<-hr];simp
theorem part_word'{t r:ByteArray}{p:List UInt8}{X:Nat->Int}{j:Nat}(ht:t.data.toList=p++z3c X j)(hr:r.data.toList=Lib.itoa (X j)):(t++⟨#[32]⟩++r).data.toList=p++z3c X (j+1):=by
 rw[<-part_word ht hr];simp
theorem tell_any(a:Option Addr)(n c:Nat)(nm:Nat->ByteArray)(B:Nat->Int)(A:Nat->Option Addr)(M C:Nat->Nat)(X:Nat->Nat->Int)(w:World)(hE:Env w)(h:z7s w a n nm B A M C X)(hok:TellOk n nm B M X)(h0:0<n) :
 Calls Tryz.prog 107 #[.slice a n c] w fun e w'=>(∃t:ByteArray,e=.returned (.string t)/\t.data.toList=Lib.join (z1P nm B X M n) [59,32])/\Below w.heap.size w w':=by
 rcases h with h|⟨bk,o,rfl,hc⟩
 ·omega
 have hn6:=hok.few;go_enter Tryz.func107,Tryz.ntmps107;go_upto_block 0 with fail;go_wp2;go_loopw [3,11] (fun y3 y11 wr=>∃i:Nat,i<=n/\y11=.int .i64 i/\wr.ownsRow w.heap.size 9 1 y3 i (z1A (z1P nm B X M i))/\Below w.heap.size w wr) (fun _ y11 _=>n-(intOf y11).toNat)
 case atStart=>exact⟨0,Nat.zero_le _,rfl,World.ownsRow_nil _ _ _ _,Below.refl _ _⟩
 case round=>
  obtain⟨i,hi,rfl,hrow,hb⟩:=hrel;by_cases hlt:i<n
  ·obtain⟨z0,z1,z2,hw0⟩:=hc i hlt;have d0:=cell_later hb z0;have d1:=cell_later hb z1;have d2:=cell_later hb z2;have hrw:z1z wr (A i) (M i) fun j=>.int .i64 (X i j):=hw0.later hb
   have zn:=hok.names i hlt;have zm:=hok.many i hlt;have zb:=hok.bases i hlt;have zx:=hok.words i hlt;have hi0:(0:Int)<=(i:Int):=by omega
   have hi1:(i:Int)<(n:Int):=by omega
   have hP:z1P nm B X M (i+1)=z1P nm B X M i++[(nm i).data.toList++[32]++Lib.itoa (B i)++[58]++z3c (X i) (M i)]:=rfl;obtain⟨a3,c3,rfl,_⟩:=z0c hrow;have HC:Hid (∀i,i<n->w.cell? ⟨bk,o+i*3,none⟩=some (.string (nm i))/\w.cell? ⟨bk,o+i*3+1,none⟩=some (.int .i64 (B i))/\w.cell? ⟨bk,o+i*3+2,none⟩=some (.slice (A i) (M i) (C i))/\z1z w (A i) (M i) fun j=>.int .i64 (X i j)):=hc;clear hc z0 z1 z2 hw0;generalize hPP:z1P nm B X M (i+1)=PS at *;have HPS:Hid (z1P nm B X M (i+1)=PS):=hPP;clear hPP;generalize nm i=s at *;generalize B i=b at *;generalize M i=m at *;generalize A i=aw at *;generalize C i=cw at *;generalize X i=Y at *;have hbA:Below wr.heap.size wr (wr.alloc (.cells #[.string s,.int .i64 b,.slice aw m cw] 110)):=(Below.refl _ _).alloc (Nat.le_refl _) _;have hx:(wr.alloc (.cells #[.string s,.int .i64 b,.slice aw m cw] 110)).heap[wr.heap.size]?=some (.cells #[.string s,.int .i64 b,.slice aw m cw] 110 (0,0)):=Array.getElem?_push_size;have hrowA:=z0e hrow hbA;have hbw:=hb.trans (hbA.mono hb.size);have hrwA:=hrw.later hbA;clear hrow hb hrw hbA;go_upto_region 5 with fail;clear d0 d1 d2;generalize wr.alloc (.cells #[.string s,.int .i64 b,.slice aw m cw] 110)=W at *;generalize wr.heap.size=bb at *;have mkS:∀V:World,Below W.heap.size W V->(fun w':World=>w'.cell? ⟨bb,0,none⟩=some (.string s)/\w'.cell? ⟨bb,1,none⟩=some (.int .i64 b)/\w'.cell? ⟨bb,2,none⟩=some (.slice aw m cw)) V:=fun V hV=>by
    have h:=(hV.block _ (Array.getElem?_eq_some_iff.1 hx).1).trans hx;exact⟨by simp[World.cell?,h],by simp[World.cell?,h],by simp[World.cell?,h]⟩
   have hbd:=(Below.refl W.heap.size W).drew;have hSS:=mkS _ hbd;have HCT:=z6w b W.drew (hE.later (hbw.trans (hbd.mono hbw.size))) (by omega) (by omega);have y1:¬9223372036854775807<s.size+1:=by omega
   refine z0f (fun w':World=>w'.cell? ⟨bb,0,none⟩=some (.string s)/\w'.cell? ⟨bb,1,none⟩=some (.int .i64 b)/\w'.cell? ⟨bb,2,none⟩=some (.slice aw m cw)) 8 9 (by kernel_rfl) rfl ?_;generalize W.drew=W1 at *;refine tW 0 hSS ?_;refine tW 3 hSS ?_;refine tR 1 [] hSS ?_;refine tW 2 hSS ?_;refine tR 4 [] hSS ?_;refine oG 5 fun K hK=>?_
   go_wp2_with fail;refine(show Calls _ _ _ _ _ from HCT).mono ?_;rintro e W2 ⟨rfl,hb2⟩;clear HCT;have hr1:=z1t (Lib.itoa b);generalize (⟨(Lib.itoa b).toArray⟩:ByteArray)=r1 at *;have q1:r1.size<=20:=by rw[z1W hr1];exact z4J zb
   have hbd2:=hbd.trans (hb2.mono hbd.size);have hSS2:=mkS _ hbd2;clear hSS hb2;go_wp2;refine hK _ _ hSS2 ?_;clear hK;have hSS:=hSS2;clear hSS2;have y2:¬9223372036854775807<s.size+1+r1.size:=by omega
   have y3:¬9223372036854775807<s.size+1+r1.size+1:=by omega
   refine tW 6 hSS ?_;refine tW 7 hSS ?_;clear hSS;refine lG 8 fun K hK=>?_
   go_wp2;refine hK _ _ ?_;clear hK;refine z1c (by kernel_rfl) ?_ _;have HT0:Hid ((s++⟨#[32]⟩++r1++⟨#[58]⟩).data.toList=(s.data.toList++[32]++Lib.itoa b++[58])++z3c Y 0):=by
    have:=part_head (s:=s) hr1;exact this
   have hPL:(s.data.toList++[32]++Lib.itoa b++[58]).length<=150:=by
    have h1:=z4J zb;have h2:s.data.toList.length=s.size:=by simp
    simp only[List.length_append,List.length_singleton];omega
   obtain⟨c0,c1,c2⟩:=mkS _ hbd2;have hrowB:=z0e hrowA hbd2;have hbB:=hbw.trans (hbd2.mono hbw.size);have hrwB:=hrwA.later hbd2;clear y1 y2 y3 hr1 q1 c0 c1 hrowA hbw hrwA mkS hbd hbd2 hx;generalize s++⟨#[32]⟩++r1++⟨#[58]⟩=t0 at *;generalize s.data.toList++[32]++Lib.itoa b++[58]=PL at *;obtain⟨wq,rfl⟩:∃V,V=wr:=⟨_,rfl⟩;go_upto_block 2 with fail;clear c2;go_wp2;go_loopw [6,26] (fun y6 y26 wz=>∃(j:Nat) (t:ByteArray),j<=m/\y26=.int .i64 j/\y6=.string t/\Hid (t.data.toList=PL++z3c Y j)/\Below W2.heap.size W2 wz) (fun _ y26 _=>m-(intOf y26).toNat)
   case atStart=>exact⟨0,t0,Nat.zero_le _,rfl,rfl,HT0,Below.refl _ _⟩
   case round=>
    clear HT0;obtain⟨j,t,hj,rfl,rfl,HT,hbz⟩:=hrel;have hts:t.size<=1000:=by
     rw[z1W HT.out,List.length_append];have:=wordsT_len (X:=Y) (M:=j) fun k hk=>zx k (by omega)
     omega
    by_cases hlj:j<m
    ·rcases hrwB.later hbz with h|⟨bw,ow,rfl,hcw⟩
     ·omega
     have x0:wr.cell? ⟨bw,ow+j,none⟩=some (.int .i64 (Y j)):=hcw j hlj;have zj:=zx j hlj;have HCT:=z6w (Y j) wr (hE.later (hbB.trans (hbz.mono hbB.size))) (by omega) (by omega);have hj0:(0:Int)<=(j:Int):=by omega
     have hj1:(j:Int)<(m:Int):=by omega
     have HPW:=fun(r:ByteArray)=>part_word (t:=t) (r:=r) (X:=Y) (j:=j) HT.out
     clear hcw HT;generalize hyj:Y j=yj at *;clear hyj;go_wp2_with fail;refine(show Calls _ _ _ _ _ from HCT).mono ?_;rintro e W3 ⟨rfl,hb3⟩;clear HCT x0;have hr1:=z1t (Lib.itoa yj);generalize (⟨(Lib.itoa yj).toArray⟩:ByteArray)=r1 at *;have q1:r1.size<=20:=by rw[z1W hr1];exact z4J zj
     have HN:Hid ((t++(⟨#[32]⟩++r1)).data.toList=PL++z3c Y (j+1)):=HPW r1 hr1;clear HPW hr1;go_wp2;go_roundw
     case rel=>exact⟨j+1,_,by omega,by go_num,rfl,HN,hbz.trans (hb3.mono hbz.size)⟩
     case measure=>simp[intOf];omega
    ·obtain rfl:j=m:=by omega
     have hrowC:=z0e hrowB hbz;have hbC:=hbB.trans (hbz.mono hbB.size);obtain⟨v9,W9,happ,hown,hbg,_⟩:=growStrs t (PL++z3c Y j) HT.out hbC.size hrowC (by omega);rw[<-hP]at hown;have hb9:=hbC.trans hbg;obtain⟨a9,c9,rfl,_⟩:=z0c hown;rw[<-HPS.out]at hown;clear hrowC hbC hrowB hbB hbz HT hbg hP HPS;go_wp2_with (at_builtin;refine z0b rfl (.tmp 36) (.tmp 38) 22 rfl _ _ _ rfl rfl happ ?_);go_wp2;go_roundw
     case rel=>exact⟨i+1,by omega,by go_num,hown,hb9⟩
     case measure=>simp[intOf];omega
  ·obtain rfl:i=n:=by omega
   obtain⟨a3,c3,rfl,_⟩:=z0c hrow;have hjl:=parts_join hok (Nat.le_refl i);have HJ:=joinS ⟨#[59,32]⟩ hrow h0 (by omega) (show(Lib.join (z1P nm B X M i) [59,32]).length<=100000 by omega);have HJ':Calls Tryz.prog 96 #[.slice a3 i c3,.string ⟨#[59,32]⟩] wr fun e w'=>e=.returned (.string ⟨(Lib.join (z1P nm B X M i) [59,32]).toArray⟩)/\Below wr.heap.size wr w':=HJ
   have HL:=z1t (Lib.join (z1P nm B X M i) [59,32]);generalize (⟨(Lib.join (z1P nm B X M i) [59,32]).toArray⟩:ByteArray)=t at *;have HLH:Hid (t.data.toList=Lib.join (z1P nm B X M i) [59,32]):=HL;clear HJ HL hrow hc hok hjl;go_wp2_with fail;refine(show Calls _ _ _ _ _ from HJ').mono ?_;rintro e W2 ⟨rfl,hb2⟩;clear HJ';go_wp2;go_ret;exact⟨⟨_,rfl,HLH.out⟩,hb.trans (hb2.mono hb.size)⟩
end
end Go.Proofs.YtbcpcbonlhlhpaaGreatDoor
