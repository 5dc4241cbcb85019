/- A region that draws its order, walked by hand: what only -/
import Derived.OrdersHeld
import Derived.RegionTactic
import Derived.KernelRfl
namespace Go.Proofs.YtbcpcbonlhlhpaaGreatDoor
open Go
section
variable {P:Program} {ops:Array Oper} {Q:Exit->Go.Act->World->Prop} {md:Region.Mode} {S:World->Prop} {e:Nat}
def z1Q (P:Program)(md:Region.Mode)(ops:Array Oper)(Q:Exit->Go.Act->World->Prop)(S:World->Prop)(e:Nat):Nat->Array Bool->Go.Act->World->Prop
 |0,listed,a,w=>Region.ready md ops listed=[]/\Q .normal a w
 |fuel+1,listed,a,w=>
  (Region.ready md ops listed=[]->Q .normal a w) /\
  ∀i∈Region.ready md ops listed,wpOp P ops Q i (fun a' w'=>(i=e∨listed.getD e false=true∨S w')/\z1Q P md ops Q S e fuel (listed.setIfInBounds i true) a' w') a w
theorem wpAny_of_G:∀(fuel:Nat) (listed:Array Bool) (a:Go.Act) (w:World),z1Q P md ops Q S e fuel listed a w->wpAny P md ops Q fuel listed a w
 |0,_,_,_,h=>h
 |fuel+1,_,_,_,h=>⟨h.1,fun i hi=>wpOp_mono (fun a' w' h'=>wpAny_of_G fuel _ a' w' h'.2) (h.2 i hi)⟩
theorem z0f (S:World->Prop)(e n:Nat){id:Nat}{l:List Oper}{a:Go.Act}{w:World}(hm:P.follows .mixedOrders=true)(hn:l.length=n)
 (h:z1Q P .any l.toArray Q S e n (Array.replicate n false) a w.drew):(Code.region id l.toArray true).wp P Q a w:=
 wp_region_any hm (wpAny_of_G (S:=S) (e:=e) _ _ _ _ (by subst hn;simpa using h))
def Closed(md:Region.Mode)(ops:Array Oper)(listed:Array Bool):Prop:=
 ∀j o,ops[j]?=some o->listed.getD j false=true->∀d∈o.after,Region.binds md d=true->listed.getD d.on false=true
def closedB(md:Region.Mode)(ops:Array Oper)(listed:Array Bool):Bool:=
 (List.range ops.size).all fun j=>!listed.getD j false||((ops[j]?).map fun o=>o.after.all fun d=>!Region.binds md d||listed.getD d.on false).getD true
theorem closedB_spec{listed:Array Bool}(h:closedB md ops listed=true):Closed md ops listed:=by
 intro j o hj hl d hd hb;simp only[closedB,List.all_eq_true,List.mem_range]at h;have h1:=h j (Array.getElem?_eq_some_iff.1 hj).1;simp only[hl,hj,Bool.not_true,Bool.false_or,Option.map_some,Option.getD_some,Array.all_eq_true_iff_forall_mem]at h1;have h2:=h1 d hd;simpa[hb]using h2
theorem Closed.step{listed:Array Bool}{i:Nat}(h:Closed md ops listed)(hi:i∈Region.ready md ops listed):Closed md ops (listed.setIfInBounds i true):=by
 intro j o hj hl d hd hb;by_cases hij:i=j
 ·subst hij;obtain⟨_,o',ho',hall⟩:=mem_ready.1 hi;rw[hj]at ho';cases ho';exact getD_set_true (hall d hd hb)
 ·rw[getD_set_ne false hij]at hl;exact getD_set_true (h j o hj hl d hd hb)
def hangsB(md:Region.Mode)(ops:Array Oper)(e i:Nat):Bool:=((ops[e]?).map fun o=>o.after.any fun d=>Region.binds md d&&d.on==i).getD false
def pathB(md:Region.Mode)(ops:Array Oper):Nat->List Nat->Nat->Bool
 |e,[],i=>hangsB md ops e i
 |e,p :: ps,i=>hangsB md ops e p&&pathB md ops p ps i
theorem hangs_spec{e i:Nat}(h:hangsB md ops e i=true):∃o,ops[e]?=some o/\∃d∈o.after,Region.binds md d=true/\d.on=i:=by
 unfold hangsB at h;cases ho:ops[e]? with
 |none=>simp[ho]at h
 |some o=>
  simp only[ho,Option.map_some,Option.getD_some]at h;obtain⟨d,hd,hb⟩:=Array.any_eq_true'.1 h;simp only[Bool.and_eq_true,beq_iff_eq]at hb;exact⟨o,rfl,d,hd,hb.1,hb.2⟩
theorem hangs_listed{listed:Array Bool}{e i:Nat}(hc:Closed md ops listed)(h:hangsB md ops e i=true)(he:listed.getD e false=true):listed.getD i false=true:=by
 obtain⟨o,ho,d,hd,hb,rfl⟩:=hangs_spec h;exact hc e o ho he d hd hb
theorem hangs_ready{listed:Array Bool}{e i:Nat}(h:hangsB md ops e i=true)(he:e∈Region.ready md ops listed):listed.getD i false=true:=by
 obtain⟨o,ho,d,hd,hb,rfl⟩:=hangs_spec h;obtain⟨_,o',ho',hall⟩:=mem_ready.1 he;rw[ho]at ho';cases ho';exact hall d hd hb
theorem z7w {listed:Array Bool}(hc:Closed md ops listed):∀(ps:List Nat) {e i:Nat},pathB md ops e ps i=true->listed.getD e false=true->listed.getD i false=true
 | [],_,_,h,he=>hangs_listed hc h he
 |p :: ps,_,_,h,he=>by
  simp only[pathB,Bool.and_eq_true]at h;exact z7w hc ps h.2 (hangs_listed hc h.1 he)
theorem path_ready{listed:Array Bool}(hc:Closed md ops listed):∀(ps:List Nat) {e i:Nat},pathB md ops e ps i=true->e∈Region.ready md ops listed->listed.getD i false=true
 | [],_,_,h,he=>hangs_ready h he
 |p :: ps,_,_,h,he=>by
  simp only[pathB,Bool.and_eq_true]at h;exact z7w hc ps h.2 (hangs_ready h.1 he)
theorem z6N {listed:Array Bool}{i:Nat}(h:i∈Region.ready md ops listed):listed.getD i false≠true:=by
 have h0:=(mem_ready.1 h).1;intro h1;rcases Nat.lt_or_ge i listed.size with h'|h'
 ·simp[h']at h0 h1;rw[h0]at h1;cases h1
 ·simp[Array.getElem?_eq_none h']at h1
theorem not_hangs{listed:Array Bool}{i j:Nat}{oj:Oper}(hr:i∈Region.ready md ops listed)(hj:j∈Region.ready md ops listed)(hoj:ops[j]?=some oj):∀d∈oj.after,Region.binds md d=true->d.on≠i:=fun d hd hb heq=>by
 obtain⟨_,o',ho',hall⟩:=mem_ready.1 hj;rw[hoj]at ho';cases ho';exact z6N hr (heq ▸ hall d hd hb)
theorem wpAnyG_first{i:Nat}{oi:Oper}{v:Value}{ps:List Nat}(hi:ops[i]?=some oi)(hsel:∀(j:Nat) (o:Oper) cs b,ops[j]?=some o->o.op ≠ .select cs b)
 (hQ:∀c a w,Q (.panic c) (a.put oi.dst v) w->Q (.panic c) a w) (hp:pathB md ops e ps i=true) :
 ∀(fuel:Nat) (listed:Array Bool) (a:Go.Act) (w:World),
  (∀j oj,ops[j]?=some oj->j≠i->listed.getD j true=false->(∀d∈oj.after,Region.binds md d=true->d.on≠i)->oi.apart ops oj=true) ->
  Closed md ops listed->i∈Region.ready md ops listed->YieldsIf P ops S oi v a->S w ->
  z1Q P md ops Q S e fuel (listed.setIfInBounds i true) (a.put oi.dst v) w->z1Q P md ops Q S e (fuel+1) listed a w:=by
 intro fuel
 induction fuel with
 |zero=>
  intro listed a w _ _ hr hy hS H;refine⟨fun h=>(by rw[h]at hr;cases hr),fun j hj=>?_⟩;by_cases hji:j=i
  ·subst hji;exact hy.wpOp hi hS ⟨.inr (.inr hS),H⟩
  ·have:=ready_mono hj hji;rw[H.1]at this;cases this
 |succ fuel ih=>
  intro listed a w hfree hcl hr hy hS H;refine⟨fun h=>(by rw[h]at hr;cases hr),fun j hj=>?_⟩;by_cases hji:j=i
  ·subst hji;exact hy.wpOp hi hS ⟨.inr (.inr hS),H⟩
  ·have h1:=H.2 j (ready_mono hj hji);obtain⟨hjun,oj,hoj,_⟩:=mem_ready.1 hj;have h2:=wpOp_putIf hoj (hfree j oj hoj hji hjun (not_hangs hr hj hoj)) (fun cs b=>hsel i oi cs b hi) (fun cs b=>hsel j oj cs b hoj) hQ hy h1;have hje:j≠e:=fun h=>z6N hr (path_ready hcl ps hp (h ▸ hj))
   have hie:i≠e:=fun h=>z6N hr (path_ready hcl ps hp (h ▸ hr))
   have hle:listed.getD e false≠true:=fun h=>z6N hr (z7w hcl ps hp h)
   have hfree':∀k ok,ops[k]?=some ok->k≠i->(listed.setIfInBounds j true).getD k true=false ->
    (∀d∈ok.after,Region.binds md d=true->d.on≠i)->oi.apart ops ok=true:=fun k ok hk hki hun hno=>by
    refine hfree k ok hk hki ?_ hno;by_cases hjk:j=k
    ·subst hjk;exact hjun
    ·rw[getD_set_ne true hjk]at hun;exact hun
   refine wpOp_mono (fun a' w' h3=>?_) h2;obtain⟨hy3,hc3,hG⟩:=h3;have hS3:S w':=by
    rcases hc3 with h|h|h
    ·exact absurd h hje
    ·rw[getD_set_ne false hie]at h;exact absurd h hle
    ·exact h
   refine⟨.inr (.inr hS3),ih (listed.setIfInBounds j true) a' w' hfree' (hcl.step hj) (ready_mono hr (Ne.symm hji)) hy3 hS3 ?_⟩;rw[Array.setIfInBounds_comm _ _ hji];exact hG
theorem wpAnyG_firstW{i:Nat}{oi:Oper}{v:Value}(hi:ops[i]?=some oi)(hsel:∀(j:Nat) (o:Oper) cs b,ops[j]?=some o->o.op ≠ .select cs b)
 (hQ:∀c a w,Q (.panic c) (a.put oi.dst v) w->Q (.panic c) a w) (hie:i≠e) :
 ∀(fuel:Nat) (listed:Array Bool) (a:Go.Act) (w:World),
  (∀j oj,ops[j]?=some oj->j≠i->listed.getD j true=false->(∀d∈oj.after,Region.binds md d=true->d.on≠i)->oi.apart ops oj=true) ->
  listed.size=ops.size->i∈Region.ready md ops listed->Yields P ops oi v a->(listed.getD e false=true∨S w) ->
  z1Q P md ops Q S e fuel (listed.setIfInBounds i true) (a.put oi.dst v) w->z1Q P md ops Q S e (fuel+1) listed a w:=by
 intro fuel
 induction fuel with
 |zero=>
  intro listed a w _ _ hr hy hS H;refine⟨fun h=>(by rw[h]at hr;cases hr),fun j hj=>?_⟩;by_cases hji:j=i
  ·subst hji;exact hy.wpOp hi ⟨.inr hS,H⟩
  ·have:=ready_mono hj hji;rw[H.1]at this;cases this
 |succ fuel ih=>
  intro listed a w hfree hsz hr hy hS H;refine⟨fun h=>(by rw[h]at hr;cases hr),fun j hj=>?_⟩;by_cases hji:j=i
  ·subst hji;exact hy.wpOp hi ⟨.inr hS,H⟩
  ·have h1:=H.2 j (ready_mono hj hji);obtain⟨hjun,oj,hoj,_⟩:=mem_ready.1 hj;have h2:=wpOp_put hoj (hfree j oj hoj hji hjun (not_hangs hr hj hoj)) (fun cs b=>hsel i oi cs b hi) (fun cs b=>hsel j oj cs b hoj) hQ hy h1;have hfree':∀k ok,ops[k]?=some ok->k≠i->(listed.setIfInBounds j true).getD k true=false ->
    (∀d∈ok.after,Region.binds md d=true->d.on≠i)->oi.apart ops ok=true:=fun k ok hk hki hun hno=>by
    refine hfree k ok hk hki ?_ hno;by_cases hjk:j=k
    ·subst hjk;exact hjun
    ·rw[getD_set_ne true hjk]at hun;exact hun
   refine wpOp_mono (fun a' w' h3=>?_) h2;obtain⟨hy3,hc3,hG⟩:=h3;rw[getD_set_ne false hie]at hc3;have hlt:j<listed.size:=by rw[hsz];exact(Array.getElem?_eq_some_iff.1 hoj).1
   refine⟨hc3,ih (listed.setIfInBounds j true) a' w' hfree' (by simpa using hsz) (ready_mono hr (Ne.symm hji)) hy3 ?_ ?_⟩
   ·rcases hc3 with h|h|h
    ·subst h;exact .inl (by simp[hlt])
    ·exact .inl (getD_set_true h)
    ·exact .inr h
   rw[Array.setIfInBounds_comm _ _ hji];exact hG
theorem z3T {l post:List Oper}{i:Nat}{o:Oper}(h:l.drop i=o :: post):l.toArray[i]?=some o:=by
 have h2:(l.drop i)[0]?=some o:=by rw[h];rfl
 simpa using h2
theorem takeR(i:Nat)(ps:List Nat){l post:List Oper}{oi:Oper}{v:Value}{fuel:Nat}{listed:Array Bool}{a:Go.Act}{w:World}(hi:l.drop i=oi :: post)
 (hs:Region.noSelect l.toArray=true) (hf:Region.free md l.toArray listed i=true) (hc:closedB md l.toArray listed=true) (hr:(Region.ready md l.toArray listed).contains i=true) (hp:pathB md l.toArray e ps i=true)
 (hQ:∀c a w,Q (.panic c) (a.put oi.dst v) w->Q (.panic c) a w) (hS:S w) (hy:YieldsIf P l.toArray S oi v a)
 (h:z1Q P md l.toArray Q S e fuel (listed.setIfInBounds i true) (a.put oi.dst v) w):z1Q P md l.toArray Q S e (fuel+1) listed a w:=
 wpAnyG_first (z3T hi) (Region.noSelect_spec hs) hQ hp fuel listed a w (Region.free_spec (z3T hi) hf) (closedB_spec hc) (by simpa using hr) hy hS h
theorem takeW(i:Nat){l post:List Oper}{oi:Oper}{v:Value}{fuel:Nat}{listed:Array Bool}{a:Go.Act}{w:World}(hi:l.drop i=oi :: post)
 (hs:Region.noSelect l.toArray=true) (hf:Region.free md l.toArray listed i=true) (hr:(Region.ready md l.toArray listed).contains i=true) (hie:(i != e&&listed.size==l.toArray.size)=true)
 (hQ:∀c a w,Q (.panic c) (a.put oi.dst v) w->Q (.panic c) a w) (hS:listed.getD e false=true∨S w) (hy:Yields P l.toArray oi v a)
 (h:z1Q P md l.toArray Q S e fuel (listed.setIfInBounds i true) (a.put oi.dst v) w):z1Q P md l.toArray Q S e (fuel+1) listed a w:=
 have h2:i≠e/\listed.size=l.toArray.size:=by simpa using hie
 wpAnyG_firstW (z3T hi) (Region.noSelect_spec hs) hQ h2.1 fuel listed a w (Region.free_spec (z3T hi) hf) h2.2 (by simpa using hr) hy hS h
theorem z1c {listed:Array Bool}{a:Go.Act}{w:World}(hr:Region.ready md ops listed=[])(h:Q .normal a w):∀fuel,z1Q P md ops Q S e fuel listed a w
 |0=>⟨hr,h⟩
 |_+1=>⟨fun _=>h,by rw[hr];simp⟩
def z6O (Q:Exit->Go.Act->World->Prop)(K:Go.Act->World->Prop):Exit->Go.Act->World->Prop
 | .normal,a,w=>K a w
 |x,a,w=>Q x a w
theorem z6s {k:Nat}{o:Oper}{K:Go.Act->World->Prop}{a:Go.Act}{w:World}(ho:ops[k]?=some o)(h:wpList P ops (z6O Q K) [o] a w):wpOp P ops Q k K a w:=by
 unfold wpOp;simp only[ho];simp only[wpList]at h;split
 ·rename_i hw;rw[if_pos hw]at h;refine h.imp (fun h=>?_) (fun⟨h1,a',w',h2⟩=>⟨h1,a',w',h2⟩);unfold Oper.wp at *;generalize (execOp a.eval o).run P w=r at *;cases r with
  |ok n w'=>
   cases n <;> simp only[Oper.upon]at h ⊢ <;>
    first
     |exact h
     |exact Calls.mono h (fun x w'' he=>by cases x <;> exact he)
     |exact Rows.mono h (fun _ _ he=>he)
  |halt x w'=>cases x <;> simp only[Oper.upon]at h ⊢ <;> exact h
 ·rename_i hw;rw[if_neg hw]at h;exact h
theorem onlyG(k:Nat){l post:List Oper}{o:Oper}{fuel:Nat}{listed:Array Bool}{a:Go.Act}{w:World}(ho:l.drop k=o :: post)(hr:Region.ready md l.toArray listed=[k])
 (h:∀K:Go.Act->World->Prop,(∀a w,S w->z1Q P md l.toArray Q S e fuel (listed.setIfInBounds k true) a w->K a w)->wpList P l.toArray (z6O Q K) [o] a w):z1Q P md l.toArray Q S e (fuel+1) listed a w:=
 ⟨fun h0=>(by rw[hr]at h0;cases h0),fun i hi=>by
  rw[hr]at hi;cases List.mem_singleton.1 hi;exact z6s (z3T ho) (h _ (fun a w h1 h2=>⟨.inr (.inr h1),h2⟩))⟩
theorem lastG(k:Nat){l post:List Oper}{o:Oper}{fuel:Nat}{listed:Array Bool}{a:Go.Act}{w:World}(ho:l.drop k=o :: post)(hr:Region.ready md l.toArray listed=[k])(hk:(k==e||listed.getD e false)=true)
 (h:∀K:Go.Act->World->Prop,(∀a w,z1Q P md l.toArray Q S e fuel (listed.setIfInBounds k true) a w->K a w)->wpList P l.toArray (z6O Q K) [o] a w):z1Q P md l.toArray Q S e (fuel+1) listed a w:=
 ⟨fun h0=>(by rw[hr]at h0;cases h0),fun i hi=>by
  rw[hr]at hi;cases List.mem_singleton.1 hi;refine z6s (z3T ho) (h _ (fun a w h2=>⟨?_,h2⟩));simp only[Bool.or_eq_true,beq_iff_eq]at hk;exact hk.imp id .inl⟩
def AllG(P:Program)(md:Region.Mode)(ops:Array Oper)(Q:Exit->Go.Act->World->Prop)(S:World->Prop)(e:Nat)(fuel:Nat)(listed:Array Bool)(a:Go.Act)(w:World)(rs:List Nat):Prop:=
 ∀i∈rs,wpOp P ops Q i (fun a' w'=>(i=e∨listed.getD e false=true∨S w')/\z1Q P md ops Q S e fuel (listed.setIfInBounds i true) a' w') a w
theorem z2r {fuel:Nat}{listed:Array Bool}{a:Go.Act}{w:World}:AllG P md ops Q S e fuel listed a w []:=fun _ h=>by cases h
theorem z0s (k:Nat){l post:List Oper}{o:Oper}{fuel:Nat}{listed:Array Bool}{a:Go.Act}{w:World}{rs:List Nat}(ho:l.drop k=o :: post)
 (h:∀K:Go.Act->World->Prop,(∀a w,S w->z1Q P md l.toArray Q S e fuel (listed.setIfInBounds k true) a w->K a w)->wpList P l.toArray (z6O Q K) [o] a w) (hs:AllG P md l.toArray Q S e fuel listed a w rs):AllG P md l.toArray Q S e fuel listed a w (k :: rs):=fun j hj=>by
 rcases List.mem_cons.1 hj with rfl|hj
 ·exact z6s (z3T ho) (h _ (fun a w h1 h2=>⟨.inr (.inr h1),h2⟩))
 ·exact hs j hj
theorem z4Q (rs:List Nat){fuel:Nat}{listed:Array Bool}{a:Go.Act}{w:World}(hr:Region.ready md ops listed=rs)(hne:rs ≠ [])(h:AllG P md ops Q S e fuel listed a w rs):z1Q P md ops Q S e (fuel+1) listed a w:=
 ⟨fun h0=>absurd (hr ▸ h0) hne,hr ▸ h⟩
theorem tW(i:Nat){l post:List Oper}{oi:Oper}{v:Value}{fuel:Nat}{listed:Array Bool}{a a':Go.Act}{w:World}(hS:S w)(h:z1Q P md l.toArray Q S e fuel (listed.setIfInBounds i true) a' w)(hi:l.drop i=oi :: post:=by exact rfl)
 (hs:Region.noSelect l.toArray=true:=by kernel_rfl) (hf:Region.free md l.toArray listed i=true:=by kernel_rfl) (hr:(Region.ready md l.toArray listed).contains i=true:=by kernel_rfl) (hie:(i != e&&listed.size==l.toArray.size)=true:=by kernel_rfl)
 (hQ:∀c a w,Q (.panic c) (a.put oi.dst v) w->Q (.panic c) a w:=by exact fun _ _ _ h=>h) (hw:Region.wanted oi (yielded l.toArray a.tmps)=true:=by rfl) (hy:∀w,(execOp a.eval oi).run P w=.ok (.value v) w:=by intro w;go_simp <;> with_reducible rfl)
 (ha:a.put oi.dst v=a':=by simp only[Go.Act.put,List.setIfInBounds_toArray,List.set_cons_zero,List.set_cons_succ];exact rfl):z1Q P md l.toArray Q S e (fuel+1) listed a w:=
 takeW i hi hs hf hr hie hQ (.inr hS) (.inl ⟨hw,hy⟩) (ha ▸ h)
theorem tA(i:Nat){l post:List Oper}{oi:Oper}{v:Value}{fuel:Nat}{listed:Array Bool}{a a':Go.Act}{w:World}(h:z1Q P md l.toArray Q S e fuel (listed.setIfInBounds i true) a' w)(hi:l.drop i=oi :: post:=by exact rfl)
 (hs:Region.noSelect l.toArray=true:=by kernel_rfl) (hf:Region.free md l.toArray listed i=true:=by kernel_rfl) (hr:(Region.ready md l.toArray listed).contains i=true:=by kernel_rfl) (hie:(i != e&&listed.size==l.toArray.size)=true:=by kernel_rfl)
 (hQ:∀c a w,Q (.panic c) (a.put oi.dst v) w->Q (.panic c) a w:=by exact fun _ _ _ h=>h) (hS:listed.getD e false=true:=by kernel_rfl) (hw:Region.wanted oi (yielded l.toArray a.tmps)=true:=by rfl) (hy:∀w,(execOp a.eval oi).run P w=.ok (.value v) w:=by intro w;go_simp <;> with_reducible rfl)
 (ha:a.put oi.dst v=a':=by simp only[Go.Act.put,List.setIfInBounds_toArray,List.set_cons_zero,List.set_cons_succ];exact rfl):z1Q P md l.toArray Q S e (fuel+1) listed a w:=
 takeW i hi hs hf hr hie hQ (.inl hS) (.inl ⟨hw,hy⟩) (ha ▸ h)
theorem tS(i:Nat){l post:List Oper}{oi:Oper}{fuel:Nat}{listed:Array Bool}{a a':Go.Act}{w:World}(hS:S w)(h:z1Q P md l.toArray Q S e fuel (listed.setIfInBounds i true) a' w)(hi:l.drop i=oi :: post:=by exact rfl)
 (hs:Region.noSelect l.toArray=true:=by kernel_rfl) (hf:Region.free md l.toArray listed i=true:=by kernel_rfl) (hr:(Region.ready md l.toArray listed).contains i=true:=by kernel_rfl) (hie:(i != e&&listed.size==l.toArray.size)=true:=by kernel_rfl)
 (hQ:∀c a w,Q (.panic c) (a.put oi.dst undef) w->Q (.panic c) a w:=by exact fun _ _ _ h=>h) (hw:Region.wanted oi (yielded l.toArray a.tmps)=false:=by rfl)
 (ha:a.put oi.dst undef=a':=by simp only[Go.Act.put,List.setIfInBounds_toArray,List.set_cons_zero,List.set_cons_succ];exact rfl):z1Q P md l.toArray Q S e (fuel+1) listed a w:=
 takeW i hi hs hf hr hie hQ (.inr hS) (.inr ⟨hw,rfl⟩) (ha ▸ h)
theorem tR(i:Nat)(ps:List Nat){l post:List Oper}{oi:Oper}{v:Value}{fuel:Nat}{listed:Array Bool}{a a':Go.Act}{w:World}(hS:S w)(h:z1Q P md l.toArray Q S e fuel (listed.setIfInBounds i true) a' w)(hi:l.drop i=oi :: post:=by exact rfl)
 (hs:Region.noSelect l.toArray=true:=by kernel_rfl) (hf:Region.free md l.toArray listed i=true:=by kernel_rfl) (hc:closedB md l.toArray listed=true:=by kernel_rfl) (hr:(Region.ready md l.toArray listed).contains i=true:=by kernel_rfl) (hp:pathB md l.toArray e ps i=true:=by kernel_rfl)
 (hQ:∀c a w,Q (.panic c) (a.put oi.dst v) w->Q (.panic c) a w:=by exact fun _ _ _ h=>h) (hw:Region.wanted oi (yielded l.toArray a.tmps)=true:=by rfl) (hy:∀w,S w->(execOp a.eval oi).run P w=.ok (.value v) w:=by intro w hSw;(try dsimp only at hSw);go_simp <;> with_reducible rfl)
 (ha:a.put oi.dst v=a':=by simp only[Go.Act.put,List.setIfInBounds_toArray,List.set_cons_zero,List.set_cons_succ];exact rfl):z1Q P md l.toArray Q S e (fuel+1) listed a w:=
 takeR i ps hi hs hf hc hr hp hQ hS (.inl ⟨hw,hy⟩) (ha ▸ h)
theorem oG(k:Nat){l post:List Oper}{o:Oper}{fuel:Nat}{listed:Array Bool}{a:Go.Act}{w:World}
 (h:∀K:Go.Act->World->Prop,(∀a w,S w->z1Q P md l.toArray Q S e fuel (listed.setIfInBounds k true) a w->K a w)->wpList P l.toArray (z6O Q K) [o] a w) (ho:l.drop k=o :: post:=by exact rfl) (hr:Region.ready md l.toArray listed=[k]:=by kernel_rfl):z1Q P md l.toArray Q S e (fuel+1) listed a w:=
 onlyG k ho hr h
theorem lG(k:Nat){l post:List Oper}{o:Oper}{fuel:Nat}{listed:Array Bool}{a:Go.Act}{w:World}
 (h:∀K:Go.Act->World->Prop,(∀a w,z1Q P md l.toArray Q S e fuel (listed.setIfInBounds k true) a w->K a w)->wpList P l.toArray (z6O Q K) [o] a w) (ho:l.drop k=o :: post:=by exact rfl) (hr:Region.ready md l.toArray listed=[k]:=by kernel_rfl) (hk:(k==e||listed.getD e false)=true:=by kernel_rfl):z1Q P md l.toArray Q S e (fuel+1) listed a w:=
 lastG k ho hr hk h
end
end Go.Proofs.YtbcpcbonlhlhpaaGreatDoor
