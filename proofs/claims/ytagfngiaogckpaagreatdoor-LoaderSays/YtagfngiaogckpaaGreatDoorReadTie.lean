/- What words and linesOf of the document's answer return, for every text; memory that was there stays as it was. What readLine does with a line of each kind, for every line; memory that was there stays as it was. What namedTie returns, for every three words; memory that was there stays as it was. -/
import Derived.Test.YtagfngiaogckpaaGreatDoorRefNum
namespace Go.Proofs.YtagfngiaogckpaaGreatDoor
open Go.RowKit
theorem list_run_append {P : Program} {ops : Array Oper} {rest : List Oper} {o : Oper} {a : Act} {w W : World} {Q : Exit -> Act -> World -> Prop} (hg : o.guard = none) (s x : Operand) (t : TypeId)
 (hop : o.op = Op.call { callee := Callee.builtin Builtin.append,args := #[s,x],argTypes := #[t,t] }) (v sl v' : Value)
 (hs : a.eval s = v) (hx : a.eval x = sl) (hrun : (Builtin.append_ #[t,t] o.type #[v,sl]).run P w = .ok v' W) (h : wpList P ops Q rest (a.put o.dst v') W) : wpList P ops Q (o :: rest) a w :=
 wpList_plain hg fun _ hK => by
  unfold Oper.wp
  simp [execOp,hop,resolve,invoke,builtin,hs,hx,hrun,Result.andThen]
  exact hK _ _ h
def strC (xs : List (List UInt8)) : List Value := xs.map fun l => .string ⟨l.toArray⟩
theorem strGrow {B : Nat} {w0 w : World} {v : Value} {n : Nat} {cs : List Value} (a : ByteArray) (hB : B <= w.heap.size) (hb : Below B w0 w) (h : w.ownsRow B 9 1 v n cs) (hn : n + 1 <= 1000000) :
 ∃ g cap W,(Builtin.append_ #[64,64] 64 #[v,.slice (some ⟨w.heap.size,0,none⟩) 1 1]).run Tryz.prog (w.alloc (.cells #[.string a] 9)) = .ok (.slice (some ⟨g,0,none⟩) (n + 1) cap) W /\ W.ownsRow B 9 1 (.slice (some ⟨g,0,none⟩) (n + 1) cap) (n + 1) (cs ++ [.string a]) /\ Below B w0 W := by
 obtain ⟨g,cap,W,happ,hown,hgr⟩ := append_one 64 9 1 16 (.string ⟨#[]⟩) (by kernel_rfl) (by kernel_rfl) (by rfl) (by decide) B w v n cs [.string a] h rfl (by simp [Value.oneCell']) hB hn (by decide)
 exact ⟨g,cap,W,happ,hown,(hb.alloc hB _).grown hgr (by simp; omega) (fun k hk => (h.lt k hk).1)⟩
theorem strC_snoc (d : List (List UInt8)) (a : ByteArray) : strC d ++ [.string a] = strC (d ++ [a.data.toList]) := by simp [strC]
theorem cut_snoc (c : UInt8) (l : List UInt8) (b : UInt8) : cut c (l ++ [b]) = cutStep c (cut c l) b := by unfold cut; rw [List.foldl_append]; rfl
theorem byteCh (b : UInt8) (n : Nat) (hn : n < 256) (h : ((b.toNat : Int) == (n : Int)) = true) : b = UInt8.ofNat n := by rw [byte_eq b n hn] at h; simpa using h
theorem byteNo (b : UInt8) (n : Nat) (hn : n < 256) (h : ((b.toNat : Int) == (n : Int)) = false) : b ≠ UInt8.ofNat n := by rw [byte_eq b n hn] at h; simpa using h
structure Cutting (c : UInt8) (w wr : World) (v : Value) (n : Nat) (l : List UInt8) (cur : List UInt8) : Prop where
 below : Below w.heap.size w wr
 is : ∃ d : List (List UInt8),cut c l = (d,cur) /\ d.length = n /\ wr.ownsRow w.heap.size 9 1 v n (strC d)
theorem Cutting.grow {c : UInt8} {w wr : World} {v : Value} {n : Nat} {l : List UInt8} {cur : ByteArray} (h : Cutting c w wr v n l cur.data.toList) (hn : n + 1 <= 1000000) :
 ∃ g cap W,(Builtin.append_ #[64,64] 64 #[v,.slice (some ⟨wr.heap.size,0,none⟩) 1 1]).run Tryz.prog (wr.alloc (.cells #[.string cur] 9)) = .ok (.slice (some ⟨g,0,none⟩) (n + 1) cap) W /\ Cutting c w W (.slice (some ⟨g,0,none⟩) (n + 1) cap) (n + 1) (l ++ [c]) [] /\
  W.ownsRow w.heap.size 9 1 (.slice (some ⟨g,0,none⟩) (n + 1) cap) (n + 1) (strC ((cut c l).1 ++ [(cut c l).2])) /\ ((cut c l).1 ++ [(cut c l).2]).length = n + 1 := by
 obtain ⟨d,h1,h2,h3⟩ := h.is
 obtain ⟨g,cap,W,happ,hown,hb⟩ := strGrow cur h.below.size h.below h3 hn
 rw [strC_snoc] at hown
 refine ⟨g,cap,W,happ,⟨hb,d ++ [cur.data.toList],?_,by simp [h2],hown⟩,by rw [h1]; exact hown,by rw [h1]; simp [h2]⟩
 rw [cut_snoc,h1]
 simp [cutStep]
theorem Cutting.more {c b : UInt8} {w wr : World} {v : Value} {n : Nat} {l : List UInt8} {cur : List UInt8} (h : Cutting c w wr v n l cur) (hb : b ≠ c) : Cutting c w wr v n (l ++ [b]) (cur ++ [b]) := by
 obtain ⟨d,h1,h2,h3⟩ := h.is
 refine ⟨h.below,d,?_,h2,h3⟩
 rw [cut_snoc,h1]
 simp [cutStep,hb]
theorem byte_piece (s : ByteArray) (k : Nat) (hk : k < s.size) : (s.extract k (k + 1)).data.toList = [s[k]] := by
 rw [ByteArray.data_extract,Array.toList_extract,List.extract_eq_take_drop,show k + 1 - k = 1 by omega,List.drop_eq_getElem_cons (by simpa using hk)]
 simp [ByteArray.getElem_eq_getElem_data]
set_option maxRecDepth 100000 in
set_option maxHeartbeats 1000000 in
theorem words_ref (s : ByteArray) (w : World) (hs : s.size <= 100000) :
 Calls Tryz.prog 123 #[.string s] w fun e w' => (∃ b cap,e = .returned (.slice (some ⟨b,0,none⟩) (wordsR s.data.toList).length cap) /\ w'.ownsRow w.heap.size 9 1 (.slice (some ⟨b,0,none⟩) (wordsR s.data.toList).length cap) (wordsR s.data.toList).length (strC (wordsR s.data.toList))) /\ Below w.heap.size w w' := by
 have hl : s.data.toList.length = s.size := by simp
 have HW : Hid (wordsR s.data.toList = (cut 32 s.data.toList).1 ++ [(cut 32 s.data.toList).2]) := rfl
 generalize wordsR s.data.toList = ws at *
 go_enter Tryz.func123,Tryz.ntmps123
 go_wp2
 go_loopw [3,4,5] (fun v c i wr => ∃ (k n : Nat) (cur : ByteArray),k <= s.size /\ n <= k /\ cur.size <= k /\ i = .int .i64 k /\ c = .string cur /\ Cutting 32 w wr v n (s.data.toList.take k) cur.data.toList) (fun _ _ i _ => s.size - (intOf i).toNat)
 case atStart => exact ⟨0,0,⟨#[]⟩,Nat.zero_le _,Nat.le_refl _,Nat.le_refl _,rfl,rfl,Below.refl _ _,[],rfl,rfl,World.ownsRow_nil _ _ _ _⟩
 case round =>
  obtain ⟨k,n,cur,hk,hn,hz,rfl,rfl,hC⟩ := hrel
  by_cases hlt : k < s.size
  ·have ht := take_more s k hlt
   by_cases hc : ((s[k].toNat : Int) == 32) = true
   ·rw [byteCh s[k] 32 (by omega) hc] at ht
    obtain ⟨g,cap,W,happ,hC2,_,_⟩ := hC.grow (by omega)
    have HC : Hid (Cutting 32 w W (.slice (some ⟨g,0,none⟩) (n + 1) cap) (n + 1) (s.data.toList.take (k + 1)) []) := by
     show Cutting 32 w W _ _ _ _
     rw [ht]
     exact hC2
    clear ht hC2 hC
    go_wp2_with (at_builtin; refine list_run_append rfl _ _ 64 rfl _ _ _ rfl rfl happ ?_)
    go_wp2
    go_roundw
    case rel => exact ⟨k + 1,n + 1,⟨#[]⟩,by omega,by omega,Nat.zero_le _,by go_num,rfl,HC.out⟩
    case measure => simp [intOf]; omega
   ·have hc2 : ((s[k].toNat : Int) == 32) = false := by simpa using hc
    have hC2 := hC.more (byteNo s[k] 32 (by omega) hc2)
    have hp := byte_piece s k hlt
    rw [<- ht] at hC2
    have HC : Hid (Cutting 32 w wr u3 n (s.data.toList.take (k + 1)) (cur ++ s.extract k (k + 1)).data.toList) := by
     show Cutting 32 w wr u3 n _ _
     rw [ByteArray.data_append,Array.toList_append,hp]
     exact hC2
    clear ht hC2 hC hp hc
    go_wp2
    go_roundw
    case rel => exact ⟨k + 1,n,_,by omega,by omega,by simp; omega,by go_num,rfl,HC.out⟩
    case measure => simp [intOf]; omega
  ·have e : k = s.size := by omega
   subst e
   have et : s.data.toList.take s.size = s.data.toList := List.take_of_length_le (by omega)
   rw [et] at hC
   obtain ⟨g,cap,W,happ,hC2,hown,hlen⟩ := hC.grow (by omega)
   rw [<- HW.out] at hown hlen
   have hB := hC2.below
   have HL : Hid (ws.length = n + 1) := hlen
   clear et hC hC2 HW hlen
   go_wp2_with (at_builtin; refine list_run_append rfl _ _ 64 rfl _ _ _ rfl rfl happ ?_)
   go_wp2
   go_ret
   rw [HL.out]
   exact ⟨⟨g,cap,rfl,hown⟩,hB⟩
theorem piece_list (s : ByteArray) (f k : Nat) : (s.extract f k).data.toList = (s.data.toList.drop f).take (k - f) := by
 rw [ByteArray.data_extract,Array.toList_extract,List.extract_eq_take_drop]
theorem piece_more (s : ByteArray) (f k : Nat) (hf : f <= k) (hk : k < s.size) : (s.extract f (k + 1)).data.toList = (s.extract f k).data.toList ++ [s[k]] := by
 rw [piece_list,piece_list,show k + 1 - f = (k - f) + 1 by omega,List.take_add_one,List.getElem?_drop,show f + (k - f) = k by omega,List.getElem?_eq_getElem (by simpa using hk)]
 simp [ByteArray.getElem_eq_getElem_data]
theorem piece_none (s : ByteArray) (f : Nat) : (s.extract f f).data.toList = [] := by rw [piece_list]; simp
set_option maxRecDepth 100000 in
set_option maxHeartbeats 1000000 in
theorem linesOf_ref (s : ByteArray) (w : World) (hs : s.size <= 100000) :
 Calls Tryz.prog 122 #[.string s] w fun e w' => (∃ v,e = .returned (.tuple #[v,.bool (decide ((cut 10 s.data.toList).2 = []))]) /\ w'.ownsRow w.heap.size 9 1 v (cut 10 s.data.toList).1.length (strC (cut 10 s.data.toList).1)) /\ Below w.heap.size w w' := by
 have hl : s.data.toList.length = s.size := by simp
 obtain ⟨R,hR⟩ : ∃ R,cut 10 s.data.toList = R := ⟨_,rfl⟩
 rw [hR]
 have HR : Hid (cut 10 s.data.toList = R) := hR
 clear hR
 go_enter Tryz.func122,Tryz.ntmps122
 go_wp2
 go_loopw [4,5,6] (fun v f i wr => ∃ (k n fr : Nat),k <= s.size /\ n <= k /\ fr <= k /\ i = .int .i64 k /\ f = .int .i64 fr /\ Cutting 10 w wr v n (s.data.toList.take k) (s.extract fr k).data.toList) (fun _ _ i _ => s.size - (intOf i).toNat)
 case atStart => exact ⟨0,0,0,Nat.zero_le _,Nat.le_refl _,Nat.le_refl _,rfl,rfl,Below.refl _ _,[],by rw [piece_none]; rfl,rfl,World.ownsRow_nil _ _ _ _⟩
 case round =>
  obtain ⟨k,n,fr,hk,hn,hf,rfl,rfl,hC⟩ := hrel
  have hf' : (fr : Int) <= k := by omega
  by_cases hlt : k < s.size
  ·have ht := take_more s k hlt
   by_cases hc : ((s[k].toNat : Int) == 10) = true
   ·rw [byteCh s[k] 10 (by omega) hc] at ht
    obtain ⟨g,cap,W,happ,hC2,_,_⟩ := hC.grow (by omega)
    have HC : Hid (Cutting 10 w W (.slice (some ⟨g,0,none⟩) (n + 1) cap) (n + 1) (s.data.toList.take (k + 1)) (s.extract (k + 1) (k + 1)).data.toList) := by
     show Cutting 10 w W _ _ _ _
     rw [ht,piece_none]
     exact hC2
    clear ht hC2 hC
    go_wp2_with (at_builtin; refine list_run_append rfl _ _ 64 rfl _ _ _ rfl rfl happ ?_)
    go_wp2
    go_roundw
    case rel => exact ⟨k + 1,n + 1,k + 1,by omega,by omega,by omega,by go_num,by go_num,HC.out⟩
    case measure => simp [intOf]; omega
   ·have hc2 : ((s[k].toNat : Int) == 10) = false := by simpa using hc
    have hC2 := hC.more (byteNo s[k] 10 (by omega) hc2)
    rw [<- ht,<- piece_more s fr k hf hlt] at hC2
    have HC : Hid (Cutting 10 w wr u4 n (s.data.toList.take (k + 1)) (s.extract fr (k + 1)).data.toList) := hC2
    clear ht hC2 hC hc
    go_wp2
    go_roundw
    case rel => exact ⟨k + 1,n,fr,by omega,by omega,by omega,by go_num,rfl,HC.out⟩
    case measure => simp [intOf]; omega
  ·have e : k = s.size := by omega
   subst e
   have et : s.data.toList.take s.size = s.data.toList := List.take_of_length_le (by omega)
   rw [et] at hC
   obtain ⟨d,h1,h2,h3⟩ := hC.is
   rw [HR.out] at h1
   have HD : Hid (R = (d,(s.extract fr s.size).data.toList)) := h1
   have hB := hC.below
   have HB : Hid (((fr : Int) == (s.size : Int)) = decide ((s.extract fr s.size).data.toList = [])) := by
    show ((fr : Int) == (s.size : Int)) = _
    rw [Bool.eq_iff_iff,beq_iff_eq,decide_eq_true_eq,<- List.length_eq_zero_iff,piece_list,List.length_take,List.length_drop]
    omega
   have HN : Hid (d.length = n) := h2
   clear et hC h1 h2 HR
   go_wp2
   go_ret2
   rw [HB.out,HD.out]
   exact ⟨⟨_,rfl,by rw [HN.out]; exact h3⟩,hB⟩
def wordsOf (l : ByteArray) : List ByteArray := Lib.splitB ⟨#[32]⟩ 0 (Lib.countB l ⟨#[32]⟩) l
set_option maxRecDepth 100000 in
set_option maxHeartbeats 2000000 in
theorem readLine_need (B bo : Nat) (vN vW vS vT : Value) (o : ObjF) (l : ByteArray) (wk : Bool) (l' a : ByteArray) (w : World) (hE : Env w) (hR : Reading B w bo vN vW vS vT o)
 (hl' : l'.size <= 1000000) (hcut : Lib.hasPrefix l.data.toList [119,101,97,107,32] = wk) (htrim : (ByteArray.mk (Lib.trimPrefix l.data.toList [119,101,97,107,32]).toArray) = l')
 (hws : wordsOf l' = [⟨#[110,101,101,100]⟩,a]) (ha : a.size <= 1000000) (hn : o.nN + 1 <= 1000000) :
 Calls Tryz.prog 114 #[.pointer (some ⟨bo,0,none⟩),.string l] w fun e w' => e = .returned (.tuple #[]) /\ (∃ v0 v1 v2 v3,Reading B w' bo v0 v1 v2 v3 (addNeed o a)) /\ Kept B bo w w' := by
 have HC := Tryz.strings_CutPrefix l ⟨#[119,101,97,107,32]⟩ w
 have e0 : (ByteArray.mk #[119,101,97,107,32]).data.toList = [119,101,97,107,32] := rfl
 rw [e0,hcut,htrim] at HC
 obtain ⟨m,hm⟩ := hE.maxLen
 have HS := Tryz.strings_Split l' ⟨#[32]⟩ m w (by omega) hm (by decide)
 have HWS : Lib.splitB ⟨#[32]⟩ 0 (Lib.countB l' ⟨#[32]⟩) l' = [⟨#[110,101,101,100]⟩,a] := hws
 have hcnt : Lib.countB l' ⟨#[32]⟩ = 1 := by
  have h := Lib.splitB_all ⟨#[32]⟩ (by decide) 0 _ l' rfl
  rw [HWS] at h
  simp only [List.length_cons,List.length_nil] at h
  omega
 rw [HWS,hcnt] at HS
 simp only [List.map_cons,List.map_nil] at HS
 have hBw : B <= w.heap.size := hR.lo
 have hX : Below w.heap.size w (w.alloc (.cells #[.string ⟨#[110,101,101,100]⟩,.string a] 9)) := (Below.refl _ _).alloc (Nat.le_refl _) _
 have hY := fun nq : Nat => below_drewN hX nq
 have x0 := fun nq : Nat => (show ((w.alloc (.cells #[.string ⟨#[110,101,101,100]⟩,.string a] 9)).drewN nq).cell? ⟨w.heap.size,1,none⟩ = some (.string a) by simp [go_sem])
 clear e0 hcut htrim hcnt HWS hws hm hX
 go_enter Tryz.func114,Tryz.ntmps114
 go_wp2_with fail
 refine HC.mono ?_
 rintro e w' ⟨rfl,hw'⟩
 replace hw' := hw'.symm
 subst hw'
 go_wp2_with fail
 refine HS.mono ?_
 rintro e w' ⟨rfl,hw'⟩
 replace hw' := hw'.symm
 subst hw'
 clear HC HS
 go_wp2
 go_quiet (fail)
 go_wp2
 replace hY := hY nq
 replace x0 := x0 nq
 generalize (w.alloc (.cells #[.string ⟨#[110,101,101,100]⟩,.string a] 9)).drewN nq = Y at *
 replace hR := hR.below hY
 replace hE := hE.later hY
 replace hY : Kept B bo w Y := Kept.of hY hBw
 have hC := hR.c0
 go_region_law (first | (refine step_run_append rfl _ _ 64 rfl _ _ _ rfl rfl happ ?_) | (go_simp; go_at_call 31; refine (clone_any _ _ (by assumption)).mono ?_; rintro e w2 ⟨rfl,hb⟩; (try replace hb := below_undrew hb); replace hY := hY.trans (Kept.of hb hR.lo); replace hR := hR.below hb; replace hE := hE.later hb; replace x0 := cell_later hb x0; replace hC := hR.c0; clear hb; obtain ⟨g,cap,W,happ,g0,gz,hRn,hBn⟩ := hR.needGrow hY a hn; have qs : bo < w2.heap.size := hR.lt))
 all_goals
  go_wp2
  go_end0
  exact ⟨rfl,hRn,hBn⟩
set_option maxRecDepth 100000 in
set_option maxHeartbeats 2000000 in
theorem readLine_word (B bo : Nat) (vN vW vS vT : Value) (o : ObjF) (l : ByteArray) (wk : Bool) (l' a : ByteArray) (w : World) (hE : Env w) (hR : Reading B w bo vN vW vS vT o)
 (hl' : l'.size <= 1000000) (hcut : Lib.hasPrefix l.data.toList [119,101,97,107,32] = wk) (htrim : (ByteArray.mk (Lib.trimPrefix l.data.toList [119,101,97,107,32]).toArray) = l')
 (hws : wordsOf l' = [⟨#[119,111,114,100]⟩,a]) (ha : a.size <= 1000000) (hn : o.nW + 1 <= 1000000) :
 Calls Tryz.prog 114 #[.pointer (some ⟨bo,0,none⟩),.string l] w fun e w' => e = .returned (.tuple #[]) /\ (∃ v0 v1 v2 v3,Reading B w' bo v0 v1 v2 v3 (addWord o (numF a.data.toList))) /\ Kept B bo w w' := by
 have HC := Tryz.strings_CutPrefix l ⟨#[119,101,97,107,32]⟩ w
 have e0 : (ByteArray.mk #[119,101,97,107,32]).data.toList = [119,101,97,107,32] := rfl
 rw [e0,hcut,htrim] at HC
 obtain ⟨m,hm⟩ := hE.maxLen
 have HS := Tryz.strings_Split l' ⟨#[32]⟩ m w (by omega) hm (by decide)
 have HWS : Lib.splitB ⟨#[32]⟩ 0 (Lib.countB l' ⟨#[32]⟩) l' = [⟨#[119,111,114,100]⟩,a] := hws
 have hcnt : Lib.countB l' ⟨#[32]⟩ = 1 := by
  have h := Lib.splitB_all ⟨#[32]⟩ (by decide) 0 _ l' rfl
  rw [HWS] at h
  simp only [List.length_cons,List.length_nil] at h
  omega
 rw [HWS,hcnt] at HS
 simp only [List.map_cons,List.map_nil] at HS
 have hBw : B <= w.heap.size := hR.lo
 have hX : Below w.heap.size w (w.alloc (.cells #[.string ⟨#[119,111,114,100]⟩,.string a] 9)) := (Below.refl _ _).alloc (Nat.le_refl _) _
 have hY := fun nq : Nat => below_drewN hX nq
 have x0 := fun nq : Nat => (show ((w.alloc (.cells #[.string ⟨#[119,111,114,100]⟩,.string a] 9)).drewN nq).cell? ⟨w.heap.size,1,none⟩ = some (.string a) by simp [go_sem])
 clear e0 hcut htrim hcnt HWS hws hm hX
 go_enter Tryz.func114,Tryz.ntmps114
 go_wp2_with fail
 refine HC.mono ?_
 rintro e w' ⟨rfl,hw'⟩
 replace hw' := hw'.symm
 subst hw'
 go_wp2_with fail
 refine HS.mono ?_
 rintro e w' ⟨rfl,hw'⟩
 replace hw' := hw'.symm
 subst hw'
 clear HC HS
 go_wp2
 go_quiet (fail)
 go_wp2
 replace hY := hY nq
 replace x0 := x0 nq
 generalize (w.alloc (.cells #[.string ⟨#[119,111,114,100]⟩,.string a] 9)).drewN nq = Y at *
 replace hR := hR.below hY
 replace hE := hE.later hY
 replace hY : Kept B bo w Y := Kept.of hY hBw
 have hC := hR.c1
 go_region_law (first | (refine step_run_append rfl _ _ 68 rfl _ _ _ rfl rfl happ ?_) | (go_simp; go_at_call 151; refine (number_any _ _ (by first | exact hE | exact hE.drew) (by assumption)).mono ?_; rintro e w2 ⟨rfl,hb⟩; (try replace hb := below_undrew hb); replace hY := hY.trans (Kept.of hb hR.lo); replace hR := hR.below hb; replace hE := hE.later hb; replace x0 := cell_later hb x0; replace hC := hR.c1; clear hb; obtain ⟨g,cap,W,happ,g0,gz,hRn,hBn⟩ := hR.wordGrow hY (numF a.data.toList) hn; have qs : bo < w2.heap.size := hR.lt))
 all_goals
  go_wp2
  go_end0
  exact ⟨rfl,hRn,hBn⟩
theorem lt_of_block {w : World} {R : Nat} {o : Obj} (h : w.heap[R]? = some o) : R < w.heap.size := (Array.getElem?_eq_some_iff.1 h).1
set_option maxRecDepth 100000 in
set_option maxHeartbeats 2000000 in
theorem namedTie_any (kd : Int) (wk : Bool) (bk of : Nat) (a b c : ByteArray) (w : World) (hE : Env w) (ha : a.size <= 1000000) (hb : b.size <= 1000000) (hc : c.size <= 1000000)
 (c0 : w.cell? ⟨bk,of,none⟩ = some (.string a)) (c1 : w.cell? ⟨bk,of + 1,none⟩ = some (.string b)) (c2 : w.cell? ⟨bk,of + 2,none⟩ = some (.string c)) :
 Calls Tryz.prog 152 #[.int .i64 kd,.slice (some ⟨bk,of,none⟩) 3 3,.bool wk] w fun e w' => e = .returned (.agg #[.int .i64 (numF a.data.toList),.int .i64 kd,.int .i64 (numF b.data.toList),.string c,.bool wk]) /\ Below w.heap.size w w' := by
 have hB : Below w.heap.size w (w.alloc (.cells #[.int .i64 0,.int .i64 0,.int .i64 0,.string ⟨#[]⟩,.bool false] 183)) := (Below.refl _ _).alloc (Nat.le_refl _) _
 have hR : (w.alloc (.cells #[.int .i64 0,.int .i64 0,.int .i64 0,.string ⟨#[]⟩,.bool false] 183)).heap[w.heap.size]? = some (.cells #[.int .i64 0,.int .i64 0,.int .i64 0,.string ⟨#[]⟩,.bool false] 183 (0,0)) := by show (w.heap.push _)[w.heap.size]? = _; rw [Array.getElem?_push_size]
 replace hE := hE.later hB
 replace c0 := cell_later hB c0
 replace c1 := cell_later hB c1
 replace c2 := cell_later hB c2
 go_enter Tryz.func152,Tryz.ntmps152
 go_wp2
 generalize w.alloc (.cells #[.int .i64 0,.int .i64 0,.int .i64 0,.string ⟨#[]⟩,.bool false] 183) = Y at *
 generalize hRw : w.heap.size = R at *
 have HR : Hid (w.heap.size = R) := hRw
 clear hRw
 have q0 : Y.cell? ⟨R,0,none⟩ = some (.int .i64 0) := by simp [World.cell?,hR]
 have f0 : Y.frozen? ⟨R,0,none⟩ = false := by simp [World.frozen?,hR]
 have q1 : Y.cell? ⟨R,1,none⟩ = some (.int .i64 0) := by simp [World.cell?,hR]
 have f1 : Y.frozen? ⟨R,1,none⟩ = false := by simp [World.frozen?,hR]
 have q2 : Y.cell? ⟨R,2,none⟩ = some (.int .i64 0) := by simp [World.cell?,hR]
 have f2 : Y.frozen? ⟨R,2,none⟩ = false := by simp [World.frozen?,hR]
 have q3 : Y.cell? ⟨R,3,none⟩ = some (.string ⟨#[]⟩) := by simp [World.cell?,hR]
 have f3 : Y.frozen? ⟨R,3,none⟩ = false := by simp [World.frozen?,hR]
 have q4 : Y.cell? ⟨R,4,none⟩ = some (.bool false) := by simp [World.cell?,hR]
 have f4 : Y.frozen? ⟨R,4,none⟩ = false := by simp [World.frozen?,hR]
 go_region_law (first | (go_simp; go_at_call 151; refine (number_any _ _ (by first | exact hE | exact hE.drew) (by assumption)).mono ?_; rintro e w2 ⟨rfl,hx⟩; (try replace hx := below_undrew hx); have hl := lt_of_block hR; replace hE := hE.later hx; replace c0 := cell_later hx c0; replace c1 := cell_later hx c1; replace c2 := cell_later hx c2; replace hR := (hx.block R hl).trans hR; replace q0 := cell_later hx q0; replace q1 := cell_later hx q1; replace q2 := cell_later hx q2; replace q3 := cell_later hx q3; replace q4 := cell_later hx q4; replace f0 := (hx.frozen (p := ⟨R,0,none⟩) hl).trans f0; replace f1 := (hx.frozen (p := ⟨R,1,none⟩) hl).trans f1; replace f2 := (hx.frozen (p := ⟨R,2,none⟩) hl).trans f2; replace f3 := (hx.frozen (p := ⟨R,3,none⟩) hl).trans f3; replace f4 := (hx.frozen (p := ⟨R,4,none⟩) hl).trans f4; replace hB := hB.trans (hx.mono (Nat.le_of_lt hl)); clear hx) | (go_simp; go_at_call 31; refine (clone_any _ _ (by assumption)).mono ?_; rintro e w2 ⟨rfl,hx⟩; (try replace hx := below_undrew hx); have hl := lt_of_block hR; replace hE := hE.later hx; replace c0 := cell_later hx c0; replace c1 := cell_later hx c1; replace c2 := cell_later hx c2; replace hR := (hx.block R hl).trans hR; replace q0 := cell_later hx q0; replace q1 := cell_later hx q1; replace q2 := cell_later hx q2; replace q3 := cell_later hx q3; replace q4 := cell_later hx q4; replace f0 := (hx.frozen (p := ⟨R,0,none⟩) hl).trans f0; replace f1 := (hx.frozen (p := ⟨R,1,none⟩) hl).trans f1; replace f2 := (hx.frozen (p := ⟨R,2,none⟩) hl).trans f2; replace f3 := (hx.frozen (p := ⟨R,3,none⟩) hl).trans f3; replace f4 := (hx.frozen (p := ⟨R,4,none⟩) hl).trans f4; replace hB := hB.trans (hx.mono (Nat.le_of_lt hl)); clear hx))
 all_goals
  go_wp2
  refine bodyPost_ret (v := .agg #[.int .i64 (numF a.data.toList),.int .i64 kd,.int .i64 (numF b.data.toList),.string c,.bool wk]) (by simp [results,Tryz.results152,go_sem,q0,q1,q2,q3,q4]) rfl ⟨rfl,?_⟩
  rw [HR.out]
  exact ((((hB.setCell (p := ⟨R,0,none⟩) (Nat.le_refl _) _).setCell (p := ⟨R,1,none⟩) (Nat.le_refl _) _).setCell (p := ⟨R,2,none⟩) (Nat.le_refl _) _).setCell (p := ⟨R,3,none⟩) (Nat.le_refl _) _).setCell (p := ⟨R,4,none⟩) (Nat.le_refl _) _
end Go.Proofs.YtagfngiaogckpaaGreatDoor
