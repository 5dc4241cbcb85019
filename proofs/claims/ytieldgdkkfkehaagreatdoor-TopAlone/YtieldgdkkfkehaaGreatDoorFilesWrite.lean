/-
  What Write of package files does, for every name and text: in plain words on what the map holds; all other memory stays as it was.
-/
import Derived.Test.YtieldgdkkfkehaaGreatDoorFilesWalks
import Derived.Test.YtieldgdkkfkehaaGreatDoorShelf
import Derived.Test.YtieldgdkkfkehaaGreatDoorPlain
import Derived.Deep.RegionWith
namespace Go.Proofs.YtieldgdkkfkehaaGreatDoor
open Go.RowKit Go.Maps

theorem cloneB (s : ByteArray) (w : World) (hs : s.size ≤ 1000000) :
    Calls Tryz.prog 33 #[.string s] w fun e w' => e = .returned (.string s) ∧ Below w.heap.size w w' := by
  have HA := Tryz.stringslite_Clone s w (by omega)
  go_enter Tryz.func33, Tryz.ntmps33
  go_wp2_with fail
  refine HA.mono ?_
  rintro e w' ⟨rfl, hb⟩
  clear HA
  go_wp2
  go_ret
  exact ⟨rfl, hb⟩

/-- the fault's number of a writing (0: none). -/
def writeF (D : DataW Unit) (k : Nat) (s text : ByteArray) : Nat :=
  seqF (nameF s.data.toList) (if 1200 < text.size then 2 else if 6 ≤ othersF D s ∨ 1000000 ≤ k then 8 else 0)

/-- a call of Write that returned. -/
structure WriteEnd (w : World) (p bm : Nat) (D : DataW Unit) (k : Nat) (s text : ByteArray) (F : Nat) (e : Ending) (w' : World) : Prop where
  e : e = .returned (errV F)
  yes : F = 0 → FilesAt w' p bm (D.put (keyB s) (fileD text.data.toList ((k : Int) + 1))) (k + 1)
  no : F ≠ 0 → FilesAt w' p bm D k
  turned : Turned p bm w w'

set_option maxRecDepth 100000 in
set_option maxHeartbeats 1000000 in
theorem write_err (w : World) (p bm : Nat) (D : DataW Unit) (k : Nat) (s text : ByteArray) (h : FilesAt w p bm D k) (hs : s.size ≤ maxLen) (hz : Maps.size D ≤ 1000) (F : Nat) (hF : F = writeF D k s text) (h0 : F ≠ 0) :
    Calls Tryz.prog 10 #[.pointer (some ⟨p, 0, none⟩), .string s, .string text] w fun e w' => WriteEnd w p bm D k s text F e w' := by
  have HN := check_any s w hs
  by_cases hn : nameF s.data.toList = 0
  · rw [hn] at HN
    have hF2 : F = if 1200 < text.size then 2 else if 6 ≤ othersF D s ∨ 1000000 ≤ k then 8 else 0 := by rw [hF]; unfold writeF; rw [hn]; rfl
    clear hF hn
    by_cases ht : 1200 < text.size
    · rw [if_pos ht] at hF2
      subst hF2
      have ht' : (1200 : Int) < (text.size : Int) := by omega
      clear ht
      go_enter Tryz.func10, Tryz.ntmps10
      go_wp2_with fail
      refine HN.mono ?_
      rintro e w' ⟨rfl, rfl⟩
      simp only [errV]
      go_wp2
      go_ret
      exact ⟨rfl, (fun h => by cases h), fun _ => h, Turned.refl _ _ _⟩
    · rw [if_neg ht] at hF2
      have ht' : ¬ (1200 : Int) < (text.size : Int) := by omega
      by_cases ho : 6 ≤ othersF D s ∨ 1000000 ≤ k
      · rw [if_pos ho] at hF2
        subst hF2
        have HO := others_any w p bm D k s h hs hz
        clear ht
        go_enter Tryz.func10, Tryz.ntmps10
        go_wp2_with fail
        refine HN.mono ?_
        rintro e w' ⟨rfl, rfl⟩
        simp only [errV]
        go_wp2_with fail
        refine HO.mono ?_
        rintro e w2 ⟨rfl, hb⟩
        have h2 := h.later hb
        have c1 := h2.c1
        clear HO HN
        generalize othersF D s = G at *
        by_cases hg : 6 ≤ G
        · go_wp2
          go_ret
          exact ⟨rfl, (fun h => by cases h), fun _ => h2, Turned.of hb⟩
        · have hk : (1000000 : Int) ≤ (k : Int) := by omega
          go_wp2
          go_ret
          exact ⟨rfl, (fun h => by cases h), fun _ => h2, Turned.of hb⟩
      · rw [if_neg ho] at hF2
        exact absurd hF2 h0
  · have hF2 : F = nameF s.data.toList := by rw [hF]; exact seqF_some _ hn
    rw [← hF2] at HN
    clear hF hn hF2
    obtain ⟨f, rfl⟩ : ∃ f, F = f + 1 := ⟨F - 1, by omega⟩
    go_enter Tryz.func10, Tryz.ntmps10
    go_wp2_with fail
    refine HN.mono ?_
    rintro e w' ⟨rfl, rfl⟩
    simp only [errV]
    go_wp2
    go_ret
    exact ⟨rfl, (fun h => by cases h), fun _ => h, Turned.refl _ _ _⟩

theorem undrew2 {w w' : World} (h : Below w.drew.heap.size w.drew w') : Below w.heap.size w w' := ⟨h.os, h.tape, h.output, h.size, h.block⟩
theorem heap_set2 (w : World) (b i : Nat) (c : Array Value) (t : TypeId) (v : Value) (h : w.heap[b]? = some (.cells c t (0, 0))) : (w.setCell ⟨b, i, none⟩ v).heap[b]? = some (.cells (c.set! i v) t (0, 0)) := by
  show (w.heap.modify b _)[b]? = _
  rw [Array.getElem?_modify, if_pos rfl, h]
  rfl
theorem heap_set_other (w : World) (b i j : Nat) (v : Value) (h : j ≠ b) : (w.setCell ⟨b, i, none⟩ v).heap[j]? = w.heap[j]? := by
  show (w.heap.modify b _)[j]? = _
  rw [Array.getElem?_modify, if_neg (fun e => h e.symm)]
/-- the count is set. -/
theorem FilesAt.count {w : World} {p bm : Nat} {D : DataW Unit} {k : Nat} (h : FilesAt w p bm D k) (k' : Nat) : FilesAt (w.setCell ⟨p, 1, none⟩ (.int .i64 (k' : Int))) p bm D k' ∧ Turned p bm w (w.setCell ⟨p, 1, none⟩ (.int .i64 (k' : Int))) := by
  refine ⟨⟨?_, h.own.setCell (fun e => h.ne e.symm) _⟩, rfl, rfl, rfl, by simp [World.setCell], fun j _ h1 _ => heap_set_other _ _ _ _ _ h1⟩
  rw [heap_set2 _ _ _ _ _ _ h.blk]
  rfl

set_option maxRecDepth 100000 in
set_option maxHeartbeats 2000000 in
theorem write_ok (w : World) (p bm : Nat) (D : DataW Unit) (k : Nat) (s text : ByteArray) (h : FilesAt w p bm D k) (hs : s.size ≤ maxLen) (hz : Maps.size D ≤ 1000) (hF : writeF D k s text = 0) :
    Calls Tryz.prog 10 #[.pointer (some ⟨p, 0, none⟩), .string s, .string text] w fun e w' => WriteEnd w p bm D k s text 0 e w' := by
  have HN := check_any s w hs
  have hn : nameF s.data.toList = 0 := by
    by_cases hn : nameF s.data.toList = 0
    · exact hn
    · unfold writeF at hF; rw [seqF_some _ hn] at hF; exact hF
  rw [hn] at HN
  have hF2 : (if 1200 < text.size then 2 else if 6 ≤ othersF D s ∨ 1000000 ≤ k then 8 else 0) = 0 := by unfold writeF at hF; rw [hn] at hF; exact hF
  have ht : ¬ 1200 < text.size := fun ht => by rw [if_pos ht] at hF2; cases hF2
  have ho : ¬ (6 ≤ othersF D s ∨ 1000000 ≤ k) := fun ho => by rw [if_neg ht, if_pos ho] at hF2; cases hF2
  have ht' : ¬ (1200 : Int) < (text.size : Int) := by omega
  have hs8 : s.size ≤ 8 := by
    have := nameF_bound s.data.toList
    by_cases h8 : 8 < s.data.toList.length
    · rw [this (.inr h8)] at hn; cases hn
    · simp at h8; omega
  have HO := others_any w p bm D k s h hs hz
  have HC1 := fun W => cloneB s W (by omega)
  have HC2 := fun W => cloneB text W (by omega)
  clear hF hF2 hn
  go_enter Tryz.func10, Tryz.ntmps10
  go_wp2_with fail
  refine HN.mono ?_
  rintro e w' ⟨rfl, rfl⟩
  simp only [errV]
  go_wp2_with fail
  refine HO.mono ?_
  rintro e w2 ⟨rfl, hb⟩
  have h2 := h.later hb
  have c1 := h2.c1
  have f1 := h2.fz 1
  clear HO HN
  generalize othersF D s = G at *
  have hg : ¬ (6 : Int) ≤ G := fun x => ho (.inl x)
  obtain ⟨K, hK⟩ : ∃ K : Int, (k : Int) = K := ⟨_, rfl⟩
  have hk : ¬ (1000000 : Int) ≤ K := fun x => ho (.inr (by omega))
  have hk0 : 0 ≤ K := by omega
  have HK : Hid ((k : Int) = K) := hK
  rw [hK] at c1
  clear ho ht hK
  have hcnt := h2.count (k + 1)
  have hcast : ((k + 1 : Nat) : Int) = K + 1 := by rw [← HK.out]; omega
  rw [hcast] at hcnt
  have hzz : Maps.size D < maxLen := by simp only [maxLen]; omega
  go_upto_region 9 with fail
  obtain ⟨hX, hT⟩ := hcnt
  replace hT := (Turned.of hb).trans hT
  have c0X := hX.c0
  have c1X : (w2.setCell ⟨p, 1, none⟩ (.int .i64 (K + 1))).cell? ⟨p, 1, none⟩ = some (.int .i64 (K + 1)) := by rw [hX.c1, hcast]
  clear c1 f1 h2 hb hcast
  generalize w2.setCell ⟨p, 1, none⟩ (.int .i64 (K + 1)) = Y at *
  have HST := fun (W : World) (hW : FilesAt W p bm D (k + 1)) => hW.own.store keysStr Tryz.underlying81 hzz (keyB_of s hs) (fileElem_mk text (K + 1))
  go_region_law
    (go_simp
     first
       | (go_at_call_of 33 (Value.string s)
          refine (HC1 _).mono ?_
          rintro e w3 ⟨rfl, hb3⟩
          repeat (replace hb3 := undrew2 hb3)
          replace hT := hT.trans (Turned.of hb3)
          replace hX := hX.later hb3
          replace c0X := hX.c0
          replace c1X := cell_later hb3 c1X
          clear hb3)
       | (go_at_call_of 33 (Value.string text)
          refine (HC2 _).mono ?_
          rintro e w4 ⟨rfl, hb3⟩
          repeat (replace hb3 := undrew2 hb3)
          replace hT := hT.trans (Turned.of hb3)
          replace hX := hX.later hb3
          replace c0X := hX.c0
          replace c1X := cell_later hb3 c1X
          clear hb3
          obtain ⟨w5, hrun5, hown5, hturn5⟩ := HST _ hX
          obtain ⟨w6, hrun6, hown6, hturn6⟩ := HST w4.drew (hX.later (Below.refl _ _).drew)))
  all_goals
    go_wp2
    go_ret
    first
      | (obtain ⟨g1, g2⟩ := hX.map_turned hown5 hturn5
         refine ⟨rfl, fun _ => ?_, fun h => absurd rfl h, hT.trans g2⟩
         rw [HK.out]; exact g1)
      | (obtain ⟨g1, g2⟩ := (hX.later (Below.refl _ _).drew).map_turned hown6 hturn6
         refine ⟨rfl, fun _ => ?_, fun h => absurd rfl h, (hT.trans (Turned.of (Below.refl _ _).drew)).trans g2⟩
         rw [HK.out]; exact g1)

theorem write_any (w : World) (p bm : Nat) (D : DataW Unit) (k : Nat) (s text : ByteArray) (h : FilesAt w p bm D k) (hs : s.size ≤ maxLen) (hz : Maps.size D ≤ 1000) :
    Calls Tryz.prog 10 #[.pointer (some ⟨p, 0, none⟩), .string s, .string text] w fun e w' => WriteEnd w p bm D k s text (writeF D k s text) e w' := by
  by_cases h0 : writeF D k s text = 0
  · rw [h0]; exact write_ok w p bm D k s text h hs hz h0
  · exact write_err w p bm D k s text h hs hz _ rfl h0
end Go.Proofs.YtieldgdkkfkehaaGreatDoor
