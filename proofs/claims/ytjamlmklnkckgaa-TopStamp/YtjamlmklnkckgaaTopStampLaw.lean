/-
  The law TopStamp returns true, for every row of acts, every name and text: the law's own walk.
-/
import Derived.Test.YtjamlmklnkckgaaTopStampWalk
namespace Go.Proofs.Ytjamlmklnkckgaa
open Go.RowKit Go.Maps

theorem errV_zero : errV 0 = .nilIface := rfl

set_option maxRecDepth 100000 in
set_option maxHeartbeats 4000000 in
theorem topStamp_walk (a : Option Addr) (n c : Nat) (X : Nat → ActF) (s text : ByteArray) (w : World) (hr : ActsRow w a n X) (hf : ∀ i, i < n → ActFit (X i)) (hc : n ≤ c) :
    Calls Try.prog 8 #[.slice a n c, .string s, .string text] w fun e w' => e = .returned (.bool true) ∧ Below w.heap.size w w' := by
  have HD := drawer_any w
  go_enter Try.func8, Try.ntmps8
  go_wp2_with fail
  refine HD.mono ?_
  rintro e w1 ⟨rfl, hb⟩
  clear HD
  have HL := lightActs_any a n c 30 X w1 (by decide) (hr.later hb) hf
  clear hf
  go_wp2_with fail
  refine HL.mono ?_
  rintro e w2 ⟨⟨b, rfl, hl⟩, hb2⟩
  replace hb := hb.trans (hb2.mono hb.size)
  clear HL hb2
  cases b with
  | false =>
    clear hl hr
    go_wp2
    go_ret
    exact ⟨rfl, hb⟩
  | true =>
    obtain ⟨h30, hsz⟩ := hl rfl
    clear hl
    by_cases hs : 20 < s.size
    · have hs' : (20 : Int) < (s.size : Int) := by omega
      clear hsz hr hs
      go_wp2
      go_ret
      exact ⟨rfl, hb⟩
    · have hs' : ¬ (20 : Int) < (s.size : Int) := by omega
      by_cases ht : 1300 < text.size
      · have ht' : (1300 : Int) < (text.size : Int) := by omega
        clear hsz hr hs ht
        go_wp2
        go_ret
        exact ⟨rfl, hb⟩
      · have ht' : ¬ (1300 : Int) < (text.size : Int) := by omega
        have hsm : s.size ≤ maxLen := by simp only [maxLen]; omega
        clear hs ht
        have HN := new_any w2
        go_wp2_with fail
        refine HN.mono ?_
        rintro e w3 ⟨p, bm, rfl, hp, hbm, hF, hb3⟩
        have hp0 : w.heap.size ≤ p := Nat.le_trans hb.size hp
        have hbm0 : w.heap.size ≤ bm := Nat.le_trans hb.size hbm
        replace hb := hb.trans (hb3.mono hb.size)
        clear HN hb3 hp hbm
        go_wp2
        go_loopw [9, 10] (fun y x wr => ∃ (i : Nat) (M : Int) (D : DataW Unit) (k : Nat), i ≤ n ∧ x = .int .i64 i ∧ y = .int .i64 M ∧ 0 ≤ M ∧ M ≤ k ∧ FilesAt wr p bm D k ∧ Inv D k ∧ Below w.heap.size w wr) (fun _ x _ => n - (intOf x).toNat)
        case atStart => exact ⟨0, 0, _, 0, Nat.zero_le _, rfl, rfl, by omega, by omega, hF, Inv.empty, hb⟩
        case round =>
          clear hF hb
          obtain ⟨i, M, D, k, hi, rfl, rfl, hM0, hM1, hF, hI, hb⟩ := hrel
          by_cases hlt : i < n
          · have hr' := hr
            rcases hr' with h0 | ⟨bk, o, rfl, hcc⟩
            · omega
            have h1 : (i : Int) < (c : Int) := by omega
            have h2 : (i : Int) + 1 ≤ (c : Int) := by omega
            have hrow : ∀ W, Below w.heap.size wr W → ActsRow W (some ⟨bk, o + i * 8, none⟩) 1 (fun _ => X i) := fun W hW => by
              refine .inr ⟨bk, o + i * 8, rfl, fun j hj => ?_⟩
              have e : j = 0 := by omega
              subst e
              simpa using (hcc i hlt).later (hb.trans hW)
            have HDo := fun cc => done_any wr p bm D k (some ⟨bk, o + i * 8, none⟩) 1 cc (fun _ => X i) w.heap.size hF hI hb.size hp0 hbm0 (by decide) hrow (fun _ _ => hsz i hlt)
            have hIn := (doneD_inv (q := (D, k)) (X := fun _ => X i) hI 1)
            obtain ⟨hs1, _⟩ := hsz i hlt
            have hxs : (X i).s.size ≤ maxLen := by simp only [maxLen]; omega
            have d1 := ((hcc i hlt).later hb).c1
            clear hrow
            go_wp2_with fail
            refine (HDo _).mono ?_
            rintro e w4 ⟨rfl, hF4, hT4⟩
            have hb4 := hb.trans (hT4.below hb.size hp0 hbm0)
            replace d1 := ((hcc i hlt).later hb4).c1
            clear HDo hF hb hT4 hcc
            obtain ⟨hI4, hk4⟩ := hIn
            generalize doneD (D, k) (fun _ => X i) 1 = q at *
            obtain ⟨D4, k4⟩ := q
            have hF5 : FilesAt w4 p bm D4 k4 := hF4
            have hI5 : Inv D4 k4 := hI4
            have hk5 : k ≤ k4 := hk4
            have HR := read_any w4 p bm D4 k4 (X i).s hF5 hxs
            clear hF4 hI4 hk4 hI
            go_wp2_with fail
            refine HR.mono ?_
            rintro e w5 ⟨⟨t, nn, f, rfl, hRI⟩, hb5⟩
            have hF6 := hF5.later hb5
            have hb6 := hb4.trans (hb5.mono hb4.size)
            clear HR hF5 hb4 hb5 d1
            cases hh : Maps.has D4 (keyB (X i).s) with
            | true =>
              obtain ⟨rfl, hat⟩ := hRI.yes hh
              obtain ⟨t', n', h3, h4⟩ := hI5.st _ hh
              rw [h3] at hat
              obtain ⟨_, rfl⟩ := fileD_inj hat
              clear hRI hh hat h3
              simp only [errV]
              go_wp2
              go_roundw
              case rel => exact ⟨i + 1, _, D4, k4, by omega, by go_num, rfl, by omega, by omega, hF6, hI5, hb6⟩
              case measure => simp [intOf]; omega
            | false =>
              obtain ⟨rfl, _, _⟩ := hRI.no hh
              clear hRI hh
              simp only [errV]
              go_wp2
              go_roundw
              case rel => exact ⟨i + 1, M, D4, k4, by omega, by go_num, rfl, hM0, by omega, hF6, hI5, hb6⟩
              case measure => simp [intOf]; omega
          · have e : i = n := by omega
            subst e
            have hsz6 : Maps.size D ≤ 1000 := by have := hI.size; omega
            have HLi := fun W (hW : FilesAt W p bm D k) => list_any W p bm D k hW hsz6
            have hpl := hF.lt
            have hbl := hF.own.lt
            clear hr hsz
            go_wp2_with fail
            refine (HLi _ hF).mono ?_
            rintro e w6 ⟨⟨v6, rfl, hown6⟩, hb6⟩
            obtain ⟨al, cl, rfl, hcl⟩ := owns_shape hown6
            have hF6 := hF.later hb6
            have hB6 := hb.trans (hb6.mono hb.size)
            have hps : p < wr.heap.size := hpl
            have hbs : bm < wr.heap.size := hbl
            have hN6 : (namesF D).length ≤ 6 := by rw [names_size hI.tidy.isMap]; exact hI.size
            clear hF hb
            go_wp2
            go_loopw [15, 16, 17] (fun vt vs x w7 => ∃ j : Nat, j ≤ (namesF D).length ∧ x = .int .i64 j ∧ w7.ownsRow w6.heap.size 9 1 vt j (joinC (fun i => [.string (txF D i)]) j) ∧ w7.ownsRow w6.heap.size 3 1 vs j (joinC (fun i => [.int .i64 (sxF D i)]) j) ∧ Below w6.heap.size w6 w7) (fun _ _ x _ => (namesF D).length - (intOf x).toNat)
            case atStart => exact ⟨0, Nat.zero_le _, rfl, World.ownsRow_nil _ _ _ _, World.ownsRow_nil _ _ _ _, Below.refl _ _⟩
            case round =>
              obtain ⟨j, hj, rfl, hot, hos, hb7⟩ := hrel
              have hF7 := hF6.later hb7
              have hown7 := owns_below hown6 hb7
              by_cases hlj : j < (namesF D).length
              · obtain ⟨hh, hnm⟩ := nm_has hF7.own hlj
                obtain ⟨gl, rfl, hgB, hcell⟩ := owns_cell hown7 (nm_cell hlj)
                have HR := read_any _ p bm D k (nmF D j) hF7 hnm
                have hfin : ∀ {t nn f}, ReadIs D (nmF D j) t nn f → f = 0 ∧ t = txF D j ∧ nn = sxF D j := fun h => read_nm hI hh rfl rfl h
                have hj6 : j + 1 ≤ 1000000 := by omega
                clear HLi
                generalize nmF D j = nj at *
                go_wp2_with fail
                refine HR.mono ?_
                rintro e w8 ⟨⟨t, nn, f, rfl, hRI⟩, hb8⟩
                obtain ⟨rfl, rfl, rfl⟩ := hfin hRI
                replace hb7 := hb7.trans (hb8.mono hb7.size)
                replace hot := owns_below hot hb8
                replace hos := owns_below hos hb8
                clear HR hRI hcell hb8 hF7 hown7
                obtain ⟨v9, w9, happ9, hG9⟩ := strGrow2 (.string (txF D j)) rfl hb7.size hot hj6
                have hb9 := (hb7.alloc hb7.size _).trans hG9.below
                have hos9 : w9.ownsRow w6.heap.size 3 1 _ j _ := (hos.alloc (.cells #[.string (txF D j)] 9)).kept hG9.grown (own_apart hot hos (by decide))
                obtain ⟨v10, w10, happ10, hG10⟩ := intGrow2 (sxF D j) hb9.size hos9 hj6
                have hb10 := (hb9.alloc hb9.size _).trans hG10.below
                have hot10 : w10.ownsRow w6.heap.size 9 1 v9 (j + 1) _ := (hG9.own.alloc (.cells #[.int .i64 (sxF D j)] 3)).kept hG10.grown (own_apart hos9 hG9.own (by decide))
                have hos10 := hG10.own
                clear hot hos hos9 hG9 hG10 hb7 hb9 hfin
                go_wp2_with (at_builtin; first | (refine list_run rfl _ _ 63 rfl u15 _ _ rfl rfl happ9 ?_) | (refine list_run rfl _ _ 32 rfl u16 _ _ rfl rfl happ10 ?_))
                go_roundw
                case rel => exact ⟨j + 1, by omega, by go_num, hot10, hos10, hb10⟩
                case measure => simp [intOf]; omega
              · have e : j = (namesF D).length := by omega
                subst e
                generalize hFw : writeF D k s text = F
                have HW := write_any _ p bm D k s text hF7 hsm hsz6
                rw [hFw] at HW
                have HFw : Hid (writeF D k s text = F) := hFw
                clear hFw
                go_wp2_with fail
                refine HW.mono ?_
                rintro e w8 hE
                have he := hE.e
                subst he
                obtain ⟨D', k', hF8, hsame, hyes, hno⟩ : ∃ D' k', FilesAt w8 p bm D' k' ∧ (∀ key, key ≠ keyB s → Maps.has D' key = Maps.has D key ∧ D'.atKey key (fileD [] 0) = D.atKey key (fileD [] 0)) ∧ (F = 0 → D' = D.put (keyB s) (fileD text.data.toList ((k : Int) + 1))) ∧ (F ≠ 0 → D' = D) := by
                  by_cases h0 : F = 0
                  · exact ⟨_, _, hE.yes h0, fun key hk => ⟨has_put_other hk _, atKey_put_other hk _ _⟩, fun _ => rfl, fun h => absurd h0 h⟩
                  · exact ⟨_, _, hE.no h0, fun key hk => ⟨rfl, rfl⟩, fun h => absurd h h0, fun _ => rfl⟩
                have hT8 := hE.turned
                have hown8 := owns_turned hown7 hps hbs hT8
                have hot8 := owns_turned hot (Nat.lt_of_lt_of_le hps hb6.size) (Nat.lt_of_lt_of_le hbs hb6.size) hT8
                have hos8 := owns_turned hos (Nat.lt_of_lt_of_le hps hb6.size) (Nat.lt_of_lt_of_le hbs hb6.size) hT8
                have hB8 : Below w.heap.size w w8 := (hB6.trans (hb7.mono hB6.size)).trans (hT8.below (Nat.le_trans hB6.size hb7.size) hp0 hbm0)
                clear HW hE hT8 hown7 hot hos hF7 hb7 hB6
                obtain ⟨at', ct, rfl, _⟩ := owns_shape hot8
                obtain ⟨as', cs, rfl, _⟩ := owns_shape hos8
                have hIp : IsMap D := hI.tidy.isMap
                have hhas : ∀ j, j < (namesF D).length → Maps.has D (keyB (nmF D j)) = true ∧ (nmF D j).size ≤ maxLen := fun j hj => nm_has hF6.own hj
                go_wp2
                go_loopw [22] (fun x w9 => ∃ j : Nat, j ≤ (namesF D).length ∧ x = .int .i64 j ∧ Below w8.heap.size w8 w9) (fun x _ => (namesF D).length - (intOf x).toNat)
                case atStart => exact ⟨0, Nat.zero_le _, rfl, Below.refl _ _⟩
                case round =>
                  obtain ⟨j, hj, rfl, hb9⟩ := hrel
                  have hF9 := hF8.later hb9
                  have hB9 := hB8.trans (hb9.mono hB8.size)
                  by_cases hlj : j < (namesF D).length
                  · obtain ⟨hh, hnm⟩ := hhas j hlj
                    obtain ⟨gl, ha1, _, hcell⟩ := owns_cell (owns_below hown8 hb9) (nm_cell hlj)
                    obtain ⟨gt, ha2, _, hct⟩ := owns_cell (owns_below hot8 hb9) (show (joinC (fun i => [Value.string (txF D i)]) (namesF D).length)[j]? = some (.string (txF D j)) by have := joinC_at (g := fun i => [Value.string (txF D i)]) (s := 1) (n := (namesF D).length) (i := j) (j := 0) (fun i _ => rfl) hlj (by decide); simpa using this)
                    obtain ⟨gs, ha3, _, hcs⟩ := owns_cell (owns_below hos8 hb9) (show (joinC (fun i => [Value.int .i64 (sxF D i)]) (namesF D).length)[j]? = some (.int .i64 (sxF D j)) by have := joinC_at (g := fun i => [Value.int .i64 (sxF D i)]) (s := 1) (n := (namesF D).length) (i := j) (j := 0) (fun i _ => rfl) hlj (by decide); simpa using this)
                    subst ha1 ha2 ha3
                    have HR := read_any _ p bm D' k' (nmF D j) hF9 hnm
                    have hfin : ∀ {t nn f}, nmF D j ≠ s → ReadIs D' (nmF D j) t nn f → f = 0 ∧ t = txF D j ∧ nn = sxF D j := fun hne h => by
                      have hk : keyB (nmF D j) ≠ keyB s := fun e => hne (by unfold keyB at e; injection e with e; exact ba_ext e)
                      exact read_nm hI hh (hsame _ hk).1 (hsame _ hk).2 h
                    clear hhas hown8 hot8 hos8 hsame hh HLi
                    generalize nmF D j = nj at *
                    generalize txF D j = tj at *
                    generalize sxF D j = sj at *
                    go_wp2_with fail
                    refine HR.mono ?_
                    rintro e w10 ⟨⟨t, nn, f, rfl, hRI⟩, hb10⟩
                    have hcell2 := cell_later hb10 hcell
                    have hct2 := cell_later hb10 hct
                    have hcs2 := cell_later hb10 hcs
                    replace hb9 := hb9.trans (hb10.mono hb9.size)
                    clear HR hcell hct hcs hb10 hF9
                    by_cases hne : nj = s
                    · have hq : (nj.toList == s.toList) = true := by rw [toList_beq]; exact decide_eq_true hne
                      clear hfin hRI
                      go_wp2
                      go_roundw
                      case rel => exact ⟨j + 1, by omega, by go_num, hb9⟩
                      case measure => simp [intOf]; omega
                    · have hq : (nj.toList == s.toList) = false := by rw [toList_beq]; exact decide_eq_false hne
                      obtain ⟨rfl, rfl, rfl⟩ := hfin hne hRI
                      clear hfin hRI hne
                      rw [errV_zero]
                      go_wp2
                      go_roundw
                      case rel => exact ⟨j + 1, by omega, by go_num, hb9⟩
                      case measure => simp [intOf]; omega
                  · cases F with
                    | zero =>
                      have hD' := hyes rfl
                      subst hD'
                      have HR := read_any _ p bm _ k' s hF9 hsm
                      clear hyes hno HLi hhas hown8 hot8 hos8 hsame
                      simp only [errV]
                      go_wp2_with fail
                      refine HR.mono ?_
                      rintro e w10 ⟨⟨t, nn, f, rfl, hRI⟩, hb10⟩
                      obtain ⟨rfl, rfl, rfl⟩ := read_put hIp hRI
                      have hB10 := hB9.trans (hb10.mono hB9.size)
                      have hgt : M < (k : Int) + 1 := by omega
                      clear HR hRI
                      simp only [errV]
                      go_wp2
                      go_ret
                      exact ⟨rfl, hB10⟩
                    | succ f =>
                      have hD' := hno (by omega)
                      subst hD'
                      have HL2 := list_any _ p bm _ k' hF9 hsz6
                      clear hyes hno HLi hhas hown8 hot8 hos8 hsame
                      simp only [errV]
                      go_wp2_with fail
                      refine HL2.mono ?_
                      rintro e w10 ⟨⟨v10, rfl, hown10⟩, hb10⟩
                      obtain ⟨a10, c10, rfl, _⟩ := owns_shape hown10
                      have hB10 := hB9.trans (hb10.mono hB9.size)
                      clear HL2 hown10
                      go_wp2
                      go_ret
                      exact ⟨rfl, hB10⟩
end Go.Proofs.Ytjamlmklnkckgaa
