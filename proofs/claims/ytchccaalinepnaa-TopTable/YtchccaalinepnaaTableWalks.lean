/-
  What bucket, along and Find return, for every table, list and name; memory that was there stays as it was.
-/
import Derived.Test.YtchccaalinepnaaHashConsts
import Derived.Test.YtchccaalinepnaaPlainTable
import Derived.Test.YtchccaalinepnaaRowsAt
import Derived.Deep.QuietTactic
import Derived.BigQuiet
namespace Go.Proofs.Ytchccaalinepnaa
open Go.RowKit

/-- the names of the n symbols behind 'a' (n = 0: nothing is said of 'a'). -/
def SymsAt (w : World) (a : Option Addr) (n : Nat) (nm : Nat → ByteArray) : Prop :=
  n = 0 ∨ ∃ b o, a = some ⟨b, o, none⟩ ∧ ∀ i, i < n → w.cell? ⟨b, o + i * 3, none⟩ = some (.string (nm i))

theorem SymsAt.later {w w' : World} {a : Option Addr} {n : Nat} {nm : Nat → ByteArray} (h : SymsAt w a n nm) (hb : Below w.heap.size w w') : SymsAt w' a n nm := by
  rcases h with h | ⟨b, o, ha, hc⟩
  · exact .inl h
  · exact .inr ⟨b, o, ha, fun i hi => cell_later hb (hc i hi)⟩

theorem bucket_any (s : ByteArray) (m : Nat) (w : World) (hs : s.size ≤ maxLen) (h1 : 1 ≤ m) (hm : m ≤ 1000000) :
    Calls Try.prog 18 #[.string s, .int .i64 (m : Int)] w fun e w' => e = .returned (.int .i64 ((hashL s.data.toList % m : Nat) : Int)) ∧ w = w' := by
  have hx := hashL_lt s.data.toList
  go_enter Try.func18, Try.ntmps18
  go_wp2_with fail
  refine (hash_any _ _ hs).mono ?_
  rintro e w' ⟨rfl, rfl⟩
  generalize hX : hashL s.data.toList = x at *
  have HX : Hid (hashL s.data.toList = x) := hX
  clear hX
  go_wp2
  go_ret
  exact ⟨ret_int (by rw [HX.out]; exact (Int.natCast_emod x m).symm), rfl⟩

theorem closure_any (b o n cap k bl bs : Nat) (nm s : ByteArray) (w : World) (hk : k < n) (hl : w.cell? ⟨bl, 0, none⟩ = some (.slice (some ⟨b, o, none⟩) n cap)) (hs : w.cell? ⟨bs, 0, none⟩ = some (.string s))
    (hn : w.cell? ⟨b, o + k * 3, none⟩ = some (.string nm)) :
    Calls Try.prog 20 #[.int .i64 (k : Int), .pointer (some ⟨bl, 0, none⟩), .pointer (some ⟨bs, 0, none⟩)] w fun e w' => e = .returned (.bool (nm.toList == s.toList)) ∧ ∃ j, w' = w.drewN j := by
  go_enter Try.func20, Try.ntmps20
  go_wp2
  go_quiet (fail)
  go_wp2
  go_ret
  exact ⟨rfl, nq, rfl⟩

theorem along_none (a : Option Addr) (nn cn : Nat) (i : Int) (bl bs : Nat) (w : World) :
    Calls Try.prog 19 #[.slice a nn cn, .int .i64 i, .int .i64 0, .func (.func 20) #[] #[.pointer (some ⟨bl, 0, none⟩), .pointer (some ⟨bs, 0, none⟩)]] w fun e w' => e = .returned (.int .i64 (-1)) ∧ ∃ j, w' = w.drewN j := by
  go_enter Try.func19, Try.ntmps19
  go_wp2
  refine wp_loop_rounds 1 ?_
  rw [rounds_succ]
  go_wp2
  go_ret
  exact ⟨rfl, 0, rfl⟩

set_option maxHeartbeats 1000000 in
theorem along_some (g : Nat → Int) (a : Option Addr) (nn cn : Nat) (i0 : Int) (b o n cap bl bs : Nat) (nm : Nat → ByteArray) (s : ByteArray) (w : World) (hn : n ≤ 1000000) (hnn : nn ≤ 1000000)
    (hr : RowAt w a nn fun i => .int .i64 (g i))
    (hl : w.cell? ⟨bl, 0, none⟩ = some (.slice (some ⟨b, o, none⟩) n cap)) (hs : w.cell? ⟨bs, 0, none⟩ = some (.string s))
    (hc : ∀ i, i < n → w.cell? ⟨b, o + i * 3, none⟩ = some (.string (nm i))) :
    Calls Try.prog 19 #[.slice a nn cn, .int .i64 i0, .int .i64 (n : Int), .func (.func 20) #[] #[.pointer (some ⟨bl, 0, none⟩), .pointer (some ⟨bs, 0, none⟩)]] w fun e w' => e = .returned (.int .i64 (alongF g nn n (fun i => (nm i).toList == s.toList) n i0)) ∧ ∃ j, w' = w.drewN j := by
  generalize hF : alongF g nn n (fun i => (nm i).toList == s.toList) n i0 = F
  have HF : Hid (alongF g nn n (fun i => (nm i).toList == s.toList) n i0 = F) := hF
  clear hF
  rcases hr with h0 | ⟨bn, on, rfl, hr⟩
  · subst h0
    go_enter Try.func19, Try.ntmps19
    go_wp2
    go_loopw [1, 10] (fun x y wr => ∃ (k j : Nat) (i : Int), k ≤ n ∧ y = .int .i64 k ∧ x = .int .i64 i ∧ wr = w.drewN j ∧ Hid (alongF g 0 n (fun i => (nm i).toList == s.toList) (n - k) i = F)) (fun _ y _ => n - (intOf y).toNat)
    case atStart => exact ⟨0, 0, i0, Nat.zero_le _, rfl, rfl, rfl, HF⟩
    case round =>
      obtain ⟨k, j, i, hk, rfl, rfl, rfl, HK⟩ := hrel
      by_cases hlt : k < n
      · by_cases hneg : i < 0
        · have HE : Hid (-1 = F) := (alongF_neg _ _ _ _ _ _ (by omega) hneg).symm.trans HK.out
          go_wp2
          go_ret
          exact ⟨ret_int HE.out, j, rfl⟩
        · by_cases hbig : (n : Int) ≤ i
          · have HE : Hid (-1 = F) := (alongF_big _ _ _ _ _ _ (by omega) hbig).symm.trans HK.out
            go_wp2
            go_ret
            exact ⟨ret_int HE.out, j, rfl⟩
          · obtain ⟨q, rfl⟩ := Int.eq_ofNat_of_zero_le (show 0 ≤ i by omega)
            have hqn : q < n := by omega
            have HC := closure_any b o n cap q bl bs (nm q) s (w.drewN j) hqn (by simpa using hl) (by simpa using hs) (by simpa using hc q hqn)
            clear hc
            cases hi : ((nm q).toList == s.toList) with
            | true =>
              have HE : Hid ((q : Int) = F) := (alongF_yes g 0 n (fun i => (nm i).toList == s.toList) _ _ (by omega) hqn hi).symm.trans HK.out
              rw [hi] at HC
              clear hi
              go_wp2_with fail
              refine HC.mono ?_
              rintro e w' ⟨rfl, j1, rfl⟩
              clear HC
              go_wp2
              go_ret
              exact ⟨ret_int HE.out, j + j1, by first | rfl | rw [World.drewN_drewN]⟩
            | false =>
              have HE : Hid (-1 = F) := (alongF_end g 0 n (fun i => (nm i).toList == s.toList) _ _ (by omega) hqn hi (by omega)).symm.trans HK.out
              rw [hi] at HC
              clear hi
              go_wp2_with fail
              refine HC.mono ?_
              rintro e w' ⟨rfl, j1, rfl⟩
              clear HC
              go_wp2
              go_ret
              exact ⟨ret_int HE.out, j + j1, by first | rfl | rw [World.drewN_drewN]⟩
      · have HE : Hid (-1 = F) := by
          have h := HK.out
          rw [show n - k = 0 by omega] at h
          exact h
        clear hc
        go_wp2
        go_ret
        exact ⟨ret_int HE.out, j, rfl⟩
  · go_enter Try.func19, Try.ntmps19
    go_wp2
    go_loopw [1, 10] (fun x y wr => ∃ (k j : Nat) (i : Int), k ≤ n ∧ y = .int .i64 k ∧ x = .int .i64 i ∧ wr = w.drewN j ∧ Hid (alongF g nn n (fun i => (nm i).toList == s.toList) (n - k) i = F)) (fun _ y _ => n - (intOf y).toNat)
    case atStart => exact ⟨0, 0, i0, Nat.zero_le _, rfl, rfl, rfl, HF⟩
    case round =>
      obtain ⟨k, j, i, hk, rfl, rfl, rfl, HK⟩ := hrel
      by_cases hlt : k < n
      · by_cases hneg : i < 0
        · have HE : Hid (-1 = F) := (alongF_neg _ _ _ _ _ _ (by omega) hneg).symm.trans HK.out
          go_wp2
          go_ret
          exact ⟨ret_int HE.out, j, rfl⟩
        · by_cases hbig : (n : Int) ≤ i
          · have HE : Hid (-1 = F) := (alongF_big _ _ _ _ _ _ (by omega) hbig).symm.trans HK.out
            go_wp2
            go_ret
            exact ⟨ret_int HE.out, j, rfl⟩
          · obtain ⟨q, rfl⟩ := Int.eq_ofNat_of_zero_le (show 0 ≤ i by omega)
            have hqn : q < n := by omega
            have HC := closure_any b o n cap q bl bs (nm q) s (w.drewN j) hqn (by simpa using hl) (by simpa using hs) (by simpa using hc q hqn)
            clear hc
            cases hi : ((nm q).toList == s.toList) with
            | true =>
              have HE : Hid ((q : Int) = F) := (alongF_yes g nn n (fun i => (nm i).toList == s.toList) _ _ (by omega) hqn hi).symm.trans HK.out
              rw [hi] at HC
              clear hi hr
              go_wp2_with fail
              refine HC.mono ?_
              rintro e w' ⟨rfl, j1, rfl⟩
              clear HC
              go_wp2
              go_ret
              exact ⟨ret_int HE.out, j + j1, by first | rfl | rw [World.drewN_drewN]⟩
            | false =>
              by_cases hq : nn ≤ q
              · have HE : Hid (-1 = F) := (alongF_end g nn n (fun i => (nm i).toList == s.toList) _ _ (by omega) hqn hi hq).symm.trans HK.out
                rw [hi] at HC
                clear hi hr
                go_wp2_with fail
                refine HC.mono ?_
                rintro e w' ⟨rfl, j1, rfl⟩
                clear HC
                go_wp2
                go_ret
                exact ⟨ret_int HE.out, j + j1, by first | rfl | rw [World.drewN_drewN]⟩
              · have HE : Hid (alongF g nn n (fun i => (nm i).toList == s.toList) (n - (k + 1)) (g q) = F) := by
                  have h := HK.out
                  rw [show n - k = (n - (k + 1)) + 1 by omega, alongF_next _ _ _ _ _ _ hqn hi (by omega)] at h
                  exact h
                have hrq := hr q (by omega)
                rw [hi] at HC
                clear hi hr
                go_wp2_with fail
                refine HC.mono ?_
                rintro e w' ⟨rfl, j1, rfl⟩
                clear HC
                go_wp2
                go_roundw
                case rel => exact ⟨k + 1, j + j1, g q, by omega, by go_num, rfl, by first | rfl | rw [World.drewN_drewN], HE⟩
                case measure => simp [intOf]; omega
      · have HE : Hid (-1 = F) := by
          have h := HK.out
          rw [show n - k = 0 by omega] at h
          exact h
        clear hc hr
        go_wp2
        go_ret
        exact ⟨ret_int HE.out, j, rfl⟩

theorem along_any (g : Nat → Int) (an : Option Addr) (nn cn : Nat) (i0 : Int) (al : Option Addr) (n cap bl bs : Nat) (nm : Nat → ByteArray) (s : ByteArray) (w : World) (hn : n ≤ 1000000) (hnn : nn ≤ 1000000)
    (hr : RowAt w an nn fun i => .int .i64 (g i))
    (hl : w.cell? ⟨bl, 0, none⟩ = some (.slice al n cap)) (hs : w.cell? ⟨bs, 0, none⟩ = some (.string s)) (hc : SymsAt w al n nm) :
    Calls Try.prog 19 #[.slice an nn cn, .int .i64 i0, .int .i64 (n : Int), .func (.func 20) #[] #[.pointer (some ⟨bl, 0, none⟩), .pointer (some ⟨bs, 0, none⟩)]] w fun e w' => e = .returned (.int .i64 (alongF g nn n (fun i => (nm i).toList == s.toList) n i0)) ∧ ∃ j, w' = w.drewN j := by
  rcases hc with h0 | ⟨b, o, rfl, hc⟩
  · subst h0
    exact along_none an nn cn i0 bl bs w
  · exact along_some g an nn cn i0 b o n cap bl bs nm s w hn hnn hr hl hs hc
end Go.Proofs.Ytchccaalinepnaa
