/- Law LexWords: its walk. -/
import Derived.Test.YthccgpjbchlocaaLn
import Derived.Test.YthccgpjbchlocaaMk
namespace Go.Proofs.Ythccgpjbchlocaa
open Go.RowKit

def cut60 (s : ByteArray) : ByteArray := s.extract 0 (min (s.size : Int) 60).toNat
theorem cut60_size (s : ByteArray) : (cut60 s).size ≤ 60 := by
  unfold cut60
  simp only [ByteArray.size_extract]
  omega

set_option maxHeartbeats 1600000 in
theorem words_core (A : Option Addr) (n c : Nat) (ss : List ByteArray) (hss : ∀ s ∈ ss, s.size ≤ 9223372036854775807) (w : World) (hr : Reads w w.heap.size 1 A n (strs ss)) (hn : n ≤ 9223372036854775807) :
    Calls Try.prog 3 #[.slice A n c] w fun e w' => e = .returned (.bool true) ∧ Below w.heap.size w w' := by
  have H0 := Lib.hid (wakes_lex w)
  have HS := Lib.hid hr
  have HSS := Lib.hid hss
  clear hr hss
  go_enter Try.func3, Try.ntmps3
  go_wp2_with fail
  refine H0.out.mono ?_
  rintro e w1 ⟨rfl, b1⟩
  go_wp2_with fail
  go_loopw [9] (fun i wr => ∃ k : Nat, k ≤ n ∧ i = .int .i64 k ∧ Below w.heap.size w wr) (fun i wr => n - (intOf i).toNat)
  case atStart => exact ⟨0, Nat.zero_le _, rfl, b1⟩
  case round =>
    obtain ⟨k, hk, rfl, b2⟩ := hrel
    by_cases hlt : k < n
    · obtain ⟨b, off, s, rfl, hb, hz, hc0⟩ := at_str HS.out hlt
      have hcell : wr.cell? ⟨b, off + k, none⟩ = some (.string s) := (b2.cell (p := ⟨b, off + k, none⟩) hb).trans hc0
      have hs := HSS.out s hz
      clear hz hc0
      by_cases h12 : k = 12
      · have h12b : ((k : Int) == 12) = true := by simp; omega
        have H12 := Lib.hid h12
        clear h12
        go_wp2_with fail
        go_ret
        exact ⟨rfl, b2⟩
      · have h12b : ((k : Int) == 12) = false := by simp; omega
        have hcs : s.extract 0 (min (s.size : Int) 60).toNat = cut60 s := rfl
        have hsz := cut60_size s
        have HW := Lib.hid fun w => Word_any (cut60 s) (by omega) w
        have HRW := Lib.hid fun w => rword_any (cut60 s) w
        generalize cut60 s = t at *
        generalize wordB t.data.toList = v at *
        clear h12
        cases v
        all_goals
          go_wp2_with fail
          refine (HW.out _).mono ?_
          rintro e w3 ⟨rfl, c3⟩
          have b3 := Lib.hid (b2.trans (c3.mono b2.size))
          clear c3
          go_wp2_with fail
          refine (HRW.out _).mono ?_
          rintro e w4 ⟨rfl, c4⟩
          have b4 := Lib.hid (b3.out.trans (c4.mono b3.out.size))
          clear c4
          go_wp2_with fail
          go_roundw
          case rel => exact ⟨k + 1, by omega, by go_num, b4.out⟩
          case measure => simp [intOf]; omega
    · have hge : ¬ (k : Int) < (n : Int) := by omega
      go_wp2_with fail
      go_ret
      exact ⟨rfl, b2⟩
end Go.Proofs.Ythccgpjbchlocaa
