/- Law DigitBack: its walk. -/
import Derived.Test.YtfbbjfjckaojeaaDoorDu
namespace Go.Proofs.YtfbbjfjckaojeaaDoor
open Go.RowKit

/-- The text that the law goes through. -/
def cutS (s : ByteArray) : ByteArray := s.extract 0 (min (s.size : Int) 300).toNat
theorem cutS_size (s : ByteArray) : (cutS s).size ≤ 300 := by
  unfold cutS
  simp only [ByteArray.size_extract]
  omega

set_option maxHeartbeats 400000 in
theorem cutS_any (s : ByteArray) (hs : s.size ≤ 9223372036854775807) (w : World) :
    Calls Tryd.prog 11 #[.string s] w fun e w' => e = .returned (.string (cutS s)) ∧ w = w' := by
  go_enter Tryd.func11, Tryd.ntmps11
  go_wp2_with fail
  go_ret
  exact ⟨rfl, rfl⟩

theorem text_ofL (n : Int) (h : fitB n = true) (w : World) (htab : Lib.TabIs Tryd.prog w "internal/strconv.uint64pow10" .u64 Lib.pow10Tab) :
    Calls Tryd.prog 9 #[.int .i64 n] w fun e w' => e = .returned (.string (ofL (Lib.itoa n))) ∧ Below w.heap.size w w' :=
  text_any n ((fitB_iff n).1 h).1 ((fitB_iff n).1 h).2 w htab

set_option maxHeartbeats 1600000 in
theorem back_good (n : Int) (s t c r a b : ByteArray) (ht : t.size ≤ 1000) (hc : c.size ≤ 300) (ha : a.size ≤ 300) (hb : b.size ≤ 300) (hab : a ++ b = c) (m : Int)
    (HT : Hid (∀ w : World, Lib.TabIs Tryd.prog w "internal/strconv.uint64pow10" .u64 Lib.pow10Tab → Calls Tryd.prog 9 #[.int .i64 n] w fun e w' => e = .returned (.string t) ∧ Below w.heap.size w w'))
    (HR : Hid (∀ w : World, Calls Tryd.prog 12 #[.string t] w fun e w' => e = .returned (.tuple #[.int .i64 n, .int .i64 0]) ∧ Below w.heap.size w w'))
    (HC : Hid (∀ w : World, Calls Tryd.prog 11 #[.string s] w fun e w' => e = .returned (.string c) ∧ w = w'))
    (HH : Hid (∀ w : World, Calls Tryd.prog 15 #[.string (t ++ ⟨#[120]⟩ ++ c)] w fun e w' => e = .returned (.tuple #[.string t, .string r]) ∧ Below w.heap.size w w'))
    (HP : Hid (∀ w : World, Calls Tryd.prog 24 #[.string r, .string ⟨#[120]⟩] w fun e w' => e = .returned (.bool true) ∧ w = w'))
    (HH2 : Hid (∀ w : World, Calls Tryd.prog 15 #[.string c] w fun e w' => e = .returned (.tuple #[.string a, .string b]) ∧ Below w.heap.size w w'))
    (HR2 : Hid (∀ w : World, Calls Tryd.prog 12 #[.string c] w fun e w' => e = .returned (.tuple #[.int .i64 m, .int .i64 0]) ∧ Below w.heap.size w w'))
    (HT2 : Hid (∀ w : World, Lib.TabIs Tryd.prog w "internal/strconv.uint64pow10" .u64 Lib.pow10Tab → Calls Tryd.prog 9 #[.int .i64 m] w fun e w' => e = .returned (.string c) ∧ Below w.heap.size w w'))
    (w : World) (htab : Tab w) :
    Calls Tryd.prog 5 #[.int .i64 n, .string s] w fun e w' => e = .returned (.bool true) ∧ Below w.heap.size w w' := by
  have H0 := Lib.hid (wakes_any w htab)
  have HTab := Lib.hid htab
  clear htab
  go_enter Tryd.func5, Tryd.ntmps5
  go_wp2_with fail
  refine H0.out.mono ?_
  rintro e w1 ⟨rfl, b1⟩
  go_wp2_with fail
  refine (HT.out _ (HTab.out.on b1)).mono ?_
  rintro e w2 ⟨rfl, c2⟩
  have b2 := b1.trans (c2.mono b1.size)
  clear b1 c2
  go_wp2_with fail
  refine (HR.out _).mono ?_
  rintro e w3 ⟨rfl, c3⟩
  have b3 := b2.trans (c3.mono b2.size)
  clear b2 c3
  go_wp2_with fail
  refine (HC.out _).mono ?_
  rintro e wx ⟨rfl, rfl⟩
  go_wp2_with fail
  refine (HH.out _).mono ?_
  rintro e w4 ⟨rfl, c4⟩
  have b4 := b3.trans (c4.mono b3.size)
  clear b3 c4
  go_wp2_with fail
  refine (HP.out _).mono ?_
  rintro e wx ⟨rfl, rfl⟩
  go_wp2_with fail
  refine (HC.out _).mono ?_
  rintro e wx ⟨rfl, rfl⟩
  go_wp2_with fail
  refine (HH2.out _).mono ?_
  rintro e w5 ⟨rfl, c5⟩
  have b5 := b4.trans (c5.mono b4.size)
  clear b4 c5
  go_wp2_with fail
  refine (HR2.out _).mono ?_
  rintro e w6 ⟨rfl, c6⟩
  have b6 := b5.trans (c6.mono b5.size)
  clear b5 c6
  go_wp2_with fail
  refine (HT2.out _ (HTab.out.on b6)).mono ?_
  rintro e w7 ⟨rfl, c7⟩
  have b7 := b6.trans (c7.mono b6.size)
  clear b6 c7
  go_wp2_with fail
  go_ret
  exact ⟨rfl, b7⟩

set_option maxHeartbeats 1600000 in
theorem back_bad (n : Int) (s t c r a b : ByteArray) (ht : t.size ≤ 1000) (hc : c.size ≤ 300) (ha : a.size ≤ 300) (hb : b.size ≤ 300) (hab : a ++ b = c) (E : Int) (hE1 : (E == 0) = false)
    (HT : Hid (∀ w : World, Lib.TabIs Tryd.prog w "internal/strconv.uint64pow10" .u64 Lib.pow10Tab → Calls Tryd.prog 9 #[.int .i64 n] w fun e w' => e = .returned (.string t) ∧ Below w.heap.size w w'))
    (HR : Hid (∀ w : World, Calls Tryd.prog 12 #[.string t] w fun e w' => e = .returned (.tuple #[.int .i64 n, .int .i64 0]) ∧ Below w.heap.size w w'))
    (HC : Hid (∀ w : World, Calls Tryd.prog 11 #[.string s] w fun e w' => e = .returned (.string c) ∧ w = w'))
    (HH : Hid (∀ w : World, Calls Tryd.prog 15 #[.string (t ++ ⟨#[120]⟩ ++ c)] w fun e w' => e = .returned (.tuple #[.string t, .string r]) ∧ Below w.heap.size w w'))
    (HP : Hid (∀ w : World, Calls Tryd.prog 24 #[.string r, .string ⟨#[120]⟩] w fun e w' => e = .returned (.bool true) ∧ w = w'))
    (HH2 : Hid (∀ w : World, Calls Tryd.prog 15 #[.string c] w fun e w' => e = .returned (.tuple #[.string a, .string b]) ∧ Below w.heap.size w w'))
    (HR2 : Hid (∀ w : World, Calls Tryd.prog 12 #[.string c] w fun e w' => e = .returned (.tuple #[.int .i64 0, .int .i64 E]) ∧ Below w.heap.size w w'))
    (w : World) (htab : Tab w) :
    Calls Tryd.prog 5 #[.int .i64 n, .string s] w fun e w' => e = .returned (.bool true) ∧ Below w.heap.size w w' := by
  have H0 := Lib.hid (wakes_any w htab)
  have HTab := Lib.hid htab
  clear htab
  go_enter Tryd.func5, Tryd.ntmps5
  go_wp2_with fail
  refine H0.out.mono ?_
  rintro e w1 ⟨rfl, b1⟩
  go_wp2_with fail
  refine (HT.out _ (HTab.out.on b1)).mono ?_
  rintro e w2 ⟨rfl, c2⟩
  have b2 := b1.trans (c2.mono b1.size)
  clear b1 c2
  go_wp2_with fail
  refine (HR.out _).mono ?_
  rintro e w3 ⟨rfl, c3⟩
  have b3 := b2.trans (c3.mono b2.size)
  clear b2 c3
  go_wp2_with fail
  refine (HC.out _).mono ?_
  rintro e wx ⟨rfl, rfl⟩
  go_wp2_with fail
  refine (HH.out _).mono ?_
  rintro e w4 ⟨rfl, c4⟩
  have b4 := b3.trans (c4.mono b3.size)
  clear b3 c4
  go_wp2_with fail
  refine (HP.out _).mono ?_
  rintro e wx ⟨rfl, rfl⟩
  go_wp2_with fail
  refine (HC.out _).mono ?_
  rintro e wx ⟨rfl, rfl⟩
  go_wp2_with fail
  refine (HH2.out _).mono ?_
  rintro e w5 ⟨rfl, c5⟩
  have b5 := b4.trans (c5.mono b4.size)
  clear b4 c5
  go_wp2_with fail
  refine (HR2.out _).mono ?_
  rintro e w6 ⟨rfl, c6⟩
  have b6 := b5.trans (c6.mono b5.size)
  clear b5 c6
  go_wp2_with fail
  go_ret
  exact ⟨rfl, b6⟩


theorem itoa_len (n : Int) (h : fitB n = true) : (ofL (Lib.itoa n)).size ≤ 1000 := by
  have hf := (fitB_iff n).1 h
  rw [Lib.size_eq, ofL_list]
  by_cases hn : n < 0
  · rw [itoa_neg hn, List.length_cons]
    have := dec_len 19 n.natAbs (by omega)
    omega
  · rw [itoa_pos (by omega)]
    have := dec_len 19 n.toNat (by omega)
    omega

/-- DigitBack answers true, whatever the number and the text. -/
theorem back_any (n : Int) (s : ByteArray) (h : fitB n = true) (hs : s.size ≤ 9223372036854775807) (w : World) (htab : Tab w) :
    Calls Tryd.prog 5 #[.int .i64 n, .string s] w fun e w' => e = .returned (.bool true) ∧ Below w.heap.size w w' := by
  have hcs := cutS_size s
  have hlen := itoa_len n h
  have HT : Hid (∀ w : World, Lib.TabIs Tryd.prog w "internal/strconv.uint64pow10" .u64 Lib.pow10Tab → Calls Tryd.prog 9 #[.int .i64 n] w fun e w' => e = .returned (.string (ofL (Lib.itoa n))) ∧ Below w.heap.size w w') := fun w ht => text_ofL n h w ht
  have HR := Lib.hid fun w => read_any (ofL (Lib.itoa n)) w
  rw [(read_itoa h).1, (read_itoa h).2] at HR
  have HC := Lib.hid fun w => cutS_any s hs w
  obtain ⟨l, hl⟩ : ∃ l, cutS s = ofL l := ⟨(cutS s).data.toList, (ofL_back _).symm⟩
  have hcat : ofL (Lib.itoa n) ++ ⟨#[120]⟩ ++ cutS s = ofL (Lib.itoa n ++ 120 :: l) := by
    rw [hl]
    apply ByteArray.ext
    apply Array.ext'
    simp [ofL]
  have hsz : (ofL (Lib.itoa n) ++ ⟨#[120]⟩ ++ cutS s).size ≤ 9223372036854775807 := by
    rw [ByteArray.size_append, ByteArray.size_append]
    have : (⟨#[120]⟩ : ByteArray).size = 1 := rfl
    omega
  have HH := Lib.hid fun w => head_any (ofL (Lib.itoa n) ++ ⟨#[120]⟩ ++ cutS s) hsz w
  have he := extract_ofL (Lib.itoa n) (120 :: l)
  rw [← head_itoa n l, ← hcat] at he
  rw [he.1, he.2] at HH
  have HP : Hid (∀ w : World, Calls Tryd.prog 24 #[.string (ofL (120 :: l)), .string ⟨#[120]⟩] w fun e w' => e = .returned (.bool true) ∧ w = w') := fun w =>
    (Tryd.strings_HasPrefix (ofL (120 :: l)) ⟨#[120]⟩ w).mono fun e w' hp => ⟨by rw [hp.1, ofL_list]; rfl, hp.2.symm⟩
  have HH2 := Lib.hid fun w => head_any (cutS s) (by omega) w
  have HR2 := Lib.hid fun w => read_any (cutS s) w
  have hk := headN_le (cutS s)
  have ha : ((cutS s).extract 0 (headN (cutS s))).size ≤ 300 := by simp only [ByteArray.size_extract]; omega
  have hb : ((cutS s).extract (headN (cutS s)) (cutS s).size).size ≤ 300 := by simp only [ByteArray.size_extract]; omega
  by_cases hE : readE (cutS s) = 0
  · have hbk := read_back hE
    rw [hE] at HR2
    have HT2 : Hid (∀ w : World, Lib.TabIs Tryd.prog w "internal/strconv.uint64pow10" .u64 Lib.pow10Tab → Calls Tryd.prog 9 #[.int .i64 (readN (cutS s))] w fun e w' => e = .returned (.string (cutS s)) ∧ Below w.heap.size w w') := fun w ht => by
      have := text_ofL (readN (cutS s)) hbk.2 w ht
      rw [hbk.1] at this
      exact this
    exact back_good n s _ (cutS s) _ _ _ hlen hcs ha hb (extract_join _ _) _ HT HR HC HH HP HH2 HR2 HT2 w htab
  · rw [read_none hE] at HR2
    exact back_bad n s _ (cutS s) _ _ _ hlen hcs ha hb (extract_join _ _) _ (beq_eq_false_iff_ne.2 hE) HT HR HC HH HP HH2 HR2 w htab
end Go.Proofs.YtfbbjfjckaojeaaDoor
