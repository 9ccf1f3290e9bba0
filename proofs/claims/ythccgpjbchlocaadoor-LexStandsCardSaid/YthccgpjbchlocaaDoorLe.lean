/- Layer lex: what number, measure and touched give, as contracts of the translated calls. -/
import Derived.Test.YthccgpjbchlocaaDoorLc
import Derived.Test.YthccgpjbchlocaaDoorLd
import Derived.Test.YthccgpjbchlocaaDoorDg
namespace Go.Proofs.YthccgpjbchlocaaDoor
open Go.RowKit

/-- A text of digits that stand first: no minus, and all of them are digits. -/
theorem tl_pos {s : ByteArray} (h : negS s = false) : tlS s = s.data.toList := by
  unfold negS at h
  unfold tlS Lib.trimPrefix
  unfold Lib.hasPrefix at h
  rw [if_neg (by unfold Lib.hasPrefix; simp [h])]
theorem neg_digit {s : ByteArray} {c : UInt8} {m : List UInt8} (hl : s.data.toList = c :: m) (hc : isD c = true) : negS s = false := by
  unfold negS Lib.hasPrefix
  rw [hl]
  rw [isD_iff] at hc
  have : (45 : UInt8) ≠ c := by intro e; subst e; simp at hc
  simp [List.isPrefixOf, this]
theorem head_digits {s : ByteArray} {c : UInt8} {m : List UInt8} (hl : s.data.toList = c :: m) (hc : isD c = true) :
    headN s = (s.data.toList.takeWhile isD).length ∧ (s.extract 0 (headN s)).data.toList = s.data.toList.takeWhile isD := by
  have hn := neg_digit hl hc
  have ht := tl_pos hn
  have h1 : runL (tlS s) ≠ 0 := by
    rw [ht, hl]
    unfold runL
    simp [hc]
  have h2 : headN s = (s.data.toList.takeWhile isD).length := by
    unfold headN
    rw [if_neg h1, ht]
    show _ - _ + runL s.data.toList = _
    unfold runL
    omega
  refine ⟨h2, ?_⟩
  rw [h2]
  simp only [ByteArray.data_extract, Array.toList_extract]
  rw [List.extract_eq_take_drop, List.drop_zero, Nat.sub_zero, take_while]
theorem read_digits {d : ByteArray} {ds : List UInt8} (hd : d.data.toList = ds) (h0 : ds ≠ []) (hall : ds.all isD = true) :
    readE d = (if leadN ds = true then 110 else if fitB (dval ds) = true then 0 else 111) := by
  obtain ⟨c, m, rfl⟩ : ∃ c m, ds = c :: m := by cases ds with | nil => exact absurd rfl h0 | cons c m => exact ⟨c, m, rfl⟩
  have hc : isD c = true := by simp at hall; exact hall.1
  have hn := neg_digit hd hc
  have hl : looksL (c :: m) false = !leadN (c :: m) := by
    unfold looksL leadL leadN
    rw [hall, Bool.false_or]
    rfl
  unfold readE
  rw [tl_pos hn, hn, hd, hl]
  cases leadN (c :: m)
  · simp only [Bool.not_false, if_true, Bool.false_eq_true, if_false]
    rfl
  · simp

set_option maxHeartbeats 800000 in
theorem number_core (s d r : ByteArray) (E : Int)
    (HH : Hid (∀ w : World, Calls Tryd.prog 61 #[.string s] w fun e w' => e = .returned (.tuple #[.string d, .string r]) ∧ Below w.heap.size w w'))
    (v : Int) (HR : Hid (∀ w : World, Calls Tryd.prog 62 #[.string d] w fun e w' => e = .returned (.tuple #[.int .i64 v, .int .i64 E]) ∧ Below w.heap.size w w'))
    (n : Int) (E' : Int) (hE : (E = 0 ∧ n = d.size ∧ E' = 0) ∨ (E = 111 ∧ n = 0 ∧ E' = 121) ∨ (E = 110 ∧ n = 1 ∧ E' = 120)) (w : World) :
    Calls Tryd.prog 55 #[.string s] w fun e w' => e = .returned (.tuple #[.int .i64 n, .int .i64 E']) ∧ Below w.heap.size w w' := by
  rcases hE with ⟨rfl, rfl, rfl⟩ | ⟨rfl, rfl, rfl⟩ | ⟨rfl, rfl, rfl⟩
  all_goals
    go_enter Tryd.func55, Tryd.ntmps55
    go_wp2_with fail
    refine (HH.out _).mono ?_
    rintro e w1 ⟨rfl, b1⟩
    go_wp2_with fail
    refine (HR.out _).mono ?_
    rintro e w2 ⟨rfl, c2⟩
    have b2 := b1.trans (c2.mono b1.size)
    clear b1 c2
    go_wp2_with fail
    go_ret2
    exact ⟨rfl, b2⟩

theorem number_any (s : ByteArray) (c : UInt8) (m : List UInt8) (hl : s.data.toList = c :: m) (hc : isD c = true) (hs : s.size ≤ 9223372036854775807) (w : World) :
    Calls Tryd.prog 55 #[.string s] w fun e w' => e = .returned (.tuple #[.int .i64 (numN (c :: m)), .int .i64 (numErr (c :: m))]) ∧ Below w.heap.size w w' := by
  have hh := head_digits hl hc
  have HH := Lib.hid fun w => head_any s hs w
  have hsz : (s.extract 0 (headN s)).size = ((c :: m).takeWhile isD).length := by rw [Lib.size_eq, hh.2, hl]
  have hne : (c :: m).takeWhile isD ≠ [] := by simp [hc]
  have hr := read_digits (d := s.extract 0 (headN s)) (ds := (c :: m).takeWhile isD) (by rw [hh.2, hl]) hne List.all_takeWhile
  have HR := Lib.hid fun w => read_any (s.extract 0 (headN s)) w
  refine number_core s _ _ _ HH _ HR _ _ ?_ w
  rw [hr, hsz]
  unfold numN numErr
  cases leadN ((c :: m).takeWhile isD)
  · cases fitB (dval ((c :: m).takeWhile isD) : Int)
    · simp
    · simp
  · simp

theorem first_byte {s : ByteArray} {c : UInt8} {m : List UInt8} (hl : s.data.toList = c :: m) (h : 0 < s.size) : s[0]'h = c := by
  have h2 : s[0]'h = s.data.toList[0]'(by rw [hl]; simp) := rfl
  rw [h2]
  simp [hl]
theorem size_cons {s : ByteArray} {c : UInt8} {m : List UInt8} (hl : s.data.toList = c :: m) : 0 < s.size := by
  rw [Lib.size_eq, hl]; simp

set_option maxHeartbeats 800000 in
theorem measure_core (s : ByteArray) (h0 : 0 < s.size) (hB : s.toList.isEmpty = false) (b : Int) (hb : ((s[0]'h0).toNat : Int) = b)
    (HD : Hid (∀ w : World, Calls Tryd.prog 36 #[.int .i32 b] w fun e w' => e = .returned (.bool (isDg b)) ∧ w = w'))
    (h256 : 0 ≤ b ∧ b < 256) (k n E : Int)
    (hk : (b = 10 ∧ k = 4 ∧ n = 1 ∧ E = 0) ∨ (b ≠ 10 ∧ (b = 46 ∨ b = 45) ∧ k = 3 ∧ n = 1 ∧ E = 0) ∨
      (b ≠ 10 ∧ b ≠ 46 ∧ b ≠ 45 ∧ isDg b = true ∧ k = 2 ∧ Hid (∀ w : World, Calls Tryd.prog 55 #[.string s] w fun e w' => e = .returned (.tuple #[.int .i64 n, .int .i64 E]) ∧ Below w.heap.size w w')) ∨
      (b ≠ 10 ∧ b ≠ 46 ∧ b ≠ 45 ∧ isDg b = false ∧ k = 1 ∧ Hid (∀ w : World, Calls Tryd.prog 22 #[.string s] w fun e w' => e = .returned (.tuple #[.int .i64 n, .int .i64 E]) ∧ Below w.heap.size w w'))) (w : World) :
    Calls Tryd.prog 41 #[.string s] w fun e w' => e = .returned (.tuple #[.int .i64 k, .int .i64 n, .int .i64 E]) ∧ Below w.heap.size w w' := by
  have hwr : IntKind.i32.wrap b = b := by unfold IntKind.wrap; simp [IntKind.bits, IntKind.signed]; omega
  rcases hk with ⟨h1, rfl, rfl, rfl⟩ | ⟨h1, h2, rfl, rfl, rfl⟩ | ⟨h1, h2, h3, h4, rfl, HN⟩ | ⟨h1, h2, h3, h4, rfl, HW⟩
  · have g1 : (b == 10) = true := by simpa using h1
    clear h1
    go_enter Tryd.func41, Tryd.ntmps41
    go_wp2_with fail
    go_ret3
    exact ⟨rfl, Below.refl _ _⟩
  · have g1 : (b == 10) = false := by simpa using h1
    rcases h2 with h2 | h2
    · have g2 : (b == 46) = true := by simpa using h2
      clear h1 h2
      go_enter Tryd.func41, Tryd.ntmps41
      go_wp2_with fail
      go_ret3
      exact ⟨rfl, Below.refl _ _⟩
    · have g2 : (b == 46) = false := by simp; omega
      have g3 : (b == 45) = true := by simpa using h2
      clear h1 h2
      go_enter Tryd.func41, Tryd.ntmps41
      go_wp2_with fail
      go_ret3
      exact ⟨rfl, Below.refl _ _⟩
  · have g1 : (b == 10) = false := by simpa using h1
    have g2 : (b == 46) = false := by simpa using h2
    have g3 : (b == 45) = false := by simpa using h3
    rw [h4] at HD
    clear h1 h2 h3 h4
    go_enter Tryd.func41, Tryd.ntmps41
    go_wp2_with fail
    refine (HD.out _).mono ?_
    rintro e w1 ⟨rfl, rfl⟩
    go_wp2_with fail
    refine (HN.out _).mono ?_
    rintro e w1 ⟨rfl, b1⟩
    go_wp2_with fail
    go_ret3
    exact ⟨rfl, b1⟩
  · have g1 : (b == 10) = false := by simpa using h1
    have g2 : (b == 46) = false := by simpa using h2
    have g3 : (b == 45) = false := by simpa using h3
    rw [h4] at HD
    clear h1 h2 h3 h4
    go_enter Tryd.func41, Tryd.ntmps41
    go_wp2_with fail
    refine (HD.out _).mono ?_
    rintro e w1 ⟨rfl, rfl⟩
    go_wp2_with fail
    refine (HW.out _).mono ?_
    rintro e w1 ⟨rfl, b1⟩
    go_wp2_with fail
    go_ret3
    exact ⟨rfl, b1⟩

set_option maxHeartbeats 400000 in
theorem measure_nil (w : World) :
    Calls Tryd.prog 41 #[.string ⟨#[]⟩] w fun e w' => e = .returned (.tuple #[.int .i64 5, .int .i64 0, .int .i64 0]) ∧ Below w.heap.size w w' := by
  go_enter Tryd.func41, Tryd.ntmps41
  go_wp2_with fail
  go_ret3
  exact ⟨rfl, Below.refl _ _⟩

theorem empty_is {s : ByteArray} (h : s.data.toList = []) : s = ⟨#[]⟩ := by
  apply ByteArray.ext
  exact Array.toList_eq_nil_iff.1 h
theorem isEmpty_no {s : ByteArray} {c : UInt8} {m : List UInt8} (hl : s.data.toList = c :: m) : s.toList.isEmpty = false := by
  rw [ByteArray.toList_eq, hl]; rfl

theorem measure_any (s : ByteArray) (hs : s.size ≤ 9223372036854775800) (w : World) :
    Calls Tryd.prog 41 #[.string s] w fun e w' => e = .returned (.tuple #[.int .i64 (measK s.data.toList), .int .i64 (measN s.data.toList), .int .i64 (measE s.data.toList)]) ∧ Below w.heap.size w w' := by
  cases hl : s.data.toList with
  | nil =>
    rw [empty_is hl]
    exact measure_nil w
  | cons c m =>
    have h0 := size_cons hl
    have hc := first_byte hl h0
    have hlt := c.toNat_lt
    have hdg : isDg (c.toNat : Int) = isD c := by
      unfold isDg isD
      rw [Bool.eq_iff_iff]
      simp
      omega
    have hN := fun h w => number_any s c m hl h (by omega) w
    have hW := fun w => word_any s hs w
    rw [hl] at hW
    refine measure_core s h0 (isEmpty_no hl) c.toNat (by rw [hc]) (fun w => isDg_any _ w) (by omega) _ _ _ ?_ w
    by_cases h1 : c.toNat = 10
    · exact .inl ⟨by omega, if_pos h1, by rw [show measN (c :: m) = 1 from if_pos h1]; rfl, if_pos h1⟩
    by_cases h2 : c.toNat = 46 ∨ c.toNat = 45
    · exact .inr (.inl ⟨by omega, by omega, (if_neg h1).trans (if_pos h2), by rw [show measN (c :: m) = 1 from (if_neg h1).trans (if_pos h2)]; rfl, (if_neg h1).trans (if_pos h2)⟩)
    by_cases h3 : isD c = true
    · refine .inr (.inr (.inl ⟨by omega, by omega, by omega, by rw [hdg, h3], (if_neg h1).trans ((if_neg h2).trans (if_pos h3)), ?_⟩))
      rw [show measN (c :: m) = numN (c :: m) from (if_neg h1).trans ((if_neg h2).trans (if_pos h3)), show measE (c :: m) = numErr (c :: m) from (if_neg h1).trans ((if_neg h2).trans (if_pos h3))]
      exact hN h3
    · refine .inr (.inr (.inr ⟨by omega, by omega, by omega, by rw [hdg]; simpa using h3, (if_neg h1).trans ((if_neg h2).trans (if_neg h3)), ?_⟩))
      rw [show measN (c :: m) = wordN (c :: m) from (if_neg h1).trans ((if_neg h2).trans (if_neg h3)), show measE (c :: m) = wordErr (c :: m) from (if_neg h1).trans ((if_neg h2).trans (if_neg h3))]
      exact hW

set_option maxHeartbeats 400000 in
theorem touched_nil (w : World) :
    Calls Tryd.prog 43 #[.string ⟨#[]⟩] w fun e w' => e = .returned (.bool false) ∧ w = w' := by
  go_enter Tryd.func43, Tryd.ntmps43
  go_wp2_with fail
  go_ret
  exact ⟨rfl, rfl⟩
set_option maxHeartbeats 400000 in
theorem touched_core (s : ByteArray) (n : Nat) (hn : s.size = n + 1) (h0 : n < s.size) (hs : s.size ≤ 9223372036854775800) (hB : s.toList.isEmpty = false) (b : Int) (hb : ((s[n]'h0).toNat : Int) = b) (h256 : 0 ≤ b ∧ b < 256)
    (HD : Hid (∀ w : World, Calls Tryd.prog 54 #[.int .i32 b] w fun e w' => e = .returned (.bool (isBl b)) ∧ w = w')) (w : World) :
    Calls Tryd.prog 43 #[.string s] w fun e w' => e = .returned (.bool (!isBl b && b != 10)) ∧ w = w' := by
  have hwr : IntKind.i32.wrap b = b := by unfold IntKind.wrap; simp [IntKind.bits, IntKind.signed]; omega
  have hsub : (s.size : Int) - 1 = n := by omega
  have HS := Lib.hid hn
  clear hn
  cases hbl : isBl b
  · rw [hbl] at HD
    have HBL := Lib.hid hbl
    clear hbl
    go_enter Tryd.func43, Tryd.ntmps43
    go_wp2_with fail
    refine (HD.out _).mono ?_
    rintro e w1 ⟨rfl, rfl⟩
    go_wp2_with fail
    go_ret
    exact ⟨rfl, rfl⟩
  · rw [hbl] at HD
    have HBL := Lib.hid hbl
    clear hbl
    go_enter Tryd.func43, Tryd.ntmps43
    go_wp2_with fail
    refine (HD.out _).mono ?_
    rintro e w1 ⟨rfl, rfl⟩
    go_wp2_with fail
    go_ret
    exact ⟨rfl, rfl⟩
end Go.Proofs.YthccgpjbchlocaaDoor
