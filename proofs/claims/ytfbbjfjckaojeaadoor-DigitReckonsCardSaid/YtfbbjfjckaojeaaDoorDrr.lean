/- The document's answers of layer digit (package yardarmref01): Read, as a contract of the translated call. -/
import Derived.Test.YtfbbjfjckaojeaaDoorDr
namespace Go.Proofs.YtfbbjfjckaojeaaDoor
open Go.RowKit

def lim8 : List UInt8 := [57, 50, 50, 51, 51, 55, 50, 48, 51, 54, 56, 53, 52, 55, 55, 53, 56, 48, 56]
def lim7 : List UInt8 := [57, 50, 50, 51, 51, 55, 50, 48, 51, 54, 56, 53, 52, 55, 55, 53, 56, 48, 55]
theorem lim8_val : dval lim8 = 9223372036854775808 := by decide +kernel
theorem lim7_val : dval lim7 = 9223372036854775807 := by decide +kernel
theorem lim8_digs : digs lim8 := digs_of (by decide +kernel)
theorem lim7_digs : digs lim7 := digs_of (by decide +kernel)
theorem above8 (l : List UInt8) (ha : digs l) (hb : Lib.decDigits (dval l) = l) : aboveB (ofL l) (ofL lim8) = decide (9223372036854775808 < dval l) := by
  have := aboveB_dval (a := ofL l) (b := ofL lim8) rfl (by rw [ofL_list]; exact lim8_digs) (by rw [ofL_list, lim8_val]; decide) (by rw [ofL_list, lim8_val]; decide) (by rw [ofL_list]; exact ha) (by rw [ofL_list]; exact hb)
  rw [ofL_list, ofL_list, lim8_val] at this
  exact this
theorem above7 (l : List UInt8) (ha : digs l) (hb : Lib.decDigits (dval l) = l) : aboveB (ofL l) (ofL lim7) = decide (9223372036854775807 < dval l) := by
  have := aboveB_dval (a := ofL l) (b := ofL lim7) rfl (by rw [ofL_list]; exact lim7_digs) (by rw [ofL_list, lim7_val]; decide) (by rw [ofL_list, lim7_val]; decide) (by rw [ofL_list]; exact ha) (by rw [ofL_list]; exact hb)
  rw [ofL_list, ofL_list, lim7_val] at this
  exact this
theorem sval_bd (neg : Bool) (l : List UInt8) (p : Nat) (h : fitB (sval neg l) = true) : fitB (sval neg (l.take p)) = true := by
  cases hf : fitB (sval neg (l.take p))
  · rw [sval_no hf] at h; cases h
  · rfl
theorem sval_bd10 (neg : Bool) (l : List UInt8) (p : Nat) (hp : p < l.length) (h : fitB (sval neg l) = true) : fitB (sval neg (l.take p) * 10) = true := by
  cases hf : fitB (sval neg (l.take p) * 10)
  · rw [sval_no10 hp hf] at h; cases h
  · rfl

set_option maxHeartbeats 400000 in
theorem rread_neg_above (s : ByteArray) (hs0 : 0 < s.size) (h45 : ((s[0].toNat : Int) == 45) = true) (t : ByteArray) (hex : s.extract 1 s.size = t)
    (H : Hid (∀ w : World, Calls Tryd.prog 29 #[.string t, .string ⟨#[57, 50, 50, 51, 51, 55, 50, 48, 51, 54, 56, 53, 52, 55, 55, 53, 56, 48, 56]⟩] w fun e w' => e = .returned (.bool true) ∧ w = w')) (w : World) :
    Calls Tryd.prog 14 #[.string s] w fun e w' => e = .returned (.tuple #[.int .i64 0, .bool false]) ∧ w = w' := by
  go_enter Tryd.func14, Tryd.ntmps14
  go_wp2_with fail
  refine (H.out _).mono ?_
  rintro e w1 ⟨rfl, rfl⟩
  go_wp2_with fail
  go_ret2
  exact ⟨rfl, rfl⟩

set_option maxHeartbeats 800000 in
theorem rread_neg_fit (s : ByteArray) (l : List UInt8) (hs0 : 0 < s.size) (hsz : s.size = l.length + 1) (h45 : ((s[0].toNat : Int) == 45) = true) (t : ByteArray) (hex : s.extract 1 s.size = t) (hs : s.size ≤ 1000) (hget : ∀ (p : Nat) (h : p < l.length) (h2 : p + 1 < s.size), s[p + 1]'h2 = l[p]) (hd : digs l) (hf : fitB (sval true l) = true)
    (H : Hid (∀ w : World, Calls Tryd.prog 29 #[.string t, .string ⟨#[57, 50, 50, 51, 51, 55, 50, 48, 51, 54, 56, 53, 52, 55, 55, 53, 56, 48, 56]⟩] w fun e w' => e = .returned (.bool false) ∧ w = w')) (w : World) :
    Calls Tryd.prog 14 #[.string s] w fun e w' => e = .returned (.tuple #[.int .i64 (sval true l), .bool true]) ∧ w = w' := by
  have HG := Lib.hid hget
  have HD := Lib.hid hd
  have HF := Lib.hid hf
  have HSZ := Lib.hid hsz
  clear hget hd hf hsz
  go_enter Tryd.func14, Tryd.ntmps14
  go_wp2_with fail
  refine (H.out _).mono ?_
  rintro e w1 ⟨rfl, rfl⟩
  go_wp2_with fail
  go_loop [4, 17] (fun v i => ∃ (p : Nat) (n : Int), p ≤ l.length ∧ v = .int .i64 n ∧ i = .int .i64 p ∧ Hid (n = sval true (l.take p))) (fun v i => l.length - (intOf i).toNat)
  case atStart => exact ⟨0, 0, Nat.zero_le _, rfl, rfl, rfl⟩
  case round =>
    obtain ⟨p, n, hp, rfl, rfl, hn⟩ := hrel
    have hz := HSZ.out
    by_cases hlt : p < l.length
    · have hi : p + 1 < s.size := by omega
      have hlt2 : (p : Int) < (s.size : Int) - 1 := by omega
      have hst := sval_step (neg := true) hlt
      have h10 := (fitB_iff _).1 (sval_bd10 true l p hlt HF.out)
      have hnx := (fitB_iff _).1 (sval_bd true l (p + 1) HF.out)
      rw [hst] at hnx
      rw [← hn.out] at h10 hnx hst
      have hdp := HD.out _ (List.getElem_mem hlt)
      rw [← HG.out p hlt hi] at hdp hnx hst
      simp only [↓reduceIte] at hnx hst
      have g0 : -9223372036854775808 ≤ n * 10 := h10.1
      have g1 : n * 10 ≤ 9223372036854775807 := h10.2
      have g2 : (48 : Int) ≤ ((s[p + 1]'hi).toNat : Int) := by omega
      have g3 : ((s[p + 1]'hi).toNat : Int) ≤ 57 := by omega
      have g4 : -9223372036854775808 ≤ n * 10 - (((s[p + 1]'hi).toNat : Int) - 48) := by omega
      have g5 : n * 10 - (((s[p + 1]'hi).toNat : Int) - 48) ≤ 9223372036854775807 := by omega
      have HST : Hid (sval true (l.take (p + 1)) = n * 10 - (((s[p + 1]'hi).toNat : Int) - 48)) := by
        show sval true (l.take (p + 1)) = _
        rw [hst]
        omega
      clear hst h10 hnx hdp hz
      go_wp2_with fail
      go_round
      case rel => exact ⟨p + 1, _, by omega, rfl, by go_num, HST.out.symm⟩
      case measure => simp [intOf]; omega
    · obtain rfl : p = l.length := by omega
      have hge : ¬ (l.length : Int) < (s.size : Int) - 1 := by omega
      have HN : Hid (n = sval true l) := by
        have := hn.out
        rw [List.take_length] at this
        exact this
      clear hz
      go_wp2_with fail
      go_ret2
      exact ⟨by rw [← HN.out]; rfl, rfl⟩

set_option maxHeartbeats 400000 in
theorem rread_pos_above (s : ByteArray) (hs0 : 0 < s.size) (h45 : ((s[0].toNat : Int) == 45) = false)
    (H : Hid (∀ w : World, Calls Tryd.prog 29 #[.string s, .string ⟨#[57, 50, 50, 51, 51, 55, 50, 48, 51, 54, 56, 53, 52, 55, 55, 53, 56, 48, 55]⟩] w fun e w' => e = .returned (.bool true) ∧ w = w')) (w : World) :
    Calls Tryd.prog 14 #[.string s] w fun e w' => e = .returned (.tuple #[.int .i64 0, .bool false]) ∧ w = w' := by
  go_enter Tryd.func14, Tryd.ntmps14
  go_wp2_with fail
  refine (H.out _).mono ?_
  rintro e w1 ⟨rfl, rfl⟩
  go_wp2_with fail
  go_ret2
  exact ⟨rfl, rfl⟩

set_option maxHeartbeats 800000 in
theorem rread_pos_fit (s : ByteArray) (l : List UInt8) (hs0 : 0 < s.size) (hsz : s.size = l.length) (h45 : ((s[0].toNat : Int) == 45) = false) (hs : s.size ≤ 1000) (hget : ∀ (p : Nat) (h : p < l.length) (h2 : p < s.size), s[p]'h2 = l[p]) (hd : digs l) (hf : fitB (sval false l) = true)
    (H : Hid (∀ w : World, Calls Tryd.prog 29 #[.string s, .string ⟨#[57, 50, 50, 51, 51, 55, 50, 48, 51, 54, 56, 53, 52, 55, 55, 53, 56, 48, 55]⟩] w fun e w' => e = .returned (.bool false) ∧ w = w')) (w : World) :
    Calls Tryd.prog 14 #[.string s] w fun e w' => e = .returned (.tuple #[.int .i64 (sval false l), .bool true]) ∧ w = w' := by
  have HG := Lib.hid hget
  have HD := Lib.hid hd
  have HF := Lib.hid hf
  have HSZ := Lib.hid hsz
  clear hget hd hf hsz
  go_enter Tryd.func14, Tryd.ntmps14
  go_wp2_with fail
  refine (H.out _).mono ?_
  rintro e w1 ⟨rfl, rfl⟩
  go_wp2_with fail
  go_loop [6, 35] (fun v i => ∃ (p : Nat) (n : Int), p ≤ l.length ∧ v = .int .i64 n ∧ i = .int .i64 p ∧ Hid (n = sval false (l.take p))) (fun v i => l.length - (intOf i).toNat)
  case atStart => exact ⟨0, 0, Nat.zero_le _, rfl, rfl, rfl⟩
  case round =>
    obtain ⟨p, n, hp, rfl, rfl, hn⟩ := hrel
    have hz := HSZ.out
    by_cases hlt : p < l.length
    · have hi : p < s.size := by omega
      have hlt2 : (p : Int) < (s.size : Int) := by omega
      have hst := sval_step (neg := false) hlt
      have h10 := (fitB_iff _).1 (sval_bd10 false l p hlt HF.out)
      have hnx := (fitB_iff _).1 (sval_bd false l (p + 1) HF.out)
      rw [hst] at hnx
      rw [← hn.out] at h10 hnx hst
      have hdp := HD.out _ (List.getElem_mem hlt)
      rw [← HG.out p hlt hi] at hdp hnx hst
      simp only [Bool.false_eq_true, ↓reduceIte] at hnx hst
      have g0 : -9223372036854775808 ≤ n * 10 := h10.1
      have g1 : n * 10 ≤ 9223372036854775807 := h10.2
      have g2 : (48 : Int) ≤ ((s[p]'hi).toNat : Int) := by omega
      have g3 : ((s[p]'hi).toNat : Int) ≤ 57 := by omega
      have g4 : -9223372036854775808 ≤ n * 10 + (((s[p]'hi).toNat : Int) - 48) := by omega
      have g5 : n * 10 + (((s[p]'hi).toNat : Int) - 48) ≤ 9223372036854775807 := by omega
      have HST : Hid (sval false (l.take (p + 1)) = n * 10 + (((s[p]'hi).toNat : Int) - 48)) := by
        show sval false (l.take (p + 1)) = _
        rw [hst]
        omega
      clear hst h10 hnx hdp hz
      go_wp2_with fail
      go_round
      case rel => exact ⟨p + 1, _, by omega, rfl, by go_num, HST.out.symm⟩
      case measure => simp [intOf]; omega
    · obtain rfl : p = l.length := by omega
      have hge : ¬ (l.length : Int) < (s.size : Int) := by omega
      have HN : Hid (n = sval false l) := by
        have := hn.out
        rw [List.take_length] at this
        exact this
      clear hz
      go_wp2_with fail
      go_ret2
      exact ⟨by rw [← HN.out]; rfl, rfl⟩

theorem rread_any (l : List UInt8) (hl : l.length ≤ 300) (hlk : looksL (tlS (ofL l)) (negS (ofL l)) = true) (w : World) :
    Calls Tryd.prog 14 #[.string (ofL l)] w fun e w' => e = .returned (.tuple #[.int .i64 (fitN (sval (negS (ofL l)) (tlS (ofL l)))), .bool (fitB (sval (negS (ofL l)) (tlS (ofL l))))]) ∧ w = w' := by
  by_cases h45 : l.head? = some 45
  · obtain ⟨m, rfl⟩ : ∃ m, l = 45 :: m := by
      cases l with
      | nil => cases h45
      | cons c m => simp at h45; exact ⟨m, by rw [h45]⟩
    rw [tlS_cons, negS_cons] at *
    have hd := digs_of (looksL_all hlk)
    have hb := (looksL_back hlk).1
    have hab := above8 m hd hb
    have hsz : (ofL (45 :: m)).size = m.length + 1 := by rw [ofL_size]; rfl
    have hex : (ofL (45 :: m)).extract 1 (ofL (45 :: m)).size = ofL m := (extract_ofL [45] m).2
    have hA := fun w => above_any (ofL m) (ofL lim8) w
    rw [hab] at hA
    have hs : sval true m = -(dval m : Int) := by unfold sval; rw [if_pos rfl]
    cases hf : fitB (sval true m)
    · rw [fitN_not hf]
      rw [fitB_no, hs] at hf
      rw [decide_eq_true (by omega)] at hA
      exact rread_neg_above _ (by omega) rfl _ hex hA w
    · rw [fitN_of hf]
      have hf' := (fitB_iff _).1 hf
      rw [hs] at hf'
      rw [decide_eq_false (by omega)] at hA
      simp at hl
      exact rread_neg_fit _ m (by omega) hsz rfl _ hex (by rw [hsz]; omega) (fun p h h2 => rfl) hd hf hA w
  · rw [tlS_of h45, negS_of h45] at *
    have hd := digs_of (looksL_all hlk)
    have hb := (looksL_back hlk).1
    have hne : 0 < l.length := by
      cases l with
      | nil => cases hlk
      | cons => simp
    have hab := above7 l hd hb
    have hsz := ofL_size l
    have h45' : ((((ofL l)[0]'(by omega)).toNat : Int) == 45) = false := by
      have h0 := hd l[0] (List.getElem_mem hne)
      have e : (ofL l)[0]'(by omega) = l[0] := rfl
      rw [e]
      exact beq_eq_false_iff_ne.2 (by omega)
    have hA := fun w => above_any (ofL l) (ofL lim7) w
    rw [hab] at hA
    have hs : sval false l = (dval l : Int) := by unfold sval; rw [if_neg (by simp)]
    cases hf : fitB (sval false l)
    · rw [fitN_not hf]
      rw [fitB_no, hs] at hf
      rw [decide_eq_true (by omega)] at hA
      exact rread_pos_above _ (by omega) h45' hA w
    · rw [fitN_of hf]
      have hf' := (fitB_iff _).1 hf
      rw [hs] at hf'
      rw [decide_eq_false (by omega)] at hA
      exact rread_pos_fit _ l (by omega) hsz h45' (by omega) (fun p h h2 => rfl) hd hf hA w
end Go.Proofs.YtfbbjfjckaojeaaDoor
