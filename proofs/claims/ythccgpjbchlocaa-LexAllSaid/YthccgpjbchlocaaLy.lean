/- The document's answers of layer digit (package yardarmref01), as layer lex calls them: above, Read of digits; layer lex: number. -/
import Derived.Test.YthccgpjbchlocaaDq
import Derived.Test.YthccgpjbchlocaaLe
namespace Go.Proofs.Ythccgpjbchlocaa
open Go.RowKit

set_option maxHeartbeats 400000 in
theorem above_any (a b : ByteArray) (w : World) :
    Calls Try.prog 50 #[.string a, .string b] w fun e w' => e = .returned (.bool (aboveB a b)) ∧ w = w' := by
  unfold aboveB
  by_cases h1 : b.size < a.size
  · rw [decide_eq_true h1, Bool.true_or]
    go_enter Try.func50, Try.ntmps50
    go_wp2_with fail
    go_ret
    exact ⟨rfl, rfl⟩
  · rw [decide_eq_false h1, Bool.false_or]
    by_cases h2 : a.size = b.size
    · rw [decide_eq_true h2, Bool.true_and]
      have h2b : ((a.size : Int) == (b.size : Int)) = true := by rw [h2]; simp
      have H2 := Lib.hid h2
      clear h2
      go_enter Try.func50, Try.ntmps50
      go_wp2_with fail
      go_ret
      exact ⟨by rw [Bool.not_or]; rfl, rfl⟩
    · rw [decide_eq_false h2, Bool.false_and]
      have h2b : ((a.size : Int) == (b.size : Int)) = false := beq_eq_false_iff_ne.2 (by omega)
      go_enter Try.func50, Try.ntmps50
      go_wp2_with fail
      go_ret
      exact ⟨rfl, rfl⟩

def lim7 : List UInt8 := [57, 50, 50, 51, 51, 55, 50, 48, 51, 54, 56, 53, 52, 55, 55, 53, 56, 48, 55]

theorem lim7_val : dval lim7 = 9223372036854775807 := by decide +kernel

theorem lim7_digs : digs lim7 := digs_of (by decide +kernel)

theorem sval_bd (neg : Bool) (l : List UInt8) (p : Nat) (h : fitB (sval neg l) = true) : fitB (sval neg (l.take p)) = true := by
  cases hf : fitB (sval neg (l.take p))
  · rw [sval_no hf] at h; cases h
  · rfl

theorem sval_bd10 (neg : Bool) (l : List UInt8) (p : Nat) (hp : p < l.length) (h : fitB (sval neg l) = true) : fitB (sval neg (l.take p) * 10) = true := by
  cases hf : fitB (sval neg (l.take p) * 10)
  · rw [sval_no10 hp hf] at h; cases h
  · rfl

set_option maxHeartbeats 400000 in
theorem rread_pos_above (s : ByteArray) (hs0 : 0 < s.size) (h45 : ((s[0].toNat : Int) == 45) = false)
    (H : Hid (∀ w : World, Calls Try.prog 50 #[.string s, .string ⟨#[57, 50, 50, 51, 51, 55, 50, 48, 51, 54, 56, 53, 52, 55, 55, 53, 56, 48, 55]⟩] w fun e w' => e = .returned (.bool true) ∧ w = w')) (w : World) :
    Calls Try.prog 44 #[.string s] w fun e w' => e = .returned (.tuple #[.int .i64 0, .bool false]) ∧ w = w' := by
  go_enter Try.func44, Try.ntmps44
  go_wp2_with fail
  refine (H.out _).mono ?_
  rintro e w1 ⟨rfl, rfl⟩
  go_wp2_with fail
  go_ret2
  exact ⟨rfl, rfl⟩

set_option maxHeartbeats 800000 in
theorem rread_pos_fit (s : ByteArray) (l : List UInt8) (hs0 : 0 < s.size) (hsz : s.size = l.length) (h45 : ((s[0].toNat : Int) == 45) = false) (hs : s.size ≤ 1000) (hget : ∀ (p : Nat) (h : p < l.length) (h2 : p < s.size), s[p]'h2 = l[p]) (hd : digs l) (hf : fitB (sval false l) = true)
    (H : Hid (∀ w : World, Calls Try.prog 50 #[.string s, .string ⟨#[57, 50, 50, 51, 51, 55, 50, 48, 51, 54, 56, 53, 52, 55, 55, 53, 56, 48, 55]⟩] w fun e w' => e = .returned (.bool false) ∧ w = w')) (w : World) :
    Calls Try.prog 44 #[.string s] w fun e w' => e = .returned (.tuple #[.int .i64 (sval false l), .bool true]) ∧ w = w' := by
  have HG := Lib.hid hget
  have HD := Lib.hid hd
  have HF := Lib.hid hf
  have HSZ := Lib.hid hsz
  clear hget hd hf hsz
  go_enter Try.func44, Try.ntmps44
  go_wp2_with fail
  refine (H.out _).mono ?_
  rintro e w1 ⟨rfl, rfl⟩
  go_wp2_with fail
  go_loop [6, 35] (fun v i => ∃ (p : Nat) (n : Int), p ≤ l.length ∧ v = .int .i64 n ∧ i = .int .i64 p ∧ Hid (n = sval false (l.take p))) (fun v i => l.length - (intOf i).toNat)
  case atStart => exact ⟨0, 0, Nat.zero_le _, rfl, rfl, rfl⟩
  case round =>
    obtain ⟨p, n, hp, rfl, rfl, hn⟩ := hrel
    have hz := HSZ.out
    by_cases hlt : p < l.length
    · have hi : p < s.size := by omega
      have hlt2 : (p : Int) < (s.size : Int) := by omega
      have hst := sval_step (neg := false) hlt
      have h10 := (fitB_iff _).1 (sval_bd10 false l p hlt HF.out)
      have hnx := (fitB_iff _).1 (sval_bd false l (p + 1) HF.out)
      rw [hst] at hnx
      rw [← hn.out] at h10 hnx hst
      have hdp := HD.out _ (List.getElem_mem hlt)
      rw [← HG.out p hlt hi] at hdp hnx hst
      simp only [Bool.false_eq_true, ↓reduceIte] at hnx hst
      have g0 : -9223372036854775808 ≤ n * 10 := h10.1
      have g1 : n * 10 ≤ 9223372036854775807 := h10.2
      have g2 : (48 : Int) ≤ ((s[p]'hi).toNat : Int) := by omega
      have g3 : ((s[p]'hi).toNat : Int) ≤ 57 := by omega
      have g4 : -9223372036854775808 ≤ n * 10 + (((s[p]'hi).toNat : Int) - 48) := by omega
      have g5 : n * 10 + (((s[p]'hi).toNat : Int) - 48) ≤ 9223372036854775807 := by omega
      have HST : Hid (sval false (l.take (p + 1)) = n * 10 + (((s[p]'hi).toNat : Int) - 48)) := by
        show sval false (l.take (p + 1)) = _
        rw [hst]
        omega
      clear hst h10 hnx hdp hz
      go_wp2_with fail
      go_round
      case rel => exact ⟨p + 1, _, by omega, rfl, by go_num, HST.out.symm⟩
      case measure => simp [intOf]; omega
    · obtain rfl : p = l.length := by omega
      have hge : ¬ (l.length : Int) < (s.size : Int) := by omega
      have HN : Hid (n = sval false l) := by
        have := hn.out
        rw [List.take_length] at this
        exact this
      clear hz
      go_wp2_with fail
      go_ret2
      exact ⟨by rw [← HN.out]; rfl, rfl⟩

def ofL (l : List UInt8) : ByteArray := ⟨l.toArray⟩
theorem ofL_list (l : List UInt8) : (ofL l).data.toList = l := rfl
theorem ofL_size (l : List UInt8) : (ofL l).size = l.length := by rw [Lib.size_eq]; rfl

/-- What Read answers of digits that have no nought ahead. -/
theorem rread_num (l : List UInt8) (h0 : l ≠ []) (hall : l.all isD = true) (hld : leadN l = false) (w : World) :
    Calls Try.prog 44 #[.string (ofL l)] w fun e w' => e = .returned (.tuple #[.int .i64 (fitN (dval l)), .bool (fitB (dval l))]) ∧ w = w' := by
  have hd := digs_of hall
  have hne : 0 < l.length := by cases l with | nil => exact absurd rfl h0 | cons => simp
  have hb := (dec_back l.length l (Nat.le_refl _) h0 hall (fun h48 => by
    unfold leadN at hld
    rw [decide_eq_true h48, Bool.true_and] at hld
    simp at hld
    omega)).1
  have hsz := ofL_size l
  have hA := fun w => above_any (ofL l) (ofL lim7) w
  rw [aboveB_dval (a := ofL l) (b := ofL lim7) rfl (by rw [ofL_list]; exact lim7_digs) (by rw [ofL_list, lim7_val]; decide) (by rw [ofL_list, lim7_val]; decide) (by rw [ofL_list]; exact hd) (by rw [ofL_list]; exact hb), ofL_list, ofL_list, lim7_val] at hA
  have h45' : ((((ofL l)[0]'(by omega)).toNat : Int) == 45) = false := by
    have h0 := hd l[0] (List.getElem_mem hne)
    have e : (ofL l)[0]'(by omega) = l[0] := rfl
    rw [e]
    exact beq_eq_false_iff_ne.2 (by omega)
  have hs : sval false l = (dval l : Int) := by unfold sval; rw [if_neg (by simp)]
  cases hf : fitB (dval l : Int)
  · rw [fitN_not hf]
    rw [fitB_no] at hf
    rw [decide_eq_true (by omega)] at hA
    exact rread_pos_above _ (by omega) h45' hA w
  · rw [fitN_of hf]
    have hf' := (fitB_iff _).1 hf
    rw [decide_eq_false (by omega)] at hA
    have hl19 : l.length ≤ 19 := by
      rcases Nat.lt_or_ge 19 l.length with h | h
      · have := dval_long hb h
        omega
      · exact h
    have := rread_pos_fit (ofL l) l (by omega) hsz h45' (by omega) (fun p h h2 => rfl) hd (by rw [hs]; exact hf) hA w
    rw [hs] at this
    exact this
end Go.Proofs.Ythccgpjbchlocaa
