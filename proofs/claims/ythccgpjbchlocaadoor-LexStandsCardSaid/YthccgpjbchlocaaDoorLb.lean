/- Layer lex: what isWrong, the closures, run, gap and word give, as contracts of the translated calls. -/
import Derived.Test.YthccgpjbchlocaaDoorLa
import Derived.Test.YthccgpjbchlocaaDoorLv
import Derived.Test.YthccgpjbchlocaaDoorShelf
import Derived.Lib.OthersKept
import Derived.BigQuiet
import Derived.Deep.QuietTactic
namespace Go.Proofs.YthccgpjbchlocaaDoor
open Go.RowKit

set_option maxHeartbeats 400000 in
theorem isWrong_any (s : ByteArray) (w : World) :
    Calls Tryd.prog 47 #[.string s, .int .i32 ((decL s.data.toList).1 : Nat)] w fun e w' => e = .returned (.bool (bad s.data.toList)) ∧ w = w' := by
  have h := wrong_pref s.data.toList
  have HP : Hid (∀ w : World, Calls Tryd.prog 8 #[.string s, .string ⟨#[239, 191, 189]⟩] w fun e w' => e = .returned (.bool (Lib.hasPrefix s.data.toList [239, 191, 189])) ∧ w = w') := fun w =>
    (Tryd.strings_HasPrefix s ⟨#[239, 191, 189]⟩ w).mono fun e w' hp => ⟨hp.1, hp.2.symm⟩
  generalize Lib.hasPrefix s.data.toList [239, 191, 189] = p at *
  rw [← h]
  clear h
  generalize (decL s.data.toList).1 = r at *
  by_cases hr : r = 65533
  · have hrb : ((r : Int) == 65533) = true := by simp; omega
    rw [decide_eq_true hr, Bool.true_and]
    clear hr
    go_enter Tryd.func47, Tryd.ntmps47
    go_wp2_with fail
    refine (HP.out _).mono ?_
    rintro e w1 ⟨rfl, rfl⟩
    go_wp2_with fail
    go_ret
    exact ⟨rfl, rfl⟩
  · have hrb : ((r : Int) == 65533) = false := by simp; omega
    rw [decide_eq_false hr, Bool.false_and]
    clear hr
    go_enter Tryd.func47, Tryd.ntmps47
    go_wp2_with fail
    go_ret
    exact ⟨rfl, rfl⟩


set_option maxHeartbeats 800000 in
theorem gapClo_any (at_ r : Int) (rem : Bool) (K : Nat) (w : World) (hc : w.cell? ⟨K, 0, none⟩ = some (.bool rem)) (hf : w.frozen? ⟨K, 0, none⟩ = false) :
    Calls Tryd.prog 53 #[.int .i64 at_, .int .i32 r, .pointer (some ⟨K, 0, none⟩)] w fun e w' => e = .returned (.bool (gapGo rem r)) ∧ w' = w.setCell ⟨K, 0, none⟩ (.bool (rem || r == 35)) := by
  have HB := Lib.hid fun w => isBlank_any r w
  have hc2 : ∀ v, (w.setCell ⟨K, 0, none⟩ v).cell? ⟨K, 0, none⟩ = some v := fun v => World.cell?_setCell_same' _ _ _ (by rw [hc]; rfl)
  have HC2 := Lib.hid hc2
  clear hc2
  unfold gapGo
  cases rem
  · by_cases h35 : r = 35
    · have hrb : (r == 35) = true := by simp; omega
      have h32 : decide (32 ≤ r) = true := by simp; omega
      have hbl : isBl r = false := by unfold isBl; simp; omega
      rw [hbl] at HB ⊢
      rw [hrb, h32]
      have hc3 := HC2.out (.bool true)
      clear h35 hbl
      go_enter Tryd.func53, Tryd.ntmps53
      go_wp2_with fail
      refine (HB.out _).mono ?_
      rintro e w1 ⟨rfl, rfl⟩
      go_wp2_with fail
      go_ret
      exact ⟨rfl, rfl⟩
    · have hrb : (r == 35) = false := by simp; omega
      rw [hrb]
      have hc3 := HC2.out (.bool false)
      clear h35
      cases hbl : isBl r
      · rw [hbl] at HB
        have HBL := Lib.hid hbl
        clear hbl
        go_enter Tryd.func53, Tryd.ntmps53
        go_wp2_with fail
        refine (HB.out _).mono ?_
        rintro e w1 ⟨rfl, rfl⟩
        go_wp2_with fail
        go_ret
        exact ⟨rfl, rfl⟩
      · rw [hbl] at HB
        have HBL := Lib.hid hbl
        clear hbl
        go_enter Tryd.func53, Tryd.ntmps53
        go_wp2_with fail
        refine (HB.out _).mono ?_
        rintro e w1 ⟨rfl, rfl⟩
        go_wp2_with fail
        go_ret
        exact ⟨rfl, rfl⟩
  · have hc3 := HC2.out (.bool true)
    cases hbl : isBl r
    · rw [hbl] at HB
      have HBL := Lib.hid hbl
      clear hbl
      by_cases h : 32 ≤ r
      · have h32 : decide (32 ≤ r) = true := by simpa using h
        rw [h32]
        clear h
        go_enter Tryd.func53, Tryd.ntmps53
        go_wp2_with fail
        refine (HB.out _).mono ?_
        rintro e w1 ⟨rfl, rfl⟩
        go_wp2_with fail
        go_ret
        exact ⟨rfl, rfl⟩
      · have h32 : decide (32 ≤ r) = false := by simpa using h
        rw [h32]
        clear h
        go_enter Tryd.func53, Tryd.ntmps53
        go_wp2_with fail
        refine (HB.out _).mono ?_
        rintro e w1 ⟨rfl, rfl⟩
        go_wp2_with fail
        go_ret
        exact ⟨rfl, rfl⟩
    · rw [hbl] at HB
      have HBL := Lib.hid hbl
      clear hbl
      go_enter Tryd.func53, Tryd.ntmps53
      go_wp2_with fail
      refine (HB.out _).mono ?_
      rintro e w1 ⟨rfl, rfl⟩
      go_wp2_with fail
      go_ret
      exact ⟨rfl, rfl⟩

set_option maxHeartbeats 800000 in
theorem wordClo_no (u : Nat) (r : Int) (K : Nat) (w : World) (h : wordGo u r = false) :
    Calls Tryd.prog 34 #[.int .i64 u, .int .i32 r, .pointer (some ⟨K, 0, none⟩)] w fun e w' => e = .returned (.bool false) ∧ w = w' := by
  have HL := Lib.hid fun w => isLetter_any r w
  have HD := Lib.hid fun w => isDg_any r w
  unfold wordGo at h
  have hl : isLt r = false := by simp at h; exact h.1
  rw [hl] at HL h
  rw [Bool.false_or] at h
  clear hl
  by_cases hu : u = 0
  · have hub : ((u : Int) == 0) = true := by simp; omega
    clear h hu
    go_enter Tryd.func34, Tryd.ntmps34
    go_wp2_with fail
    refine (HL.out _).mono ?_
    rintro e w1 ⟨rfl, rfl⟩
    go_wp2_with fail
    go_ret
    exact ⟨rfl, rfl⟩
  · have hub : ((u : Int) == 0) = false := by simp; omega
    have hd : isDg r = false := by simp at h; exact h hu
    rw [hd] at HD
    clear h hd hu
    go_enter Tryd.func34, Tryd.ntmps34
    go_wp2_with fail
    refine (HL.out _).mono ?_
    rintro e w1 ⟨rfl, rfl⟩
    go_wp2_with fail
    refine (HD.out _).mono ?_
    rintro e w1 ⟨rfl, rfl⟩
    go_wp2_with fail
    go_ret
    exact ⟨rfl, rfl⟩

set_option maxHeartbeats 800000 in
theorem wordClo_yes (u n : Nat) (r : Int) (b : Bool) (K : Nat) (w : World) (hc : w.cell? ⟨K, 0, none⟩ = some (.bool b)) (hf : w.frozen? ⟨K, 0, none⟩ = false) (h : wordGo u r = true) (hn : Lib.runeLen r = n) (hn4 : n ≤ 4) (hu9 : u ≤ 9223372036854775800) :
    Calls Tryd.prog 34 #[.int .i64 u, .int .i32 r, .pointer (some ⟨K, 0, none⟩)] w fun e w' => e = .returned (.bool (!decide (24 < u + n))) ∧ w' = w.setCell ⟨K, 0, none⟩ (.bool (decide (24 < u + n))) := by
  have HL := Lib.hid fun w => isLetter_any r w
  have HD := Lib.hid fun w => isDg_any r w
  have HR : Hid (∀ w : World, Calls Tryd.prog 37 #[.int .i32 r] w fun e w' => e = .returned (.int .i64 n) ∧ w = w') := fun w => by
    rw [← hn]; exact (Tryd.utf8_RuneLen r w).mono fun e w' hp => ⟨hp.1, hp.2.symm⟩
  have hc2 := World.cell?_setCell_same' w ⟨K, 0, none⟩ (.bool (decide (24 < u + n))) (by rw [hc]; rfl)
  clear hn
  unfold wordGo at h
  have hd24 : decide (24 < u + n) = decide ((24 : Int) < (u : Int) + n) := by rw [decide_eq_decide]; omega
  rw [hd24] at hc2 ⊢
  cases hl : isLt r
  · rw [hl] at HL h
    rw [Bool.false_or] at h
    have hu : u ≠ 0 := by simp at h; exact h.1
    have hd : isDg r = true := by simp at h; exact h.2
    rw [hd] at HD
    have hub : ((u : Int) == 0) = false := by simp; omega
    clear h hd hl hd24
    cases h24 : decide ((24 : Int) < (u : Int) + n)
    all_goals
      rw [h24] at hc2
      go_enter Tryd.func34, Tryd.ntmps34
      go_wp2_with fail
      refine (HL.out _).mono ?_
      rintro e w1 ⟨rfl, rfl⟩
      go_wp2_with fail
      refine (HD.out _).mono ?_
      rintro e w1 ⟨rfl, rfl⟩
      go_wp2_with fail
      refine (HR.out _).mono ?_
      rintro e w1 ⟨rfl, rfl⟩
      go_wp2_with fail
      go_ret
      exact ⟨rfl, rfl⟩
  · rw [hl] at HL
    clear h hl hd24
    cases h24 : decide ((24 : Int) < (u : Int) + n)
    all_goals
      rw [h24] at hc2
      go_enter Tryd.func34, Tryd.ntmps34
      go_wp2_with fail
      refine (HL.out _).mono ?_
      rintro e w1 ⟨rfl, rfl⟩
      go_wp2_with fail
      refine (HR.out _).mono ?_
      rintro e w1 ⟨rfl, rfl⟩
      go_wp2_with fail
      go_ret
      exact ⟨rfl, rfl⟩
end Go.Proofs.YthccgpjbchlocaaDoor
