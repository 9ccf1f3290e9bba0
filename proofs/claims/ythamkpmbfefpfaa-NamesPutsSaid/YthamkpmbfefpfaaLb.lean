/- Layer lex: what isWrong, the closures, run, gap and word give, as contracts of the translated calls. -/
import Derived.Test.YthamkpmbfefpfaaLa
import Derived.Test.YthamkpmbfefpfaaLv
import Derived.Test.YthamkpmbfefpfaaShelf
import Derived.Lib.OthersKept
import Derived.BigQuiet
import Derived.Deep.QuietTactic
namespace Go.Proofs.Ythamkpmbfefpfaa
open Go.RowKit

set_option maxHeartbeats 400000 in
theorem isWrong_any (s : ByteArray) (w : World) :
    Calls Try.prog 45 #[.string s, .int .i32 ((decL s.data.toList).1 : Nat)] w fun e w' => e = .returned (.bool (bad s.data.toList)) ∧ w = w' := by
  have h := wrong_pref s.data.toList
  have HP : Hid (∀ w : World, Calls Try.prog 46 #[.string s, .string ⟨#[239, 191, 189]⟩] w fun e w' => e = .returned (.bool (Lib.hasPrefix s.data.toList [239, 191, 189])) ∧ w = w') := fun w =>
    (Try.strings_HasPrefix s ⟨#[239, 191, 189]⟩ w).mono fun e w' hp => ⟨hp.1, hp.2.symm⟩
  generalize Lib.hasPrefix s.data.toList [239, 191, 189] = p at *
  rw [← h]
  clear h
  generalize (decL s.data.toList).1 = r at *
  by_cases hr : r = 65533
  · have hrb : ((r : Int) == 65533) = true := by simp; omega
    rw [decide_eq_true hr, Bool.true_and]
    clear hr
    go_enter Try.func45, Try.ntmps45
    go_wp2_with fail
    refine (HP.out _).mono ?_
    rintro e w1 ⟨rfl, rfl⟩
    go_wp2_with fail
    go_ret
    exact ⟨rfl, rfl⟩
  · have hrb : ((r : Int) == 65533) = false := by simp; omega
    rw [decide_eq_false hr, Bool.false_and]
    clear hr
    go_enter Try.func45, Try.ntmps45
    go_wp2_with fail
    go_ret
    exact ⟨rfl, rfl⟩


set_option maxHeartbeats 800000 in
theorem wordClo_no (u : Nat) (r : Int) (K : Nat) (w : World) (h : wordGo u r = false) :
    Calls Try.prog 41 #[.int .i64 u, .int .i32 r, .pointer (some ⟨K, 0, none⟩)] w fun e w' => e = .returned (.bool false) ∧ w = w' := by
  have HL := Lib.hid fun w => isLetter_any r w
  have HD := Lib.hid fun w => isDg_any r w
  unfold wordGo at h
  have hl : isLt r = false := by simp at h; exact h.1
  rw [hl] at HL h
  rw [Bool.false_or] at h
  clear hl
  by_cases hu : u = 0
  · have hub : ((u : Int) == 0) = true := by simp; omega
    clear h hu
    go_enter Try.func41, Try.ntmps41
    go_wp2_with fail
    refine (HL.out _).mono ?_
    rintro e w1 ⟨rfl, rfl⟩
    go_wp2_with fail
    go_ret
    exact ⟨rfl, rfl⟩
  · have hub : ((u : Int) == 0) = false := by simp; omega
    have hd : isDg r = false := by simp at h; exact h hu
    rw [hd] at HD
    clear h hd hu
    go_enter Try.func41, Try.ntmps41
    go_wp2_with fail
    refine (HL.out _).mono ?_
    rintro e w1 ⟨rfl, rfl⟩
    go_wp2_with fail
    refine (HD.out _).mono ?_
    rintro e w1 ⟨rfl, rfl⟩
    go_wp2_with fail
    go_ret
    exact ⟨rfl, rfl⟩

set_option maxHeartbeats 800000 in
theorem wordClo_yes (u n : Nat) (r : Int) (b : Bool) (K : Nat) (w : World) (hc : w.cell? ⟨K, 0, none⟩ = some (.bool b)) (hf : w.frozen? ⟨K, 0, none⟩ = false) (h : wordGo u r = true) (hn : Lib.runeLen r = n) (hn4 : n ≤ 4) (hu9 : u ≤ 9223372036854775800) :
    Calls Try.prog 41 #[.int .i64 u, .int .i32 r, .pointer (some ⟨K, 0, none⟩)] w fun e w' => e = .returned (.bool (!decide (24 < u + n))) ∧ w' = w.setCell ⟨K, 0, none⟩ (.bool (decide (24 < u + n))) := by
  have HL := Lib.hid fun w => isLetter_any r w
  have HD := Lib.hid fun w => isDg_any r w
  have HR : Hid (∀ w : World, Calls Try.prog 44 #[.int .i32 r] w fun e w' => e = .returned (.int .i64 n) ∧ w = w') := fun w => by
    rw [← hn]; exact (Try.utf8_RuneLen r w).mono fun e w' hp => ⟨hp.1, hp.2.symm⟩
  have hc2 := World.cell?_setCell_same' w ⟨K, 0, none⟩ (.bool (decide (24 < u + n))) (by rw [hc]; rfl)
  clear hn
  unfold wordGo at h
  have hd24 : decide (24 < u + n) = decide ((24 : Int) < (u : Int) + n) := by rw [decide_eq_decide]; omega
  rw [hd24] at hc2 ⊢
  cases hl : isLt r
  · rw [hl] at HL h
    rw [Bool.false_or] at h
    have hu : u ≠ 0 := by simp at h; exact h.1
    have hd : isDg r = true := by simp at h; exact h.2
    rw [hd] at HD
    have hub : ((u : Int) == 0) = false := by simp; omega
    clear h hd hl hd24
    cases h24 : decide ((24 : Int) < (u : Int) + n)
    all_goals
      rw [h24] at hc2
      go_enter Try.func41, Try.ntmps41
      go_wp2_with fail
      refine (HL.out _).mono ?_
      rintro e w1 ⟨rfl, rfl⟩
      go_wp2_with fail
      refine (HD.out _).mono ?_
      rintro e w1 ⟨rfl, rfl⟩
      go_wp2_with fail
      refine (HR.out _).mono ?_
      rintro e w1 ⟨rfl, rfl⟩
      go_wp2_with fail
      go_ret
      exact ⟨rfl, rfl⟩
  · rw [hl] at HL
    clear h hl hd24
    cases h24 : decide ((24 : Int) < (u : Int) + n)
    all_goals
      rw [h24] at hc2
      go_enter Try.func41, Try.ntmps41
      go_wp2_with fail
      refine (HL.out _).mono ?_
      rintro e w1 ⟨rfl, rfl⟩
      go_wp2_with fail
      refine (HR.out _).mono ?_
      rintro e w1 ⟨rfl, rfl⟩
      go_wp2_with fail
      go_ret
      exact ⟨rfl, rfl⟩
end Go.Proofs.Ythamkpmbfefpfaa
