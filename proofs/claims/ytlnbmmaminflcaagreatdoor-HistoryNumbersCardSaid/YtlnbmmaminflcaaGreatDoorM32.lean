/- The document's answers of layer lex (package yardarmref02): Word, as a contract of the translated call; law LexWords: its walk. -/
import Derived.Test.YtlnbmmaminflcaaGreatDoorM31
import Derived.Test.YtlnbmmaminflcaaGreatDoorM6
-- holds: YtlnbmmaminflcaaGreatDoorVLn
namespace Go.Proofs.YtlnbmmaminflcaaGreatDoor
open Go.RowKit

theorem emptyW_is {s : ByteArray} (h : s.data.toList = []) : s = ⟨#[]⟩ := by
 apply ByteArray.ext
 exact Array.toList_eq_nil_iff.1 h
theorem isEmptyW_no {s : ByteArray} {c : UInt8} {m : List UInt8} (hl : s.data.toList = c :: m) : s.toList.isEmpty = false := by
 rw [ByteArray.toList_eq, hl]; rfl

theorem sizeW_cons {s : ByteArray} {c : UInt8} {m : List UInt8} (hl : s.data.toList = c :: m) : 0 < s.size := by
 rw [Lib.size_eq, hl]; simp
theorem wordB_no_end {l : List UInt8} {p : Nat} (h : WordEnd l p false) (hp : p < l.length) : wordB l = false := by
 unfold wordB
 have : ¬ wordN l = l.length := by unfold wordN; rw [h.1]; omega
 rw [decide_eq_false this, Bool.and_false]
theorem wordB_end {l : List UInt8} (h : WordEnd l l.length false) (h0 : l ≠ []) : wordB l = true := by
 have hn : wordN l = l.length := h.1
 have hb : wordBad l = false := by
  unfold wordBad
  rw [hn, h.2, Bool.or_false]
  have : 0 < l.length := by cases l with | nil => exact absurd rfl h0 | cons => simp
  exact decide_eq_false (by omega)
 unfold wordB
 rw [wordErr_no hb, hn]
 simp
theorem wordB_long {l : List UInt8} (h : 24 < l.length) : wordB l = false := by
 unfold wordB
 have : ¬ wordN l = l.length := by
  unfold wordN
  have := wordI_le (items l) 0 (by omega)
  omega
 rw [decide_eq_false this, Bool.and_false]
theorem wordB_nil : wordB [] = false := by
 unfold wordB wordErr wordBad wordN
 rw [items_nil]
 rfl

set_option maxHeartbeats 400000 in
theorem rword_nil (w : World) :
 Calls Tryz.prog 83 #[.string ⟨#[]⟩] w fun e w' => e = .returned (.bool false) ∧ Below w.heap.size w w' := by
 go_enter Tryz.func83, Tryz.ntmps83
 go_wp2_with fail
 go_ret
 exact ⟨rfl, Below.refl _ _⟩
set_option maxHeartbeats 400000 in
theorem rword_long (s : ByteArray) (hB : s.toList.isEmpty = false) (h : decide ((24 : Int) < (s.size : Int)) = true) (w : World) :
 Calls Tryz.prog 83 #[.string s] w fun e w' => e = .returned (.bool false) ∧ Below w.heap.size w w' := by
 go_enter Tryz.func83, Tryz.ntmps83
 go_wp2_with fail
 go_ret
 exact ⟨rfl, Below.refl _ _⟩

set_option maxHeartbeats 1600000 in
theorem rword_mid (s : ByteArray) (hB : s.toList.isEmpty = false) (h0 : 0 < s.size) (h24 : s.size ≤ 24) (h : decide ((24 : Int) < (s.size : Int)) = false) (w : World) :
 Calls Tryz.prog 83 #[.string s] w fun e w' => e = .returned (.bool (wordB s.data.toList)) ∧ Below w.heap.size w w' := by
 have hl0 : s.data.toList ≠ [] := by
  intro e
  rw [Lib.size_eq, e] at h0
  cases h0
 have HL := Lib.hid hl0
 clear hl0
 go_enter Tryz.func83, Tryz.ntmps83
 go_wp2_with fail
 go_loopw [3] (fun v wr => ∃ p : Nat, v = .int .i64 p ∧ p ≤ s.size ∧ Hid (WordAt s.data.toList p) ∧ Below w.heap.size w wr) (fun v _ => s.size - (intOf v).toNat)
 case atStart => exact ⟨0, rfl, Nat.zero_le _, WordAt.zero _, Below.refl _ _⟩
 case round =>
  obtain ⟨p, rfl, hp, hI, hBe⟩ := hrel
  by_cases hlt : p < s.size
  ·have hne := drop_ne hlt
   have hwd := width_le hlt
   have hw1 := (decL_width (s.data.toList.drop p)).1
   have hF := fun w => first_any (s.extract p s.size) (by simp only [ByteArray.size_extract]; omega) w
   rw [extract_list] at hF
   unfold firstC firstN at hF
   rw [if_neg hne, if_neg hne] at hF
   obtain ⟨t, ht⟩ : ∃ t, s.extract p s.size = t := ⟨_, rfl⟩
   rw [ht] at hF
   have HF := Lib.hid hF
   have HLt := Lib.hid fun w => rletter_any (clsL (s.data.toList.drop p)) w
   have HDg := Lib.hid fun w => rdigit_any (clsL (s.data.toList.drop p)) w
   have hGo := fun hgo h => hI.out.goC hne hgo h
   have hSt := fun hgo => hI.out.stopC hne hgo
   have hwg : wordGo p (clsL (s.data.toList.drop p)) = (isLt (clsL (s.data.toList.drop p)) || (p != 0 && isDg (clsL (s.data.toList.drop p)))) := rfl
   generalize clsL (s.data.toList.drop p) = c at *
   generalize (decL (s.data.toList.drop p)).2 = d at *
   clear hF hne
   cases hl : isLt c
   ·rw [hl] at HLt hwg
    rw [Bool.false_or] at hwg
    by_cases hp0 : p = 0
    ·have hpb : ((p : Int) == 0) = true := by simp; omega
     have hno : wordGo p c = false := by rw [hwg, hp0]; rfl
     have HR : Hid (wordB s.data.toList = false) := wordB_no_end (hSt hno) (by rw [← Lib.size_eq]; exact hlt)
     clear hl hwg hno hGo hSt hp0
     go_wp2_with fail
     refine (HF.out _).mono ?_
     rintro e w1 ⟨rfl, b1⟩
     have hBe1 := Lib.hid (hBe.trans (b1.mono hBe.size))
     clear b1
     go_wp2_with fail
     refine (HLt.out _).mono ?_
     rintro e w2 ⟨rfl, rfl⟩
     go_wp2_with fail
     go_ret
     exact ⟨by rw [HR.out]; rfl, hBe1.out⟩
    ·have hpb : ((p : Int) == 0) = false := by simp; omega
     have hpn : (p != 0) = true := by simpa using hp0
     rw [hpn, Bool.true_and] at hwg
     cases hd : isDg c
     ·rw [hd] at HDg hwg
      have HR : Hid (wordB s.data.toList = false) := wordB_no_end (hSt hwg) (by rw [← Lib.size_eq]; exact hlt)
      clear hl hwg hGo hSt hp0 hpn hd
      go_wp2_with fail
      refine (HF.out _).mono ?_
      rintro e w1 ⟨rfl, b1⟩
      have hBe1 := Lib.hid (hBe.trans (b1.mono hBe.size))
      clear b1
      go_wp2_with fail
      refine (HLt.out _).mono ?_
      rintro e w2 ⟨rfl, rfl⟩
      go_wp2_with fail
      refine (HDg.out _).mono ?_
      rintro e w2 ⟨rfl, rfl⟩
      go_wp2_with fail
      go_ret
      exact ⟨by rw [HR.out]; rfl, hBe1.out⟩
     ·rw [hd] at HDg hwg
      have HN := Lib.hid (hGo hwg (by omega))
      clear hl hwg hGo hSt hp0 hpn hd
      go_wp2_with fail
      refine (HF.out _).mono ?_
      rintro e w1 ⟨rfl, b1⟩
      have hBe1 := Lib.hid (hBe.trans (b1.mono hBe.size))
      clear b1
      go_wp2_with fail
      refine (HLt.out _).mono ?_
      rintro e w2 ⟨rfl, rfl⟩
      go_wp2_with fail
      refine (HDg.out _).mono ?_
      rintro e w2 ⟨rfl, rfl⟩
      go_wp2_with fail
      go_roundw
      case rel => exact ⟨p + d, by go_num, hwd, HN.out, hBe1.out⟩
      case measure => simp [intOf]; omega
   ·rw [hl] at HLt hwg
    rw [Bool.true_or] at hwg
    have HN := Lib.hid (hGo hwg (by omega))
    clear hl hwg hGo hSt
    go_wp2_with fail
    refine (HF.out _).mono ?_
    rintro e w1 ⟨rfl, b1⟩
    have hBe1 := Lib.hid (hBe.trans (b1.mono hBe.size))
    clear b1
    go_wp2_with fail
    refine (HLt.out _).mono ?_
    rintro e w2 ⟨rfl, rfl⟩
    go_wp2_with fail
    go_roundw
    case rel => exact ⟨p + d, by go_num, hwd, HN.out, hBe1.out⟩
    case measure => simp [intOf]; omega
  ·have hpe : p = s.data.toList.length := by rw [← Lib.size_eq]; omega
   have hI' := hI.out.fin (by rw [hpe, List.drop_length])
   rw [hpe] at hI'
   have HR : Hid (wordB s.data.toList = true) := wordB_end hI' HL.out
   clear hI' hpe
   go_wp2_with fail
   go_ret
   exact ⟨by rw [HR.out]; rfl, hBe⟩

theorem rword_any (s : ByteArray) (w : World) :
 Calls Tryz.prog 83 #[.string s] w fun e w' => e = .returned (.bool (wordB s.data.toList)) ∧ Below w.heap.size w w' := by
 cases hl : s.data.toList with
 | nil =>
  rw [emptyW_is hl, wordB_nil]
  exact rword_nil w
 | cons c m =>
  have hB := isEmptyW_no hl
  have h0 := sizeW_cons hl
  by_cases h : 24 < s.size
  ·rw [← hl, wordB_long (by rw [← Lib.size_eq]; exact h)]
   exact rword_long s hB (by simp; omega) w
  ·rw [← hl]
   exact rword_mid s hB h0 (by omega) (by simp; omega) w
end Go.Proofs.YtlnbmmaminflcaaGreatDoor
