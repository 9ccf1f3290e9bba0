/- The document's answers of layer lex (package yardarmref02): skip and word, as contracts of the translated calls. -/
import Derived.Test.YthccgpjbchlocaaLm
import Derived.Test.YthccgpjbchlocaaLw
namespace Go.Proofs.Ythccgpjbchlocaa
open Go.RowKit

theorem first_at {s : ByteArray} {p : Nat} (hlt : p < s.size) (hs : s.size ≤ 1000000) (t : ByteArray) (ht : s.extract p s.size = t) (w : World) :
    Calls Try.prog 21 #[.string t] w fun e w' => e = .returned (.tuple #[.int .i32 (clsL (s.data.toList.drop p)), .int .i64 (decL (s.data.toList.drop p)).2]) ∧ Below w.heap.size w w' := by
  have hF := first_any (s.extract p s.size) (by simp only [ByteArray.size_extract]; omega) w
  rw [extract_list] at hF
  unfold firstC firstN at hF
  rw [if_neg (drop_ne hlt), if_neg (drop_ne hlt), ht] at hF
  exact hF
theorem drop_add (s : ByteArray) (a q : Nat) : (s.data.toList.drop a).drop q = s.data.toList.drop (a + q) := by rw [List.drop_drop]

/-- skip's answer: the place behind a gap; may all that stands in it. -/
def SkipIs (s : ByteArray) (a : Nat) (w : World) (e : Ending) (w' : World) : Prop :=
  e = .returned (.tuple #[.int .i64 ((a + gapN (s.data.toList.drop a) : Nat) : Int), .bool (!gapB (s.data.toList.drop a))]) ∧ Below w.heap.size w w'
theorem skip_end {s : ByteArray} {a q : Nat} {b : Bool} {w w' : World} (h : GapEnd (s.data.toList.drop a) q b) (hb : Below w.heap.size w w') :
    SkipIs s a w (.returned (.tuple #[.int .i64 ((a + q : Nat) : Int), .bool (!b)])) w' := by
  refine ⟨?_, hb⟩
  have h1 : gapN (s.data.toList.drop a) = q := h.1
  have h2 : gapB (s.data.toList.drop a) = b := h.2
  rw [h1, h2]

set_option maxHeartbeats 3200000 in
theorem skip_any (s : ByteArray) (a : Nat) (ha : a ≤ s.size) (hs : s.size ≤ 1000000) (w : World) :
    Calls Try.prog 28 #[.string s, .int .i64 a] w (SkipIs s a w) := by
  go_enter Try.func28, Try.ntmps28
  go_wp2_with fail
  go_loopw [1, 6] (fun v f wr => ∃ (q : Nat) (rem : Bool), v = .int .i64 ((a + q : Nat) : Int) ∧ f = .bool rem ∧ a + q ≤ s.size ∧ Hid (GapAt (s.data.toList.drop a) q rem) ∧ Below w.heap.size w wr) (fun v _ _ => s.size - (intOf v).toNat)
  case atStart => exact ⟨0, false, rfl, rfl, ha, GapAt.zero _, Below.refl _ _⟩
  case round =>
    obtain ⟨q, rem, rfl, rfl, hp, hI, hBe⟩ := hrel
    obtain ⟨p, hpe⟩ : ∃ p, p = a + q := ⟨_, rfl⟩
    have HPE := Lib.hid hpe
    rw [← hpe] at hp
    rw [← hpe]
    clear hpe
    by_cases hlt : p < s.size
    · obtain ⟨t, ht⟩ : ∃ t, s.extract p s.size = t := ⟨_, rfl⟩
      have HF := Lib.hid fun w => first_at hlt hs t ht w
      have hne := drop_ne hlt
      have hwd := width_le hlt
      have hw1 := (decL_width (s.data.toList.drop p)).1
      have hda := drop_add s a q
      rw [← HPE.out] at hda
      have hGo := fun hgo => hI.out.goC (by rw [hda]; exact hne) hgo
      have hSt := fun hgo => hI.out.stopC (by rw [hda]; exact hne) hgo
      rw [hda] at hGo hSt
      generalize clsL (s.data.toList.drop p) = c at *
      generalize (decL (s.data.toList.drop p)).2 = d at *
      clear hda hne
      have HGO := Lib.hid hGo
      have HST := Lib.hid hSt
      clear hGo hSt
      by_cases h10 : c = 10
      · have g10 : (c == 10) = true := by simpa using h10
        have HCC := Lib.hid h10
        have hgo : gapGo rem c = false := by subst h10; unfold gapGo isBl; cases rem <;> simp
        have HE : Hid (GapEnd (s.data.toList.drop a) q false) := by
          have := HST.out hgo
          simpa [HCC.out, Hid] using this
        clear h10 hgo
        go_wp2_with fail
        refine (HF.out _).mono ?_
        rintro e w1 ⟨rfl, b1⟩
        have hBe1 := Lib.hid (hBe.trans (b1.mono hBe.size))
        clear b1
        go_wp2_with fail
        go_ret2
        rw [HPE.out]
        exact skip_end HE.out hBe1.out
      · have g10 : (c == 10) = false := by simpa using h10
        cases rem
        · by_cases h32 : c = 32
          · have g32 : (c == 32) = true := by simpa using h32
            have hgo : gapGo false c = true := by subst h32; rfl
            have HE : Hid (GapAt (s.data.toList.drop a) (q + d) false) := by
              have := HGO.out hgo
              rw [show (c == 35) = false by simp; omega] at this
              exact this
            clear h10 h32 hgo
            go_wp2_with fail
            refine (HF.out _).mono ?_
            rintro e w1 ⟨rfl, b1⟩
            have hBe1 := Lib.hid (hBe.trans (b1.mono hBe.size))
            clear b1
            go_wp2_with fail
            go_roundw
            case rel => exact ⟨q + d, false, by rw [HPE.out]; go_num, rfl, by have := HPE.out; omega, HE.out, hBe1.out⟩
            case measure => simp [intOf]; omega
          · have g32 : (c == 32) = false := by simpa using h32
            by_cases h9 : c = 9
            · have g9 : (c == 9) = true := by simpa using h9
              have hgo : gapGo false c = true := by subst h9; rfl
              have HE : Hid (GapAt (s.data.toList.drop a) (q + d) false) := by
                have := HGO.out hgo
                rw [show (c == 35) = false by simp; omega] at this
                exact this
              clear h10 h32 h9 hgo
              go_wp2_with fail
              refine (HF.out _).mono ?_
              rintro e w1 ⟨rfl, b1⟩
              have hBe1 := Lib.hid (hBe.trans (b1.mono hBe.size))
              clear b1
              go_wp2_with fail
              go_roundw
              case rel => exact ⟨q + d, false, by rw [HPE.out]; go_num, rfl, by have := HPE.out; omega, HE.out, hBe1.out⟩
              case measure => simp [intOf]; omega
            · have g9 : (c == 9) = false := by simpa using h9
              by_cases h35 : c = 35
              · have g35 : (c == 35) = true := by simpa using h35
                have hgo : gapGo false c = true := by subst h35; rfl
                have HE : Hid (GapAt (s.data.toList.drop a) (q + d) true) := by
                  have := HGO.out hgo
                  rw [g35] at this
                  exact this
                clear h10 h32 h9 h35 hgo
                go_wp2_with fail
                refine (HF.out _).mono ?_
                rintro e w1 ⟨rfl, b1⟩
                have hBe1 := Lib.hid (hBe.trans (b1.mono hBe.size))
                clear b1
                go_wp2_with fail
                go_roundw
                case rel => exact ⟨q + d, true, by rw [HPE.out]; go_num, rfl, by have := HPE.out; omega, HE.out, hBe1.out⟩
                case measure => simp [intOf]; omega
              · have g35 : (c == 35) = false := by simpa using h35
                have hgo : gapGo false c = false := by unfold gapGo isBl; simp; omega
                have HE : Hid (GapEnd (s.data.toList.drop a) q false) := HST.out hgo
                clear h10 h32 h9 h35 hgo
                go_wp2_with fail
                refine (HF.out _).mono ?_
                rintro e w1 ⟨rfl, b1⟩
                have hBe1 := Lib.hid (hBe.trans (b1.mono hBe.size))
                clear b1
                go_wp2_with fail
                go_ret2
                rw [HPE.out]
                exact skip_end HE.out hBe1.out
        · by_cases h32 : c < 32
          · have g32 : decide (c < 32) = true := by simpa using h32
            by_cases h9 : c = 9
            · have g9 : (c == 9) = true := by simpa using h9
              have n9 : (c != 9) = false := by simpa using h9
              have hgo : gapGo true c = true := by subst h9; rfl
              have HE : Hid (GapAt (s.data.toList.drop a) (q + d) true) := HGO.out hgo
              clear h10 h32 h9 hgo
              go_wp2_with fail
              refine (HF.out _).mono ?_
              rintro e w1 ⟨rfl, b1⟩
              have hBe1 := Lib.hid (hBe.trans (b1.mono hBe.size))
              clear b1
              go_wp2_with fail
              go_roundw
              case rel => exact ⟨q + d, true, by rw [HPE.out]; go_num, rfl, by have := HPE.out; omega, HE.out, hBe1.out⟩
              case measure => simp [intOf]; omega
            · have g9 : (c == 9) = false := by simpa using h9
              have n9 : (c != 9) = true := by simpa using h9
              have hgo : gapGo true c = false := by unfold gapGo isBl; simp; omega
              have HE : Hid (GapEnd (s.data.toList.drop a) q true) := by
                have := HST.out hgo
                rw [show (c != 10) = true by simpa using h10] at this
                exact this
              clear h10 h32 h9 hgo
              go_wp2_with fail
              refine (HF.out _).mono ?_
              rintro e w1 ⟨rfl, b1⟩
              have hBe1 := Lib.hid (hBe.trans (b1.mono hBe.size))
              clear b1
              go_wp2_with fail
              go_ret2
              rw [HPE.out]
              exact skip_end HE.out hBe1.out
          · have g32 : decide (c < 32) = false := by simpa using h32
            have hgo : gapGo true c = true := by unfold gapGo isBl; simp; omega
            have HE : Hid (GapAt (s.data.toList.drop a) (q + d) true) := HGO.out hgo
            clear h10 h32 hgo
            go_wp2_with fail
            refine (HF.out _).mono ?_
            rintro e w1 ⟨rfl, b1⟩
            have hBe1 := Lib.hid (hBe.trans (b1.mono hBe.size))
            clear b1
            go_wp2_with fail
            go_roundw
            case rel => exact ⟨q + d, true, by rw [HPE.out]; go_num, rfl, by have := HPE.out; omega, HE.out, hBe1.out⟩
            case measure => simp [intOf]; omega
    · have he : s.data.toList.drop p = [] := drop_end hlt
      have hfi := hI.out.fin (by rw [drop_add, ← HPE.out]; exact he)
      have HE := Lib.hid hfi
      clear hfi he hI
      go_wp2_with fail
      go_ret2
      rw [HPE.out]
      exact skip_end HE.out hBe

/-- word's answer: the place behind a word, or at which it is too long. -/
def WordIs (s : ByteArray) (a : Nat) (w : World) (e : Ending) (w' : World) : Prop :=
  e = .returned (.tuple #[.int .i64 ((a + wordN (s.data.toList.drop a) : Nat) : Int), .bool (!(wordI 0 (items (s.data.toList.drop a))).2.1)]) ∧ Below w.heap.size w w'
theorem word_end {s : ByteArray} {a q : Nat} {b : Bool} {w w' : World} (h : WordEnd (s.data.toList.drop a) q b) (hb : Below w.heap.size w w') :
    WordIs s a w (.returned (.tuple #[.int .i64 ((a + q : Nat) : Int), .bool (!b)])) w' := by
  refine ⟨?_, hb⟩
  have h1 : wordN (s.data.toList.drop a) = q := h.1
  rw [h1, h.2]

set_option maxHeartbeats 3200000 in
theorem rwordAt_any (s : ByteArray) (a : Nat) (ha : a ≤ s.size) (hs : s.size ≤ 1000000) (hfirst : isLt (clsL (s.data.toList.drop a)) = true) (w : World) :
    Calls Try.prog 30 #[.string s, .int .i64 a] w (WordIs s a w) := by
  have HFI := Lib.hid hfirst
  clear hfirst
  go_enter Try.func30, Try.ntmps30
  go_wp2_with fail
  go_loopw [1] (fun v wr => ∃ q : Nat, v = .int .i64 ((a + q : Nat) : Int) ∧ a + q ≤ s.size ∧ Hid (WordAt (s.data.toList.drop a) q) ∧ Below w.heap.size w wr) (fun v _ => s.size - (intOf v).toNat)
  case atStart => exact ⟨0, rfl, ha, WordAt.zero _, Below.refl _ _⟩
  case round =>
    obtain ⟨q, rfl, hp, hI, hBe⟩ := hrel
    obtain ⟨p, hpe⟩ : ∃ p, p = a + q := ⟨_, rfl⟩
    have HPE := Lib.hid hpe
    rw [← hpe] at hp
    rw [← hpe]
    clear hpe
    by_cases hlt : p < s.size
    · obtain ⟨t, ht⟩ : ∃ t, s.extract p s.size = t := ⟨_, rfl⟩
      have HF := Lib.hid fun w => first_at hlt hs t ht w
      have hne := drop_ne hlt
      have hwd := width_le hlt
      have hw1 := (decL_width (s.data.toList.drop p)).1
      have hda := drop_add s a q
      rw [← HPE.out] at hda
      have hGo := fun hgo h => hI.out.goC (by rw [hda]; exact hne) hgo h
      have hFu := fun hgo h => hI.out.fullC (by rw [hda]; exact hne) hgo h
      have hSt := fun hgo => hI.out.stopC (by rw [hda]; exact hne) hgo
      rw [hda] at hGo hSt hFu
      have hfst : q = 0 → isLt (clsL (s.data.toList.drop p)) = true := fun h0 => by
        have := HFI.out
        rw [HPE.out, h0, Nat.add_zero]
        exact this
      have HLt := Lib.hid fun w => rletter_any (clsL (s.data.toList.drop p)) w
      have HDg := Lib.hid fun w => rdigit_any (clsL (s.data.toList.drop p)) w
      generalize clsL (s.data.toList.drop p) = c at *
      generalize (decL (s.data.toList.drop p)).2 = d at *
      clear hda hne
      have hwg : wordGo q c = (isLt c || isDg c) := by
        unfold wordGo
        by_cases h0 : q = 0
        · rw [hfst h0]; rfl
        · have : (q != 0) = true := by simpa using h0
          rw [this, Bool.true_and]
      clear hfst
      cases hl : isLt c
      · rw [hl, Bool.false_or] at hwg
        rw [hl] at HLt
        cases hd : isDg c
        · rw [hd] at hwg HDg
          have HE := Lib.hid (hSt hwg)
          clear hwg hGo hFu hSt hl hd
          go_wp2_with fail
          refine (HF.out _).mono ?_
          rintro e w1 ⟨rfl, b1⟩
          have hBe1 := Lib.hid (hBe.trans (b1.mono hBe.size))
          clear b1
          go_wp2_with fail
          refine (HLt.out _).mono ?_
          rintro e w2 ⟨rfl, rfl⟩
          go_wp2_with fail
          refine (HDg.out _).mono ?_
          rintro e w2 ⟨rfl, rfl⟩
          go_wp2_with fail
          go_ret2
          rw [HPE.out]
          exact word_end HE.out hBe1.out
        · rw [hd] at hwg HDg
          clear hl hd
          by_cases h24 : 24 < q + d
          · have g24 : decide ((24 : Int) < (p : Int) + (d : Int) - (a : Int)) = true := by have := HPE.out; simp; omega
            have HE := Lib.hid (hFu hwg h24)
            clear hwg hGo hFu hSt h24
            go_wp2_with fail
            refine (HF.out _).mono ?_
            rintro e w1 ⟨rfl, b1⟩
            have hBe1 := Lib.hid (hBe.trans (b1.mono hBe.size))
            clear b1
            go_wp2_with fail
            refine (HLt.out _).mono ?_
            rintro e w2 ⟨rfl, rfl⟩
            go_wp2_with fail
            refine (HDg.out _).mono ?_
            rintro e w2 ⟨rfl, rfl⟩
            go_wp2_with fail
            go_ret2
            rw [HPE.out]
            exact word_end HE.out hBe1.out
          · have g24 : decide ((24 : Int) < (p : Int) + (d : Int) - (a : Int)) = false := by have := HPE.out; simp; omega
            have HE := Lib.hid (hGo hwg h24)
            clear hwg hGo hFu hSt h24
            go_wp2_with fail
            refine (HF.out _).mono ?_
            rintro e w1 ⟨rfl, b1⟩
            have hBe1 := Lib.hid (hBe.trans (b1.mono hBe.size))
            clear b1
            go_wp2_with fail
            refine (HLt.out _).mono ?_
            rintro e w2 ⟨rfl, rfl⟩
            go_wp2_with fail
            refine (HDg.out _).mono ?_
            rintro e w2 ⟨rfl, rfl⟩
            go_wp2_with fail
            go_roundw
            case rel => exact ⟨q + d, by rw [HPE.out]; go_num, by have := HPE.out; omega, HE.out, hBe1.out⟩
            case measure => simp [intOf]; omega
      · rw [hl, Bool.true_or] at hwg
        rw [hl] at HLt
        clear hl
        by_cases h24 : 24 < q + d
        · have g24 : decide ((24 : Int) < (p : Int) + (d : Int) - (a : Int)) = true := by have := HPE.out; simp; omega
          have HE := Lib.hid (hFu hwg h24)
          clear hwg hGo hFu hSt h24
          go_wp2_with fail
          refine (HF.out _).mono ?_
          rintro e w1 ⟨rfl, b1⟩
          have hBe1 := Lib.hid (hBe.trans (b1.mono hBe.size))
          clear b1
          go_wp2_with fail
          refine (HLt.out _).mono ?_
          rintro e w2 ⟨rfl, rfl⟩
          go_wp2_with fail
          go_ret2
          rw [HPE.out]
          exact word_end HE.out hBe1.out
        · have g24 : decide ((24 : Int) < (p : Int) + (d : Int) - (a : Int)) = false := by have := HPE.out; simp; omega
          have HE := Lib.hid (hGo hwg h24)
          clear hwg hGo hFu hSt h24
          go_wp2_with fail
          refine (HF.out _).mono ?_
          rintro e w1 ⟨rfl, b1⟩
          have hBe1 := Lib.hid (hBe.trans (b1.mono hBe.size))
          clear b1
          go_wp2_with fail
          refine (HLt.out _).mono ?_
          rintro e w2 ⟨rfl, rfl⟩
          go_wp2_with fail
          go_roundw
          case rel => exact ⟨q + d, by rw [HPE.out]; go_num, by have := HPE.out; omega, HE.out, hBe1.out⟩
          case measure => simp [intOf]; omega
    · have he : s.data.toList.drop p = [] := drop_end hlt
      have hfi := hI.out.fin (by rw [drop_add, ← HPE.out]; exact he)
      have HE := Lib.hid hfi
      clear hfi he hI
      go_wp2_with fail
      go_ret2
      rw [HPE.out]
      exact word_end HE.out hBe
end Go.Proofs.Ythccgpjbchlocaa
