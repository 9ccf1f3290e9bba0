/- LevelBack: the walk. -/
import Derived.Test.YtndekdkljimjaaaDoorVo
namespace Go.Proofs.YtndekdkljimjaaaDoor
open Go.RowKit Go.Shelf

theorem read_back (n : Int) (h : levB n = true) (w : World) (hT : Tabs w) : Calls Tryd.prog 15 #[.string (levT n)] w fun e w' => e = .returned (.tuple #[.int .i64 n, .int .i64 0]) ∧ w = w' := by
  have h1 := read_any (levT n) w hT
  have h2 := levB_iff.1 h
  have h3 : readI (levT n) = n.toNat := readI_at ⟨by omega, by omega⟩ (levT_ok h).symm
  unfold ReadIs readE at h1
  rw [h3, if_neg (by omega), Int.toNat_of_nonneg (by omega)] at h1
  exact h1
theorem guar_back (n : Int) (h : guB n = true) (w : World) (hT : Tabs w) : Calls Tryd.prog 16 #[.string (wordsT n)] w fun e w' => e = .returned (.tuple #[.int .i64 n, .int .i64 0]) ∧ Below w.heap.size w w' := by
  have h1 := guar_any (wordsT n) w hT
  have h2 := guB_iff.1 h
  have h3 : guarO (wordsT n) = some n.toNat := guarO_at (by omega) (wordsT_ok h).symm
  unfold GuarIs guarI guarE at h1
  rw [h3] at h1
  have h4 : ((n.toNat : Nat) : Int) = n := Int.toNat_of_nonneg (by omega)
  simp only [h4] at h1
  exact h1
theorem text_back (s : ByteArray) (h : readI s ≠ 0) (w : World) (hT : Tabs w) : Calls Tryd.prog 9 #[.int .i64 (readI s : Int)] w fun e w' => e = .returned (.tuple #[.string s, .int .i64 0]) ∧ w = w' := by
  have h1 := text_any (readI s : Int) w hT
  have h2 := readI_le s
  have h3 : levB (readI s : Int) = true := levB_iff.2 (by omega)
  rw [levT_ok h3, levE_ok h3, Int.toNat_natCast, readI_is h] at h1
  exact h1
theorem words_back (s : ByteArray) (g : Nat) (h : guarO s = some g) (w : World) (hT : Tabs w) : Calls Tryd.prog 13 #[.int .i64 (g : Int)] w fun e w' => e = .returned (.tuple #[.string s, .int .i64 0]) ∧ Below w.heap.size w w' := by
  obtain ⟨h1, h2⟩ := guarO_is h
  have := words_nat g h1 w hT
  rwa [h2] at this
theorem guar_ok (s : ByteArray) (g : Nat) (h : guarO s = some g) (w : World) (hT : Tabs w) : Calls Tryd.prog 16 #[.string s] w fun e w' => e = .returned (.tuple #[.int .i64 (g : Int), .int .i64 0]) ∧ Below w.heap.size w w' := by
  have h1 := guar_any s w hT
  unfold GuarIs guarI guarE at h1
  rw [h] at h1
  exact h1
theorem guar_no (s : ByteArray) (h : guarO s = none) (w : World) (hT : Tabs w) : Calls Tryd.prog 16 #[.string s] w fun e w' => e = .returned (.tuple #[.int .i64 0, .int .i64 190]) ∧ Below w.heap.size w w' := by
  have h1 := guar_any s w hT
  unfold GuarIs guarI guarE at h1
  rw [h] at h1
  exact h1
theorem read_ok (s : ByteArray) (h : readI s ≠ 0) (w : World) (hT : Tabs w) : Calls Tryd.prog 15 #[.string s] w fun e w' => e = .returned (.tuple #[.int .i64 (readI s : Int), .int .i64 0]) ∧ w = w' := by
  have h1 := read_any s w hT
  unfold ReadIs readE at h1
  rw [if_neg h] at h1
  exact h1
theorem read_no (s : ByteArray) (h : readI s = 0) (w : World) (hT : Tabs w) : Calls Tryd.prog 15 #[.string s] w fun e w' => e = .returned (.tuple #[.int .i64 0, .int .i64 190]) ∧ w = w' := by
  have h1 := read_any s w hT
  unfold ReadIs readE at h1
  rw [h, if_pos rfl] at h1
  exact h1

set_option maxRecDepth 100000 in
set_option maxHeartbeats 8000000 in
theorem back_core (n : Int) (s : ByteArray) (w : World) (hT : Tabs w) : Calls Tryd.prog 5 #[.int .i64 n, .string s] w fun e w' => e = .returned (.bool true) ∧ Below w.heap.size w w' := by
  have HT := Lib.hid hT
  have HW := Lib.hid (wakes9_any w hT)
  clear hT
  go_enter Tryd.func5, Tryd.ntmps5
  go_wp2_with fail
  refine HW.out.mono ?_
  rintro e w1 ⟨rfl, b1⟩
  have HB1 := Lib.hid b1
  clear b1 HW
  cases h : levB n
  · have he := levE_no h
    have H0 := Lib.hid fun w hT => text_any n w hT
    rw [he] at H0
    clear h he
    go_wp2_with fail
    refine (H0.out w1 (HT.out.on HB1.out (Nat.le_refl _))).mono ?_
    rintro e w9 ⟨rfl, rfl⟩
    clear H0
    cases h : guB n
    · have he := wordsE_no h
      have H0 := Lib.hid fun w hT => words_any n w hT
      unfold WordsIs at H0
      rw [he] at H0
      clear h he
      go_wp2_with fail
      refine (H0.out w1 (HT.out.on HB1.out (Nat.le_refl _))).mono ?_
      rintro e w2 ⟨rfl, b⟩
      have HB2 := Lib.hid (HB1.out.trans (b.mono HB1.out.size))
      clear b HB1
      clear H0
      by_cases h : readI s = 0
      · have H0 := Lib.hid fun w hT => read_no s h w hT
        clear h
        go_wp2_with fail
        refine (H0.out w2 (HT.out.on HB2.out (Nat.le_refl _))).mono ?_
        rintro e w9 ⟨rfl, rfl⟩
        clear H0
        cases h : guarO s with
        | none =>
          have H0 := Lib.hid fun w hT => guar_no s h w hT
          clear h
          go_wp2_with fail
          refine (H0.out w2 (HT.out.on HB2.out (Nat.le_refl _))).mono ?_
          rintro e w3 ⟨rfl, b⟩
          have HB3 := Lib.hid (HB2.out.trans (b.mono HB2.out.size))
          clear b HB2
          clear H0
          go_wp2_with fail
          go_ret
          exact ⟨rfl, HB3.out⟩
        | some g =>
          have H0 := Lib.hid fun w hT => guar_ok s g h w hT
          have h1 := Lib.hid fun w hT => words_back s g h w hT
          clear h
          go_wp2_with fail
          refine (H0.out w2 (HT.out.on HB2.out (Nat.le_refl _))).mono ?_
          rintro e w3 ⟨rfl, b⟩
          have HB3 := Lib.hid (HB2.out.trans (b.mono HB2.out.size))
          clear b HB2
          go_wp2_with fail
          refine (h1.out w3 (HT.out.on HB3.out (Nat.le_refl _))).mono ?_
          rintro e w4 ⟨rfl, b⟩
          have HB4 := Lib.hid (HB3.out.trans (b.mono HB3.out.size))
          clear b HB3
          clear H0 h1
          go_wp2_with fail
          go_ret
          exact ⟨rfl, HB4.out⟩
      · have H0 := Lib.hid fun w hT => read_ok s h w hT
        have h1 := Lib.hid fun w hT => text_back s h w hT
        clear h
        generalize readI s = v at *
        go_wp2_with fail
        refine (H0.out w2 (HT.out.on HB2.out (Nat.le_refl _))).mono ?_
        rintro e w9 ⟨rfl, rfl⟩
        go_wp2_with fail
        refine (h1.out w2 (HT.out.on HB2.out (Nat.le_refl _))).mono ?_
        rintro e w9 ⟨rfl, rfl⟩
        clear H0 h1
        cases h : guarO s with
        | none =>
          have H0 := Lib.hid fun w hT => guar_no s h w hT
          clear h
          go_wp2_with fail
          refine (H0.out w2 (HT.out.on HB2.out (Nat.le_refl _))).mono ?_
          rintro e w3 ⟨rfl, b⟩
          have HB3 := Lib.hid (HB2.out.trans (b.mono HB2.out.size))
          clear b HB2
          clear H0
          go_wp2_with fail
          go_ret
          exact ⟨rfl, HB3.out⟩
        | some g =>
          have H0 := Lib.hid fun w hT => guar_ok s g h w hT
          have h1 := Lib.hid fun w hT => words_back s g h w hT
          clear h
          go_wp2_with fail
          refine (H0.out w2 (HT.out.on HB2.out (Nat.le_refl _))).mono ?_
          rintro e w3 ⟨rfl, b⟩
          have HB3 := Lib.hid (HB2.out.trans (b.mono HB2.out.size))
          clear b HB2
          go_wp2_with fail
          refine (h1.out w3 (HT.out.on HB3.out (Nat.le_refl _))).mono ?_
          rintro e w4 ⟨rfl, b⟩
          have HB4 := Lib.hid (HB3.out.trans (b.mono HB3.out.size))
          clear b HB3
          clear H0 h1
          go_wp2_with fail
          go_ret
          exact ⟨rfl, HB4.out⟩
    · have he := wordsE_ok h
      have H0 := Lib.hid fun w hT => words_any n w hT
      unfold WordsIs at H0
      rw [he] at H0
      have h1 := Lib.hid fun w hT => guar_back n h w hT
      clear h he
      generalize wordsT n = t at *
      go_wp2_with fail
      refine (H0.out w1 (HT.out.on HB1.out (Nat.le_refl _))).mono ?_
      rintro e w2 ⟨rfl, b⟩
      have HB2 := Lib.hid (HB1.out.trans (b.mono HB1.out.size))
      clear b HB1
      go_wp2_with fail
      refine (h1.out w2 (HT.out.on HB2.out (Nat.le_refl _))).mono ?_
      rintro e w3 ⟨rfl, b⟩
      have HB3 := Lib.hid (HB2.out.trans (b.mono HB2.out.size))
      clear b HB2
      clear H0 h1
      by_cases h : readI s = 0
      · have H0 := Lib.hid fun w hT => read_no s h w hT
        clear h
        go_wp2_with fail
        refine (H0.out w3 (HT.out.on HB3.out (Nat.le_refl _))).mono ?_
        rintro e w9 ⟨rfl, rfl⟩
        clear H0
        cases h : guarO s with
        | none =>
          have H0 := Lib.hid fun w hT => guar_no s h w hT
          clear h
          go_wp2_with fail
          refine (H0.out w3 (HT.out.on HB3.out (Nat.le_refl _))).mono ?_
          rintro e w4 ⟨rfl, b⟩
          have HB4 := Lib.hid (HB3.out.trans (b.mono HB3.out.size))
          clear b HB3
          clear H0
          go_wp2_with fail
          go_ret
          exact ⟨rfl, HB4.out⟩
        | some g =>
          have H0 := Lib.hid fun w hT => guar_ok s g h w hT
          have h1 := Lib.hid fun w hT => words_back s g h w hT
          clear h
          go_wp2_with fail
          refine (H0.out w3 (HT.out.on HB3.out (Nat.le_refl _))).mono ?_
          rintro e w4 ⟨rfl, b⟩
          have HB4 := Lib.hid (HB3.out.trans (b.mono HB3.out.size))
          clear b HB3
          go_wp2_with fail
          refine (h1.out w4 (HT.out.on HB4.out (Nat.le_refl _))).mono ?_
          rintro e w5 ⟨rfl, b⟩
          have HB5 := Lib.hid (HB4.out.trans (b.mono HB4.out.size))
          clear b HB4
          clear H0 h1
          go_wp2_with fail
          go_ret
          exact ⟨rfl, HB5.out⟩
      · have H0 := Lib.hid fun w hT => read_ok s h w hT
        have h1 := Lib.hid fun w hT => text_back s h w hT
        clear h
        generalize readI s = v at *
        go_wp2_with fail
        refine (H0.out w3 (HT.out.on HB3.out (Nat.le_refl _))).mono ?_
        rintro e w9 ⟨rfl, rfl⟩
        go_wp2_with fail
        refine (h1.out w3 (HT.out.on HB3.out (Nat.le_refl _))).mono ?_
        rintro e w9 ⟨rfl, rfl⟩
        clear H0 h1
        cases h : guarO s with
        | none =>
          have H0 := Lib.hid fun w hT => guar_no s h w hT
          clear h
          go_wp2_with fail
          refine (H0.out w3 (HT.out.on HB3.out (Nat.le_refl _))).mono ?_
          rintro e w4 ⟨rfl, b⟩
          have HB4 := Lib.hid (HB3.out.trans (b.mono HB3.out.size))
          clear b HB3
          clear H0
          go_wp2_with fail
          go_ret
          exact ⟨rfl, HB4.out⟩
        | some g =>
          have H0 := Lib.hid fun w hT => guar_ok s g h w hT
          have h1 := Lib.hid fun w hT => words_back s g h w hT
          clear h
          go_wp2_with fail
          refine (H0.out w3 (HT.out.on HB3.out (Nat.le_refl _))).mono ?_
          rintro e w4 ⟨rfl, b⟩
          have HB4 := Lib.hid (HB3.out.trans (b.mono HB3.out.size))
          clear b HB3
          go_wp2_with fail
          refine (h1.out w4 (HT.out.on HB4.out (Nat.le_refl _))).mono ?_
          rintro e w5 ⟨rfl, b⟩
          have HB5 := Lib.hid (HB4.out.trans (b.mono HB4.out.size))
          clear b HB4
          clear H0 h1
          go_wp2_with fail
          go_ret
          exact ⟨rfl, HB5.out⟩
  · have he := levE_ok h
    have H0 := Lib.hid fun w hT => text_any n w hT
    rw [he] at H0
    have h1 := Lib.hid fun w hT => read_back n h w hT
    clear h he
    generalize levT n = t at *
    go_wp2_with fail
    refine (H0.out w1 (HT.out.on HB1.out (Nat.le_refl _))).mono ?_
    rintro e w9 ⟨rfl, rfl⟩
    go_wp2_with fail
    refine (h1.out w1 (HT.out.on HB1.out (Nat.le_refl _))).mono ?_
    rintro e w9 ⟨rfl, rfl⟩
    clear H0 h1
    cases h : guB n
    · have he := wordsE_no h
      have H0 := Lib.hid fun w hT => words_any n w hT
      unfold WordsIs at H0
      rw [he] at H0
      clear h he
      go_wp2_with fail
      refine (H0.out w1 (HT.out.on HB1.out (Nat.le_refl _))).mono ?_
      rintro e w2 ⟨rfl, b⟩
      have HB2 := Lib.hid (HB1.out.trans (b.mono HB1.out.size))
      clear b HB1
      clear H0
      by_cases h : readI s = 0
      · have H0 := Lib.hid fun w hT => read_no s h w hT
        clear h
        go_wp2_with fail
        refine (H0.out w2 (HT.out.on HB2.out (Nat.le_refl _))).mono ?_
        rintro e w9 ⟨rfl, rfl⟩
        clear H0
        cases h : guarO s with
        | none =>
          have H0 := Lib.hid fun w hT => guar_no s h w hT
          clear h
          go_wp2_with fail
          refine (H0.out w2 (HT.out.on HB2.out (Nat.le_refl _))).mono ?_
          rintro e w3 ⟨rfl, b⟩
          have HB3 := Lib.hid (HB2.out.trans (b.mono HB2.out.size))
          clear b HB2
          clear H0
          go_wp2_with fail
          go_ret
          exact ⟨rfl, HB3.out⟩
        | some g =>
          have H0 := Lib.hid fun w hT => guar_ok s g h w hT
          have h1 := Lib.hid fun w hT => words_back s g h w hT
          clear h
          go_wp2_with fail
          refine (H0.out w2 (HT.out.on HB2.out (Nat.le_refl _))).mono ?_
          rintro e w3 ⟨rfl, b⟩
          have HB3 := Lib.hid (HB2.out.trans (b.mono HB2.out.size))
          clear b HB2
          go_wp2_with fail
          refine (h1.out w3 (HT.out.on HB3.out (Nat.le_refl _))).mono ?_
          rintro e w4 ⟨rfl, b⟩
          have HB4 := Lib.hid (HB3.out.trans (b.mono HB3.out.size))
          clear b HB3
          clear H0 h1
          go_wp2_with fail
          go_ret
          exact ⟨rfl, HB4.out⟩
      · have H0 := Lib.hid fun w hT => read_ok s h w hT
        have h1 := Lib.hid fun w hT => text_back s h w hT
        clear h
        generalize readI s = v at *
        go_wp2_with fail
        refine (H0.out w2 (HT.out.on HB2.out (Nat.le_refl _))).mono ?_
        rintro e w9 ⟨rfl, rfl⟩
        go_wp2_with fail
        refine (h1.out w2 (HT.out.on HB2.out (Nat.le_refl _))).mono ?_
        rintro e w9 ⟨rfl, rfl⟩
        clear H0 h1
        cases h : guarO s with
        | none =>
          have H0 := Lib.hid fun w hT => guar_no s h w hT
          clear h
          go_wp2_with fail
          refine (H0.out w2 (HT.out.on HB2.out (Nat.le_refl _))).mono ?_
          rintro e w3 ⟨rfl, b⟩
          have HB3 := Lib.hid (HB2.out.trans (b.mono HB2.out.size))
          clear b HB2
          clear H0
          go_wp2_with fail
          go_ret
          exact ⟨rfl, HB3.out⟩
        | some g =>
          have H0 := Lib.hid fun w hT => guar_ok s g h w hT
          have h1 := Lib.hid fun w hT => words_back s g h w hT
          clear h
          go_wp2_with fail
          refine (H0.out w2 (HT.out.on HB2.out (Nat.le_refl _))).mono ?_
          rintro e w3 ⟨rfl, b⟩
          have HB3 := Lib.hid (HB2.out.trans (b.mono HB2.out.size))
          clear b HB2
          go_wp2_with fail
          refine (h1.out w3 (HT.out.on HB3.out (Nat.le_refl _))).mono ?_
          rintro e w4 ⟨rfl, b⟩
          have HB4 := Lib.hid (HB3.out.trans (b.mono HB3.out.size))
          clear b HB3
          clear H0 h1
          go_wp2_with fail
          go_ret
          exact ⟨rfl, HB4.out⟩
    · have he := wordsE_ok h
      have H0 := Lib.hid fun w hT => words_any n w hT
      unfold WordsIs at H0
      rw [he] at H0
      have h1 := Lib.hid fun w hT => guar_back n h w hT
      clear h he
      generalize wordsT n = t at *
      go_wp2_with fail
      refine (H0.out w1 (HT.out.on HB1.out (Nat.le_refl _))).mono ?_
      rintro e w2 ⟨rfl, b⟩
      have HB2 := Lib.hid (HB1.out.trans (b.mono HB1.out.size))
      clear b HB1
      go_wp2_with fail
      refine (h1.out w2 (HT.out.on HB2.out (Nat.le_refl _))).mono ?_
      rintro e w3 ⟨rfl, b⟩
      have HB3 := Lib.hid (HB2.out.trans (b.mono HB2.out.size))
      clear b HB2
      clear H0 h1
      by_cases h : readI s = 0
      · have H0 := Lib.hid fun w hT => read_no s h w hT
        clear h
        go_wp2_with fail
        refine (H0.out w3 (HT.out.on HB3.out (Nat.le_refl _))).mono ?_
        rintro e w9 ⟨rfl, rfl⟩
        clear H0
        cases h : guarO s with
        | none =>
          have H0 := Lib.hid fun w hT => guar_no s h w hT
          clear h
          go_wp2_with fail
          refine (H0.out w3 (HT.out.on HB3.out (Nat.le_refl _))).mono ?_
          rintro e w4 ⟨rfl, b⟩
          have HB4 := Lib.hid (HB3.out.trans (b.mono HB3.out.size))
          clear b HB3
          clear H0
          go_wp2_with fail
          go_ret
          exact ⟨rfl, HB4.out⟩
        | some g =>
          have H0 := Lib.hid fun w hT => guar_ok s g h w hT
          have h1 := Lib.hid fun w hT => words_back s g h w hT
          clear h
          go_wp2_with fail
          refine (H0.out w3 (HT.out.on HB3.out (Nat.le_refl _))).mono ?_
          rintro e w4 ⟨rfl, b⟩
          have HB4 := Lib.hid (HB3.out.trans (b.mono HB3.out.size))
          clear b HB3
          go_wp2_with fail
          refine (h1.out w4 (HT.out.on HB4.out (Nat.le_refl _))).mono ?_
          rintro e w5 ⟨rfl, b⟩
          have HB5 := Lib.hid (HB4.out.trans (b.mono HB4.out.size))
          clear b HB4
          clear H0 h1
          go_wp2_with fail
          go_ret
          exact ⟨rfl, HB5.out⟩
      · have H0 := Lib.hid fun w hT => read_ok s h w hT
        have h1 := Lib.hid fun w hT => text_back s h w hT
        clear h
        generalize readI s = v at *
        go_wp2_with fail
        refine (H0.out w3 (HT.out.on HB3.out (Nat.le_refl _))).mono ?_
        rintro e w9 ⟨rfl, rfl⟩
        go_wp2_with fail
        refine (h1.out w3 (HT.out.on HB3.out (Nat.le_refl _))).mono ?_
        rintro e w9 ⟨rfl, rfl⟩
        clear H0 h1
        cases h : guarO s with
        | none =>
          have H0 := Lib.hid fun w hT => guar_no s h w hT
          clear h
          go_wp2_with fail
          refine (H0.out w3 (HT.out.on HB3.out (Nat.le_refl _))).mono ?_
          rintro e w4 ⟨rfl, b⟩
          have HB4 := Lib.hid (HB3.out.trans (b.mono HB3.out.size))
          clear b HB3
          clear H0
          go_wp2_with fail
          go_ret
          exact ⟨rfl, HB4.out⟩
        | some g =>
          have H0 := Lib.hid fun w hT => guar_ok s g h w hT
          have h1 := Lib.hid fun w hT => words_back s g h w hT
          clear h
          go_wp2_with fail
          refine (H0.out w3 (HT.out.on HB3.out (Nat.le_refl _))).mono ?_
          rintro e w4 ⟨rfl, b⟩
          have HB4 := Lib.hid (HB3.out.trans (b.mono HB3.out.size))
          clear b HB3
          go_wp2_with fail
          refine (h1.out w4 (HT.out.on HB4.out (Nat.le_refl _))).mono ?_
          rintro e w5 ⟨rfl, b⟩
          have HB5 := Lib.hid (HB4.out.trans (b.mono HB4.out.size))
          clear b HB4
          clear H0 h1
          go_wp2_with fail
          go_ret
          exact ⟨rfl, HB5.out⟩
end Go.Proofs.YtndekdkljimjaaaDoor
