/- Layer lex: plain facts on two texts with a line feed between; no program. -/
import Derived.Test.YthccgpjbchlocaaDoorLx
namespace Go.Proofs.YthccgpjbchlocaaDoor

/-- The line feed, as a rune. -/
abbrev LF : It := (10, [10])
theorem gapI_join : ∀ (A B : List It) (rem : Bool), gapI rem (A ++ LF :: B) = ((gapI rem A).1, (gapI rem A).2.1, (gapI rem A).2.2 ++ LF :: B)
  | [], B, rem => by
    rw [List.nil_append, gapI_no (by unfold gapGo isBl; cases rem <;> simp), gapI_nil]
    cases rem <;> rfl
  | (c, bs) :: A, B, rem => by
    rw [List.cons_append]
    cases h : gapGo rem c
    · rw [gapI_no h, gapI_no h]; rfl
    · rw [gapI_go h, gapI_go h, gapI_join A B _]
theorem wordI_join : ∀ (A B : List It) (u : Nat), wordI u (A ++ LF :: B) = ((wordI u A).1, (wordI u A).2.1, (wordI u A).2.2 ++ LF :: B)
  | [], B, u => by
    rw [List.nil_append, wordI_no (by unfold wordGo isLt isDg; cases u <;> simp), wordI]
    rfl
  | (c, bs) :: A, B, u => by
    rw [List.cons_append]
    cases h : wordGo u c
    · rw [wordI_no h, wordI_no h]; rfl
    · by_cases h24 : 24 < u + bs.length
      · rw [wordI_full h h24, wordI_full h h24]; rfl
      · rw [wordI_go h h24, wordI_go h h24, wordI_join A B _]
theorem takeWhile_join (p : It → Bool) (y : It) (hy : p y = false) (B : List It) : ∀ A : List It, (A ++ y :: B).takeWhile p = A.takeWhile p ∧ (A ++ y :: B).dropWhile p = A.dropWhile p ++ y :: B
  | [] => by simp [hy]
  | x :: A => by
    have ih := takeWhile_join p y hy B A
    cases h : p x
    · simp [h]
    · simp [h, ih.1, ih.2]
def joinR (B : List It) : Res → Res
  | .err p e => .err p e
  | .stop p => .tok ⟨4, p, [10], false⟩ (p + 1) B
  | .tok t q R => .tok t q (R ++ LF :: B)
theorem startI_join (p : Nat) (gl : Bool) (A B : List It) : startI p gl (A ++ LF :: B) = joinR B (startI p gl A) := by
  cases A with
  | nil =>
    rw [List.nil_append, startI_lf rfl, startI]
    rfl
  | cons x A =>
    rcases x with ⟨c, bs⟩
    have hw := takeWhile_join (fun x => isDg x.1) LF rfl B ((c, bs) :: A)
    rw [List.cons_append] at hw ⊢
    by_cases c1 : c = 10
    · rw [startI_lf c1, startI_lf c1]; rfl
    by_cases c2 : c = 46 ∨ c = 45
    · rw [startI_sg c1 c2, startI_sg c1 c2]; rfl
    by_cases c3 : isDg c = true
    · rw [startI_nm c1 c2 c3, startI_nm c1 c2 c3]
      unfold digI
      rw [hw.1, hw.2]
      split
      · rfl
      split
      · rfl
      · rfl
    · rw [startI_wd c1 c2 c3, startI_wd c1 c2 c3, ← List.cons_append, wordI_join]
      obtain ⟨T, h1, h2, _⟩ := wordI_split ((c, bs) :: A) 0
      have hle : (wordI 0 ((c, bs) :: A)).1 ≤ (bytesI ((c, bs) :: A)).length := by
        rw [h2]
        have := congrArg bytesI h1
        rw [bytesI_append] at this
        rw [this, List.length_append]
        omega
      rw [bytesI_append, List.take_append_of_le_length hle]
      simp only
      split
      · rfl
      · rfl
theorem nextI_join (p : Nat) (touch : Bool) (A B : List It) : nextI p touch (A ++ LF :: B) = joinR B (nextI p touch A) := by
  unfold nextI
  rw [gapI_join]
  simp only
  split
  · rfl
  · exact startI_join _ _ _ _

theorem allI_join (B : List It) (hB : ∀ x ∈ B, wf1 x) : ∀ (f g : Nat) (p : Nat) (touch : Bool) (A : List It), (∀ x ∈ A, wf1 x) → A.length < g → A.length + B.length + 1 < f →
    allI f p touch (A ++ LF :: B) =
      if (allI g p touch A).2.2 = 0 then
        (if (allI (B.length + 1) ((allI g p touch A).2.1 + 1) false B).2.2 = 0 then
          ((allI g p touch A).1 ++ ⟨4, (allI g p touch A).2.1, [10], false⟩ :: (allI (B.length + 1) ((allI g p touch A).2.1 + 1) false B).1, (allI (B.length + 1) ((allI g p touch A).2.1 + 1) false B).2)
        else ([], (allI (B.length + 1) ((allI g p touch A).2.1 + 1) false B).2))
      else ([], (allI g p touch A).2)
  | 0, _, _, _, _, _, _, h => by omega
  | _ + 1, 0, _, _, _, _, h, _ => by omega
  | f + 1, g + 1, p, touch, A, hw, hg, hf => by
    rw [allI, allI, nextI_join]
    cases h : nextI p touch A with
    | err q e =>
      have := nextI_err h
      have he : ¬ e = 0 := by omega
      simp [joinR, he]
    | stop q =>
      have e := allI_fuel f (B.length + 1) (q + 1) false B hB (by omega) (by omega)
      simp only [joinR, bne_self_eq_false, e, List.nil_append, if_true]
    | tok t q R =>
      have hl := tok_less hw h
      have ih := allI_join B hB f g q (t.k != 4) R (tok_wf hw h) (by omega) (by omega)
      simp only [joinR, ih]
      by_cases h1 : (allI g q (t.k != 4) R).2.2 = 0
      · simp only [h1, if_true]
        by_cases h2 : (allI (B.length + 1) ((allI g q (t.k != 4) R).2.1 + 1) false B).2.2 = 0
        · simp only [h2, if_true, List.cons_append]
        · simp only [h2, if_false]
      · simp only [h1, if_false]

def shiftT (k : Nat) (t : Tk) : Tk := ⟨t.k, t.a + k, t.tx, t.gl⟩
def shiftR (k : Nat) : Res → Res
  | .err p e => .err (p + k) e
  | .stop p => .stop (p + k)
  | .tok t q R => .tok (shiftT k t) (q + k) R
theorem startI_shift (p k : Nat) (gl : Bool) (A : List It) : startI (p + k) gl A = shiftR k (startI p gl A) := by
  cases A with
  | nil => rfl
  | cons x A =>
    rcases x with ⟨c, bs⟩
    by_cases c1 : c = 10
    · rw [startI_lf c1, startI_lf c1]; simp [shiftR, shiftT]; omega
    by_cases c2 : c = 46 ∨ c = 45
    · rw [startI_sg c1 c2, startI_sg c1 c2]; simp [shiftR, shiftT]; omega
    by_cases c3 : isDg c = true
    · rw [startI_nm c1 c2 c3, startI_nm c1 c2 c3]
      split
      · simp [shiftR]; omega
      split
      · simp [shiftR, shiftT]; omega
      · simp [shiftR]
    · rw [startI_wd c1 c2 c3, startI_wd c1 c2 c3]
      split
      · simp [shiftR]; omega
      · simp [shiftR, shiftT]; omega
theorem nextI_shift (p k : Nat) (touch : Bool) (A : List It) : nextI (p + k) touch A = shiftR k (nextI p touch A) := by
  unfold nextI
  split
  · simp [shiftR]; omega
  · rw [← startI_shift]
    congr 1
    omega
theorem allI_shift (k : Nat) : ∀ (f p : Nat) (touch : Bool) (A : List It), allI f (p + k) touch A = ((allI f p touch A).1.map (shiftT k), (allI f p touch A).2.1 + k, (allI f p touch A).2.2)
  | 0, _, _, _ => rfl
  | f + 1, p, touch, A => by
    rw [allI, allI, nextI_shift]
    cases h : nextI p touch A with
    | err q e => rfl
    | stop q => rfl
    | tok t q R =>
      simp only [shiftR]
      have : (shiftT k t).k = t.k := rfl
      simp only [this, allI_shift k f q (t.k != 4) R]
      split
      · rfl
      · rfl

theorem resOf_place (n : Nat) : ∀ xs : List Ans, (resOf n xs).2.2 = 0 → (resOf n xs).2.1 = n
  | [], _ => rfl
  | x :: xs, h => by
    rw [resOf] at h ⊢
    by_cases hx : x.e ≠ 0
    · rw [if_pos hx] at h; exact absurd h hx
    · rw [if_neg hx] at h ⊢
      split at h
      · rename_i h0
        rw [if_pos h0]
        exact resOf_place n xs h0
      · rename_i h0
        exact absurd h h0
theorem all_place {l : List UInt8} (h : (allL l).2.2 = 0) : (allL l).2.1 = l.length := by
  rw [allL_seq] at h ⊢
  exact resOf_place _ _ h
theorem resOf_none (n : Nat) : ∀ xs : List Ans, (resOf n xs).2.2 ≠ 0 → (resOf n xs).1 = []
  | [], h => absurd rfl h
  | x :: xs, h => by
    rw [resOf] at h ⊢
    by_cases hx : x.e ≠ 0
    · rw [if_pos hx]
    · rw [if_neg hx] at h ⊢
      split at h
      · rename_i h0
        exact absurd h0 h
      · rename_i h0
        rw [if_neg h0]
theorem all_none {l : List UInt8} (h : (allL l).2.2 ≠ 0) : (allL l).1 = [] := by
  rw [allL_seq] at h ⊢
  exact resOf_none _ _ h

/-- The tokens of two texts with a line feed between. -/
theorem all_join (a b : List UInt8) : allL (a ++ 10 :: b) =
    if (allL a).2.2 = 0 then
      (if (allL b).2.2 = 0 then ((allL a).1 ++ ⟨4, a.length, [10], false⟩ :: (allL b).1.map (shiftT (a.length + 1)), a.length + 1 + b.length, 0)
      else ([], a.length + 1 + (allL b).2.1, (allL b).2.2))
    else ([], (allL a).2) := by
  have hi : items (a ++ 10 :: b) = items a ++ LF :: items b := by
    rw [items_ascii (by decide), items_low (by decide)]
    rfl
  have la := items_len a
  have lb := items_len b
  have hj := allI_join (items b) (items_wf b) ((a ++ 10 :: b).length + 1) (a.length + 1) 0 false (items a) (items_wf a) (by omega) (by rw [List.length_append, List.length_cons]; omega)
  show allI ((a ++ 10 :: b).length + 1) 0 false (items (a ++ 10 :: b)) = _
  rw [hi, hj]
  have hA : allI (a.length + 1) 0 false (items a) = allL a := rfl
  have hBs : ∀ p, allI ((items b).length + 1) p false (items b) = ((allL b).1.map (shiftT p), (allL b).2.1 + p, (allL b).2.2) := fun p => by
    rw [allI_fuel ((items b).length + 1) (b.length + 1) p false (items b) (items_wf b) (by omega) (by omega)]
    have := allI_shift p (b.length + 1) 0 false (items b)
    rw [Nat.zero_add] at this
    exact this
  rw [hA]
  simp only [hBs]
  by_cases h0 : (allL a).2.2 = 0
  · rw [if_pos h0, if_pos h0, all_place h0]
    by_cases h1 : (allL b).2.2 = 0
    · rw [if_pos h1, if_pos h1, all_place h1, h1, Nat.add_comm b.length]
    · rw [if_neg h1, if_neg h1, Nat.add_comm (allL b).2.1]
  · rw [if_neg h0, if_neg h0]
/-- Each token stands within the text. -/
theorem allI_at : ∀ (f p : Nat) (touch : Bool) (I : List It), (∀ x ∈ I, wf1 x) → ∀ t ∈ (allI f p touch I).1, t.a ≤ p + (bytesI I).length
  | 0, _, _, _, _, t, h => by rw [allI] at h; cases h
  | f + 1, p, touch, I, hw, t, h => by
    rw [allI] at h
    cases hn : nextI p touch I with
    | err q e => rw [hn] at h; cases h
    | stop q => rw [hn] at h; cases h
    | tok u q R =>
      rw [hn] at h
      simp only at h
      obtain ⟨G, T, h1, h2, h3, h4, h5, _⟩ := nextI_split hw hn
      have hb := congrArg (fun x => (bytesI x).length) h1
      simp only [bytesI_append, List.length_append] at hb
      rw [h3] at h4
      split at h
      · rcases List.mem_cons.1 h with rfl | h
        · omega
        · have := allI_at f q (u.k != 4) R (tok_wf hw hn) t h
          omega
      · cases h
theorem all_at {l : List UInt8} : ∀ t ∈ (allL l).1, t.a ≤ l.length := fun t h => by
  have := allI_at _ _ _ _ (items_wf l) t h
  rw [items_bytes] at this
  omega
end Go.Proofs.YthccgpjbchlocaaDoor
