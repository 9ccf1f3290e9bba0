/- Layer digit: plain facts on numbers and their texts; no program. -/
import Derived.Test.YthccgpjbchlocaaDs
namespace Go.Proofs.Ythccgpjbchlocaa
open Go.Lib

/-- The byte of a digit. -/
def chD (d : Nat) : UInt8 := UInt8.ofNat (48 + d)
theorem head_app {l m : List UInt8} (h : l ≠ []) : (l ++ m).head? = l.head? := by cases l with | nil => exact absurd rfl h | cons => rfl
theorem dec_lt {u : Nat} (h : u < 10) : decDigits u = [chD u] := by rw [decDigits, dif_pos h]; rfl
theorem dec_ge {u : Nat} (h : 10 ≤ u) : decDigits u = decDigits (u / 10) ++ [chD (u % 10)] := by rw [decDigits, dif_neg (by omega)]; rfl
theorem ofNat_toNat {d : Nat} (h : d < 10) : (chD d).toNat = 48 + d := by
  unfold chD
  rw [UInt8.toNat_ofNat']
  omega
theorem isD_ofNat {d : Nat} (h : d < 10) : isD (chD d) = true := by
  rw [isD_iff, ofNat_toNat h]; omega

theorem dec_facts : ∀ (n u : Nat), u < n → (decDigits u).all isD = true ∧ decDigits u ≠ [] ∧ dval (decDigits u) = u ∧ ((decDigits u).head? = some 48 → u = 0) := by
  intro n
  induction n with
  | zero => intro u h; omega
  | succ n ih =>
    intro u hu
    by_cases h : u < 10
    · rw [dec_lt h]
      refine ⟨by simp [isD_ofNat h], by simp, ?_, fun hh => ?_⟩
      · show 10 * 0 + ((chD u).toNat - 48) = u
        rw [ofNat_toNat h]; omega
      · simp only [List.head?_cons, Option.some.injEq] at hh
        have := congrArg UInt8.toNat hh
        rw [ofNat_toNat h] at this
        have e : (48 : UInt8).toNat = 48 := rfl
        omega
    · obtain ⟨h1, h2, h3, h4⟩ := ih (u / 10) (by omega)
      have hm : u % 10 < 10 := by omega
      rw [dec_ge (by omega)]
      refine ⟨by rw [List.all_append, h1]; simp [isD_ofNat hm], by simp, ?_, fun hh => ?_⟩
      · rw [dval_snoc, h3, ofNat_toNat hm]; omega
      · rw [head_app h2] at hh
        have := h4 hh
        omega
theorem dec_all (u : Nat) : (decDigits u).all isD = true := (dec_facts (u + 1) u (by omega)).1
theorem dec_ne (u : Nat) : decDigits u ≠ [] := (dec_facts (u + 1) u (by omega)).2.1
theorem dec_val (u : Nat) : dval (decDigits u) = u := (dec_facts (u + 1) u (by omega)).2.2.1
theorem dec_head {u : Nat} (h : (decDigits u).head? = some 48) : u = 0 := (dec_facts (u + 1) u (by omega)).2.2.2 h

/-- Digits without a nought ahead are the text of the number that they come to. -/
theorem dec_back : ∀ (n : Nat) (l : List UInt8), l.length ≤ n → l ≠ [] → l.all isD = true → (l.head? = some 48 → l.length = 1) → decDigits (dval l) = l ∧ (l.head? ≠ some 48 → 1 ≤ dval l) := by
  intro n
  induction n with
  | zero => intro l h hne; cases l <;> simp at *
  | succ n ih =>
    intro l hl hne ha hz
    obtain ⟨m, c, rfl⟩ : ∃ m c, l = m ++ [c] := ⟨l.dropLast, l.getLast hne, (List.dropLast_concat_getLast hne).symm⟩
    rw [List.all_append] at ha
    simp at ha
    have hc := (isD_iff c).1 ha.2
    rw [dval_snoc]
    by_cases hm : m = []
    · subst hm
      have e0 : dval [] = 0 := rfl
      rw [e0]
      have hd : c.toNat - 48 < 10 := by omega
      refine ⟨?_, fun h => ?_⟩
      · rw [dec_lt (by omega)]
        simp only [List.nil_append, Nat.mul_zero, Nat.zero_add, List.cons.injEq, and_true]
        apply UInt8.toNat.inj
        rw [ofNat_toNat hd]
        omega
      · simp at h
        have : c.toNat ≠ 48 := fun e => h (UInt8.toNat.inj e)
        omega
    · have hlen : 1 ≤ m.length := by cases m with | nil => exact absurd rfl hm | cons => simp
      rw [head_app hm] at hz ⊢
      have hno : m.head? ≠ some 48 := fun e => by have := hz e; rw [List.length_append, List.length_singleton] at this; omega
      simp at hl
      obtain ⟨h1, h2⟩ := ih m (by omega) hm (by simpa using ha.1) (fun e => absurd e hno)
      have h3 := h2 hno
      refine ⟨?_, fun _ => by omega⟩
      have hd : c.toNat - 48 < 10 := by omega
      rw [dec_ge (by omega), show (10 * dval m + (c.toNat - 48)) / 10 = dval m by omega, h1, show (10 * dval m + (c.toNat - 48)) % 10 = c.toNat - 48 by omega]
      congr 2
      apply UInt8.toNat.inj
      rw [ofNat_toNat hd]
      omega

theorem dec_len : ∀ (k u : Nat), u < 10 ^ (k + 1) → (decDigits u).length ≤ k + 1 := by
  intro k
  induction k with
  | zero => intro u h; rw [dec_lt (by simpa using h)]; simp
  | succ k ih =>
    intro u h
    by_cases hu : u < 10
    · rw [dec_lt hu]; simp
    · rw [Nat.pow_succ] at h
      have := ih (u / 10) (by omega)
      rw [dec_ge (by omega), List.length_append]
      simp
      omega

theorem looksL_dec {u : Nat} {below : Bool} (h : below = true → u ≠ 0) : looksL (decDigits u) below = true := by
  unfold looksL
  rw [dec_all]
  have hl : leadL (decDigits u) below = false := by
    unfold leadL
    by_cases h48 : (decDigits u).head? = some 48
    · have h0 := dec_head h48
      subst h0
      have : below = false := by cases below; rfl; exact absurd rfl (h rfl)
      subst this
      rw [dec_lt (by omega)]
      rfl
    · simp [h48]
  rw [hl]
  cases hd : decDigits u with
  | nil => exact absurd hd (dec_ne u)
  | cons => rfl

/-- What looks like a number and is told is the text of what is told. -/
theorem looksL_back {l : List UInt8} {below : Bool} (h : looksL l below = true) : decDigits (dval l) = l ∧ (below = true → 1 ≤ dval l) := by
  unfold looksL at h
  simp only [Bool.and_eq_true, Bool.not_eq_true', List.isEmpty_eq_false_iff] at h
  obtain ⟨hne, ha, hl⟩ := h
  have hz : l.head? = some 48 → below = false ∧ l.length ≤ 1 := fun e => by
    unfold leadL at hl
    simp [e] at hl
    exact hl
  have hlen : 1 ≤ l.length := by cases l with | nil => exact absurd rfl hne | cons => simp
  obtain ⟨h1, h2⟩ := dec_back l.length l (Nat.le_refl _) hne ha (fun e => by have := (hz e).2; omega)
  exact ⟨h1, fun hb => h2 fun e => by have := (hz e).1; rw [hb] at this; cases this⟩

theorem runL_append {l m : List UInt8} {c : UInt8} (h : l.all isD = true) (hc : isD c = false) : runL (l ++ c :: m) = l.length := by
  induction l with
  | nil => simp [runL, hc]
  | cons x l ih =>
    simp at h
    have := ih (by simpa using h.2)
    unfold runL at this ⊢
    simp [h.1, this]
end Go.Proofs.Ythccgpjbchlocaa
