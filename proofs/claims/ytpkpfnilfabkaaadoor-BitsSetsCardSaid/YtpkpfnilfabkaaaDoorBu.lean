/- Plain facts on how many numbers sets have: with one more, one less; of two sets. -/
import Derived.Test.YtpkpfnilfabkaaaDoorBa
namespace Go.Proofs.YtpkpfnilfabkaaaDoor

theorem countP_or_and {α : Type} (p q : α → Bool) : ∀ l : List α, l.countP (fun x => p x || q x) + l.countP (fun x => p x && q x) = l.countP p + l.countP q
  | [] => rfl
  | x :: l => by
    have := countP_or_and p q l
    simp only [List.countP_cons]
    cases p x <;> cases q x <;> simp <;> omega
/-- How many numbers a set has. -/
def cN (f : Nat → Bool) : Nat := (numsF f).length
theorem cN_count (f : Nat → Bool) : cN f = (List.range 10048).countP f := by unfold cN numsF; exact (List.countP_eq_length_filter).symm
theorem cN_congr {f g : Nat → Bool} (h : ∀ n, n < 10048 → f n = g n) : cN f = cN g := by unfold cN; rw [nums_congr h]
theorem cN_or_and (f g : Nat → Bool) : cN (fun n => f n || g n) + cN (fun n => f n && g n) = cN f + cN g := by
  rw [cN_count, cN_count, cN_count, cN_count]; exact countP_or_and f g _
theorem cN_none {f : Nat → Bool} (h : ∀ n, n < 10048 → f n = false) : cN f = 0 := by
  rw [cN_count, List.countP_eq_zero]
  intro n hn
  rw [h n (by simpa using hn)]; simp
theorem countP_one : ∀ (N m : Nat), m < N → (List.range N).countP (fun n => decide (n = m)) = 1
  | 0, m, h => absurd h (by omega)
  | N + 1, m, h => by
    rw [List.range_succ, List.countP_append]
    by_cases e : m = N
    · subst e
      have : (List.range m).countP (fun n => decide (n = m)) = 0 := by
        rw [List.countP_eq_zero]
        intro n hn
        have : n < m := by simpa using hn
        simp; omega
      rw [this]; simp
    · rw [countP_one N m (by omega)]
      have : (decide (N = m)) = false := by simpa using fun h => e h.symm
      simp [this]
theorem cN_one {m : Nat} (h : m < 10048) : cN (fun n => decide (n = m)) = 1 := by rw [cN_count]; exact countP_one _ _ h
theorem cN_le (f : Nat → Bool) : cN f ≤ 10048 := nums_len f
theorem cN_with (f : Nat → Bool) {m : Nat} (h : m < 10048) : cN (fun n => f n || decide (n = m)) + (if f m then 1 else 0) = cN f + 1 := by
  have h1 := cN_or_and f (fun n => decide (n = m))
  rw [cN_one h] at h1
  by_cases hf : f m = true
  · rw [if_pos hf]
    have : cN (fun n => f n && decide (n = m)) = 1 := by
      rw [← cN_one h]
      refine cN_congr fun n _ => ?_
      by_cases e : n = m
      · subst e; simp [hf]
      · simp [e]
    omega
  · rw [if_neg hf]
    have : cN (fun n => f n && decide (n = m)) = 0 := cN_none fun n _ => by
      by_cases e : n = m
      · subst e; simp at hf; simp [hf]
      · simp [e]
    omega
theorem cN_without (f : Nat → Bool) {m : Nat} (h : m < 10048) : cN (fun n => f n && !decide (n = m)) + (if f m then 1 else 0) = cN f := by
  have h1 := cN_with (fun n => f n && !decide (n = m)) h
  have e1 : cN (fun n => (f n && !decide (n = m)) || decide (n = m)) = cN (fun n => f n || decide (n = m)) := cN_congr fun n _ => by
    by_cases e : n = m <;> simp [e]
  rw [e1] at h1
  have h2 := cN_with f h
  have e2 : (if (f m && !decide (m = m)) = true then 1 else 0) = 0 := by simp
  rw [e2] at h1
  omega
/-- Three parts of two sets. -/
theorem cN_parts (f g : Nat → Bool) : cN (fun n => f n && !g n) + cN (fun n => f n && g n) + cN (fun n => g n && !f n) = cN (fun n => f n || g n) := by
  have h1 := cN_or_and (fun n => f n && !g n) (fun n => f n && g n)
  have h2 := cN_or_and f (fun n => g n && !f n)
  have e1 : cN (fun n => (f n && !g n) || (f n && g n)) = cN f := cN_congr fun n _ => by cases f n <;> cases g n <;> rfl
  have e2 : cN (fun n => (f n && !g n) && (f n && g n)) = 0 := cN_none fun n _ => by cases f n <;> cases g n <;> rfl
  have e3 : cN (fun n => f n || (g n && !f n)) = cN (fun n => f n || g n) := cN_congr fun n _ => by cases f n <;> cases g n <;> rfl
  have e4 : cN (fun n => f n && (g n && !f n)) = 0 := cN_none fun n _ => by cases f n <;> cases g n <;> rfl
  rw [e1, e2] at h1
  rw [e3, e4] at h2
  omega
end Go.Proofs.YtpkpfnilfabkaaaDoor
