/- Plain facts on the numbers that a row tells, one by one: the lowest bit of a word, what is left behind it, what comes from a number on. -/
import Derived.Lib.TrailingZeros
import Derived.Test.YtgbpaiffnhpafaaDoorM18
-- holds: YtgbpaiffnhpafaaDoorEn
namespace Go.Proofs.YtgbpaiffnhpafaaDoor.Bit

/-- The places of the ones of a word, rising. -/
def onesOf (x : Nat) : List Nat := (List.range 64).filter fun k => x.testBit k
theorem onesOf_zero : onesOf 0 = [] := by
  unfold onesOf
  refine List.filter_eq_nil_iff.2 fun k _ => by simp
theorem filter_first {n k : Nat} {p : Nat → Bool} (hk : k < n) (h1 : p k = true) (h0 : ∀ i, i < k → p i = false) : (List.range n).filter p = k :: (List.range n).filter fun i => p i && decide (k < i) := by
  obtain ⟨d, rfl⟩ : ∃ d, n = k + (d + 1) := ⟨n - k - 1, by omega⟩
  rw [List.range_add, List.filter_append, List.filter_append, List.range_succ_eq_map]
  have e1 : (List.range k).filter p = [] := List.filter_eq_nil_iff.2 fun i hi => by rw [h0 i (by simpa using hi)]; simp
  have e2 : ((List.range k).filter fun i => p i && decide (k < i)) = [] := List.filter_eq_nil_iff.2 fun i hi => by rw [h0 i (by simpa using hi)]; simp
  rw [e1, e2, List.nil_append, List.nil_append, List.map_cons, List.filter_cons, List.filter_cons, Nat.add_zero]
  rw [if_pos h1, if_neg (by simp)]
  congr 1
  refine List.filter_congr fun i hi => ?_
  obtain ⟨j, hj, rfl⟩ := List.mem_map.1 hi
  obtain ⟨j', _, rfl⟩ := List.mem_map.1 hj
  simp
theorem low_test {x k m : Nat} (hx : x = 2 ^ k * (2 * m + 1)) (i : Nat) : (x &&& (x - 1)).testBit i = (x.testBit i && decide (k < i)) ∧ (i < k → x.testBit i = false) ∧ x.testBit k = true := by
  have hp : 0 < 2 ^ k := Nat.two_pow_pos k
  have h1 : x - 1 = 2 ^ k * (2 * m) + (2 ^ k - 1) := by
    rw [hx, Nat.mul_add, Nat.mul_one]; omega
  have h2 : x = 2 ^ k * (2 * m + 1) + 0 := by rw [hx]; rfl
  have tx : ∀ j, x.testBit j = if j < k then false else (2 * m + 1).testBit (j - k) := fun j => by
    rw [h2, Nat.testBit_two_pow_mul_add _ hp]; simp
  have t1 : ∀ j, (x - 1).testBit j = if j < k then (2 ^ k - 1).testBit j else (2 * m).testBit (j - k) := fun j => by
    rw [h1, Nat.testBit_two_pow_mul_add _ (by omega)]
  refine ⟨?_, fun h => by rw [tx, if_pos h], by rw [tx, if_neg (by omega), Nat.sub_self]; simp⟩
  rw [Nat.testBit_and, tx, t1]
  by_cases h : i < k
  · simp [h]
  · rw [if_neg h, if_neg h]
    rcases Nat.lt_or_ge k i with h3 | h3
    · obtain ⟨j, hj⟩ : ∃ j, i - k = j + 1 := ⟨i - k - 1, by omega⟩
      rw [hj, Nat.testBit_succ, Nat.testBit_succ, show (2 * m + 1) / 2 = m by omega, show 2 * m / 2 = m by omega]
      simp [h3]
    · rw [show i - k = 0 by omega]
      simp [show ¬ k < i by omega]
theorem onesOf_low {x : Nat} (h0 : x ≠ 0) (hx : x < 18446744073709551616) : onesOf x = Lib.ctz 64 x :: onesOf (x &&& (x - 1)) := by
  obtain ⟨m, hm, hk⟩ := Lib.ctzFrom_spec 64 x (by omega) hx
  have e : Lib.ctz 64 x = Lib.ctzFrom 64 x := by unfold Lib.ctz; rw [if_neg h0]
  rw [e]
  unfold onesOf
  rw [filter_first (p := fun k => x.testBit k) hk (low_test hm 0).2.2 (fun i hi => (low_test hm i).2.1 hi)]
  congr 1
  exact List.filter_congr fun i _ => (low_test hm i).1.symm
theorem ctz_lt {x : Nat} (h0 : x ≠ 0) (hx : x < 18446744073709551616) : Lib.ctz 64 x < 64 := (Lib.lowest_bit 64 x h0 hx).2
theorem low_less {x : Nat} (h0 : x ≠ 0) : x &&& (x - 1) < x := by
  have : x &&& (x - 1) ≤ x - 1 := Nat.and_le_right
  omega

/-- The numbers of a row from one on. -/
def remS (ws : List Nat) (s : Nat) : List Nat := (List.range (64 * ws.length)).filter fun n => decide (s ≤ n) && hasW ws n
theorem rem_none {ws : List Nat} {s : Nat} (h : ws.length ≤ s / 64) : remS ws s = [] :=
  List.filter_eq_nil_iff.2 fun n hn => by
    have : n < 64 * ws.length := by simpa using hn
    simp; omega
theorem range_three (a d : Nat) : List.range (64 * (a + 1 + d)) = List.range (64 * a) ++ ((List.range 64).map (64 * a + ·) ++ (List.range (64 * d)).map (64 * (a + 1) + ·)) := by
  rw [show 64 * (a + 1 + d) = 64 * a + (64 + 64 * d) by omega, List.range_add, List.range_add, List.map_append, List.map_map]
  congr 2
  refine List.map_congr_left fun i _ => ?_
  simp; omega
theorem rem_word {ws : List Nat} {s : Nat} {y : Nat} (h : s / 64 < ws.length) (hy : ∀ k, k < 64 → y.testBit k = ((ws.getD (s / 64) 0).testBit k && decide (s % 64 ≤ k))) :
    remS ws s = (onesOf y).map (64 * (s / 64) + ·) ++ remS ws (64 * (s / 64 + 1)) := by
  obtain ⟨d, hd⟩ : ∃ d, ws.length = s / 64 + 1 + d := ⟨ws.length - s / 64 - 1, by omega⟩
  unfold remS
  rw [hd, range_three, List.filter_append, List.filter_append, List.filter_append, List.filter_append]
  have e1 : (List.range (64 * (s / 64))).filter (fun n => decide (s ≤ n) && hasW ws n) = [] := List.filter_eq_nil_iff.2 fun n hn => by
    have : n < 64 * (s / 64) := by simpa using hn
    simp; omega
  have e2 : (List.range (64 * (s / 64))).filter (fun n => decide (64 * (s / 64 + 1) ≤ n) && hasW ws n) = [] := List.filter_eq_nil_iff.2 fun n hn => by
    have : n < 64 * (s / 64) := by simpa using hn
    simp; omega
  have e3 : ((List.range 64).map (64 * (s / 64) + ·)).filter (fun n => decide (64 * (s / 64 + 1) ≤ n) && hasW ws n) = [] := List.filter_eq_nil_iff.2 fun n hn => by
    obtain ⟨k, hk, rfl⟩ := List.mem_map.1 hn
    have : k < 64 := by simpa using hk
    simp; omega
  have e4 : ((List.range 64).map (64 * (s / 64) + ·)).filter (fun n => decide (s ≤ n) && hasW ws n) = (onesOf y).map (64 * (s / 64) + ·) := by
    rw [List.filter_map]
    unfold onesOf
    congr 1
    refine List.filter_congr fun k hk => ?_
    have hk : k < 64 := by simpa using hk
    simp only [Function.comp_apply]
    rw [has_mul _ _ _ hk, hy k hk, Bool.and_comm]
    congr 1
    exact decide_eq_decide.2 (by omega)
  have e5 : ((List.range (64 * d)).map (64 * (s / 64 + 1) + ·)).filter (fun n => decide (s ≤ n) && hasW ws n) = ((List.range (64 * d)).map (64 * (s / 64 + 1) + ·)).filter (fun n => decide (64 * (s / 64 + 1) ≤ n) && hasW ws n) :=
    List.filter_congr fun n hn => by
      obtain ⟨k, _, rfl⟩ := List.mem_map.1 hn
      congr 1
      exact decide_eq_decide.2 (by omega)
  rw [e1, e2, e3, e4, e5]
  simp
theorem mask_bit {x a s k : Nat} (ha : a = 2 ^ (s % 64) - 1) (hk : k < 64) : (x &&& (18446744073709551615 - a)).testBit k = (x.testBit k && decide (s % 64 ≤ k)) := by
  have hlt : a < 2 ^ 64 := by
    have : 2 ^ (s % 64) < 2 ^ 64 := Nat.pow_lt_pow_right (by decide) (Nat.mod_lt _ (by decide))
    omega
  have h := Nat.testBit_two_pow_sub_succ hlt k
  rw [show 2 ^ 64 - (a + 1) = 18446744073709551615 - a by omega] at h
  rw [Nat.testBit_and, h, ha, Nat.testBit_two_pow_sub_one, decide_eq_true hk, Bool.true_and, ← decide_not]
  congr 1
  exact decide_eq_decide.2 (by omega)
theorem rem_all (ws : List Nat) : remS ws 0 = (List.range (64 * ws.length)).filter (hasW ws) := by
  unfold remS
  exact List.filter_congr fun n _ => by simp
theorem rem_len (ws : List Nat) (s : Nat) : (remS ws s).length ≤ 64 * ws.length := by
  unfold remS
  exact Nat.le_trans (List.length_filter_le _ _) (by simp)
end Go.Proofs.YtgbpaiffnhpafaaDoor.Bit
