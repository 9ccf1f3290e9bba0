/- Plain facts on how many bits of a word are 1: the sum of neighbours, by twos, fours and bytes. -/
import Derived.Laws.MathBits
-- holds: YtgbpaiffnhpafaaDoorEa YtgbpaiffnhpafaaDoorEb
namespace Go.Proofs.YtgbpaiffnhpafaaDoor.Bit

def hasW (ws : List Nat) (n : Nat) : Bool := (ws.getD (n / 64) 0).testBit (n % 64)
def W64 (ws : List Nat) : Prop := ∀ x ∈ ws, x < 18446744073709551616
theorem W64.at_ {ws : List Nat} (h : W64 ws) (i : Nat) : ws.getD i 0 < 18446744073709551616 := by
  rw [List.getD_eq_getElem?_getD]
  rcases Nat.lt_or_ge i ws.length with hi | hi
  · rw [List.getElem?_eq_getElem hi]; exact h _ (List.getElem_mem hi)
  · rw [List.getElem?_eq_none hi]; decide
theorem W64.take {ws : List Nat} (h : W64 ws) (n : Nat) : W64 (ws.take n) := fun x hx => h x (List.mem_of_mem_take hx)
theorem has_lt {ws : List Nat} {n : Nat} (h : hasW ws n = true) : n < 64 * ws.length := by
  rcases Nat.lt_or_ge n (64 * ws.length) with hi | hi
  · exact hi
  · unfold hasW at h
    rw [List.getD_eq_getElem?_getD, List.getElem?_eq_none (by omega)] at h
    simp at h

/-- How long a row is without the zeros at its end. -/
def topW (ws : List Nat) : Nat → Nat
  | 0 => 0
  | n + 1 => if ws.getD n 0 = 0 then topW ws n else n + 1
theorem topW_le (ws : List Nat) : ∀ n, topW ws n ≤ n
  | 0 => Nat.le_refl _
  | n + 1 => by
    unfold topW
    split
    · exact Nat.le_succ_of_le (topW_le ws n)
    · exact Nat.le_refl _
theorem topW_last (ws : List Nat) : ∀ n, topW ws n = 0 ∨ ws.getD (topW ws n - 1) 0 ≠ 0
  | 0 => .inl rfl
  | n + 1 => by
    unfold topW
    split
    · exact topW_last ws n
    · exact .inr (by simpa using ‹_›)
theorem topW_zero (ws : List Nat) : ∀ n j, topW ws n ≤ j → j < n → ws.getD j 0 = 0
  | 0, j, _, h => absurd h (by omega)
  | n + 1, j, h, hj => by
    unfold topW at h
    split at h
    · by_cases e : j = n
      · subst e; assumption
      · exact topW_zero ws n j h (by omega)
    · omega
def trimW (ws : List Nat) : List Nat := ws.take (topW ws ws.length)
theorem trim_length (ws : List Nat) : (trimW ws).length = topW ws ws.length := by
  unfold trimW; rw [List.length_take]; exact Nat.min_eq_left (topW_le _ _)
theorem trim_getD (ws : List Nat) (j : Nat) : (trimW ws).getD j 0 = ws.getD j 0 := by
  by_cases h : j < topW ws ws.length
  · unfold trimW
    simp [List.getD_eq_getElem?_getD, h]
  · have h1 : (trimW ws).getD j 0 = 0 := by
      rw [List.getD_eq_getElem?_getD, List.getElem?_eq_none (by rw [trim_length]; omega)]; rfl
    rw [h1]
    by_cases h2 : j < ws.length
    · exact (topW_zero ws _ j (by omega) h2).symm
    · rw [List.getD_eq_getElem?_getD, List.getElem?_eq_none (by omega)]; rfl
theorem has_trim (ws : List Nat) (n : Nat) : hasW (trimW ws) n = hasW ws n := by unfold hasW; rw [trim_getD]

/-- A row that ends in no zero. -/
def Can (ws : List Nat) : Prop := W64 ws ∧ (ws.length = 0 ∨ ws.getD (ws.length - 1) 0 ≠ 0)
theorem can_trim {ws : List Nat} (h : W64 ws) : Can (trimW ws) := by
  refine ⟨h.take _, ?_⟩
  rw [trim_length, trim_getD]
  exact topW_last ws _
theorem trim_can {ws : List Nat} (h : Can ws) : trimW ws = ws := by
  unfold trimW
  have e : topW ws ws.length = ws.length := by
    rcases h.2 with h0 | h0
    · have := topW_le ws ws.length; omega
    · cases hn : ws.length with
      | zero => rfl
      | succ n => rw [hn] at h0; unfold topW; rw [if_neg (by simpa using h0)]
  rw [e, List.take_length]
theorem bit_of_ne {x : Nat} (h : x ≠ 0) (hx : x < 18446744073709551616) : ∃ k, k < 64 ∧ x.testBit k = true := by
  obtain ⟨k, hk⟩ := Nat.exists_testBit_of_ne_zero h
  refine ⟨k, ?_, hk⟩
  rcases Nat.lt_or_ge k 64 with h1 | h1
  · exact h1
  · have h2 : x < 2 ^ k := Nat.lt_of_lt_of_le hx (by rw [show (18446744073709551616 : Nat) = 2 ^ 64 by decide]; exact Nat.pow_le_pow_right (by decide) h1)
    rw [Nat.testBit_lt_two_pow h2] at hk
    cases hk
theorem has_mul (ws : List Nat) (i k : Nat) (hk : k < 64) : hasW ws (64 * i + k) = (ws.getD i 0).testBit k := by
  unfold hasW
  rw [show (64 * i + k) / 64 = i by omega, show (64 * i + k) % 64 = k by omega]
theorem word_ext {x y : Nat} (hx : x < 18446744073709551616) (hy : y < 18446744073709551616) (h : ∀ k, k < 64 → x.testBit k = y.testBit k) : x = y := by
  refine Nat.eq_of_testBit_eq fun k => ?_
  rcases Nat.lt_or_ge k 64 with h1 | h1
  · exact h k h1
  · have e : (18446744073709551616 : Nat) ≤ 2 ^ k := by rw [show (18446744073709551616 : Nat) = 2 ^ 64 by decide]; exact Nat.pow_le_pow_right (by decide) h1
    rw [Nat.testBit_lt_two_pow (Nat.lt_of_lt_of_le hx e), Nat.testBit_lt_two_pow (Nat.lt_of_lt_of_le hy e)]
theorem can_len {a b : List Nat} (ha : Can a) (h : ∀ n, hasW a n = true → hasW b n = true) : a.length ≤ b.length := by
  rcases ha.2 with h0 | h0
  · omega
  · rcases Nat.lt_or_ge b.length a.length with hlt | hge
    · obtain ⟨k, hk, hb⟩ := bit_of_ne h0 (ha.1.at_ _)
      have h1 := h (64 * (a.length - 1) + k) (by rw [has_mul _ _ _ hk]; exact hb)
      have := has_lt h1
      omega
    · exact hge
theorem can_ext {a b : List Nat} (ha : Can a) (hb : Can b) (h : ∀ n, hasW a n = hasW b n) : a = b := by
  have hl : a.length = b.length := Nat.le_antisymm (can_len ha fun n hn => (h n).symm.trans hn) (can_len hb fun n hn => (h n).trans hn)
  refine List.ext_getElem hl fun i h1 h2 => ?_
  have e1 : a.getD i 0 = a[i] := by rw [List.getD_eq_getElem?_getD, List.getElem?_eq_getElem h1]; rfl
  have e2 : b.getD i 0 = b[i] := by rw [List.getD_eq_getElem?_getD, List.getElem?_eq_getElem h2]; rfl
  rw [← e1, ← e2]
  exact word_ext (ha.1.at_ i) (hb.1.at_ i) fun k hk => by rw [← has_mul _ _ _ hk, ← has_mul _ _ _ hk]; exact h _

/-- The number whose bits are given. -/
def bitsF (f : Nat → Bool) : Nat → Nat
  | 0 => 0
  | k + 1 => (if f k then 2 ^ k else 0) + bitsF f k
theorem bitsF_lt (f : Nat → Bool) : ∀ k, bitsF f k < 2 ^ k
  | 0 => by simp [bitsF]
  | k + 1 => by
    have := bitsF_lt f k
    unfold bitsF
    rw [Nat.pow_succ]
    split <;> omega
theorem bitsF_bit (f : Nat → Bool) : ∀ k n, (bitsF f k).testBit n = (decide (n < k) && f n)
  | 0, n => by simp [bitsF]
  | k + 1, n => by
    have hlt := bitsF_lt f k
    unfold bitsF
    by_cases hf : f k = true
    · rw [if_pos hf]
      rcases Nat.lt_trichotomy n k with h | h | h
      · rw [Nat.testBit_two_pow_add_gt h, bitsF_bit f k n]
        simp [h, Nat.lt_succ_of_lt h]
      · subst h
        rw [Nat.testBit_two_pow_add_eq, bitsF_bit f n n]
        simp [hf]
      · rw [Nat.testBit_lt_two_pow (x := 2 ^ k + bitsF f k) (Nat.lt_of_lt_of_le (m := 2 ^ (k + 1)) (by rw [Nat.pow_succ]; omega) (Nat.pow_le_pow_right (by decide) h))]
        simp [show ¬ n < k + 1 by omega]
    · rw [if_neg hf, Nat.zero_add, bitsF_bit f k n]
      rcases Nat.lt_trichotomy n k with h | h | h
      · simp [h, Nat.lt_succ_of_lt h]
      · subst h; simp [hf]
      · simp [show ¬ n < k by omega, show ¬ n < k + 1 by omega]
def rowF (f : Nat → Bool) : List Nat := (List.range 157).map fun i => bitsF (fun k => f (64 * i + k)) 64
theorem rowF_64 (f : Nat → Bool) : W64 (rowF f) := by
  intro x hx
  unfold rowF at hx
  obtain ⟨i, _, rfl⟩ := List.mem_map.1 hx
  exact bitsF_lt _ 64
theorem rowF_length (f : Nat → Bool) : (rowF f).length = 157 := by unfold rowF; simp
theorem has_rowF (f : Nat → Bool) (n : Nat) : hasW (rowF f) n = (decide (n < 10048) && f n) := by
  unfold hasW rowF
  rcases Nat.lt_or_ge (n / 64) 157 with h | h
  · have e : ((List.range 157).map fun i => bitsF (fun k => f (64 * i + k)) 64).getD (n / 64) 0 = bitsF (fun k => f (64 * (n / 64) + k)) 64 := by
      rw [List.getD_eq_getElem?_getD, List.getElem?_map, List.getElem?_range h]; rfl
    rw [e, bitsF_bit, show 64 * (n / 64) + n % 64 = n by omega]
    simp [Nat.mod_lt, show n < 10048 by omega]
  · rw [List.getD_eq_getElem?_getD, List.getElem?_eq_none (by simpa using h)]
    simp [show ¬ n < 10048 by omega]

/-- The set of the numbers of which f is true, up to the last one that may be. -/
def setW (f : Nat → Bool) : List Nat := trimW (rowF f)
theorem can_set (f : Nat → Bool) : Can (setW f) := can_trim (rowF_64 f)
theorem has_set (f : Nat → Bool) (n : Nat) : hasW (setW f) n = (decide (n < 10048) && f n) := by unfold setW; rw [has_trim, has_rowF]
theorem set_len (f : Nat → Bool) : (setW f).length ≤ 157 := by
  unfold setW; rw [trim_length]; exact Nat.le_trans (topW_le _ _) (by rw [rowF_length]; exact Nat.le_refl _)
theorem set_of {ws : List Nat} {f : Nat → Bool} (h : Can ws) (hf : ∀ n, hasW ws n = (decide (n < 10048) && f n)) : ws = setW f :=
  can_ext h (can_set f) fun n => by rw [hf, has_set]
theorem trim_set {ws : List Nat} {f : Nat → Bool} (h : W64 ws) (hf : ∀ n, hasW ws n = (decide (n < 10048) && f n)) : trimW ws = setW f :=
  set_of (can_trim h) fun n => by rw [has_trim, hf]
theorem set_has {ws : List Nat} (h : Can ws) (hl : ws.length ≤ 157) : ws = setW (hasW ws) :=
  set_of h fun n => by
    cases hb : hasW ws n with
    | false => simp
    | true => have := has_lt hb; simp; omega
theorem set_inj {f g : Nat → Bool} (h : setW f = setW g) {n : Nat} (hn : n < 10048) : f n = g n := by
  have := congrArg (fun ws => hasW ws n) h
  simpa [has_set, hn] using this
theorem set_congr {f g : Nat → Bool} (h : ∀ n, n < 10048 → f n = g n) : setW f = setW g :=
  set_of (can_set f) fun n => by
    rw [has_set]
    by_cases hn : n < 10048
    · rw [h n hn]
    · simp [hn]
theorem set_none {f : Nat → Bool} (h : ∀ n, n < 10048 → f n = false) : setW f = [] := by
  refine (set_of (ws := []) ⟨by intro x hx; simp at hx, .inl rfl⟩ fun n => ?_).symm
  by_cases hn : n < 10048
  · rw [h n hn]; simp [hasW]
  · simp [hasW, hn]
theorem set_empty {f : Nat → Bool} (h : setW f = []) {n : Nat} (hn : n < 10048) : f n = false := by
  have := has_set f n
  rw [h] at this
  simpa [hasW, hn] using this.symm

/-- May a row of words be? -/
def rightW (ws : List Nat) : Bool := decide (ws.length = 0) || (!decide (ws.getD (ws.length - 1) 0 = 0) && decide (64 * (ws.length - 1) + bitLen (ws.getD (ws.length - 1) 0) ≤ 10000))
def effW (ws : List Nat) : List Nat := if rightW ws then ws else []
theorem eff_64 {ws : List Nat} (h : W64 ws) : W64 (effW ws) := by
  unfold effW; split
  · exact h
  · intro x hx; simp at hx
theorem eff_can {ws : List Nat} (h : W64 ws) : Can (effW ws) := by
  refine ⟨eff_64 h, ?_⟩
  unfold effW
  by_cases hr : rightW ws = true
  · rw [if_pos hr]
    unfold rightW at hr
    simp only [Bool.or_eq_true, Bool.and_eq_true, Bool.not_eq_true', decide_eq_true_eq, decide_eq_false_iff_not] at hr
    rcases hr with h0 | ⟨h0, _⟩
    · exact .inl h0
    · exact .inr h0
  · rw [if_neg hr]; exact .inl rfl
theorem right_len {ws : List Nat} (hr : rightW ws = true) : ws.length ≤ 157 := by
  unfold rightW at hr
  simp only [Bool.or_eq_true, Bool.and_eq_true, Bool.not_eq_true', decide_eq_true_eq, decide_eq_false_iff_not] at hr
  rcases hr with h0 | ⟨h0, h1⟩
  · omega
  · have h2 := (bitLen_spec (ws.getD (ws.length - 1) 0)).1
    have h3 : 1 ≤ bitLen (ws.getD (ws.length - 1) 0) := by
      rcases Nat.eq_zero_or_pos (bitLen (ws.getD (ws.length - 1) 0)) with e | e
      · rw [e] at h2; omega
      · exact e
    omega
theorem right_has {ws : List Nat} (hr : rightW ws = true) {n : Nat} (hn : hasW ws n = true) : n < 10000 := by
  have hlt := has_lt hn
  unfold rightW at hr
  simp only [Bool.or_eq_true, Bool.and_eq_true, Bool.not_eq_true', decide_eq_true_eq, decide_eq_false_iff_not] at hr
  rcases hr with h0 | ⟨h0, h1⟩
  · omega
  · have h2 := (bitLen_spec (ws.getD (ws.length - 1) 0)).1
    have h3 : 1 ≤ bitLen (ws.getD (ws.length - 1) 0) := by
      rcases Nat.eq_zero_or_pos (bitLen (ws.getD (ws.length - 1) 0)) with e | e
      · rw [e] at h2; omega
      · exact e
    by_cases hq : n / 64 = ws.length - 1
    · unfold hasW at hn
      rw [hq] at hn
      have h4 : n % 64 < bitLen (ws.getD (ws.length - 1) 0) := by
        rcases Nat.lt_or_ge (n % 64) (bitLen (ws.getD (ws.length - 1) 0)) with h | h
        · exact h
        · rw [Nat.testBit_lt_two_pow (Nat.lt_of_lt_of_le h2 (Nat.pow_le_pow_right (by decide) h))] at hn
          cases hn
      omega
    · omega
theorem right_of {ws : List Nat} (h : W64 ws) (hl : ws.length = 0 ∨ ws.getD (ws.length - 1) 0 ≠ 0) (hn : ∀ n, hasW ws n = true → n < 10000) : rightW ws = true := by
  unfold rightW
  simp only [Bool.or_eq_true, Bool.and_eq_true, Bool.not_eq_true', decide_eq_true_eq, decide_eq_false_iff_not]
  rcases hl with h0 | h0
  · exact .inl h0
  · refine .inr ⟨h0, ?_⟩
    have hx := h.at_ (ws.length - 1)
    obtain ⟨h2, h3⟩ := bitLen_spec (ws.getD (ws.length - 1) 0)
    have h3 := h3 h0
    have hb : bitLen (ws.getD (ws.length - 1) 0) ≤ 64 := by
      rcases Nat.lt_or_ge 64 (bitLen (ws.getD (ws.length - 1) 0)) with h | h
      · have := Nat.lt_of_le_of_lt h3 hx
        rw [show (18446744073709551616 : Nat) = 2 ^ 64 by decide] at this
        have := (Nat.pow_lt_pow_iff_right (a := 2) (by decide)).1 this
        omega
      · exact h
    rcases Nat.eq_zero_or_pos (bitLen (ws.getD (ws.length - 1) 0)) with e | e
    · rw [e] at h2; omega
    · have ht : (ws.getD (ws.length - 1) 0).testBit (bitLen (ws.getD (ws.length - 1) 0) - 1) = true := by
        rw [Nat.testBit_eq_decide_div_mod_eq]
        have hp : 0 < 2 ^ (bitLen (ws.getD (ws.length - 1) 0) - 1) := Nat.two_pow_pos _
        have e2 : ws.getD (ws.length - 1) 0 / 2 ^ (bitLen (ws.getD (ws.length - 1) 0) - 1) = 1 := by
          refine Nat.div_eq_of_lt_le (by omega) ?_
          have : 2 ^ bitLen (ws.getD (ws.length - 1) 0) = 2 ^ (bitLen (ws.getD (ws.length - 1) 0) - 1) * 2 := by rw [← Nat.pow_succ]; congr 1; omega
          omega
        rw [e2]; decide
      have h4 := hn (64 * (ws.length - 1) + (bitLen (ws.getD (ws.length - 1) 0) - 1)) (by rw [has_mul _ _ _ (by omega)]; exact ht)
      omega

/-- The numbers of a row that may be; of another one: none. -/
def inW (ws : List Nat) (n : Nat) : Bool := hasW (effW ws) n
theorem in_lt {ws : List Nat} {n : Nat} (h : inW ws n = true) : n < 10000 := by
  unfold inW effW at h
  by_cases hr : rightW ws = true
  · rw [if_pos hr] at h; exact right_has hr h
  · rw [if_neg hr] at h; simp [hasW] at h
theorem in_ge {ws : List Nat} {n : Nat} (h : 10000 ≤ n) : inW ws n = false := by
  cases hb : inW ws n with
  | false => rfl
  | true => have := in_lt hb; omega
theorem eff_len (ws : List Nat) : (effW ws).length ≤ 157 := by
  unfold effW; split
  · exact right_len ‹_›
  · simp
theorem eff_set {ws : List Nat} (h : W64 ws) : effW ws = setW (inW ws) := set_has (eff_can h) (eff_len ws)
theorem eff_of_set {f : Nat → Bool} (hf : ∀ n, f n = true → n < 10000) : effW (setW f) = setW f := by
  unfold effW
  rw [if_pos]
  exact right_of (can_set f).1 (can_set f).2 fun n hn => hf n (by rw [has_set] at hn; simp at hn; exact hn.2)
theorem right_set {f : Nat → Bool} (hf : ∀ n, f n = true → n < 10000) : rightW (setW f) = true :=
  right_of (can_set f).1 (can_set f).2 fun n hn => hf n (by rw [has_set] at hn; simp at hn; exact hn.2)
theorem in_set {f : Nat → Bool} (hf : ∀ n, f n = true → n < 10000) (n : Nat) : inW (setW f) n = f n := by
  unfold inW
  rw [eff_of_set hf, has_set]
  cases hb : f n with
  | false => simp
  | true => have := hf n hb; simp; omega

/-- The numbers of which f is true, rising. -/
def numsF (f : Nat → Bool) : List Nat := (List.range 10048).filter f
theorem mem_nums {f : Nat → Bool} {n : Nat} : n ∈ numsF f ↔ n < 10048 ∧ f n = true := by unfold numsF; simp
theorem nums_sorted (f : Nat → Bool) : (numsF f).Pairwise (· < ·) := List.Pairwise.filter _ List.pairwise_lt_range
theorem nums_congr {f g : Nat → Bool} (h : ∀ n, n < 10048 → f n = g n) : numsF f = numsF g := by
  unfold numsF
  exact List.filter_congr fun n hn => h n (by simpa using hn)
theorem nums_len (f : Nat → Bool) : (numsF f).length ≤ 10048 := by
  unfold numsF; exact Nat.le_trans (List.length_filter_le _ _) (by simp)
end Go.Proofs.YtgbpaiffnhpafaaDoor.Bit
namespace Go.Proofs.YtgbpaiffnhpafaaDoor.Bit

/-- How many of the lowest k bits are 1. -/
def cnt (x : Nat) : Nat → Nat
  | 0 => 0
  | k + 1 => x % 2 + cnt (x / 2) k
theorem cnt_le (x k : Nat) : cnt x k ≤ k := by
  induction k generalizing x with
  | zero => exact Nat.le_refl _
  | succ k ih => unfold cnt; have := ih (x / 2); omega
theorem cnt_zero (k : Nat) : cnt 0 k = 0 := by
  induction k with
  | zero => rfl
  | succ k ih => unfold cnt; simp [ih]
theorem cnt_add (x j k : Nat) : cnt x (j + k) = cnt x j + cnt (x / 2 ^ j) k := by
  induction j generalizing x with
  | zero => simp [cnt]
  | succ j ih =>
    rw [show j + 1 + k = (j + k) + 1 by omega]
    show x % 2 + cnt (x / 2) (j + k) = x % 2 + cnt (x / 2) j + _
    rw [ih, Nat.div_div_eq_div_mul, ← Nat.pow_succ', Nat.add_assoc]
theorem cnt_mod (x k : Nat) : cnt (x % 2 ^ k) k = cnt x k := by
  induction k generalizing x with
  | zero => rfl
  | succ k ih =>
    show x % 2 ^ (k + 1) % 2 + cnt (x % 2 ^ (k + 1) / 2) k = x % 2 + cnt (x / 2) k
    have e1 : x % 2 ^ (k + 1) % 2 = x % 2 := Nat.mod_mod_of_dvd x (by rw [Nat.pow_succ]; exact Nat.dvd_mul_left 2 _)
    have e2 : x % 2 ^ (k + 1) / 2 = x / 2 % 2 ^ k := by rw [Nat.pow_succ', Nat.mod_mul_right_div_self]
    rw [e1, e2, ih]
theorem cnt_filter (x k : Nat) : ((List.range k).filter fun i => x.testBit i).length = cnt x k := by
  induction k generalizing x with
  | zero => rfl
  | succ k ih =>
    rw [List.range_succ_eq_map, List.filter_cons, List.filter_map]
    have e : (List.filter ((fun i => x.testBit i) ∘ Nat.succ) (List.range k)).length = cnt (x / 2) k := by
      rw [← ih (x / 2)]
      congr 1
      refine List.filter_congr fun i _ => ?_
      simp [Nat.testBit_succ]
    show _ = x % 2 + cnt (x / 2) k
    rw [← e]
    by_cases h : x.testBit 0 = true
    · rw [if_pos h]
      have : x % 2 = 1 := by simpa [Nat.testBit_zero] using h
      rw [this, List.length_cons, List.length_map]; omega
    · rw [if_neg h]
      have : x % 2 = 0 := by simp [Nat.testBit_zero] at h; omega
      rw [this, List.length_map]; omega

theorem and_split (a b c d : Nat) (hb : b < 256) (hd : d < 256) : (b + 256 * a) &&& (d + 256 * c) = (b &&& d) + 256 * (a &&& c) := by
  have hbd : b &&& d < 2 ^ 8 := Nat.and_lt_two_pow _ hd
  refine Nat.eq_of_testBit_eq fun i => ?_
  rw [Nat.testBit_and, show b + 256 * a = 2 ^ 8 * a + b by omega, show d + 256 * c = 2 ^ 8 * c + d by omega, show (b &&& d) + 256 * (a &&& c) = 2 ^ 8 * (a &&& c) + (b &&& d) by omega,
    Nat.testBit_two_pow_mul_add _ hb, Nat.testBit_two_pow_mul_add _ hd, Nat.testBit_two_pow_mul_add _ hbd]
  split <;> simp [Nat.testBit_and]

def by8 (b0 b1 b2 b3 b4 b5 b6 b7 : Nat) : Nat := b0 + 256 * (b1 + 256 * (b2 + 256 * (b3 + 256 * (b4 + 256 * (b5 + 256 * (b6 + 256 * b7))))))
theorem and8 {m b0 b1 b2 b3 b4 b5 b6 b7 : Nat} (hm : m < 256) (h0 : b0 < 256) (h1 : b1 < 256) (h2 : b2 < 256) (h3 : b3 < 256) (h4 : b4 < 256) (h5 : b5 < 256) (h6 : b6 < 256) :
    by8 b0 b1 b2 b3 b4 b5 b6 b7 &&& by8 m m m m m m m m = by8 (b0 &&& m) (b1 &&& m) (b2 &&& m) (b3 &&& m) (b4 &&& m) (b5 &&& m) (b6 &&& m) (b7 &&& m) := by
  unfold by8
  rw [and_split _ _ _ _ h0 hm, and_split _ _ _ _ h1 hm, and_split _ _ _ _ h2 hm, and_split _ _ _ _ h3 hm, and_split _ _ _ _ h4 hm, and_split _ _ _ _ h5 hm, and_split _ _ _ _ h6 hm]

def s1 (b : Nat) : Nat := (b / 2 &&& 85) + (b &&& 85)
def s2 (b : Nat) : Nat := (b / 4 &&& 51) + (b &&& 51)
theorem s1_top : ∀ b : Fin 256, ∀ t : Fin 2, ((b.1 / 2 + 128 * t.1) &&& 85) = (b.1 / 2 &&& 85) := by decide +kernel
theorem s2_top : ∀ b : Fin 256, ∀ t : Fin 4, ((b.1 / 4 + 64 * t.1) &&& 51) = (b.1 / 4 &&& 51) := by decide +kernel
theorem s1_lt : ∀ b : Fin 256, s1 b.1 < 256 := by decide +kernel
theorem s2_lt : ∀ b : Fin 256, s2 (s1 b.1) < 69 := by decide +kernel
theorem s3_top : ∀ b : Fin 69, ∀ t : Fin 5, ((b.1 / 16 + 16 * t.1 + b.1) &&& 15) = (b.1 / 16 + b.1) &&& 15 := by decide +kernel
theorem s2_mod : ∀ b : Fin 256, s2 (s1 b.1) % 16 < 5 := by decide +kernel
theorem s3_cnt : ∀ b : Fin 256, ((s2 (s1 b.1) / 16 + s2 (s1 b.1)) &&& 15) = cnt b.1 8 := by decide +kernel

theorem step1 {b0 b1 b2 b3 b4 b5 b6 b7 : Nat} (h0 : b0 < 256) (h1 : b1 < 256) (h2 : b2 < 256) (h3 : b3 < 256) (h4 : b4 < 256) (h5 : b5 < 256) (h6 : b6 < 256) (_ : b7 < 256) :
    (by8 b0 b1 b2 b3 b4 b5 b6 b7 / 2 &&& 6148914691236517205) + (by8 b0 b1 b2 b3 b4 b5 b6 b7 &&& 6148914691236517205) = by8 (s1 b0) (s1 b1) (s1 b2) (s1 b3) (s1 b4) (s1 b5) (s1 b6) (s1 b7) := by
  have e : by8 b0 b1 b2 b3 b4 b5 b6 b7 / 2 = by8 (b0 / 2 + 128 * (b1 % 2)) (b1 / 2 + 128 * (b2 % 2)) (b2 / 2 + 128 * (b3 % 2)) (b3 / 2 + 128 * (b4 % 2)) (b4 / 2 + 128 * (b5 % 2)) (b5 / 2 + 128 * (b6 % 2)) (b6 / 2 + 128 * (b7 % 2)) (b7 / 2) := by
    unfold by8; omega
  have em : (6148914691236517205 : Nat) = by8 85 85 85 85 85 85 85 85 := by decide
  rw [e, em, and8 (by omega) (by omega) (by omega) (by omega) (by omega) (by omega) (by omega) (by omega), and8 (by omega) h0 h1 h2 h3 h4 h5 h6,
    s1_top ⟨b0, h0⟩ ⟨b1 % 2, Nat.mod_lt _ (by omega)⟩, s1_top ⟨b1, h1⟩ ⟨b2 % 2, Nat.mod_lt _ (by omega)⟩, s1_top ⟨b2, h2⟩ ⟨b3 % 2, Nat.mod_lt _ (by omega)⟩, s1_top ⟨b3, h3⟩ ⟨b4 % 2, Nat.mod_lt _ (by omega)⟩,
    s1_top ⟨b4, h4⟩ ⟨b5 % 2, Nat.mod_lt _ (by omega)⟩, s1_top ⟨b5, h5⟩ ⟨b6 % 2, Nat.mod_lt _ (by omega)⟩, s1_top ⟨b6, h6⟩ ⟨b7 % 2, Nat.mod_lt _ (by omega)⟩]
  dsimp only
  unfold by8 s1
  omega
theorem step2 {b0 b1 b2 b3 b4 b5 b6 b7 : Nat} (h0 : b0 < 256) (h1 : b1 < 256) (h2 : b2 < 256) (h3 : b3 < 256) (h4 : b4 < 256) (h5 : b5 < 256) (h6 : b6 < 256) (_ : b7 < 256) :
    (by8 b0 b1 b2 b3 b4 b5 b6 b7 / 4 &&& 3689348814741910323) + (by8 b0 b1 b2 b3 b4 b5 b6 b7 &&& 3689348814741910323) = by8 (s2 b0) (s2 b1) (s2 b2) (s2 b3) (s2 b4) (s2 b5) (s2 b6) (s2 b7) := by
  have e : by8 b0 b1 b2 b3 b4 b5 b6 b7 / 4 = by8 (b0 / 4 + 64 * (b1 % 4)) (b1 / 4 + 64 * (b2 % 4)) (b2 / 4 + 64 * (b3 % 4)) (b3 / 4 + 64 * (b4 % 4)) (b4 / 4 + 64 * (b5 % 4)) (b5 / 4 + 64 * (b6 % 4)) (b6 / 4 + 64 * (b7 % 4)) (b7 / 4) := by
    unfold by8; omega
  have em : (3689348814741910323 : Nat) = by8 51 51 51 51 51 51 51 51 := by decide
  rw [e, em, and8 (by omega) (by omega) (by omega) (by omega) (by omega) (by omega) (by omega) (by omega), and8 (by omega) h0 h1 h2 h3 h4 h5 h6,
    s2_top ⟨b0, h0⟩ ⟨b1 % 4, Nat.mod_lt _ (by omega)⟩, s2_top ⟨b1, h1⟩ ⟨b2 % 4, Nat.mod_lt _ (by omega)⟩, s2_top ⟨b2, h2⟩ ⟨b3 % 4, Nat.mod_lt _ (by omega)⟩, s2_top ⟨b3, h3⟩ ⟨b4 % 4, Nat.mod_lt _ (by omega)⟩,
    s2_top ⟨b4, h4⟩ ⟨b5 % 4, Nat.mod_lt _ (by omega)⟩, s2_top ⟨b5, h5⟩ ⟨b6 % 4, Nat.mod_lt _ (by omega)⟩, s2_top ⟨b6, h6⟩ ⟨b7 % 4, Nat.mod_lt _ (by omega)⟩]
  dsimp only
  unfold by8 s2
  omega
theorem step3 {b0 b1 b2 b3 b4 b5 b6 b7 : Nat} (h0 : b0 < 69) (h1 : b1 < 69) (h2 : b2 < 69) (h3 : b3 < 69) (h4 : b4 < 69) (h5 : b5 < 69) (h6 : b6 < 69) (_ : b7 < 69)
    (g1 : b1 % 16 < 5) (g2 : b2 % 16 < 5) (g3 : b3 % 16 < 5) (g4 : b4 % 16 < 5) (g5 : b5 % 16 < 5) (g6 : b6 % 16 < 5) (g7 : b7 % 16 < 5) :
    ((by8 b0 b1 b2 b3 b4 b5 b6 b7 / 16 + by8 b0 b1 b2 b3 b4 b5 b6 b7) &&& 1085102592571150095) =
      by8 ((b0 / 16 + b0) &&& 15) ((b1 / 16 + b1) &&& 15) ((b2 / 16 + b2) &&& 15) ((b3 / 16 + b3) &&& 15) ((b4 / 16 + b4) &&& 15) ((b5 / 16 + b5) &&& 15) ((b6 / 16 + b6) &&& 15) ((b7 / 16 + b7) &&& 15) := by
  have e : by8 b0 b1 b2 b3 b4 b5 b6 b7 / 16 + by8 b0 b1 b2 b3 b4 b5 b6 b7 = by8 (b0 / 16 + 16 * (b1 % 16) + b0) (b1 / 16 + 16 * (b2 % 16) + b1) (b2 / 16 + 16 * (b3 % 16) + b2) (b3 / 16 + 16 * (b4 % 16) + b3) (b4 / 16 + 16 * (b5 % 16) + b4) (b5 / 16 + 16 * (b6 % 16) + b5) (b6 / 16 + 16 * (b7 % 16) + b6) (b7 / 16 + b7) := by
    unfold by8; omega
  have em : (1085102592571150095 : Nat) = by8 15 15 15 15 15 15 15 15 := by decide
  rw [e, em, and8 (by omega) (by omega) (by omega) (by omega) (by omega) (by omega) (by omega) (by omega),
    s3_top ⟨b0, h0⟩ ⟨b1 % 16, g1⟩, s3_top ⟨b1, h1⟩ ⟨b2 % 16, g2⟩, s3_top ⟨b2, h2⟩ ⟨b3 % 16, g3⟩, s3_top ⟨b3, h3⟩ ⟨b4 % 16, g4⟩, s3_top ⟨b4, h4⟩ ⟨b5 % 16, g5⟩, s3_top ⟨b5, h5⟩ ⟨b6 % 16, g6⟩, s3_top ⟨b6, h6⟩ ⟨b7 % 16, g7⟩]

def t1 (x : Nat) : Nat := (x / 2 &&& 6148914691236517205) + (x &&& 6148914691236517205)
def t2 (x : Nat) : Nat := (x / 4 &&& 3689348814741910323) + (x &&& 3689348814741910323)
def t3 (x : Nat) : Nat := (x / 16 + x) &&& 1085102592571150095
theorem bytes_of (x : Nat) (h : x < 18446744073709551616) : ∃ b0 b1 b2 b3 b4 b5 b6 b7, b0 < 256 ∧ b1 < 256 ∧ b2 < 256 ∧ b3 < 256 ∧ b4 < 256 ∧ b5 < 256 ∧ b6 < 256 ∧ b7 < 256 ∧ x = by8 b0 b1 b2 b3 b4 b5 b6 b7 :=
  ⟨x % 256, x / 256 % 256, x / 65536 % 256, x / 16777216 % 256, x / 4294967296 % 256, x / 1099511627776 % 256, x / 281474976710656 % 256, x / 72057594037927936, by omega, by omega, by omega, by omega, by omega, by omega, by omega, by omega, by unfold by8; omega⟩
theorem cnt_by8 {b0 b1 b2 b3 b4 b5 b6 b7 : Nat} (h0 : b0 < 256) (h1 : b1 < 256) (h2 : b2 < 256) (h3 : b3 < 256) (h4 : b4 < 256) (h5 : b5 < 256) (h6 : b6 < 256) (_ : b7 < 256) :
    cnt (by8 b0 b1 b2 b3 b4 b5 b6 b7) 64 = cnt b0 8 + cnt b1 8 + cnt b2 8 + cnt b3 8 + cnt b4 8 + cnt b5 8 + cnt b6 8 + cnt b7 8 := by
  have one : ∀ b a k, b < 256 → cnt (b + 256 * a) (8 + k) = cnt b 8 + cnt a k := fun b a k hb => by
    rw [cnt_add, ← cnt_mod (b + 256 * a) 8, show (b + 256 * a) % 2 ^ 8 = b by omega, show (b + 256 * a) / 2 ^ 8 = a by omega]
  unfold by8
  rw [show 64 = 8 + (8 + (8 + (8 + (8 + (8 + (8 + 8)))))) from rfl, one _ _ _ h0, one _ _ _ h1, one _ _ _ h2, one _ _ _ h3, one _ _ _ h4, one _ _ _ h5, one _ _ _ h6]
  omega
theorem sum8 {p0 p1 p2 p3 p4 p5 p6 p7 y : Nat} (h0 : p0 ≤ 8) (h1 : p1 ≤ 8) (h2 : p2 ≤ 8) (h3 : p3 ≤ 8) (h4 : p4 ≤ 8) (h5 : p5 ≤ 8) (h6 : p6 ≤ 8) (h7 : p7 ≤ 8) (hy : y = by8 p0 p1 p2 p3 p4 p5 p6 p7) :
    y < 9223372036854775808 ∧ y + y / 256 < 9223372036854775808 ∧ (y + y / 256) + (y + y / 256) / 65536 < 9223372036854775808 ∧
    ((y + y / 256) + (y + y / 256) / 65536) + ((y + y / 256) + (y + y / 256) / 65536) / 4294967296 < 9223372036854775808 ∧
    (((y + y / 256) + (y + y / 256) / 65536) + ((y + y / 256) + (y + y / 256) / 65536) / 4294967296) % 128 = p0 + p1 + p2 + p3 + p4 + p5 + p6 + p7 := by
  unfold by8 at hy
  have e1 : y + y / 256 = (p0 + p1) + 256 * ((p1 + p2) + 256 * ((p2 + p3) + 256 * ((p3 + p4) + 256 * ((p4 + p5) + 256 * ((p5 + p6) + 256 * ((p6 + p7) + 256 * p7)))))) := by omega
  have hy' : y < 9223372036854775808 := by omega
  generalize y + y / 256 = y1 at *
  clear hy
  have e2 : y1 + y1 / 65536 = (p0 + p1 + p2 + p3) + 256 * ((p1 + p2 + p3 + p4) + 256 * ((p2 + p3 + p4 + p5) + 256 * ((p3 + p4 + p5 + p6) + 256 * ((p4 + p5 + p6 + p7) + 256 * ((p5 + p6 + p7) + 256 * ((p6 + p7) + 256 * p7)))))) := by omega
  have hy1 : y1 < 9223372036854775808 := by omega
  generalize y1 + y1 / 65536 = y2 at *
  clear e1
  have e3 : y2 + y2 / 4294967296 = (p0 + p1 + p2 + p3 + p4 + p5 + p6 + p7) + 256 * ((p1 + p2 + p3 + p4 + p5 + p6 + p7) + 256 * ((p2 + p3 + p4 + p5 + p6 + p7) + 256 * ((p3 + p4 + p5 + p6 + p7) + 256 * ((p4 + p5 + p6 + p7) + 256 * ((p5 + p6 + p7) + 256 * ((p6 + p7) + 256 * p7)))))) := by omega
  have hy2 : y2 < 9223372036854775808 := by omega
  generalize y2 + y2 / 4294967296 = y3 at *
  clear e2
  exact ⟨hy', hy1, hy2, by omega, by omega⟩

theorem by8_lt {b0 b1 b2 b3 b4 b5 b6 b7 : Nat} (h0 : b0 < 256) (h1 : b1 < 256) (h2 : b2 < 256) (h3 : b3 < 256) (h4 : b4 < 256) (h5 : b5 < 256) (h6 : b6 < 256) (h7 : b7 < 256) : by8 b0 b1 b2 b3 b4 b5 b6 b7 < 18446744073709551616 := by
  unfold by8; omega
theorem by8_lt69 {b0 b1 b2 b3 b4 b5 b6 b7 : Nat} (h0 : b0 < 69) (h1 : b1 < 69) (h2 : b2 < 69) (h3 : b3 < 69) (h4 : b4 < 69) (h5 : b5 < 69) (h6 : b6 < 69) (h7 : b7 < 69) : by8 b0 b1 b2 b3 b4 b5 b6 b7 < 5000000000000000000 := by
  unfold by8; omega
theorem fold_cnt (x : Nat) (h : x < 18446744073709551616) :
    t1 x < 18446744073709551616 ∧ t2 (t1 x) < 18446744073709551616 ∧ t2 (t1 x) / 16 + t2 (t1 x) < 18446744073709551616 ∧ ∃ y, y = t3 (t2 (t1 x)) ∧
    y < 9223372036854775808 ∧ y + y / 256 < 9223372036854775808 ∧ (y + y / 256) + (y + y / 256) / 65536 < 9223372036854775808 ∧
    ((y + y / 256) + (y + y / 256) / 65536) + ((y + y / 256) + (y + y / 256) / 65536) / 4294967296 < 9223372036854775808 ∧
    (((y + y / 256) + (y + y / 256) / 65536) + ((y + y / 256) + (y + y / 256) / 65536) / 4294967296) % 128 = cnt x 64 := by
  obtain ⟨b0, b1, b2, b3, b4, b5, b6, b7, h0, h1, h2, h3, h4, h5, h6, h7, rfl⟩ := bytes_of x h
  have e1 : t1 (by8 b0 b1 b2 b3 b4 b5 b6 b7) = by8 (s1 b0) (s1 b1) (s1 b2) (s1 b3) (s1 b4) (s1 b5) (s1 b6) (s1 b7) := step1 h0 h1 h2 h3 h4 h5 h6 h7
  have l0 := s1_lt ⟨b0, h0⟩
  have l1 := s1_lt ⟨b1, h1⟩
  have l2 := s1_lt ⟨b2, h2⟩
  have l3 := s1_lt ⟨b3, h3⟩
  have l4 := s1_lt ⟨b4, h4⟩
  have l5 := s1_lt ⟨b5, h5⟩
  have l6 := s1_lt ⟨b6, h6⟩
  have l7 := s1_lt ⟨b7, h7⟩
  have e2 : t2 (t1 (by8 b0 b1 b2 b3 b4 b5 b6 b7)) = by8 (s2 (s1 b0)) (s2 (s1 b1)) (s2 (s1 b2)) (s2 (s1 b3)) (s2 (s1 b4)) (s2 (s1 b5)) (s2 (s1 b6)) (s2 (s1 b7)) := by rw [e1]; exact step2 l0 l1 l2 l3 l4 l5 l6 l7
  have q0 := s2_lt ⟨b0, h0⟩
  have q1 := s2_lt ⟨b1, h1⟩
  have q2 := s2_lt ⟨b2, h2⟩
  have q3 := s2_lt ⟨b3, h3⟩
  have q4 := s2_lt ⟨b4, h4⟩
  have q5 := s2_lt ⟨b5, h5⟩
  have q6 := s2_lt ⟨b6, h6⟩
  have q7 := s2_lt ⟨b7, h7⟩
  have e3 : t3 (t2 (t1 (by8 b0 b1 b2 b3 b4 b5 b6 b7))) = by8 (cnt b0 8) (cnt b1 8) (cnt b2 8) (cnt b3 8) (cnt b4 8) (cnt b5 8) (cnt b6 8) (cnt b7 8) := by
    rw [e2]
    refine (step3 q0 q1 q2 q3 q4 q5 q6 q7 (s2_mod ⟨b1, h1⟩) (s2_mod ⟨b2, h2⟩) (s2_mod ⟨b3, h3⟩) (s2_mod ⟨b4, h4⟩) (s2_mod ⟨b5, h5⟩) (s2_mod ⟨b6, h6⟩) (s2_mod ⟨b7, h7⟩)).trans ?_
    have c0 := s3_cnt ⟨b0, h0⟩
    have c1 := s3_cnt ⟨b1, h1⟩
    have c2 := s3_cnt ⟨b2, h2⟩
    have c3 := s3_cnt ⟨b3, h3⟩
    have c4 := s3_cnt ⟨b4, h4⟩
    have c5 := s3_cnt ⟨b5, h5⟩
    have c6 := s3_cnt ⟨b6, h6⟩
    have c7 := s3_cnt ⟨b7, h7⟩
    dsimp only at c0 c1 c2 c3 c4 c5 c6 c7
    rw [c0, c1, c2, c3, c4, c5, c6, c7]
  have hs := sum8 (cnt_le b0 8) (cnt_le b1 8) (cnt_le b2 8) (cnt_le b3 8) (cnt_le b4 8) (cnt_le b5 8) (cnt_le b6 8) (cnt_le b7 8) e3
  rw [cnt_by8 h0 h1 h2 h3 h4 h5 h6 h7]
  dsimp only at q0 q1 q2 q3 q4 q5 q6 q7 l0 l1 l2 l3 l4 l5 l6 l7
  have m1 := by8_lt l0 l1 l2 l3 l4 l5 l6 l7
  have m2 := by8_lt69 q0 q1 q2 q3 q4 q5 q6 q7
  rw [← e1] at m1
  rw [← e2] at m2
  generalize t2 (t1 (by8 b0 b1 b2 b3 b4 b5 b6 b7)) = z at *
  exact ⟨m1, by omega, by omega, _, rfl, hs⟩

/-- How many numbers a row has: the ones of all its words. -/
def cntW (ws : List Nat) : Nat := (ws.map fun x => cnt x 64).sum
theorem cnt_nums (ws : List Nat) : ((List.range (64 * ws.length)).filter (hasW ws)).length = cntW ws := by
  suffices h : ∀ k, k ≤ ws.length → ((List.range (64 * k)).filter (hasW ws)).length = cntW (ws.take k) by
    have := h ws.length (Nat.le_refl _)
    rwa [List.take_length] at this
  intro k
  induction k with
  | zero => intro _; simp [cntW]
  | succ k ih =>
    intro hk
    rw [show 64 * (k + 1) = 64 * k + 64 by omega, List.range_add, List.filter_append, List.length_append, ih (by omega)]
    have e : (List.filter (hasW ws) ((List.range 64).map (64 * k + ·))).length = cnt (ws.getD k 0) 64 := by
      rw [List.filter_map, List.length_map, ← cnt_filter]
      congr 1
      refine List.filter_congr fun i hi => ?_
      simp only [Function.comp_apply]
      exact has_mul ws k i (by simpa using hi)
    rw [e, List.take_succ_eq_append_getElem (show k < ws.length by omega)]
    unfold cntW
    rw [List.map_append, List.sum_append, List.getD_eq_getElem?_getD, List.getElem?_eq_getElem (show k < ws.length by omega)]
    simp
theorem nums_range {f : Nat → Bool} {k : Nat} (hk : k ≤ 10048) (h : ∀ n, f n = true → n < k) : (List.range k).filter f = numsF f := by
  unfold numsF
  conv => rhs; rw [show (10048 : Nat) = k + (10048 - k) by omega]
  rw [List.range_add, List.filter_append, List.filter_map]
  have e : (List.range (10048 - k)).filter (f ∘ (k + ·)) = [] := by
    refine List.filter_eq_nil_iff.2 fun n _ hn => ?_
    have := h _ hn
    dsimp only at this
    omega
  rw [e]
  simp
theorem count_in (ws : List Nat) : cntW (effW ws) = (numsF (inW ws)).length := by
  rw [← cnt_nums]
  have := eff_len ws
  rw [nums_range (f := hasW (effW ws)) (by omega) fun n hn => has_lt hn]
  rfl
end Go.Proofs.YtgbpaiffnhpafaaDoor.Bit
