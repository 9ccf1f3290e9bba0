/- Plain facts on rows of words of 64 bits: the numbers that they tell, and the rows that tell of given numbers. -/
import Derived.Laws.MathBits
namespace Go.Proofs.YtpkpfnilfabkaaaDoor

def hasW (ws : List Nat) (n : Nat) : Bool := (ws.getD (n / 64) 0).testBit (n % 64)
def W64 (ws : List Nat) : Prop := ∀ x ∈ ws, x < 18446744073709551616
theorem W64.at_ {ws : List Nat} (h : W64 ws) (i : Nat) : ws.getD i 0 < 18446744073709551616 := by
  rw [List.getD_eq_getElem?_getD]
  rcases Nat.lt_or_ge i ws.length with hi | hi
  · rw [List.getElem?_eq_getElem hi]; exact h _ (List.getElem_mem hi)
  · rw [List.getElem?_eq_none hi]; decide
theorem W64.take {ws : List Nat} (h : W64 ws) (n : Nat) : W64 (ws.take n) := fun x hx => h x (List.mem_of_mem_take hx)
theorem has_lt {ws : List Nat} {n : Nat} (h : hasW ws n = true) : n < 64 * ws.length := by
  rcases Nat.lt_or_ge n (64 * ws.length) with hi | hi
  · exact hi
  · unfold hasW at h
    rw [List.getD_eq_getElem?_getD, List.getElem?_eq_none (by omega)] at h
    simp at h

/-- How long a row is without the zeros at its end. -/
def topW (ws : List Nat) : Nat → Nat
  | 0 => 0
  | n + 1 => if ws.getD n 0 = 0 then topW ws n else n + 1
theorem topW_le (ws : List Nat) : ∀ n, topW ws n ≤ n
  | 0 => Nat.le_refl _
  | n + 1 => by
    unfold topW
    split
    · exact Nat.le_succ_of_le (topW_le ws n)
    · exact Nat.le_refl _
theorem topW_last (ws : List Nat) : ∀ n, topW ws n = 0 ∨ ws.getD (topW ws n - 1) 0 ≠ 0
  | 0 => .inl rfl
  | n + 1 => by
    unfold topW
    split
    · exact topW_last ws n
    · exact .inr (by simpa using ‹_›)
theorem topW_zero (ws : List Nat) : ∀ n j, topW ws n ≤ j → j < n → ws.getD j 0 = 0
  | 0, j, _, h => absurd h (by omega)
  | n + 1, j, h, hj => by
    unfold topW at h
    split at h
    · by_cases e : j = n
      · subst e; assumption
      · exact topW_zero ws n j h (by omega)
    · omega
def trimW (ws : List Nat) : List Nat := ws.take (topW ws ws.length)
theorem trim_length (ws : List Nat) : (trimW ws).length = topW ws ws.length := by
  unfold trimW; rw [List.length_take]; exact Nat.min_eq_left (topW_le _ _)
theorem trim_getD (ws : List Nat) (j : Nat) : (trimW ws).getD j 0 = ws.getD j 0 := by
  by_cases h : j < topW ws ws.length
  · unfold trimW
    simp [List.getD_eq_getElem?_getD, h]
  · have h1 : (trimW ws).getD j 0 = 0 := by
      rw [List.getD_eq_getElem?_getD, List.getElem?_eq_none (by rw [trim_length]; omega)]; rfl
    rw [h1]
    by_cases h2 : j < ws.length
    · exact (topW_zero ws _ j (by omega) h2).symm
    · rw [List.getD_eq_getElem?_getD, List.getElem?_eq_none (by omega)]; rfl
theorem has_trim (ws : List Nat) (n : Nat) : hasW (trimW ws) n = hasW ws n := by unfold hasW; rw [trim_getD]

/-- A row that ends in no zero. -/
def Can (ws : List Nat) : Prop := W64 ws ∧ (ws.length = 0 ∨ ws.getD (ws.length - 1) 0 ≠ 0)
theorem can_trim {ws : List Nat} (h : W64 ws) : Can (trimW ws) := by
  refine ⟨h.take _, ?_⟩
  rw [trim_length, trim_getD]
  exact topW_last ws _
theorem trim_can {ws : List Nat} (h : Can ws) : trimW ws = ws := by
  unfold trimW
  have e : topW ws ws.length = ws.length := by
    rcases h.2 with h0 | h0
    · have := topW_le ws ws.length; omega
    · cases hn : ws.length with
      | zero => rfl
      | succ n => rw [hn] at h0; unfold topW; rw [if_neg (by simpa using h0)]
  rw [e, List.take_length]
theorem bit_of_ne {x : Nat} (h : x ≠ 0) (hx : x < 18446744073709551616) : ∃ k, k < 64 ∧ x.testBit k = true := by
  obtain ⟨k, hk⟩ := Nat.exists_testBit_of_ne_zero h
  refine ⟨k, ?_, hk⟩
  rcases Nat.lt_or_ge k 64 with h1 | h1
  · exact h1
  · have h2 : x < 2 ^ k := Nat.lt_of_lt_of_le hx (by rw [show (18446744073709551616 : Nat) = 2 ^ 64 by decide]; exact Nat.pow_le_pow_right (by decide) h1)
    rw [Nat.testBit_lt_two_pow h2] at hk
    cases hk
theorem has_mul (ws : List Nat) (i k : Nat) (hk : k < 64) : hasW ws (64 * i + k) = (ws.getD i 0).testBit k := by
  unfold hasW
  rw [show (64 * i + k) / 64 = i by omega, show (64 * i + k) % 64 = k by omega]
theorem word_ext {x y : Nat} (hx : x < 18446744073709551616) (hy : y < 18446744073709551616) (h : ∀ k, k < 64 → x.testBit k = y.testBit k) : x = y := by
  refine Nat.eq_of_testBit_eq fun k => ?_
  rcases Nat.lt_or_ge k 64 with h1 | h1
  · exact h k h1
  · have e : (18446744073709551616 : Nat) ≤ 2 ^ k := by rw [show (18446744073709551616 : Nat) = 2 ^ 64 by decide]; exact Nat.pow_le_pow_right (by decide) h1
    rw [Nat.testBit_lt_two_pow (Nat.lt_of_lt_of_le hx e), Nat.testBit_lt_two_pow (Nat.lt_of_lt_of_le hy e)]
theorem can_len {a b : List Nat} (ha : Can a) (h : ∀ n, hasW a n = true → hasW b n = true) : a.length ≤ b.length := by
  rcases ha.2 with h0 | h0
  · omega
  · rcases Nat.lt_or_ge b.length a.length with hlt | hge
    · obtain ⟨k, hk, hb⟩ := bit_of_ne h0 (ha.1.at_ _)
      have h1 := h (64 * (a.length - 1) + k) (by rw [has_mul _ _ _ hk]; exact hb)
      have := has_lt h1
      omega
    · exact hge
theorem can_ext {a b : List Nat} (ha : Can a) (hb : Can b) (h : ∀ n, hasW a n = hasW b n) : a = b := by
  have hl : a.length = b.length := Nat.le_antisymm (can_len ha fun n hn => (h n).symm.trans hn) (can_len hb fun n hn => (h n).trans hn)
  refine List.ext_getElem hl fun i h1 h2 => ?_
  have e1 : a.getD i 0 = a[i] := by rw [List.getD_eq_getElem?_getD, List.getElem?_eq_getElem h1]; rfl
  have e2 : b.getD i 0 = b[i] := by rw [List.getD_eq_getElem?_getD, List.getElem?_eq_getElem h2]; rfl
  rw [← e1, ← e2]
  exact word_ext (ha.1.at_ i) (hb.1.at_ i) fun k hk => by rw [← has_mul _ _ _ hk, ← has_mul _ _ _ hk]; exact h _

/-- The number whose bits are given. -/
def bitsF (f : Nat → Bool) : Nat → Nat
  | 0 => 0
  | k + 1 => (if f k then 2 ^ k else 0) + bitsF f k
theorem bitsF_lt (f : Nat → Bool) : ∀ k, bitsF f k < 2 ^ k
  | 0 => by simp [bitsF]
  | k + 1 => by
    have := bitsF_lt f k
    unfold bitsF
    rw [Nat.pow_succ]
    split <;> omega
theorem bitsF_bit (f : Nat → Bool) : ∀ k n, (bitsF f k).testBit n = (decide (n < k) && f n)
  | 0, n => by simp [bitsF]
  | k + 1, n => by
    have hlt := bitsF_lt f k
    unfold bitsF
    by_cases hf : f k = true
    · rw [if_pos hf]
      rcases Nat.lt_trichotomy n k with h | h | h
      · rw [Nat.testBit_two_pow_add_gt h, bitsF_bit f k n]
        simp [h, Nat.lt_succ_of_lt h]
      · subst h
        rw [Nat.testBit_two_pow_add_eq, bitsF_bit f n n]
        simp [hf]
      · rw [Nat.testBit_lt_two_pow (x := 2 ^ k + bitsF f k) (Nat.lt_of_lt_of_le (m := 2 ^ (k + 1)) (by rw [Nat.pow_succ]; omega) (Nat.pow_le_pow_right (by decide) h))]
        simp [show ¬ n < k + 1 by omega]
    · rw [if_neg hf, Nat.zero_add, bitsF_bit f k n]
      rcases Nat.lt_trichotomy n k with h | h | h
      · simp [h, Nat.lt_succ_of_lt h]
      · subst h; simp [hf]
      · simp [show ¬ n < k by omega, show ¬ n < k + 1 by omega]
def rowF (f : Nat → Bool) : List Nat := (List.range 157).map fun i => bitsF (fun k => f (64 * i + k)) 64
theorem rowF_64 (f : Nat → Bool) : W64 (rowF f) := by
  intro x hx
  unfold rowF at hx
  obtain ⟨i, _, rfl⟩ := List.mem_map.1 hx
  exact bitsF_lt _ 64
theorem rowF_length (f : Nat → Bool) : (rowF f).length = 157 := by unfold rowF; simp
theorem has_rowF (f : Nat → Bool) (n : Nat) : hasW (rowF f) n = (decide (n < 10048) && f n) := by
  unfold hasW rowF
  rcases Nat.lt_or_ge (n / 64) 157 with h | h
  · have e : ((List.range 157).map fun i => bitsF (fun k => f (64 * i + k)) 64).getD (n / 64) 0 = bitsF (fun k => f (64 * (n / 64) + k)) 64 := by
      rw [List.getD_eq_getElem?_getD, List.getElem?_map, List.getElem?_range h]; rfl
    rw [e, bitsF_bit, show 64 * (n / 64) + n % 64 = n by omega]
    simp [Nat.mod_lt, show n < 10048 by omega]
  · rw [List.getD_eq_getElem?_getD, List.getElem?_eq_none (by simpa using h)]
    simp [show ¬ n < 10048 by omega]

/-- The set of the numbers of which f is true, up to the last one that may be. -/
def setW (f : Nat → Bool) : List Nat := trimW (rowF f)
theorem can_set (f : Nat → Bool) : Can (setW f) := can_trim (rowF_64 f)
theorem has_set (f : Nat → Bool) (n : Nat) : hasW (setW f) n = (decide (n < 10048) && f n) := by unfold setW; rw [has_trim, has_rowF]
theorem set_len (f : Nat → Bool) : (setW f).length ≤ 157 := by
  unfold setW; rw [trim_length]; exact Nat.le_trans (topW_le _ _) (by rw [rowF_length]; exact Nat.le_refl _)
theorem set_of {ws : List Nat} {f : Nat → Bool} (h : Can ws) (hf : ∀ n, hasW ws n = (decide (n < 10048) && f n)) : ws = setW f :=
  can_ext h (can_set f) fun n => by rw [hf, has_set]
theorem trim_set {ws : List Nat} {f : Nat → Bool} (h : W64 ws) (hf : ∀ n, hasW ws n = (decide (n < 10048) && f n)) : trimW ws = setW f :=
  set_of (can_trim h) fun n => by rw [has_trim, hf]
theorem set_has {ws : List Nat} (h : Can ws) (hl : ws.length ≤ 157) : ws = setW (hasW ws) :=
  set_of h fun n => by
    cases hb : hasW ws n with
    | false => simp
    | true => have := has_lt hb; simp; omega
theorem set_inj {f g : Nat → Bool} (h : setW f = setW g) {n : Nat} (hn : n < 10048) : f n = g n := by
  have := congrArg (fun ws => hasW ws n) h
  simpa [has_set, hn] using this
theorem set_congr {f g : Nat → Bool} (h : ∀ n, n < 10048 → f n = g n) : setW f = setW g :=
  set_of (can_set f) fun n => by
    rw [has_set]
    by_cases hn : n < 10048
    · rw [h n hn]
    · simp [hn]
theorem set_none {f : Nat → Bool} (h : ∀ n, n < 10048 → f n = false) : setW f = [] := by
  refine (set_of (ws := []) ⟨by intro x hx; simp at hx, .inl rfl⟩ fun n => ?_).symm
  by_cases hn : n < 10048
  · rw [h n hn]; simp [hasW]
  · simp [hasW, hn]
theorem set_empty {f : Nat → Bool} (h : setW f = []) {n : Nat} (hn : n < 10048) : f n = false := by
  have := has_set f n
  rw [h] at this
  simpa [hasW, hn] using this.symm

/-- May a row of words be? -/
def rightW (ws : List Nat) : Bool := decide (ws.length = 0) || (!decide (ws.getD (ws.length - 1) 0 = 0) && decide (64 * (ws.length - 1) + bitLen (ws.getD (ws.length - 1) 0) ≤ 10000))
def effW (ws : List Nat) : List Nat := if rightW ws then ws else []
theorem eff_64 {ws : List Nat} (h : W64 ws) : W64 (effW ws) := by
  unfold effW; split
  · exact h
  · intro x hx; simp at hx
theorem eff_can {ws : List Nat} (h : W64 ws) : Can (effW ws) := by
  refine ⟨eff_64 h, ?_⟩
  unfold effW
  by_cases hr : rightW ws = true
  · rw [if_pos hr]
    unfold rightW at hr
    simp only [Bool.or_eq_true, Bool.and_eq_true, Bool.not_eq_true', decide_eq_true_eq, decide_eq_false_iff_not] at hr
    rcases hr with h0 | ⟨h0, _⟩
    · exact .inl h0
    · exact .inr h0
  · rw [if_neg hr]; exact .inl rfl
theorem right_len {ws : List Nat} (hr : rightW ws = true) : ws.length ≤ 157 := by
  unfold rightW at hr
  simp only [Bool.or_eq_true, Bool.and_eq_true, Bool.not_eq_true', decide_eq_true_eq, decide_eq_false_iff_not] at hr
  rcases hr with h0 | ⟨h0, h1⟩
  · omega
  · have h2 := (bitLen_spec (ws.getD (ws.length - 1) 0)).1
    have h3 : 1 ≤ bitLen (ws.getD (ws.length - 1) 0) := by
      rcases Nat.eq_zero_or_pos (bitLen (ws.getD (ws.length - 1) 0)) with e | e
      · rw [e] at h2; omega
      · exact e
    omega
theorem right_has {ws : List Nat} (hr : rightW ws = true) {n : Nat} (hn : hasW ws n = true) : n < 10000 := by
  have hlt := has_lt hn
  unfold rightW at hr
  simp only [Bool.or_eq_true, Bool.and_eq_true, Bool.not_eq_true', decide_eq_true_eq, decide_eq_false_iff_not] at hr
  rcases hr with h0 | ⟨h0, h1⟩
  · omega
  · have h2 := (bitLen_spec (ws.getD (ws.length - 1) 0)).1
    have h3 : 1 ≤ bitLen (ws.getD (ws.length - 1) 0) := by
      rcases Nat.eq_zero_or_pos (bitLen (ws.getD (ws.length - 1) 0)) with e | e
      · rw [e] at h2; omega
      · exact e
    by_cases hq : n / 64 = ws.length - 1
    · unfold hasW at hn
      rw [hq] at hn
      have h4 : n % 64 < bitLen (ws.getD (ws.length - 1) 0) := by
        rcases Nat.lt_or_ge (n % 64) (bitLen (ws.getD (ws.length - 1) 0)) with h | h
        · exact h
        · rw [Nat.testBit_lt_two_pow (Nat.lt_of_lt_of_le h2 (Nat.pow_le_pow_right (by decide) h))] at hn
          cases hn
      omega
    · omega
theorem right_of {ws : List Nat} (h : W64 ws) (hl : ws.length = 0 ∨ ws.getD (ws.length - 1) 0 ≠ 0) (hn : ∀ n, hasW ws n = true → n < 10000) : rightW ws = true := by
  unfold rightW
  simp only [Bool.or_eq_true, Bool.and_eq_true, Bool.not_eq_true', decide_eq_true_eq, decide_eq_false_iff_not]
  rcases hl with h0 | h0
  · exact .inl h0
  · refine .inr ⟨h0, ?_⟩
    have hx := h.at_ (ws.length - 1)
    obtain ⟨h2, h3⟩ := bitLen_spec (ws.getD (ws.length - 1) 0)
    have h3 := h3 h0
    have hb : bitLen (ws.getD (ws.length - 1) 0) ≤ 64 := by
      rcases Nat.lt_or_ge 64 (bitLen (ws.getD (ws.length - 1) 0)) with h | h
      · have := Nat.lt_of_le_of_lt h3 hx
        rw [show (18446744073709551616 : Nat) = 2 ^ 64 by decide] at this
        have := (Nat.pow_lt_pow_iff_right (a := 2) (by decide)).1 this
        omega
      · exact h
    rcases Nat.eq_zero_or_pos (bitLen (ws.getD (ws.length - 1) 0)) with e | e
    · rw [e] at h2; omega
    · have ht : (ws.getD (ws.length - 1) 0).testBit (bitLen (ws.getD (ws.length - 1) 0) - 1) = true := by
        rw [Nat.testBit_eq_decide_div_mod_eq]
        have hp : 0 < 2 ^ (bitLen (ws.getD (ws.length - 1) 0) - 1) := Nat.two_pow_pos _
        have e2 : ws.getD (ws.length - 1) 0 / 2 ^ (bitLen (ws.getD (ws.length - 1) 0) - 1) = 1 := by
          refine Nat.div_eq_of_lt_le (by omega) ?_
          have : 2 ^ bitLen (ws.getD (ws.length - 1) 0) = 2 ^ (bitLen (ws.getD (ws.length - 1) 0) - 1) * 2 := by rw [← Nat.pow_succ]; congr 1; omega
          omega
        rw [e2]; decide
      have h4 := hn (64 * (ws.length - 1) + (bitLen (ws.getD (ws.length - 1) 0) - 1)) (by rw [has_mul _ _ _ (by omega)]; exact ht)
      omega

/-- The numbers of a row that may be; of another one: none. -/
def inW (ws : List Nat) (n : Nat) : Bool := hasW (effW ws) n
theorem in_lt {ws : List Nat} {n : Nat} (h : inW ws n = true) : n < 10000 := by
  unfold inW effW at h
  by_cases hr : rightW ws = true
  · rw [if_pos hr] at h; exact right_has hr h
  · rw [if_neg hr] at h; simp [hasW] at h
theorem in_ge {ws : List Nat} {n : Nat} (h : 10000 ≤ n) : inW ws n = false := by
  cases hb : inW ws n with
  | false => rfl
  | true => have := in_lt hb; omega
theorem eff_len (ws : List Nat) : (effW ws).length ≤ 157 := by
  unfold effW; split
  · exact right_len ‹_›
  · simp
theorem eff_set {ws : List Nat} (h : W64 ws) : effW ws = setW (inW ws) := set_has (eff_can h) (eff_len ws)
theorem eff_of_set {f : Nat → Bool} (hf : ∀ n, f n = true → n < 10000) : effW (setW f) = setW f := by
  unfold effW
  rw [if_pos]
  exact right_of (can_set f).1 (can_set f).2 fun n hn => hf n (by rw [has_set] at hn; simp at hn; exact hn.2)
theorem right_set {f : Nat → Bool} (hf : ∀ n, f n = true → n < 10000) : rightW (setW f) = true :=
  right_of (can_set f).1 (can_set f).2 fun n hn => hf n (by rw [has_set] at hn; simp at hn; exact hn.2)
theorem in_set {f : Nat → Bool} (hf : ∀ n, f n = true → n < 10000) (n : Nat) : inW (setW f) n = f n := by
  unfold inW
  rw [eff_of_set hf, has_set]
  cases hb : f n with
  | false => simp
  | true => have := hf n hb; simp; omega

/-- The numbers of which f is true, rising. -/
def numsF (f : Nat → Bool) : List Nat := (List.range 10048).filter f
theorem mem_nums {f : Nat → Bool} {n : Nat} : n ∈ numsF f ↔ n < 10048 ∧ f n = true := by unfold numsF; simp
theorem nums_sorted (f : Nat → Bool) : (numsF f).Pairwise (· < ·) := List.Pairwise.filter _ List.pairwise_lt_range
theorem nums_congr {f g : Nat → Bool} (h : ∀ n, n < 10048 → f n = g n) : numsF f = numsF g := by
  unfold numsF
  exact List.filter_congr fun n hn => h n (by simpa using hn)
theorem nums_len (f : Nat → Bool) : (numsF f).length ≤ 10048 := by
  unfold numsF; exact Nat.le_trans (List.length_filter_le _ _) (by simp)
end Go.Proofs.YtpkpfnilfabkaaaDoor
