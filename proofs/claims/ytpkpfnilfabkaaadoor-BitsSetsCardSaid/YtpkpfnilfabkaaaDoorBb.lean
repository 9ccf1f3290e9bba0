/- Plain facts on how many bits of a word are 1: the sum of neighbours, by twos, fours and bytes. -/
import Derived.Test.YtpkpfnilfabkaaaDoorBa
namespace Go.Proofs.YtpkpfnilfabkaaaDoor

/-- How many of the lowest k bits are 1. -/
def cnt (x : Nat) : Nat → Nat
  | 0 => 0
  | k + 1 => x % 2 + cnt (x / 2) k
theorem cnt_le (x k : Nat) : cnt x k ≤ k := by
  induction k generalizing x with
  | zero => exact Nat.le_refl _
  | succ k ih => unfold cnt; have := ih (x / 2); omega
theorem cnt_zero (k : Nat) : cnt 0 k = 0 := by
  induction k with
  | zero => rfl
  | succ k ih => unfold cnt; simp [ih]
theorem cnt_add (x j k : Nat) : cnt x (j + k) = cnt x j + cnt (x / 2 ^ j) k := by
  induction j generalizing x with
  | zero => simp [cnt]
  | succ j ih =>
    rw [show j + 1 + k = (j + k) + 1 by omega]
    show x % 2 + cnt (x / 2) (j + k) = x % 2 + cnt (x / 2) j + _
    rw [ih, Nat.div_div_eq_div_mul, ← Nat.pow_succ', Nat.add_assoc]
theorem cnt_mod (x k : Nat) : cnt (x % 2 ^ k) k = cnt x k := by
  induction k generalizing x with
  | zero => rfl
  | succ k ih =>
    show x % 2 ^ (k + 1) % 2 + cnt (x % 2 ^ (k + 1) / 2) k = x % 2 + cnt (x / 2) k
    have e1 : x % 2 ^ (k + 1) % 2 = x % 2 := Nat.mod_mod_of_dvd x (by rw [Nat.pow_succ]; exact Nat.dvd_mul_left 2 _)
    have e2 : x % 2 ^ (k + 1) / 2 = x / 2 % 2 ^ k := by rw [Nat.pow_succ', Nat.mod_mul_right_div_self]
    rw [e1, e2, ih]
theorem cnt_filter (x k : Nat) : ((List.range k).filter fun i => x.testBit i).length = cnt x k := by
  induction k generalizing x with
  | zero => rfl
  | succ k ih =>
    rw [List.range_succ_eq_map, List.filter_cons, List.filter_map]
    have e : (List.filter ((fun i => x.testBit i) ∘ Nat.succ) (List.range k)).length = cnt (x / 2) k := by
      rw [← ih (x / 2)]
      congr 1
      refine List.filter_congr fun i _ => ?_
      simp [Nat.testBit_succ]
    show _ = x % 2 + cnt (x / 2) k
    rw [← e]
    by_cases h : x.testBit 0 = true
    · rw [if_pos h]
      have : x % 2 = 1 := by simpa [Nat.testBit_zero] using h
      rw [this, List.length_cons, List.length_map]; omega
    · rw [if_neg h]
      have : x % 2 = 0 := by simp [Nat.testBit_zero] at h; omega
      rw [this, List.length_map]; omega

theorem and_split (a b c d : Nat) (hb : b < 256) (hd : d < 256) : (b + 256 * a) &&& (d + 256 * c) = (b &&& d) + 256 * (a &&& c) := by
  have hbd : b &&& d < 2 ^ 8 := Nat.and_lt_two_pow _ hd
  refine Nat.eq_of_testBit_eq fun i => ?_
  rw [Nat.testBit_and, show b + 256 * a = 2 ^ 8 * a + b by omega, show d + 256 * c = 2 ^ 8 * c + d by omega, show (b &&& d) + 256 * (a &&& c) = 2 ^ 8 * (a &&& c) + (b &&& d) by omega,
    Nat.testBit_two_pow_mul_add _ hb, Nat.testBit_two_pow_mul_add _ hd, Nat.testBit_two_pow_mul_add _ hbd]
  split <;> simp [Nat.testBit_and]

def by8 (b0 b1 b2 b3 b4 b5 b6 b7 : Nat) : Nat := b0 + 256 * (b1 + 256 * (b2 + 256 * (b3 + 256 * (b4 + 256 * (b5 + 256 * (b6 + 256 * b7))))))
theorem and8 {m b0 b1 b2 b3 b4 b5 b6 b7 : Nat} (hm : m < 256) (h0 : b0 < 256) (h1 : b1 < 256) (h2 : b2 < 256) (h3 : b3 < 256) (h4 : b4 < 256) (h5 : b5 < 256) (h6 : b6 < 256) :
    by8 b0 b1 b2 b3 b4 b5 b6 b7 &&& by8 m m m m m m m m = by8 (b0 &&& m) (b1 &&& m) (b2 &&& m) (b3 &&& m) (b4 &&& m) (b5 &&& m) (b6 &&& m) (b7 &&& m) := by
  unfold by8
  rw [and_split _ _ _ _ h0 hm, and_split _ _ _ _ h1 hm, and_split _ _ _ _ h2 hm, and_split _ _ _ _ h3 hm, and_split _ _ _ _ h4 hm, and_split _ _ _ _ h5 hm, and_split _ _ _ _ h6 hm]

def s1 (b : Nat) : Nat := (b / 2 &&& 85) + (b &&& 85)
def s2 (b : Nat) : Nat := (b / 4 &&& 51) + (b &&& 51)
theorem s1_top : ∀ b : Fin 256, ∀ t : Fin 2, ((b.1 / 2 + 128 * t.1) &&& 85) = (b.1 / 2 &&& 85) := by decide +kernel
theorem s2_top : ∀ b : Fin 256, ∀ t : Fin 4, ((b.1 / 4 + 64 * t.1) &&& 51) = (b.1 / 4 &&& 51) := by decide +kernel
theorem s1_lt : ∀ b : Fin 256, s1 b.1 < 256 := by decide +kernel
theorem s2_lt : ∀ b : Fin 256, s2 (s1 b.1) < 69 := by decide +kernel
theorem s3_top : ∀ b : Fin 69, ∀ t : Fin 5, ((b.1 / 16 + 16 * t.1 + b.1) &&& 15) = (b.1 / 16 + b.1) &&& 15 := by decide +kernel
theorem s2_mod : ∀ b : Fin 256, s2 (s1 b.1) % 16 < 5 := by decide +kernel
theorem s3_cnt : ∀ b : Fin 256, ((s2 (s1 b.1) / 16 + s2 (s1 b.1)) &&& 15) = cnt b.1 8 := by decide +kernel

theorem step1 {b0 b1 b2 b3 b4 b5 b6 b7 : Nat} (h0 : b0 < 256) (h1 : b1 < 256) (h2 : b2 < 256) (h3 : b3 < 256) (h4 : b4 < 256) (h5 : b5 < 256) (h6 : b6 < 256) (_ : b7 < 256) :
    (by8 b0 b1 b2 b3 b4 b5 b6 b7 / 2 &&& 6148914691236517205) + (by8 b0 b1 b2 b3 b4 b5 b6 b7 &&& 6148914691236517205) = by8 (s1 b0) (s1 b1) (s1 b2) (s1 b3) (s1 b4) (s1 b5) (s1 b6) (s1 b7) := by
  have e : by8 b0 b1 b2 b3 b4 b5 b6 b7 / 2 = by8 (b0 / 2 + 128 * (b1 % 2)) (b1 / 2 + 128 * (b2 % 2)) (b2 / 2 + 128 * (b3 % 2)) (b3 / 2 + 128 * (b4 % 2)) (b4 / 2 + 128 * (b5 % 2)) (b5 / 2 + 128 * (b6 % 2)) (b6 / 2 + 128 * (b7 % 2)) (b7 / 2) := by
    unfold by8; omega
  have em : (6148914691236517205 : Nat) = by8 85 85 85 85 85 85 85 85 := by decide
  rw [e, em, and8 (by omega) (by omega) (by omega) (by omega) (by omega) (by omega) (by omega) (by omega), and8 (by omega) h0 h1 h2 h3 h4 h5 h6,
    s1_top ⟨b0, h0⟩ ⟨b1 % 2, Nat.mod_lt _ (by omega)⟩, s1_top ⟨b1, h1⟩ ⟨b2 % 2, Nat.mod_lt _ (by omega)⟩, s1_top ⟨b2, h2⟩ ⟨b3 % 2, Nat.mod_lt _ (by omega)⟩, s1_top ⟨b3, h3⟩ ⟨b4 % 2, Nat.mod_lt _ (by omega)⟩,
    s1_top ⟨b4, h4⟩ ⟨b5 % 2, Nat.mod_lt _ (by omega)⟩, s1_top ⟨b5, h5⟩ ⟨b6 % 2, Nat.mod_lt _ (by omega)⟩, s1_top ⟨b6, h6⟩ ⟨b7 % 2, Nat.mod_lt _ (by omega)⟩]
  dsimp only
  unfold by8 s1
  omega
theorem step2 {b0 b1 b2 b3 b4 b5 b6 b7 : Nat} (h0 : b0 < 256) (h1 : b1 < 256) (h2 : b2 < 256) (h3 : b3 < 256) (h4 : b4 < 256) (h5 : b5 < 256) (h6 : b6 < 256) (_ : b7 < 256) :
    (by8 b0 b1 b2 b3 b4 b5 b6 b7 / 4 &&& 3689348814741910323) + (by8 b0 b1 b2 b3 b4 b5 b6 b7 &&& 3689348814741910323) = by8 (s2 b0) (s2 b1) (s2 b2) (s2 b3) (s2 b4) (s2 b5) (s2 b6) (s2 b7) := by
  have e : by8 b0 b1 b2 b3 b4 b5 b6 b7 / 4 = by8 (b0 / 4 + 64 * (b1 % 4)) (b1 / 4 + 64 * (b2 % 4)) (b2 / 4 + 64 * (b3 % 4)) (b3 / 4 + 64 * (b4 % 4)) (b4 / 4 + 64 * (b5 % 4)) (b5 / 4 + 64 * (b6 % 4)) (b6 / 4 + 64 * (b7 % 4)) (b7 / 4) := by
    unfold by8; omega
  have em : (3689348814741910323 : Nat) = by8 51 51 51 51 51 51 51 51 := by decide
  rw [e, em, and8 (by omega) (by omega) (by omega) (by omega) (by omega) (by omega) (by omega) (by omega), and8 (by omega) h0 h1 h2 h3 h4 h5 h6,
    s2_top ⟨b0, h0⟩ ⟨b1 % 4, Nat.mod_lt _ (by omega)⟩, s2_top ⟨b1, h1⟩ ⟨b2 % 4, Nat.mod_lt _ (by omega)⟩, s2_top ⟨b2, h2⟩ ⟨b3 % 4, Nat.mod_lt _ (by omega)⟩, s2_top ⟨b3, h3⟩ ⟨b4 % 4, Nat.mod_lt _ (by omega)⟩,
    s2_top ⟨b4, h4⟩ ⟨b5 % 4, Nat.mod_lt _ (by omega)⟩, s2_top ⟨b5, h5⟩ ⟨b6 % 4, Nat.mod_lt _ (by omega)⟩, s2_top ⟨b6, h6⟩ ⟨b7 % 4, Nat.mod_lt _ (by omega)⟩]
  dsimp only
  unfold by8 s2
  omega
theorem step3 {b0 b1 b2 b3 b4 b5 b6 b7 : Nat} (h0 : b0 < 69) (h1 : b1 < 69) (h2 : b2 < 69) (h3 : b3 < 69) (h4 : b4 < 69) (h5 : b5 < 69) (h6 : b6 < 69) (_ : b7 < 69)
    (g1 : b1 % 16 < 5) (g2 : b2 % 16 < 5) (g3 : b3 % 16 < 5) (g4 : b4 % 16 < 5) (g5 : b5 % 16 < 5) (g6 : b6 % 16 < 5) (g7 : b7 % 16 < 5) :
    ((by8 b0 b1 b2 b3 b4 b5 b6 b7 / 16 + by8 b0 b1 b2 b3 b4 b5 b6 b7) &&& 1085102592571150095) =
      by8 ((b0 / 16 + b0) &&& 15) ((b1 / 16 + b1) &&& 15) ((b2 / 16 + b2) &&& 15) ((b3 / 16 + b3) &&& 15) ((b4 / 16 + b4) &&& 15) ((b5 / 16 + b5) &&& 15) ((b6 / 16 + b6) &&& 15) ((b7 / 16 + b7) &&& 15) := by
  have e : by8 b0 b1 b2 b3 b4 b5 b6 b7 / 16 + by8 b0 b1 b2 b3 b4 b5 b6 b7 = by8 (b0 / 16 + 16 * (b1 % 16) + b0) (b1 / 16 + 16 * (b2 % 16) + b1) (b2 / 16 + 16 * (b3 % 16) + b2) (b3 / 16 + 16 * (b4 % 16) + b3) (b4 / 16 + 16 * (b5 % 16) + b4) (b5 / 16 + 16 * (b6 % 16) + b5) (b6 / 16 + 16 * (b7 % 16) + b6) (b7 / 16 + b7) := by
    unfold by8; omega
  have em : (1085102592571150095 : Nat) = by8 15 15 15 15 15 15 15 15 := by decide
  rw [e, em, and8 (by omega) (by omega) (by omega) (by omega) (by omega) (by omega) (by omega) (by omega),
    s3_top ⟨b0, h0⟩ ⟨b1 % 16, g1⟩, s3_top ⟨b1, h1⟩ ⟨b2 % 16, g2⟩, s3_top ⟨b2, h2⟩ ⟨b3 % 16, g3⟩, s3_top ⟨b3, h3⟩ ⟨b4 % 16, g4⟩, s3_top ⟨b4, h4⟩ ⟨b5 % 16, g5⟩, s3_top ⟨b5, h5⟩ ⟨b6 % 16, g6⟩, s3_top ⟨b6, h6⟩ ⟨b7 % 16, g7⟩]

def t1 (x : Nat) : Nat := (x / 2 &&& 6148914691236517205) + (x &&& 6148914691236517205)
def t2 (x : Nat) : Nat := (x / 4 &&& 3689348814741910323) + (x &&& 3689348814741910323)
def t3 (x : Nat) : Nat := (x / 16 + x) &&& 1085102592571150095
theorem bytes_of (x : Nat) (h : x < 18446744073709551616) : ∃ b0 b1 b2 b3 b4 b5 b6 b7, b0 < 256 ∧ b1 < 256 ∧ b2 < 256 ∧ b3 < 256 ∧ b4 < 256 ∧ b5 < 256 ∧ b6 < 256 ∧ b7 < 256 ∧ x = by8 b0 b1 b2 b3 b4 b5 b6 b7 :=
  ⟨x % 256, x / 256 % 256, x / 65536 % 256, x / 16777216 % 256, x / 4294967296 % 256, x / 1099511627776 % 256, x / 281474976710656 % 256, x / 72057594037927936, by omega, by omega, by omega, by omega, by omega, by omega, by omega, by omega, by unfold by8; omega⟩
theorem cnt_by8 {b0 b1 b2 b3 b4 b5 b6 b7 : Nat} (h0 : b0 < 256) (h1 : b1 < 256) (h2 : b2 < 256) (h3 : b3 < 256) (h4 : b4 < 256) (h5 : b5 < 256) (h6 : b6 < 256) (_ : b7 < 256) :
    cnt (by8 b0 b1 b2 b3 b4 b5 b6 b7) 64 = cnt b0 8 + cnt b1 8 + cnt b2 8 + cnt b3 8 + cnt b4 8 + cnt b5 8 + cnt b6 8 + cnt b7 8 := by
  have one : ∀ b a k, b < 256 → cnt (b + 256 * a) (8 + k) = cnt b 8 + cnt a k := fun b a k hb => by
    rw [cnt_add, ← cnt_mod (b + 256 * a) 8, show (b + 256 * a) % 2 ^ 8 = b by omega, show (b + 256 * a) / 2 ^ 8 = a by omega]
  unfold by8
  rw [show 64 = 8 + (8 + (8 + (8 + (8 + (8 + (8 + 8)))))) from rfl, one _ _ _ h0, one _ _ _ h1, one _ _ _ h2, one _ _ _ h3, one _ _ _ h4, one _ _ _ h5, one _ _ _ h6]
  omega
theorem sum8 {p0 p1 p2 p3 p4 p5 p6 p7 y : Nat} (h0 : p0 ≤ 8) (h1 : p1 ≤ 8) (h2 : p2 ≤ 8) (h3 : p3 ≤ 8) (h4 : p4 ≤ 8) (h5 : p5 ≤ 8) (h6 : p6 ≤ 8) (h7 : p7 ≤ 8) (hy : y = by8 p0 p1 p2 p3 p4 p5 p6 p7) :
    y < 9223372036854775808 ∧ y + y / 256 < 9223372036854775808 ∧ (y + y / 256) + (y + y / 256) / 65536 < 9223372036854775808 ∧
    ((y + y / 256) + (y + y / 256) / 65536) + ((y + y / 256) + (y + y / 256) / 65536) / 4294967296 < 9223372036854775808 ∧
    (((y + y / 256) + (y + y / 256) / 65536) + ((y + y / 256) + (y + y / 256) / 65536) / 4294967296) % 128 = p0 + p1 + p2 + p3 + p4 + p5 + p6 + p7 := by
  unfold by8 at hy
  have e1 : y + y / 256 = (p0 + p1) + 256 * ((p1 + p2) + 256 * ((p2 + p3) + 256 * ((p3 + p4) + 256 * ((p4 + p5) + 256 * ((p5 + p6) + 256 * ((p6 + p7) + 256 * p7)))))) := by omega
  have hy' : y < 9223372036854775808 := by omega
  generalize y + y / 256 = y1 at *
  clear hy
  have e2 : y1 + y1 / 65536 = (p0 + p1 + p2 + p3) + 256 * ((p1 + p2 + p3 + p4) + 256 * ((p2 + p3 + p4 + p5) + 256 * ((p3 + p4 + p5 + p6) + 256 * ((p4 + p5 + p6 + p7) + 256 * ((p5 + p6 + p7) + 256 * ((p6 + p7) + 256 * p7)))))) := by omega
  have hy1 : y1 < 9223372036854775808 := by omega
  generalize y1 + y1 / 65536 = y2 at *
  clear e1
  have e3 : y2 + y2 / 4294967296 = (p0 + p1 + p2 + p3 + p4 + p5 + p6 + p7) + 256 * ((p1 + p2 + p3 + p4 + p5 + p6 + p7) + 256 * ((p2 + p3 + p4 + p5 + p6 + p7) + 256 * ((p3 + p4 + p5 + p6 + p7) + 256 * ((p4 + p5 + p6 + p7) + 256 * ((p5 + p6 + p7) + 256 * ((p6 + p7) + 256 * p7)))))) := by omega
  have hy2 : y2 < 9223372036854775808 := by omega
  generalize y2 + y2 / 4294967296 = y3 at *
  clear e2
  exact ⟨hy', hy1, hy2, by omega, by omega⟩

theorem by8_lt {b0 b1 b2 b3 b4 b5 b6 b7 : Nat} (h0 : b0 < 256) (h1 : b1 < 256) (h2 : b2 < 256) (h3 : b3 < 256) (h4 : b4 < 256) (h5 : b5 < 256) (h6 : b6 < 256) (h7 : b7 < 256) : by8 b0 b1 b2 b3 b4 b5 b6 b7 < 18446744073709551616 := by
  unfold by8; omega
theorem by8_lt69 {b0 b1 b2 b3 b4 b5 b6 b7 : Nat} (h0 : b0 < 69) (h1 : b1 < 69) (h2 : b2 < 69) (h3 : b3 < 69) (h4 : b4 < 69) (h5 : b5 < 69) (h6 : b6 < 69) (h7 : b7 < 69) : by8 b0 b1 b2 b3 b4 b5 b6 b7 < 5000000000000000000 := by
  unfold by8; omega
theorem fold_cnt (x : Nat) (h : x < 18446744073709551616) :
    t1 x < 18446744073709551616 ∧ t2 (t1 x) < 18446744073709551616 ∧ t2 (t1 x) / 16 + t2 (t1 x) < 18446744073709551616 ∧ ∃ y, y = t3 (t2 (t1 x)) ∧
    y < 9223372036854775808 ∧ y + y / 256 < 9223372036854775808 ∧ (y + y / 256) + (y + y / 256) / 65536 < 9223372036854775808 ∧
    ((y + y / 256) + (y + y / 256) / 65536) + ((y + y / 256) + (y + y / 256) / 65536) / 4294967296 < 9223372036854775808 ∧
    (((y + y / 256) + (y + y / 256) / 65536) + ((y + y / 256) + (y + y / 256) / 65536) / 4294967296) % 128 = cnt x 64 := by
  obtain ⟨b0, b1, b2, b3, b4, b5, b6, b7, h0, h1, h2, h3, h4, h5, h6, h7, rfl⟩ := bytes_of x h
  have e1 : t1 (by8 b0 b1 b2 b3 b4 b5 b6 b7) = by8 (s1 b0) (s1 b1) (s1 b2) (s1 b3) (s1 b4) (s1 b5) (s1 b6) (s1 b7) := step1 h0 h1 h2 h3 h4 h5 h6 h7
  have l0 := s1_lt ⟨b0, h0⟩
  have l1 := s1_lt ⟨b1, h1⟩
  have l2 := s1_lt ⟨b2, h2⟩
  have l3 := s1_lt ⟨b3, h3⟩
  have l4 := s1_lt ⟨b4, h4⟩
  have l5 := s1_lt ⟨b5, h5⟩
  have l6 := s1_lt ⟨b6, h6⟩
  have l7 := s1_lt ⟨b7, h7⟩
  have e2 : t2 (t1 (by8 b0 b1 b2 b3 b4 b5 b6 b7)) = by8 (s2 (s1 b0)) (s2 (s1 b1)) (s2 (s1 b2)) (s2 (s1 b3)) (s2 (s1 b4)) (s2 (s1 b5)) (s2 (s1 b6)) (s2 (s1 b7)) := by rw [e1]; exact step2 l0 l1 l2 l3 l4 l5 l6 l7
  have q0 := s2_lt ⟨b0, h0⟩
  have q1 := s2_lt ⟨b1, h1⟩
  have q2 := s2_lt ⟨b2, h2⟩
  have q3 := s2_lt ⟨b3, h3⟩
  have q4 := s2_lt ⟨b4, h4⟩
  have q5 := s2_lt ⟨b5, h5⟩
  have q6 := s2_lt ⟨b6, h6⟩
  have q7 := s2_lt ⟨b7, h7⟩
  have e3 : t3 (t2 (t1 (by8 b0 b1 b2 b3 b4 b5 b6 b7))) = by8 (cnt b0 8) (cnt b1 8) (cnt b2 8) (cnt b3 8) (cnt b4 8) (cnt b5 8) (cnt b6 8) (cnt b7 8) := by
    rw [e2]
    refine (step3 q0 q1 q2 q3 q4 q5 q6 q7 (s2_mod ⟨b1, h1⟩) (s2_mod ⟨b2, h2⟩) (s2_mod ⟨b3, h3⟩) (s2_mod ⟨b4, h4⟩) (s2_mod ⟨b5, h5⟩) (s2_mod ⟨b6, h6⟩) (s2_mod ⟨b7, h7⟩)).trans ?_
    have c0 := s3_cnt ⟨b0, h0⟩
    have c1 := s3_cnt ⟨b1, h1⟩
    have c2 := s3_cnt ⟨b2, h2⟩
    have c3 := s3_cnt ⟨b3, h3⟩
    have c4 := s3_cnt ⟨b4, h4⟩
    have c5 := s3_cnt ⟨b5, h5⟩
    have c6 := s3_cnt ⟨b6, h6⟩
    have c7 := s3_cnt ⟨b7, h7⟩
    dsimp only at c0 c1 c2 c3 c4 c5 c6 c7
    rw [c0, c1, c2, c3, c4, c5, c6, c7]
  have hs := sum8 (cnt_le b0 8) (cnt_le b1 8) (cnt_le b2 8) (cnt_le b3 8) (cnt_le b4 8) (cnt_le b5 8) (cnt_le b6 8) (cnt_le b7 8) e3
  rw [cnt_by8 h0 h1 h2 h3 h4 h5 h6 h7]
  dsimp only at q0 q1 q2 q3 q4 q5 q6 q7 l0 l1 l2 l3 l4 l5 l6 l7
  have m1 := by8_lt l0 l1 l2 l3 l4 l5 l6 l7
  have m2 := by8_lt69 q0 q1 q2 q3 q4 q5 q6 q7
  rw [← e1] at m1
  rw [← e2] at m2
  generalize t2 (t1 (by8 b0 b1 b2 b3 b4 b5 b6 b7)) = z at *
  exact ⟨m1, by omega, by omega, _, rfl, hs⟩

/-- How many numbers a row has: the ones of all its words. -/
def cntW (ws : List Nat) : Nat := (ws.map fun x => cnt x 64).sum
theorem cnt_nums (ws : List Nat) : ((List.range (64 * ws.length)).filter (hasW ws)).length = cntW ws := by
  suffices h : ∀ k, k ≤ ws.length → ((List.range (64 * k)).filter (hasW ws)).length = cntW (ws.take k) by
    have := h ws.length (Nat.le_refl _)
    rwa [List.take_length] at this
  intro k
  induction k with
  | zero => intro _; simp [cntW]
  | succ k ih =>
    intro hk
    rw [show 64 * (k + 1) = 64 * k + 64 by omega, List.range_add, List.filter_append, List.length_append, ih (by omega)]
    have e : (List.filter (hasW ws) ((List.range 64).map (64 * k + ·))).length = cnt (ws.getD k 0) 64 := by
      rw [List.filter_map, List.length_map, ← cnt_filter]
      congr 1
      refine List.filter_congr fun i hi => ?_
      simp only [Function.comp_apply]
      exact has_mul ws k i (by simpa using hi)
    rw [e, List.take_succ_eq_append_getElem (show k < ws.length by omega)]
    unfold cntW
    rw [List.map_append, List.sum_append, List.getD_eq_getElem?_getD, List.getElem?_eq_getElem (show k < ws.length by omega)]
    simp
theorem nums_range {f : Nat → Bool} {k : Nat} (hk : k ≤ 10048) (h : ∀ n, f n = true → n < k) : (List.range k).filter f = numsF f := by
  unfold numsF
  conv => rhs; rw [show (10048 : Nat) = k + (10048 - k) by omega]
  rw [List.range_add, List.filter_append, List.filter_map]
  have e : (List.range (10048 - k)).filter (f ∘ (k + ·)) = [] := by
    refine List.filter_eq_nil_iff.2 fun n _ hn => ?_
    have := h _ hn
    dsimp only at this
    omega
  rw [e]
  simp
theorem count_in (ws : List Nat) : cntW (effW ws) = (numsF (inW ws)).length := by
  rw [← cnt_nums]
  have := eff_len ws
  rw [nums_range (f := hasW (effW ws)) (by omega) fun n hn => has_lt hn]
  rfl
end Go.Proofs.YtpkpfnilfabkaaaDoor
