/- Layer digit: what times and Mul give, as contracts of the translated calls. -/
import Derived.Test.YthccgpjbchlocaaDoorDb
import Derived.Test.YthccgpjbchlocaaDoorShelf
namespace Go.Proofs.YthccgpjbchlocaaDoor
open Go.RowKit

def mulHi (a b : Int) : Int := hi64 (lo64 a * lo64 b)
def mulLo (a b : Int) : Int := lo64 (lo64 a * lo64 b)

theorem lo64_lt (x : Int) : lo64 x < 18446744073709551616 := by unfold lo64; omega

theorem mul64_any (a b : Int) (w : World) :
    Calls Tryd.prog 76 #[.int .u64 (lo64 a), .int .u64 (lo64 b)] w fun e w' => e = .returned (.tuple #[.int .u64 (mulHi a b), .int .u64 (mulLo a b)]) ∧ w = w' := by
  obtain ⟨x, hx⟩ := Int.eq_ofNat_of_zero_le (lo64_nonneg a)
  obtain ⟨y, hy⟩ := Int.eq_ofNat_of_zero_le (lo64_nonneg b)
  have lx := lo64_lt a
  have ly := lo64_lt b
  have h := Tryd.bits_Mul64 x y (by omega) (by omega) w
  unfold mulHi mulLo
  rw [hx, hy]
  refine h.mono fun e w' hp => ⟨?_, hp.2.symm⟩
  rw [hp.1]
  rfl

theorem wrap_lo (n : Int) : IntKind.u64.wrap n = lo64 n := widen_lo n

/-- The product of two numbers, each as its 64 bits, told of the product itself. -/
theorem lo64_pos {a : Int} (h : 0 ≤ a) (h1 : a ≤ 9223372036854775807) : lo64 a = a := by unfold lo64; omega
theorem lo64_neg {a : Int} (h : a < 0) (h1 : -9223372036854775808 ≤ a) : lo64 a = a + 18446744073709551616 := by unfold lo64; omega

theorem mul_pp {a b : Int} (ha : 0 ≤ a) (ha1 : a ≤ 9223372036854775807) (hb : 0 ≤ b) (hb1 : b ≤ 9223372036854775807) :
    mulHi a b = lo64 (hi64 (a * b)) ∧ mulLo a b = lo64 (a * b) := by
  unfold mulHi mulLo
  rw [lo64_pos ha ha1, lo64_pos hb hb1]
  have h0 : 0 ≤ a * b := Int.mul_nonneg ha hb
  have h1 : a * b ≤ 9223372036854775807 * 9223372036854775807 := Int.mul_le_mul ha1 hb1 hb (by decide)
  generalize a * b = p at *
  unfold lo64 hi64
  omega
theorem mul_np {a b : Int} (ha : a < 0) (ha1 : -9223372036854775808 ≤ a) (hb : 0 ≤ b) (hb1 : b ≤ 9223372036854775807) :
    IntKind.u64.wrap (mulHi a b - IntKind.u64.wrap b) = lo64 (hi64 (a * b)) ∧ mulLo a b = lo64 (a * b) := by
  rw [wrap_lo, wrap_lo]
  unfold mulHi mulLo
  rw [lo64_neg ha ha1, lo64_pos hb hb1, Int.add_mul]
  generalize a * b = p at *
  unfold lo64 hi64
  omega
theorem mul_pn {a b : Int} (ha : 0 ≤ a) (ha1 : a ≤ 9223372036854775807) (hb : b < 0) (hb1 : -9223372036854775808 ≤ b) :
    IntKind.u64.wrap (mulHi a b - IntKind.u64.wrap a) = lo64 (hi64 (a * b)) ∧ mulLo a b = lo64 (a * b) := by
  rw [wrap_lo, wrap_lo]
  unfold mulHi mulLo
  rw [lo64_pos ha ha1, lo64_neg hb hb1, Int.mul_add]
  generalize a * b = p at *
  unfold lo64 hi64
  omega
theorem mul_nn {a b : Int} (ha : a < 0) (ha1 : -9223372036854775808 ≤ a) (hb : b < 0) (hb1 : -9223372036854775808 ≤ b) :
    IntKind.u64.wrap (IntKind.u64.wrap (mulHi a b - IntKind.u64.wrap b) - IntKind.u64.wrap a) = lo64 (hi64 (a * b)) ∧ mulLo a b = lo64 (a * b) := by
  rw [wrap_lo, wrap_lo, wrap_lo, wrap_lo]
  unfold mulHi mulLo
  rw [lo64_neg ha ha1, lo64_neg hb hb1, Int.add_mul, Int.mul_add, Int.mul_add]
  generalize a * b = p at *
  unfold lo64 hi64
  omega

set_option maxHeartbeats 400000 in
theorem times_pp (a b : Int) (ha : 0 ≤ a) (ha1 : a ≤ 9223372036854775807) (hb : 0 ≤ b) (hb1 : b ≤ 9223372036854775807) (w : World) :
    Calls Tryd.prog 71 #[.int .i64 a, .int .i64 b] w fun e w' => e = .returned (wideV (a * b)) ∧ Below w.heap.size w w' := by
  have H1 := Lib.hid fun W => mul64_any a b W
  have H2 := Lib.hid (mul_pp ha ha1 hb hb1)
  clear ha1 hb1
  go_enter Tryd.func71, Tryd.ntmps71
  go_wp2_with fail
  rw [wrap_lo, wrap_lo]
  refine (H1.out _).mono ?_
  rintro e w1 ⟨rfl, rfl⟩
  go_wp2_with fail
  exact bodyPost_ret (v := .agg #[.int .u64 (mulHi a b), .int .u64 (mulLo a b)]) (by simp [results, Tryd.results71, go_sem]) rfl ⟨by rw [H2.out.1, H2.out.2]; rfl, (Below.refl _ _).alloc (Nat.le_refl _) _⟩

set_option maxHeartbeats 400000 in
theorem times_np (a b : Int) (ha : a < 0) (ha1 : -9223372036854775808 ≤ a) (hb : 0 ≤ b) (hb1 : b ≤ 9223372036854775807) (w : World) :
    Calls Tryd.prog 71 #[.int .i64 a, .int .i64 b] w fun e w' => e = .returned (wideV (a * b)) ∧ Below w.heap.size w w' := by
  have H1 := Lib.hid fun W => mul64_any a b W
  have H2 := Lib.hid (mul_np ha ha1 hb hb1)
  clear ha1 hb1
  go_enter Tryd.func71, Tryd.ntmps71
  go_wp2_with fail
  rw [wrap_lo, wrap_lo]
  refine (H1.out _).mono ?_
  rintro e w1 ⟨rfl, rfl⟩
  go_wp2_with fail
  exact bodyPost_ret (v := .agg #[.int .u64 (IntKind.u64.wrap (mulHi a b - IntKind.u64.wrap b)), .int .u64 (mulLo a b)]) (by simp [results, Tryd.results71, go_sem]) rfl ⟨by rw [H2.out.1, H2.out.2]; rfl, (Below.refl _ _).alloc (Nat.le_refl _) _⟩

set_option maxHeartbeats 400000 in
theorem times_pn (a b : Int) (ha : 0 ≤ a) (ha1 : a ≤ 9223372036854775807) (hb : b < 0) (hb1 : -9223372036854775808 ≤ b) (w : World) :
    Calls Tryd.prog 71 #[.int .i64 a, .int .i64 b] w fun e w' => e = .returned (wideV (a * b)) ∧ Below w.heap.size w w' := by
  have H1 := Lib.hid fun W => mul64_any a b W
  have H2 := Lib.hid (mul_pn ha ha1 hb hb1)
  clear ha1 hb1
  go_enter Tryd.func71, Tryd.ntmps71
  go_wp2_with fail
  rw [wrap_lo, wrap_lo]
  refine (H1.out _).mono ?_
  rintro e w1 ⟨rfl, rfl⟩
  go_wp2_with fail
  exact bodyPost_ret (v := .agg #[.int .u64 (IntKind.u64.wrap (mulHi a b - IntKind.u64.wrap a)), .int .u64 (mulLo a b)]) (by simp [results, Tryd.results71, go_sem]) rfl ⟨by rw [H2.out.1, H2.out.2]; rfl, (Below.refl _ _).alloc (Nat.le_refl _) _⟩

set_option maxHeartbeats 400000 in
theorem times_nn (a b : Int) (ha : a < 0) (ha1 : -9223372036854775808 ≤ a) (hb : b < 0) (hb1 : -9223372036854775808 ≤ b) (w : World) :
    Calls Tryd.prog 71 #[.int .i64 a, .int .i64 b] w fun e w' => e = .returned (wideV (a * b)) ∧ Below w.heap.size w w' := by
  have H1 := Lib.hid fun W => mul64_any a b W
  have H2 := Lib.hid (mul_nn ha ha1 hb hb1)
  clear ha1 hb1
  go_enter Tryd.func71, Tryd.ntmps71
  go_wp2_with fail
  rw [wrap_lo, wrap_lo]
  refine (H1.out _).mono ?_
  rintro e w1 ⟨rfl, rfl⟩
  go_wp2_with fail
  exact bodyPost_ret (v := .agg #[.int .u64 (IntKind.u64.wrap (IntKind.u64.wrap (mulHi a b - IntKind.u64.wrap b) - IntKind.u64.wrap a)), .int .u64 (mulLo a b)]) (by simp [results, Tryd.results71, go_sem]) rfl ⟨by rw [H2.out.1, H2.out.2]; rfl, (Below.refl _ _).alloc (Nat.le_refl _) _⟩

theorem times_any (a b : Int) (ha0 : -9223372036854775808 ≤ a) (ha1 : a ≤ 9223372036854775807) (hb0 : -9223372036854775808 ≤ b) (hb1 : b ≤ 9223372036854775807) (w : World) :
    Calls Tryd.prog 71 #[.int .i64 a, .int .i64 b] w fun e w' => e = .returned (wideV (a * b)) ∧ Below w.heap.size w w' := by
  by_cases ha : 0 ≤ a <;> by_cases hb : 0 ≤ b
  · exact times_pp a b ha ha1 hb hb1 w
  · exact times_pn a b ha ha1 (by omega) hb0 w
  · exact times_np a b (by omega) ha0 hb hb1 w
  · exact times_nn a b (by omega) ha0 (by omega) hb0 w

theorem mul128 {a b : Int} (ha0 : -9223372036854775808 ≤ a) (ha1 : a ≤ 9223372036854775807) (hb0 : -9223372036854775808 ≤ b) (hb1 : b ≤ 9223372036854775807) : in128 (a * b) := by
  have h : (a * b).natAbs ≤ 9223372036854775808 * 9223372036854775808 := by
    rw [Int.natAbs_mul]
    exact Nat.mul_le_mul (by omega) (by omega)
  unfold in128
  generalize a * b = p at *
  omega

set_option maxHeartbeats 400000 in
theorem mul_any (a b : Int) (ha0 : -9223372036854775808 ≤ a) (ha1 : a ≤ 9223372036854775807) (hb0 : -9223372036854775808 ≤ b) (hb1 : b ≤ 9223372036854775807) (w : World) :
    Calls Tryd.prog 66 #[.int .i64 a, .int .i64 b] w fun e w' => e = .returned (.tuple #[.int .i64 (fitN (a * b)), .bool (fitB (a * b))]) ∧ Below w.heap.size w w' := by
  have H1 := Lib.hid fun W => times_any a b ha0 ha1 hb0 hb1 W
  have H4 := Lib.hid fun W => narrow_wide (a * b) (mul128 ha0 ha1 hb0 hb1) W
  clear ha0 ha1 hb0 hb1
  go_enter Tryd.func66, Tryd.ntmps66
  go_wp2_with fail
  refine (H1.out _).mono ?_
  rintro e w1 ⟨rfl, b1⟩
  go_wp2_with fail
  refine (H4.out _).mono ?_
  rintro e w4 ⟨rfl, b4⟩
  go_wp2_with fail
  go_ret2
  exact ⟨rfl, b1.trans (b4.mono b1.size)⟩
end Go.Proofs.YthccgpjbchlocaaDoor
