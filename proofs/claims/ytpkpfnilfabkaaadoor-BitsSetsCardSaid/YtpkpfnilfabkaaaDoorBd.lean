/- Layer bits: the small functions: may, bit, room, word, the joins of two words, how many bits are 1: contracts. -/
import Derived.Test.YtpkpfnilfabkaaaDoorBc
import Derived.Test.YtpkpfnilfabkaaaDoorBb
import Derived.IntWalk
import Derived.Laws.BitsAllLaws
namespace Go.Proofs.YtpkpfnilfabkaaaDoor
open Go.RowKit

/-- May a number be in a set? -/
def mayB (n : Int) : Bool := decide (0 ≤ n) && decide (n < 10000)
theorem may_any (n : Int) (w : World) : Calls Tryd.prog 45 #[.int .i64 n] w fun e w' => e = .returned (.bool (mayB n)) ∧ w = w' := by
  by_cases h0 : 0 ≤ n
  · by_cases h1 : n < 10000
    · have hb : mayB n = true := by unfold mayB; simp [h0, h1]
      have HB := Lib.hid hb
      clear hb
      have hd : decide (0 ≤ n) = true := by simpa using h0
      go_enter Tryd.func45, Tryd.ntmps45
      go_wp2_with fail
      go_ret
      exact ⟨by rw [HB.out]; rfl, rfl⟩
    · have hb : mayB n = false := by unfold mayB; simp [h1]
      have HB := Lib.hid hb
      clear hb
      have hd : decide (0 ≤ n) = true := by simpa using h0
      have hd1 : decide (n < 10000) = false := by simpa using h1
      go_enter Tryd.func45, Tryd.ntmps45
      go_wp2_with fail
      go_ret
      exact ⟨by rw [HB.out]; rfl, rfl⟩
  · have hb : mayB n = false := by unfold mayB; simp [h0]
    have HB := Lib.hid hb
    clear hb
    have hd : decide (0 ≤ n) = false := by simpa using h0
    go_enter Tryd.func45, Tryd.ntmps45
    go_wp2_with fail
    go_ret
    exact ⟨by rw [HB.out]; rfl, rfl⟩

theorem pow_lt64 (n : Nat) : 2 ^ (n % 64) < 18446744073709551616 := by
  rw [show (18446744073709551616 : Nat) = 2 ^ 64 by decide]; exact Nat.pow_lt_pow_right (by decide) (Nat.mod_lt _ (by decide))
theorem bit_val (n : Nat) : IntKind.u64.wrap ((2 : Int) ^ (n % 64)) = ((2 ^ (n % 64) : Nat) : Int) := by
  have h := pow_lt64 n
  rw [IntKind.wrap_u64, show ((2 : Int) ^ (n % 64)) = ((2 ^ (n % 64) : Nat) : Int) by simp]
  generalize 2 ^ (n % 64) = x at h
  omega
theorem bit_any (n : Nat) (hn : n ≤ 9223372036854775807) (w : World) : Calls Tryd.prog 47 #[.int .i64 (n : Int)] w fun e w' => e = .returned (.int .u64 ((2 ^ (n % 64) : Nat) : Int)) ∧ w = w' := by
  have HB := Lib.hid (bit_val n)
  have h0 : (0 : Int) ≤ (n : Int) % 64 := by omega
  have h1 : (n : Int) % 64 ≤ 64 := by omega
  go_enter Tryd.func47, Tryd.ntmps47
  go_wp2_with fail
  go_ret
  exact ⟨by rw [← HB.out]; rfl, rfl⟩

theorem room_any (n : Int) (h0 : -1 ≤ n) (h1 : n ≤ 1000000) (w : World) : Calls Tryd.prog 46 #[.int .i64 n] w fun e w' => e = .returned (.int .i64 ((n + 64) / 64)) ∧ w = w' := by
  have h2 : 0 ≤ n + 64 := by omega
  go_enter Tryd.func46, Tryd.ntmps46
  go_wp2_with fail
  go_ret
  exact ⟨rfl, rfl⟩

theorem word_any (A : Option Addr) (n c k B : Nat) (ws : List Nat) (w : World) (hR : RW w B A n ws) :
    Calls Tryd.prog 51 #[.slice A n c, .int .i64 (k : Int)] w fun e w' => e = .returned (.int .u64 ((ws.getD k 0 : Nat) : Int)) ∧ w = w' := by
  by_cases h : k < n
  · obtain ⟨b, o, rfl, hb, hc⟩ := hR.at_ h
    have hlt : ¬ (n : Int) ≤ (k : Int) := by omega
    clear hR
    go_enter Tryd.func51, Tryd.ntmps51
    go_wp2_with fail
    go_ret
    exact ⟨rfl, rfl⟩
  · have hge : (n : Int) ≤ (k : Int) := by omega
    have HZ : Hid (ws.getD k 0 = 0) := by
      show _ = _
      rw [List.getD_eq_getElem?_getD, List.getElem?_eq_none (by rw [hR.len]; omega)]; rfl
    clear hR
    go_enter Tryd.func51, Tryd.ntmps51
    go_wp2_with fail
    go_ret
    exact ⟨by rw [HZ.out]; rfl, rfl⟩

/-- The joins of two words. -/
theorem or_any (x y : Nat) (hx : x < 18446744073709551616) (hy : y < 18446744073709551616) (w : World) :
    Calls Tryd.prog 53 #[.int .u64 (x : Int), .int .u64 (y : Int)] w fun e w' => e = .returned (.int .u64 ((x ||| y : Nat) : Int)) ∧ w = w' := by
  have HV := Lib.hid (u64_or_nat x y hx hy)
  go_enter Tryd.func53, Tryd.ntmps53
  go_wp2_with fail
  go_ret
  exact ⟨by rw [← HV.out]; rfl, rfl⟩
theorem and_any (x y : Nat) (hx : x < 18446744073709551616) (hy : y < 18446744073709551616) (w : World) :
    Calls Tryd.prog 54 #[.int .u64 (x : Int), .int .u64 (y : Int)] w fun e w' => e = .returned (.int .u64 ((x &&& y : Nat) : Int)) ∧ w = w' := by
  have HV := Lib.hid (u64_and_nat x y hx hy)
  go_enter Tryd.func54, Tryd.ntmps54
  go_wp2_with fail
  go_ret
  exact ⟨by rw [← HV.out]; rfl, rfl⟩
theorem andnot_any (x y : Nat) (hx : x < 18446744073709551616) (hy : y < 18446744073709551616) (w : World) :
    Calls Tryd.prog 55 #[.int .u64 (x : Int), .int .u64 (y : Int)] w fun e w' => e = .returned (.int .u64 ((x &&& (18446744073709551615 - y) : Nat) : Int)) ∧ w = w' := by
  have HV := Lib.hid (u64_andNot_nat x y hx hy)
  go_enter Tryd.func55, Tryd.ntmps55
  go_wp2_with fail
  go_ret
  exact ⟨by rw [← HV.out]; rfl, rfl⟩

theorem ones_steps (x : Nat) (hx : x < 18446744073709551616) : ∃ a1 a2 a3 a4 y : Nat,
    bits .and .u64 ((x : Int) / 2) 6148914691236517205 = (a1 : Int) ∧ bits .and .u64 (x : Int) 6148914691236517205 = (a2 : Int) ∧ a1 + a2 < 18446744073709551616 ∧
    bits .and .u64 (((a1 : Int) + (a2 : Int)) / 4) 3689348814741910323 = (a3 : Int) ∧ bits .and .u64 ((a1 : Int) + (a2 : Int)) 3689348814741910323 = (a4 : Int) ∧ a3 + a4 < 18446744073709551616 ∧
    (a3 + a4) / 16 + (a3 + a4) < 18446744073709551616 ∧ bits .and .u64 (((a3 : Int) + (a4 : Int)) / 16 + ((a3 : Int) + (a4 : Int))) 1085102592571150095 = (y : Int) ∧
    y + y / 256 < 9223372036854775808 ∧ (y + y / 256) + (y + y / 256) / 65536 < 9223372036854775808 ∧
    ((y + y / 256) + (y + y / 256) / 65536) + ((y + y / 256) + (y + y / 256) / 65536) / 4294967296 < 9223372036854775808 ∧
    (((y + y / 256) + (y + y / 256) / 65536) + ((y + y / 256) + (y + y / 256) / 65536) / 4294967296) % 128 = cnt x 64 := by
  obtain ⟨h1, h2, h3, y, hy, b0, b1, b2, b3, b4⟩ := fold_cnt x hx
  have e1 : t1 x = (x / 2 &&& 6148914691236517205) + (x &&& 6148914691236517205) := rfl
  have e2 : t2 (t1 x) = (t1 x / 4 &&& 3689348814741910323) + (t1 x &&& 3689348814741910323) := rfl
  have u1 := u64_and_nat (x / 2) 6148914691236517205 (by omega) (by decide)
  have u2 := u64_and_nat x 6148914691236517205 hx (by decide)
  have u3 := u64_and_nat (t1 x / 4) 3689348814741910323 (by omega) (by decide)
  have u4 := u64_and_nat (t1 x) 3689348814741910323 h1 (by decide)
  have u5 := u64_and_nat (t2 (t1 x) / 16 + t2 (t1 x)) 1085102592571150095 (by omega) (by decide)
  refine ⟨x / 2 &&& 6148914691236517205, x &&& 6148914691236517205, t1 x / 4 &&& 3689348814741910323, t1 x &&& 3689348814741910323, y, ?_, u2, by omega, ?_, ?_, by omega, by omega, ?_, b1, b2, b3, b4⟩
  · rw [← u1]; rfl
  · rw [← u3, e1]; congr 1
  · rw [← u4, e1]; congr 1
  · rw [hy]; unfold t3; rw [← u5, e2]; congr 1

theorem i64_mask7 (z : Nat) (hz : z < 9223372036854775808) : bits .and .i64 (z : Int) 127 = ((z % 128 : Nat) : Int) := by
  have e : (BitVec.ofInt 64 (z : Int)).toNat = z := by rw [BitVec.ofInt_natCast, BitVec.toNat_ofNat]; exact Nat.mod_eq_of_lt (by omega)
  show IntKind.i64.wrap ((BitVec.ofInt 64 (z : Int) &&& BitVec.ofInt 64 127).toNat : Int) = _
  rw [BitVec.toNat_and, e, show (BitVec.ofInt 64 127).toNat = 127 by decide, nat_mask7, IntKind.wrap_i64]
  omega

set_option maxHeartbeats 800000 in
theorem ones_any (x : Nat) (hx : x < 18446744073709551616) (w : World) : Calls Tryd.prog 44 #[.int .u64 (x : Int)] w fun e w' => e = .returned (.int .i64 (cnt x 64 : Int)) ∧ w = w' := by
  obtain ⟨a1, a2, a3, a4, y, e1, e2, q1, e3, e4, q2, q3, e5, q4, q5, q6, e6⟩ := ones_steps x hx
  have HE := Lib.hid e6
  clear e6
  go_enter Tryd.func44, Tryd.ntmps44
  go_wp2_with fail
  go_ret
  refine ⟨?_, rfl⟩
  rw [← HE.out, ← i64_mask7 _ q6]
  rfl
end Go.Proofs.YtpkpfnilfabkaaaDoor
