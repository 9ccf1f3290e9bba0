/- Layer bits: Has and Count: contracts. -/
import Derived.Test.YtpkpfnilfabkaaaDoorBe
import Derived.Deep.LoopGhost
namespace Go.Proofs.YtpkpfnilfabkaaaDoor
open Go.RowKit

/-- Has a set a number? -/
def hasZ (ws : List Nat) (n : Int) : Bool := mayB n && inW ws n.toNat
theorem bit_test (x k : Nat) : (x &&& 2 ^ k = 0) = (x.testBit k = false) := by
  rw [nat_bit, Nat.testBit_eq_decide_div_mod_eq]
  have hp : 0 < 2 ^ k := Nat.two_pow_pos k
  have h2 : x / 2 ^ k % 2 = 0 ∨ x / 2 ^ k % 2 = 1 := by omega
  rcases h2 with h | h
  · rw [h]; simp
  · rw [h]; simp
theorem word_div (A : Option Addr) (n c m B : Nat) (ws : List Nat) (w : World) (hR : RW w B A n ws) :
    Calls Tryd.prog 51 #[.slice A n c, .int .i64 ((m : Int) / 64)] w fun e w' => e = .returned (.int .u64 ((ws.getD (m / 64) 0 : Nat) : Int)) ∧ w = w' := by
  have := word_any A n c (m / 64) B ws w hR
  rwa [show (((m / 64 : Nat) : Nat) : Int) = (m : Int) / 64 by omega] at this

set_option maxHeartbeats 800000 in
theorem has_any (A : Option Addr) (n c : Nat) (ws : List Nat) (h64 : W64 ws) (hn : n ≤ 1000000) (z : Int) (hz0 : -9223372036854775808 ≤ z) (hz1 : z ≤ 9223372036854775807) (w : World) (hR : RW w w.heap.size A n ws) :
    Calls Tryd.prog 28 #[.agg #[.slice A n c], .int .i64 z] w fun e w' => e = .returned (.bool (hasZ ws z)) ∧ Below w.heap.size w w' := by
  have b0 : Below w.heap.size w (w.alloc (.cells #[.slice A n c] 24)) := (Below.refl _ _).alloc (Nat.le_refl _) _
  have HM := Lib.hid fun w => may_any z w
  by_cases hm : mayB z = true
  · obtain ⟨m, rfl⟩ : ∃ m : Nat, z = m := ⟨z.toNat, by unfold mayB at hm; simp at hm; omega⟩
    have HW := Lib.hid (words_any A n c ws h64 hn (w.alloc (.cells #[.slice A n c] 24)) (by rw [World.size_alloc]; exact (hR.alloc (Nat.le_refl _) _).more (Nat.le_succ _)))
    have HB := Lib.hid (fun w => bit_any m (by omega) w)
    have hx := (eff_64 h64).at_ (m / 64)
    have hp := pow_lt64 m
    have HV : Hid (hasZ ws (m : Int) = !decide ((effW ws).getD (m / 64) 0 &&& 2 ^ (m % 64) = 0)) := by
      show _ = _
      have e : decide ((effW ws).getD (m / 64) 0 &&& 2 ^ (m % 64) = 0) = !((effW ws).getD (m / 64) 0).testBit (m % 64) := by
        simp [bit_test]
      rw [e]
      unfold hasZ inW hasW
      rw [hm]; simp
    have HD := Lib.hid (fun A' n' c' w' h => word_div A' n' c' m w.heap.size.succ (effW ws) w' h)
    have HU := Lib.hid (u64_and_nat _ _ hx hp)
    rw [hm] at HM
    generalize hxe : (effW ws).getD (m / 64) 0 = x at *
    generalize hpe : 2 ^ (m % 64) = p at *
    have HXE := Lib.hid hxe
    have hu := HU.out
    have hm0 : (0 : Int) ≤ (m : Int) := by omega
    generalize hze : x &&& p = y at *
    clear hxe hpe hze hm HU hR
    by_cases hy : y = 0
    · have hy0 : ((y : Int) != 0) = false := by simp [hy]
      have HY := Lib.hid hy
      clear hy
      go_enter Tryd.func28, Tryd.ntmps28
      go_wp2_with fail
      refine (HM.out _).mono ?_
      rintro e w1 ⟨rfl, rfl⟩
      go_wp2_with fail
      refine HW.out.mono ?_
      rintro e w1 ⟨A1, n1, c1, rfl, r1, b1⟩
      have R1 := Lib.hid r1
      rw [World.size_alloc] at R1
      clear r1
      go_wp2_with fail
      refine (HD.out A1 n1 c1 _ R1.out).mono ?_
      rintro e w2 ⟨rfl, rfl⟩
      go_wp2_with fail
      refine (HB.out _).mono ?_
      rintro e w2 ⟨rfl, rfl⟩
      go_wp2_with fail
      go_ret
      exact ⟨by rw [HV.out]; simp [HY.out], b0.trans (b1.mono (by simp))⟩
    · have hy0 : ((y : Int) != 0) = true := by simpa using hy
      have HY := Lib.hid hy
      clear hy
      go_enter Tryd.func28, Tryd.ntmps28
      go_wp2_with fail
      refine (HM.out _).mono ?_
      rintro e w1 ⟨rfl, rfl⟩
      go_wp2_with fail
      refine HW.out.mono ?_
      rintro e w1 ⟨A1, n1, c1, rfl, r1, b1⟩
      have R1 := Lib.hid r1
      rw [World.size_alloc] at R1
      clear r1
      go_wp2_with fail
      refine (HD.out A1 n1 c1 _ R1.out).mono ?_
      rintro e w2 ⟨rfl, rfl⟩
      go_wp2_with fail
      refine (HB.out _).mono ?_
      rintro e w2 ⟨rfl, rfl⟩
      go_wp2_with fail
      go_ret
      exact ⟨by rw [HV.out]; simp [HY.out], b0.trans (b1.mono (by simp))⟩
  · have hm' : mayB z = false := by simpa using hm
    have HV : Hid (hasZ ws z = false) := by show _ = _; unfold hasZ; rw [hm']; rfl
    rw [hm'] at HM
    clear hm hm' hR
    go_enter Tryd.func28, Tryd.ntmps28
    go_wp2_with fail
    refine (HM.out _).mono ?_
    rintro e w1 ⟨rfl, rfl⟩
    go_wp2_with fail
    go_ret
    exact ⟨by rw [HV.out]; rfl, b0⟩

theorem cntW_take {ws : List Nat} {k : Nat} (h : k < ws.length) : cntW (ws.take (k + 1)) = cntW (ws.take k) + cnt (ws.getD k 0) 64 := by
  unfold cntW
  rw [List.take_succ_eq_append_getElem h, List.map_append, List.sum_append, List.getD_eq_getElem?_getD, List.getElem?_eq_getElem h]
  simp
theorem cntW_le (ws : List Nat) : cntW ws ≤ 64 * ws.length := by
  induction ws with
  | nil => simp [cntW]
  | cons x ws ih =>
    have := cnt_le x 64
    unfold cntW at *
    simp
    omega

set_option maxHeartbeats 800000 in
theorem count_any (A : Option Addr) (n c : Nat) (ws : List Nat) (h64 : W64 ws) (hn : n ≤ 1000000) (w : World) (hR : RW w w.heap.size A n ws) :
    Calls Tryd.prog 17 #[.agg #[.slice A n c]] w fun e w' => e = .returned (.int .i64 ((numsF (inW ws)).length : Int)) ∧ Below w.heap.size w w' := by
  have b0 : Below w.heap.size w (w.alloc (.cells #[.slice A n c] 24)) := (Below.refl _ _).alloc (Nat.le_refl _) _
  have HW := Lib.hid (words_any A n c ws h64 hn (w.alloc (.cells #[.slice A n c] 24)) (by rw [World.size_alloc]; exact (hR.alloc (Nat.le_refl _) _).more (Nat.le_succ _)))
  have HC := Lib.hid (count_in ws)
  have HL := Lib.hid (eff_len ws)
  have H64 := Lib.hid (eff_64 h64)
  clear hR
  go_enter Tryd.func17, Tryd.ntmps17
  go_wp2_with fail
  refine HW.out.mono ?_
  rintro e w1 ⟨A1, n1, c1, rfl, r1, b1⟩
  generalize effW ws = es at *
  have HN := Lib.hid r1.len
  have hn1 : n1 ≤ 157 := by have := r1.len; have := HL.out; omega
  have R1 := Lib.hid r1
  have B1 := Lib.hid (b0.trans (b1.mono (by simp)))
  clear r1 b1 HW HL
  go_wp2_with fail
  go_loop [3, 9] (fun s i => ∃ k : Nat, k ≤ n1 ∧ i = .int .i64 k ∧ s = .int .i64 (cntW (es.take k) : Nat)) (fun _ i => n1 - (intOf i).toNat)
  case atStart => exact ⟨0, Nat.zero_le _, rfl, rfl⟩
  case round =>
    obtain ⟨k, hk, rfl, rfl⟩ := hrel
    by_cases hlt : k < n1
    · obtain ⟨b, o, hA, hb, hc⟩ := R1.out.at_ hlt
      subst hA
      have hx := H64.out.at_ k
      have HS := Lib.hid (cntW_take (ws := es) (k := k) (by rw [HN.out]; exact hlt))
      have hle := cntW_le (es.take k)
      have hle2 : cntW (es.take k) ≤ 64 * 157 := by rw [List.length_take] at hle; omega
      clear hle
      have hcl := cnt_le (es.getD k 0) 64
      have HO := Lib.hid (ones_any _ hx)
      generalize es.getD k 0 = x at *
      generalize cnt x 64 = q at *
      go_wp2_with fail
      refine (HO.out _).mono ?_
      rintro e w2 ⟨rfl, rfl⟩
      go_wp2_with fail
      go_round
      case rel => exact ⟨k + 1, by omega, by go_num, by rw [HS.out]; go_num⟩
      case measure => simp [intOf]; omega
    · have hkn : k = n1 := by omega
      subst hkn
      go_wp2_with fail
      go_ret
      refine ⟨?_, B1.out⟩
      rw [← HC.out, List.take_of_length_le (by rw [HN.out]; exact Nat.le_refl _)]
      rfl
end Go.Proofs.YtpkpfnilfabkaaaDoor
