/- Layer bits, the document's answers: bit, Has, Same; the law's may: contracts. -/
import Derived.Test.YtpkpfnilfabkaaaDoorBr
import Derived.Test.YtpkpfnilfabkaaaDoorBl
namespace Go.Proofs.YtpkpfnilfabkaaaDoor
open Go.RowKit

theorem lawMay_any (n : Int) (w : World) : Calls Tryd.prog 22 #[.int .i64 n] w fun e w' => e = .returned (.bool (mayB n)) ∧ w = w' := by
  by_cases h0 : 0 ≤ n
  · by_cases h1 : n < 10000
    · have hb : mayB n = true := by unfold mayB; simp [h0, h1]
      have HB := Lib.hid hb
      clear hb
      have hd : decide (0 ≤ n) = true := by simpa using h0
      go_enter Tryd.func22, Tryd.ntmps22
      go_wp2_with fail
      go_ret
      exact ⟨by rw [HB.out]; rfl, rfl⟩
    · have hb : mayB n = false := by unfold mayB; simp [h1]
      have HB := Lib.hid hb
      clear hb
      have hd : decide (0 ≤ n) = true := by simpa using h0
      have hd1 : decide (n < 10000) = false := by simpa using h1
      go_enter Tryd.func22, Tryd.ntmps22
      go_wp2_with fail
      go_ret
      exact ⟨by rw [HB.out]; rfl, rfl⟩
  · have hb : mayB n = false := by unfold mayB; simp [h0]
    have HB := Lib.hid hb
    clear hb
    have hd : decide (0 ≤ n) = false := by simpa using h0
    go_enter Tryd.func22, Tryd.ntmps22
    go_wp2_with fail
    go_ret
    exact ⟨by rw [HB.out]; rfl, rfl⟩

theorem rbit_any (x k : Nat) (hx : x < 18446744073709551616) (hk : k ≤ 64) (w : World) : Calls Tryd.prog 58 #[.int .u64 (x : Int), .int .i64 (k : Int)] w fun e w' => e = .returned (.bool (x.testBit k)) ∧ w' = w := by
  go_enter Tryd.func58, Tryd.ntmps58
  go_wp2_with fail
  go_loop [0, 6] (fun v i => ∃ (j y : Nat), j ≤ k ∧ i = .int .i64 j ∧ v = .int .u64 (y : Int) ∧ y < 18446744073709551616 ∧ Hid (x / 2 ^ j = y)) (fun _ i => k - (intOf i).toNat)
  case atStart => exact ⟨0, x, Nat.zero_le _, rfl, rfl, hx, by show _ = _; simp⟩
  case round =>
    obtain ⟨j, y, hj, rfl, rfl, hy, HY⟩ := hrel
    by_cases hlt : j < k
    · have HN : Hid (x / 2 ^ (j + 1) = y / 2) := by
        show _ = _
        rw [← HY.out, Nat.div_div_eq_div_mul, Nat.pow_succ]
      go_wp2_with fail
      go_round
      case rel => exact ⟨j + 1, y / 2, by omega, by go_num, by go_num, by omega, HN⟩
      case measure => simp [intOf]; omega
    · obtain rfl : j = k := by omega
      have HT : Hid (x.testBit j = decide (y % 2 = 1)) := by
        show _ = _
        rw [Nat.testBit_eq_decide_div_mod_eq, HY.out]
      go_wp2_with fail
      go_ret
      refine ⟨?_, rfl⟩
      rw [HT.out, show decide (y % 2 = 1) = ((y : Int) % 2 == 1) by
        rw [Bool.eq_iff_iff, decide_eq_true_iff, beq_iff_eq]
        omega]
      rfl

theorem rhas_any (A : Option Addr) (n c : Nat) (l : List Int) (z : Int) (hn : n ≤ 1000000) (w : World) (hR : RI w w.heap.size A n l) : Calls Tryd.prog 29 #[.slice A n c, .int .i64 z] w fun e w' => e = .returned (.bool (decide (z ∈ l))) ∧ w' = w := by
  have HR := Lib.hid hR
  have HL := Lib.hid hR.len
  clear hR
  go_enter Tryd.func29, Tryd.ntmps29
  go_wp2_with fail
  go_loop [9] (fun i => ∃ k : Nat, k ≤ n ∧ i = .int .i64 k ∧ Hid (¬ z ∈ l.take k)) (fun i => n - (intOf i).toNat)
  case atStart => exact ⟨0, Nat.zero_le _, rfl, by show ¬ _; simp⟩
  case round =>
    obtain ⟨k, hk, rfl, HN⟩ := hrel
    by_cases hlt : k < n
    · obtain ⟨b, o, rfl, hb, hc⟩ := HR.out.at_ hlt
      have hkl : k < l.length := by rw [HL.out]; exact hlt
      have HM := Lib.hid (getD_mem' hkl)
      have HT := Lib.hid (take_snoc' (d := (0 : Int)) hkl)
      generalize l.getD k 0 = y at *
      by_cases hy : y = z
      · have hq : (y == z) = true := by simpa using hy
        have HX : Hid (decide (z ∈ l) = true) := decide_eq_true (by rw [← hy]; exact HM.out)
        clear hy
        go_wp2_with fail
        go_ret
        exact ⟨by rw [HX.out]; rfl, rfl⟩
      · have hq : (y == z) = false := by simpa using hy
        have HN2 : Hid (¬ z ∈ l.take (k + 1)) := by
          show ¬ _
          rw [HT.out]
          simp only [List.mem_append, List.mem_singleton, not_or]
          exact ⟨HN.out, fun e => hy e.symm⟩
        clear hy
        go_wp2_with fail
        go_round
        case rel => exact ⟨k + 1, by omega, by go_num, HN2⟩
        case measure => simp [intOf]; omega
    · obtain rfl : k = n := by omega
      have HX : Hid (decide (z ∈ l) = false) := decide_eq_false (by
        have := HN.out
        rw [List.take_of_length_le (by rw [HL.out]; exact Nat.le_refl _)] at this
        exact this)
      go_wp2_with fail
      go_ret
      exact ⟨by rw [HX.out]; rfl, rfl⟩

set_option maxRecDepth 100000 in
set_option maxHeartbeats 2000000 in
theorem rsame_any (A B : Option Addr) (n c m d : Nat) (xs ys : List Nat) (hn : n ≤ 1000000) (hm : m ≤ 1000000) (w : World) (hA : RW w w.heap.size A n xs) (hB : RW w w.heap.size B m ys) :
    Calls Tryd.prog 24 #[.agg #[.slice A n c], .agg #[.slice B m d]] w fun e w' => e = .returned (.bool (decide (xs = ys))) ∧ Below w.heap.size w w' := by
  have HL := Lib.hid hA.len
  have HL2 := Lib.hid hB.len
  obtain ⟨q0, q1, hsz, hb0⟩ := two_boxes w (.slice A n c) (.slice B m d) 24 24
  have HA := Lib.hid (hA.below hb0)
  have HB := Lib.hid (hB.below hb0)
  clear hA hB
  clear hsz
  by_cases hnm : n = m
  · subst hnm
    go_enter Tryd.func24, Tryd.ntmps24
    go_wp2_with fail
    generalize (w.alloc (.cells #[.slice A n c] 24)).alloc (.cells #[.slice B n d] 24) = W0 at *
    go_loop [17] (fun i => ∃ k : Nat, k ≤ n ∧ i = .int .i64 k ∧ Hid (xs.take k = ys.take k)) (fun i => n - (intOf i).toNat)
    case atStart => exact ⟨0, Nat.zero_le _, rfl, rfl⟩
    case round =>
      obtain ⟨k, hk, rfl, HT⟩ := hrel
      by_cases hlt : k < n
      · obtain ⟨b, o, rfl, hb, hc⟩ := HA.out.at_ hlt
        obtain ⟨b2, o2, rfl, hb2, hc2⟩ := HB.out.at_ hlt
        have H1 := Lib.hid (take_snoc' (d := 0) (show k < xs.length by rw [HL.out]; omega))
        have H2 := Lib.hid (take_snoc' (d := 0) (show k < ys.length by rw [HL2.out]; omega))
        have HNE := Lib.hid (@take_ne _ xs ys k (0 : Nat))
        generalize xs.getD k 0 = x at *
        generalize ys.getD k 0 = y at *
        by_cases hxy : x = y
        · subst hxy
          go_wp2_with fail
          go_round
          case rel => exact ⟨k + 1, by omega, by go_num, by show _ = _; rw [H1.out, H2.out, HT.out]⟩
          case measure => simp [intOf]; omega
        · have hq : (((x : Nat) : Int) != ((y : Nat) : Int)) = true := by simp; omega
          have HX : Hid (decide (xs = ys) = false) := decide_eq_false (HNE.out hxy)
          clear hxy
          go_wp2_with fail
          go_ret
          exact ⟨by rw [HX.out]; rfl, hb0⟩
      · obtain rfl : k = n := by omega
        have HX : Hid (decide (xs = ys) = true) := decide_eq_true (by
          have := HT.out
          rw [List.take_of_length_le (by rw [HL.out]; exact Nat.le_refl _), List.take_of_length_le (by rw [HL2.out]; exact Nat.le_refl _)] at this
          exact this)
        go_wp2_with fail
        go_ret
        exact ⟨by rw [HX.out]; rfl, hb0⟩
  · have hq : (((n : Int) != (m : Int)) = true) := by simp; omega
    have HX : Hid (decide (xs = ys) = false) := decide_eq_false fun e => hnm (by rw [← HL.out, ← HL2.out, e])
    go_enter Tryd.func24, Tryd.ntmps24
    go_wp2_with fail
    go_ret
    exact ⟨by rw [HX.out]; rfl, hb0⟩
end Go.Proofs.YtpkpfnilfabkaaaDoor
