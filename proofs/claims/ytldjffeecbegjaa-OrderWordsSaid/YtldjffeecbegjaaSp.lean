/- Layer order: Least of texts: its contract. -/
import Derived.Test.YtldjffeecbegjaaSf
import Derived.Test.YtldjffeecbegjaaOp
namespace Go.Proofs.Ytldjffeecbegjaa.Str
open Go.RowKit

set_option maxRecDepth 100000 in
set_option maxHeartbeats 4000000 in
theorem least_any (A : Option Addr) (n c : Nat) (xs : List Tx) (hn : n ≤ 100000) (w : World) (hR : Reads w w.heap.size 1 A n (strs xs)) :
    Calls Try.prog 31 #[.slice A n c, .func (.func 26) #[] #[]] w fun e w' => e = .returned (.tuple #[.int .i64 (lstK ltS xs n), .bool (decide (0 < n))]) ∧ Below w.heap.size w w' := by
  have HR := Lib.hid hR
  have HL := Lib.hid (reads_len hR)
  clear hR
  go_enter Try.func31, Try.ntmps31
  go_wp2_with fail
  go_loopg [6, 11] n (fun gg s6 s11 wr => ∃ (i l : Nat), i + gg = n ∧ l ≤ i ∧ s11 = .int .i64 i ∧ s6 = .int .i64 l ∧ Hid (lstK ltS xs i = l) ∧ Hid (Below w.heap.size w wr))
  case atStart => exact ⟨0, 0, by omega, Nat.le_refl _, rfl, rfl, rfl, Below.refl _ _⟩
  case round =>
    obtain ⟨i, l, hig, hli, rfl, rfl, HLS, HB⟩ := hrel
    cases gk with
    | zero =>
      have hge : ¬ (i : Int) < (n : Int) := by omega
      have hin : i = n := by omega
      subst hin
      have hd : ((0 : Int) < (i : Int)) = (0 < i) := by simp
      clear hig
      go_wp2_with fail
      go_ret2
      exact ⟨by rw [HLS.out]; simp, HB.out⟩
    | succ g2 =>
      have hlt : (i : Int) < (n : Int) := by omega
      have hi0 : (0 : Int) ≤ (i : Int) := by omega
      obtain ⟨p, hp⟩ : ∃ p, xs[i]? = some p := ⟨xs[i]'(by rw [HL.out]; omega), List.getElem?_eq_getElem _⟩
      obtain ⟨b, o, rfl, hb, g0⟩ := pr_at (HR.out.below HB.out) hp
      have HIG := Lib.hid hig
      have hsz := HB.out.size
      have hin : i < n := by omega
      clear hig
      by_cases hi00 : i = 0
      · subst hi00
        rw [Nat.add_zero] at g0
        have HNX : Hid (lstK ltS xs (0 + 1) = l) := by
          have := HLS.out
          rw [lstK] at this
          rw [← this]; exact lstK_one
        clear hp
        go_wp2_with fail
        go_roundg g2
        case measure => omega
        case rel => exact ⟨0 + 1, l, by have := HIG.out; omega, by omega, by go_num, rfl, HNX, HB⟩
      · have hip : 0 < i := by omega
        have hll : l < i := by rw [← HLS.out]; exact lstK_lt _ _ i hip
        obtain ⟨q, hq⟩ : ∃ q, xs[l]? = some q := ⟨xs[l]'(by rw [HL.out]; omega), List.getElem?_eq_getElem _⟩
        obtain ⟨b', o', hA', hb', x0⟩ := pr_at (HR.out.below HB.out) hq
        injection hA' with hA'
        injection hA' with e1 e2 _
        subst e1; subst e2
        have hip2 : (0 : Int) < (i : Int) := by omega
        have hj0 : (0 : Int) ≤ (l : Int) := by omega
        have hj1 : (l : Int) < (n : Int) := by omega
        have hcmp := cmpS_neg p q
        have HQ2 : Hid (xs[lstK ltS xs i]? = some q) := by rw [HLS.out]; exact hq
        have HP := Lib.hid hp
        have HSM := Lib.hid fun W => compare_str p q W
        clear hp hq hi00
        by_cases hpq : ltS p q = true
        · rw [eq_true hpq] at hcmp
          have hv := of_eq_true hcmp
          have HNX := Lib.hid (lstK_turn (lt := ltS) HP.out HQ2.out hip hpq)
          clear hcmp hpq
          generalize cmpS p q = v at *
          go_wp2_with fail
          refine (HSM.out _).mono ?_
          rintro e w20 ⟨rfl, b20⟩
          have HB2 : Hid (Below w.heap.size w w20) := HB.out.trans (b20.mono HB.out.size)
          clear b20 x0 g0 HB
          go_wp2_with fail
          go_roundg g2
          case measure => omega
          case rel => exact ⟨i + 1, i, by have := HIG.out; omega, by omega, by go_num, rfl, HNX, HB2⟩
        · rw [eq_false hpq] at hcmp
          have hv := of_eq_false hcmp
          have HNX : Hid (lstK ltS xs (i + 1) = l) := by
            rw [← HLS.out]
            exact lstK_stay HP.out HQ2.out (fun h => hpq h.2)
          clear hcmp hpq
          generalize cmpS p q = v at *
          go_wp2_with fail
          refine (HSM.out _).mono ?_
          rintro e w20 ⟨rfl, b20⟩
          have HB2 : Hid (Below w.heap.size w w20) := HB.out.trans (b20.mono HB.out.size)
          clear b20 x0 g0 HB
          go_wp2_with fail
          go_roundg g2
          case measure => omega
          case rel => exact ⟨i + 1, l, by have := HIG.out; omega, by omega, by go_num, rfl, HNX, HB2⟩
end Go.Proofs.Ytldjffeecbegjaa.Str
