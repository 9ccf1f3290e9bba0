/- Is a row of ints sorted: contracts. -/
import Derived.StillTailTactics
import Derived.Test.YtkebeadaoiiokaaM8
-- holds: YtkebeadaoiiokaaCpb
namespace Go.Proofs.Ytkebeadaoiiokaa
open Go.RowKit Go.Shelf

theorem less_int6 (a b : Int) (w : World) : Calls Try.prog 48 #[.int .i64 a, .int .i64 b] w fun e w' => e = .returned (.bool (decide (a < b))) ∧ Below w.heap.size w w' := by
  have hn : ∀ (x : Int) (w : World), Calls Try.prog 74 #[.int .i64 x] w fun e w' => e = .returned (.bool false) ∧ w = w' := by
    intro x w
    go_enter Try.func74, Try.ntmps74
    go_wp2_with fail
    go_ret
    exact ⟨by simp, rfl⟩
  have H := Lib.hid hn
  clear hn
  go_enter Try.func48, Try.ntmps48
  go_wp2_with fail
  refine (H.out a w).mono ?_
  rintro e w1 ⟨rfl, rfl⟩
  go_wp2_with fail
  go_ret
  exact ⟨rfl, Below.refl _ _⟩

set_option maxRecDepth 100000 in
set_option maxHeartbeats 2000000 in
theorem sorted_int6 (A : Option Addr) (n c : Nat) (zs : List Int) (hn : n ≤ 1000000) (hz : zs.Pairwise (· < ·)) (w : World) (hR : Reads w w.heap.size 1 A n (ints zs)) :
    Calls Try.prog 18 #[.slice A n c] w fun e w' => e = .returned (.bool true) ∧ Below w.heap.size w w' := by
  have HR := Lib.hid hR
  have HL := Lib.hid (ints_len hR)
  have HZ := Lib.hid hz
  clear hR hz
  go_enter Try.func18, Try.ntmps18
  go_wp2_with fail
  go_loopg [3] n (fun gg i wr => ∃ z : Int, z = (n : Int) - 1 - ((n - gg : Nat) : Int) ∧ gg ≤ n ∧ i = .int .i64 z ∧ Hid (Below w.heap.size w wr))
  case atStart => exact ⟨_, by omega, Nat.le_refl _, rfl, Below.refl _ _⟩
  case round =>
    obtain ⟨z, hzz, hgn, rfl, bk⟩ := hrel
    by_cases hpos : 0 < z
    · obtain ⟨k, hk⟩ : ∃ k : Nat, z = ((k + 1 : Nat) : Int) := ⟨(z - 1).toNat, by omega⟩
      subst hk
      have hkn : k + 1 < n := by omega
      obtain ⟨q, hq⟩ : ∃ q, zs[k + 1]? = some q := ⟨zs[k + 1]'(by rw [HL.out]; omega), List.getElem?_eq_getElem _⟩
      obtain ⟨p, hp⟩ : ∃ p, zs[k]? = some p := ⟨zs[k]'(by rw [HL.out]; omega), List.getElem?_eq_getElem _⟩
      have hord : decide (q < p) = false := by
        obtain ⟨i1, e1⟩ := List.getElem?_eq_some_iff.1 hq
        obtain ⟨i2, e2⟩ := List.getElem?_eq_some_iff.1 hp
        have := List.pairwise_iff_getElem.1 HZ.out k (k + 1) i2 i1 (by omega)
        rw [e1, e2] at this
        exact decide_eq_false (by omega)
      obtain ⟨b, o, rfl, hb, g0⟩ := int_at (HR.out.below bk.out) hq
      obtain ⟨b2, o2, hA2, hb2, x0⟩ := int_at (HR.out.below bk.out) hp
      injection hA2 with hA2
      injection hA2 with e1 e2 _
      subst e1; subst e2
      have HG := Lib.hid hzz
      have HO := Lib.hid hord
      clear hq hp hzz hord
      have hs1 : IntKind.i64.wrap (k : Int) = (k : Int) := by rw [IntKind.wrap_i64]; omega
      have hi1 : (0 : Int) ≤ (k : Int) + 1 := by omega
      have ht1 : ((k : Int) + 1).toNat = k + 1 := by omega
      have hi2 : (k : Int) + 1 < (n : Int) := by omega
      have hi3 : (0 : Int) ≤ (k : Int) := by omega
      have hi4 : (k : Int) < (n : Int) := by omega
      go_wp2_with fail
      go_still_tail 9, (by kernel_rfl)
      change wpList _ _ _ _ _ wr.drew
      have HB : Hid (Below w.heap.size w wr.drew) := bk.out.drew
      clear bk g0 x0 hs1 ht1
      generalize wr.drew = wd at *
      go_wp2_with fail
      refine (less_int6 q p _).mono ?_
      rintro e w2 ⟨rfl, b2⟩
      rw [HO.out]
      have HB2 : Hid (Below w.heap.size w w2) := HB.out.trans (b2.mono HB.out.size)
      clear b2
      go_wp2_with fail
      go_roundg (gk - 1)
      case measure => have := HG.out; omega
      case rel => exact ⟨k, by have := HG.out; omega, by omega, by go_num, HB2⟩
    · go_wp2_with fail
      go_ret
      exact ⟨rfl, bk.out⟩
end Go.Proofs.Ytkebeadaoiiokaa
