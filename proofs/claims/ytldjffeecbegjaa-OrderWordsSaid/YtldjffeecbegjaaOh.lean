/- Law OrderCut: its walk. -/
import Derived.Test.YtldjffeecbegjaaOg
import Derived.Deep.RegionHeld3
namespace Go.Proofs.Ytldjffeecbegjaa
open Go.RowKit

theorem reads_own {w : World} {A : Option Addr} {n c : Nat} {ps : List Pr} {base : Nat} (h : w.ownsRow base 27 2 (.slice A n c) n (cellsP ps)) : Reads w w.heap.size 2 A n (cellsP ps) := Reads.of_own h
theorem reads_drop {w : World} {B n k c : Nat} {A : Option Addr} {ps : List Pr} (h : Reads w B 2 A n (cellsP ps)) (hk : k ≤ n) (hc : n ≤ c) : Reads w B 2 (if c = k then A else A.map (·.add (k * 2))) (n - k) (cellsP (ps.drop k)) := by
  rw [cellsP_drop]
  exact h.cut hk hc
theorem reads_taken {w : World} {B n k : Nat} {A : Option Addr} {ps : List Pr} (h : Reads w B 2 A n (cellsP ps)) (hk : k ≤ n) : Reads w B 2 A k (cellsP (ps.take k)) := by
  rw [cellsP_take]
  exact reads_take h hk
theorem Own.later {B h n : Nat} {xs : List Pr} {w w' : World} (o : Own B h n xs w) (hb : Below w.heap.size w w') : Own B h n xs w' := ⟨o.1, o.2.1, o.2.2.below hb o.2.2.lt⟩

theorem Own.drew {B h n : Nat} {xs : List Pr} {w : World} (o : Own B h n xs w) : Own B h n xs w.drew := ⟨o.1, o.2.1, o.2.2⟩
theorem Own.low {B B' h n : Nat} {xs : List Pr} {w : World} (o : Own B h n xs w) (hB : B' ≤ B) : Own B' h n xs w := ⟨Nat.le_trans hB o.1, o.2⟩

/-- A place to cut a row at. -/
theorem cut_place (at_ : Int) (m : Nat) (hm : m ≤ 60) : ∃ k : Nat, k ≤ m ∧ wrap64 ((IntKind.u64.wrap at_).tmod ((m : Int) + 1)) = (k : Int) := by
  have h0 : 0 ≤ IntKind.u64.wrap at_ := by rw [IntKind.wrap_u64]; omega
  have h1 := Int.emod_nonneg (IntKind.u64.wrap at_) (show ((m : Int) + 1) ≠ 0 by omega)
  have h2 := Int.emod_lt_of_pos (IntKind.u64.wrap at_) (show (0 : Int) < (m : Int) + 1 by omega)
  rw [Int.tmod_eq_emod_of_nonneg h0]
  exact ⟨(IntKind.u64.wrap at_ % ((m : Int) + 1)).toNat, by omega, by rw [IntWalk.wrap64_in _ (by omega)]; omega⟩

set_option maxRecDepth 100000 in
set_option maxHeartbeats 4000000 in
theorem cut_core (A : Option Addr) (n c : Nat) (xs : List Pr) (at_ : Int) (hc : A = none → c = 0) (hnc : n ≤ c) (hcm : c ≤ 9223372036854775807) (w : World) (hR : Reads w w.heap.size 2 A n (cellsP xs)) :
    Calls Try.prog 5 #[.slice A n c, .int .i64 at_] w fun e w' => e = .returned (.bool true) ∧ Below w.heap.size w w' := by
  obtain ⟨m, hm⟩ : ∃ m, min n 60 = m := ⟨_, rfl⟩
  obtain ⟨ys, hys⟩ : ∃ ys, xs.take 60 = ys := ⟨_, rfl⟩
  have hm60 : m ≤ 60 := by omega
  have HF := Lib.hid fun (W : World) (b : Below w.heap.size w W) => few_any A n c xs hc hnc hcm W ((hR.below b).more b.size)
  rw [hm, hys] at HF
  clear hm hys hR hc hnc hcm
  obtain ⟨k, hk, hkk⟩ := cut_place at_ m hm60
  go_enter Try.func5, Try.ntmps5
  go_wp2_with fail
  refine (wakes_order _).mono ?_
  rintro e w1 ⟨rfl, b1⟩
  have B1 := Lib.hid b1
  clear b1
  go_wp2_with fail
  refine (HF.out _ B1.out).mono ?_
  rintro e w2 ⟨A2, c2, rfl, o2, k2, k3, b2⟩
  have B2 : Hid (Below w.heap.size w w2) := B1.out.trans (b2.mono B1.out.size)
  have R2 := Lib.hid (reads_own o2)
  clear o2 b2 B1 HF
  have hlen := reads_len R2.out
  have HS1 := Lib.hid fun (W : World) (b : Below w2.heap.size w2 W) => sort_any A2 m c2 ys (by omega) W ((R2.out.below b).more b.size)
  have HS2 := Lib.hid fun (W : World) (b : Below w2.heap.size w2 W) => sort_any A2 k c2 (ys.take k) (by omega) W ((reads_taken R2.out hk).below b |>.more b.size)
  have HS3 := Lib.hid fun (W : World) (b : Below w2.heap.size w2 W) => sort_any (if c2 = k then A2 else A2.map (·.add (k * 2))) (m - k) (c2 - k) (ys.drop k) (by omega) W ((reads_drop R2.out hk k2).below b |>.more b.size)
  have sl1 := pr_slice_h A2 m c2 k k rfl (by omega)
  have sl2 := pr_slice_l A2 m c2 k k rfl (by omega)
  generalize (if c2 = k then A2 else A2.map (·.add (k * 2))) = A3 at *
  have HL := Lib.hid hlen
  clear hlen R2
  go_wp2_with fail
  refine (HS1.out _ (Below.refl _ _)).mono ?_
  rintro e w3 ⟨h3, rfl, o3, b3⟩
  have B3 := Lib.hid b3
  have O3 := Lib.hid o3
  clear b3 o3
  go_wp2_with fail
  have HB : Hid (Below w2.heap.size w2 w3.drew) := drew_below B3.out
  have HM := Lib.hid fun (W : World) (h4 h5 : Nat) (o4 : Own w2.heap.size h4 k (srt ltP (ys.take k)) W) (o5 : Own w2.heap.size h5 (m - k) (srt ltP (ys.drop k)) W) =>
    merge2_any (some ⟨h4, 0, none⟩) (some ⟨h5, 0, none⟩) k (m - k) k (m - k) _ _ (Nat.le_refl _) (Nat.le_refl _) (by omega) (by omega) (by omega) W o4.reads o5.reads
  go_region_held3 (fun w' => True) (exact trivial) (first
    | (have _t := B5; go_at_call 14; refine (HM.out w5 h4 h5 O4'.out O5.out).mono ?_; rintro e w6 ⟨h6, rfl, o6, b6⟩; have B6 : Hid (Below w2.heap.size w2 w6) := B5.out.trans (b6.mono B5.out.size); have O6 := Lib.hid o6; have B36 := Lib.hid (O3c.out.later b6); clear o6 b6)
    | (have _t := B4; go_at_call 10; refine (HS3.out w4 B4.out).mono ?_; rintro e w5 ⟨h5, rfl, o5, b5⟩; have B5 : Hid (Below w2.heap.size w2 w5) := B4.out.trans (b5.mono B4.out.size); have O5 := Lib.hid (Own.low o5 B4.out.size); have O4' := Lib.hid (O4.out.later b5); have O3c := Lib.hid (O3b.out.later b5); clear o5 b5)
    | (go_at_call 10; refine (HS2.out w3.drew HB.out).mono ?_; rintro e w4 ⟨h4, rfl, o4, b4⟩; have B4 : Hid (Below w2.heap.size w2 w4) := HB.out.trans (b4.mono HB.out.size); have O4 := Lib.hid (Own.low o4 HB.out.size); have O3b := Lib.hid (O3.out.drew.later b4); clear o4 b4)
    | fail)
  have hmm : k + (m - k) = m := by omega
  have R6 : Hid (Own w2.heap.size h6 m (srt ltP ys) w6) := by
    have := O6.out.low B5.out.size
    rw [hmm, srt_mrg ltP_ahead, List.take_append_drop] at this
    exact this
  have HWF : Hid (Below w.heap.size w w6) := B2.out.trans (B6.out.mono B2.out.size)
  have R3 : Hid (Own w2.heap.size h3 m (srt ltP ys) w6) := B36.out
  clear HM HS1 HS2 HS3 O4 O4' O5 O6 B3 B4 B5 B6 HB sl1 sl2 hkk hmm O3 O3b O3c B36
  go_wp2_with fail
  refine (equalP_same (some ⟨h3, 0, none⟩) (some ⟨h6, 0, none⟩) m m m _ (by omega) w6 R3.out.reads R6.out.reads).mono ?_
  rintro e w7 ⟨rfl, b7⟩
  have R7 := Lib.hid (R3.out.later b7)
  have HW7 : Hid (Below w.heap.size w w7) := HWF.out.trans (b7.mono HWF.out.size)
  clear b7
  go_wp2_with fail
  refine (sort_any (some ⟨h3, 0, none⟩) m m _ (by omega) w7 R7.out.reads).mono ?_
  rintro e w8 ⟨h8, rfl, o8, b8⟩
  have R8 := Lib.hid (R7.out.later b8)
  rw [srt_same ltP_ahead (srt_order ltP_ahead ys)] at o8
  have O8 := Lib.hid o8
  have HW8 : Hid (Below w.heap.size w w8) := HW7.out.trans (b8.mono HW7.out.size)
  clear b8 o8
  go_wp2_with fail
  refine (equalP_same (some ⟨h8, 0, none⟩) (some ⟨h3, 0, none⟩) m m m _ (by omega) w8 O8.out.reads R8.out.reads).mono ?_
  rintro e w9 ⟨rfl, b9⟩
  have R9 := Lib.hid (R8.out.later b9)
  have HW9 : Hid (Below w.heap.size w w9) := HW8.out.trans (b9.mono HW8.out.size)
  clear b9
  go_wp2_with fail
  refine (sortedP_yes (some ⟨h3, 0, none⟩) m m _ (by omega) (srt_order ltP_ahead ys) w9 R9.out.reads).mono ?_
  rintro e w10 ⟨rfl, b10⟩
  have HW10 : Hid (Below w.heap.size w w10) := HW9.out.trans (b10.mono HW9.out.size)
  clear b10
  go_wp2_with fail
  go_ret
  exact ⟨rfl, HW10.out⟩
end Go.Proofs.Ytldjffeecbegjaa
