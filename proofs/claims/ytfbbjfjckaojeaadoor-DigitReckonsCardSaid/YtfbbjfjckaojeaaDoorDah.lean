/- Law DigitReckons: its walk. -/
import Derived.Test.YtfbbjfjckaojeaaDoorDag
import Derived.Test.YtfbbjfjckaojeaaDoorDz
import Derived.Test.YtfbbjfjckaojeaaDoorDy
namespace Go.Proofs.YtfbbjfjckaojeaaDoor
open Go.RowKit

theorem at_int_k {w : World} {B n k : Nat} {A : Option Addr} {zs : List Int} (h : Reads w B 1 A n (ints zs)) (hk : k < n) :
    ∃ b off, A = some ⟨b, off, none⟩ ∧ b < B ∧ zs.getD k 0 ∈ zs ∧ w.cell? ⟨b, off + k, none⟩ = some (.int .i64 (zs.getD k 0)) := by
  obtain ⟨b, off, hA, hb, hc⟩ := reads_plain h (by omega)
  have hl : k < zs.length := by have := h.1; rw [ints_length] at this; omega
  exact ⟨b, off, hA, hb, by simp [hl], hc k _ (by simp [ints, hl])⟩

set_option maxRecDepth 100000 in
set_option maxHeartbeats 6400000 in
theorem reckons_core (A : Option Addr) (n c m : Nat) (zs : List Int) (hm : (min (n : Int) 12).toNat = m) (hmn : m ≤ n) (hm12 : m ≤ 12) (h64 : all64 zs) (w : World) (htab : Tab w)
    (hr : Reads w w.heap.size 1 A n (ints zs)) (hnc : n ≤ c) (hc : c ≤ 9223372036854775807) :
    Calls Tryd.prog 4 #[.slice A n c] w fun e w' => e = .returned (.bool true) ∧ Below w.heap.size w w' := by
  have H0 := Lib.hid (wakes_any w htab)
  have HI := Lib.hid (reads_take hr hmn)
  have H64 := Lib.hid (all64_take h64 m)
  have HLen : Hid ((zs.take m).length = m) := by have := hr.1; rw [ints_length] at this; show (zs.take m).length = m; rw [List.length_take]; omega
  clear htab hr h64
  generalize zs.take m = xs at *
  go_enter Tryd.func4, Tryd.ntmps4
  go_wp2_with fail
  refine H0.out.mono ?_
  rintro e w1 ⟨rfl, b1⟩
  go_wp2_with fail
  go_loopw [30] (fun i wr => ∃ k : Nat, k ≤ m ∧ i = .int .i64 k ∧ Below w.heap.size w wr ∧ Arr wr w1.heap.size (dg (xs.take k).sum)) (fun i wr => m - (intOf i).toNat)
  case atStart =>
    refine ⟨0, Nat.zero_le _, rfl, b1.alloc b1.size _, (Arr.new w1 0 0 0 0 0 38).ext fun j hj => ?_⟩
    match j, hj with
    | 0, _ => rfl
    | 1, _ => rfl
    | 2, _ => rfl
    | 3, _ => rfl
    | 4, _ => rfl
  case round =>
    obtain ⟨k, hk, rfl, b2, ra⟩ := hrel
    by_cases hlt : k < m
    · obtain ⟨b, off, rfl, hb, hz, hc0⟩ := at_int_k HI.out hlt
      obtain ⟨a, hadef⟩ : ∃ a, a = xs.getD k 0 := ⟨_, rfl⟩
      rw [← hadef] at hz hc0
      have hcell : wr.cell? ⟨b, off + k, none⟩ = some (.int .i64 a) := (b2.cell (p := ⟨b, off + k, none⟩) hb).trans hc0
      have ha64 := H64.out a hz
      have hst : (xs.take (k + 1)).sum = (xs.take k).sum + a := by rw [hadef]; exact sum_step xs k (by rw [HLen.out]; exact hlt)
      have HST := Lib.hid hst
      have HOa := Lib.hid fun W => of_any a ha64.1 ha64.2 W
      have HPa := Lib.hid fun W => rplus_any (xs.take k).sum a W
      rw [← HST.out] at HPa
      have HA64 := Lib.hid ha64
      generalize (xs.take k).sum = s at *
      obtain ⟨s1, hs1⟩ : ∃ s1, (xs.take (k + 1)).sum = s1 := ⟨_, rfl⟩
      rw [hs1] at HPa
      have HS1 := Lib.hid hs1
      clear hs1 HST
      obtain ⟨⟨q0, q1, q2, q3, q4⟩, _⟩ := ra.five
      clear hz hc0 hadef hst ha64
      go_wp2_with fail
      go_region_with (first
        | (go_at_call 18; refine (HOa.out _).mono ?_; rintro e wo ⟨rfl, bo0⟩; have bo : Below wr.heap.size wr wo := ((Below.refl _ wr).drew).trans bo0; have ro := ra.below bo; obtain ⟨⟨o0, o1, o2, o3, o4⟩, _⟩ := ro.five; clear bo0)
        | (go_at_call 17; refine (HPa.out _).mono ?_; rintro e wp ⟨rfl, bp⟩; have rp := ro.below bp; obtain ⟨⟨p0, p1, p2, p3, p4⟩, g0, g1, g2, g3, g4⟩ := rp.five))
      all_goals
        have B2 : Below w.heap.size w wp := (b2.trans (bo.mono b2.size)).trans (bp.mono (Nat.le_trans b2.size bo.size))
        have R2 : Arr (((((wp.setCell ⟨w1.heap.size, 0, none⟩ (.int .u64 (dg s1 0))).setCell ⟨w1.heap.size, 1, none⟩ (.int .u64 (dg s1 1))).setCell ⟨w1.heap.size, 2, none⟩ (.int .u64 (dg s1 2))).setCell ⟨w1.heap.size, 3, none⟩ (.int .u64 (dg s1 3))).setCell ⟨w1.heap.size, 4, none⟩ (.int .u64 (dg s1 4))) w1.heap.size (dg s1) :=
          (((((rp.set (by decide) _).set (by decide) _).set (by decide) _).set (by decide) _).set (by decide) _).ext fun j hj => by
            match j, hj with
            | 0, _ => rfl
            | 1, _ => rfl
            | 2, _ => rfl
            | 3, _ => rfl
            | 4, _ => rfl
        have hw1 : w.heap.size ≤ w1.heap.size := b1.size
        have B3 := ((((B2.setCell (p := ⟨w1.heap.size, 0, none⟩) hw1 (.int .u64 (dg s1 0))).setCell (p := ⟨w1.heap.size, 1, none⟩) hw1 (.int .u64 (dg s1 1))).setCell (p := ⟨w1.heap.size, 2, none⟩) hw1 (.int .u64 (dg s1 2))).setCell (p := ⟨w1.heap.size, 3, none⟩) hw1 (.int .u64 (dg s1 3))).setCell (p := ⟨w1.heap.size, 4, none⟩) hw1 (.int .u64 (dg s1 4))
        clear bo bp ro rp p0 p1 p2 p3 p4 g0 g1 g2 g3 g4 o0 o1 o2 o3 o4 q0 q1 q2 q3 q4 B2 ra b2 hcell
        go_wp2_with fail
        go_loopw [40] (fun i wr => ∃ j : Nat, j ≤ m ∧ i = .int .i64 j ∧ Below w.heap.size w wr ∧ Arr wr w1.heap.size (dg s1)) (fun i wr => m - (intOf i).toNat)
        case atStart => exact ⟨0, Nat.zero_le _, rfl, B3, R2⟩
        case round =>
          clear B3 R2
          obtain ⟨j, hj, rfl, bx0, rx0⟩ := hrel
          by_cases hlj : j < m
          · obtain ⟨b', off', hA, hb', hz, hc0⟩ := at_int_k HI.out hlj
            injection hA with hA
            injection hA with h1 h2 _
            subst h1; subst h2
            obtain ⟨d, hddef⟩ : ∃ d, d = xs.getD j 0 := ⟨_, rfl⟩
            rw [← hddef] at hz hc0
            have hcell := (bx0.cell (p := ⟨b, off + j, none⟩) hb').trans hc0
            have hd64 := H64.out d hz
            have ha64 := HA64.out
            have hsum := ok64 ha64.1 ha64.2 hd64.1 hd64.2
            have hprod := mul128 ha64.1 ha64.2 hd64.1 hd64.2
            have HAdd := Lib.hid fun W => add_any a d ha64.1 ha64.2 hd64.1 hd64.2 W
            have HOb := Lib.hid fun W => of_any d hd64.1 hd64.2 W
            have HPl := Lib.hid fun W => rplus_any a d W
            have HFs := Lib.hid fun W => rfits_any (a + d) hsum W
            have HMul := Lib.hid fun W => mul_any a d ha64.1 ha64.2 hd64.1 hd64.2 W
            have HTi := Lib.hid fun W => rtimes_any a d W
            have HFp := Lib.hid fun W => rfits_any (a * d) hprod W
            generalize a + d = sm at *
            generalize a * d = pr at *
            clear hz hc0 hddef hd64 ha64 hsum hprod
            go_wp2_with fail
            refine (HAdd.out _).mono ?_
            rintro e x1 ⟨rfl, cx1⟩
            have bx1 := bx0.trans (cx1.mono bx0.size)
            have rx1 := rx0.below cx1
            clear cx1 bx0 rx0
            go_wp2_with fail
            refine (HOa.out _).mono ?_
            rintro e x2 ⟨rfl, cx2⟩
            have bx2 := bx1.trans (cx2.mono bx1.size)
            have rx2 := rx1.below cx2
            clear cx2 bx1 rx1
            go_wp2_with fail
            refine (HOb.out _).mono ?_
            rintro e x3 ⟨rfl, cx3⟩
            have bx3 := bx2.trans (cx3.mono bx2.size)
            have rx3 := rx2.below cx3
            clear cx3 bx2 rx2
            go_wp2_with fail
            refine (HPl.out _).mono ?_
            rintro e x4 ⟨rfl, cx4⟩
            have bx4 := bx3.trans (cx4.mono bx3.size)
            have rx4 := rx3.below cx4
            clear cx4 bx3 rx3
            go_wp2_with fail
            refine (HFs.out _).mono ?_
            rintro e x5 ⟨rfl, cx5⟩
            have bx5 := bx4.trans (cx5.mono bx4.size)
            have rx5 := rx4.below cx5
            clear cx5 bx4 rx4
            go_wp2_with fail
            refine (HMul.out _).mono ?_
            rintro e x6 ⟨rfl, cx6⟩
            have bx6 := bx5.trans (cx6.mono bx5.size)
            have rx6 := rx5.below cx6
            clear cx6 bx5 rx5
            go_wp2_with fail
            refine (HOa.out _).mono ?_
            rintro e x7 ⟨rfl, cx7⟩
            have bx7 := bx6.trans (cx7.mono bx6.size)
            have rx7 := rx6.below cx7
            clear cx7 bx6 rx6
            go_wp2_with fail
            refine (HOb.out _).mono ?_
            rintro e x8 ⟨rfl, cx8⟩
            have bx8 := bx7.trans (cx8.mono bx7.size)
            have rx8 := rx7.below cx8
            clear cx8 bx7 rx7
            go_wp2_with fail
            refine (HTi.out _).mono ?_
            rintro e x9 ⟨rfl, cx9⟩
            have bx9 := bx8.trans (cx9.mono bx8.size)
            have rx9 := rx8.below cx9
            clear cx9 bx8 rx8
            go_wp2_with fail
            refine (HFp.out _).mono ?_
            rintro e x10 ⟨rfl, cx10⟩
            have bx10 := bx9.trans (cx10.mono bx9.size)
            have rx10 := rx9.below cx10
            clear cx10 bx9 rx9
            go_wp2_with fail
            go_roundw
            case rel => exact ⟨j + 1, by omega, by go_num, bx10, rx10⟩
            case measure => simp [intOf]; omega
          · have hge : ¬ (j : Int) < (m : Int) := by omega
            go_wp2_with fail
            go_roundw
            case rel => exact ⟨k + 1, by omega, by go_num, bx0, by rw [HS1.out]; exact rx0⟩
            case measure => simp [intOf]; omega
    · have hge : ¬ (k : Int) < (m : Int) := by omega
      have hall : xs.take k = xs := List.take_of_length_le (by rw [HLen.out]; omega)
      rw [hall] at ra
      have hsum := sum128 xs H64.out (by rw [HLen.out]; omega)
      have hS := fun W hr' => sum_reads A m c xs H64.out (by omega) W hr'
      have hF := fun W => rfits_any xs.sum hsum W
      have HI2 := Lib.hid ((HI.out.below b2).more b2.size)
      generalize xs.sum = sm at *
      clear hall hsum
      cases hf : fitB sm
      · have he : sumE sm = 111 := by unfold sumE; rw [hf]; rfl
        rw [he] at hS
        rw [hf] at hF
        have HSm := Lib.hid hS
        have HFt := Lib.hid hF
        clear hS hF he hf
        go_wp2_with fail
        refine (HSm.out _ HI2.out).mono ?_
        rintro e w3 ⟨rfl, c3⟩
        have b3 := b2.trans (c3.mono b2.size)
        obtain ⟨⟨q0, q1, q2, q3, q4⟩, _⟩ := (ra.below c3).five
        clear c3 ra b2
        go_wp2_with fail
        refine (HFt.out _).mono ?_
        rintro e w4 ⟨rfl, c4⟩
        have b4 := b3.trans (c4.mono b3.size)
        clear c4 b3
        go_wp2_with fail
        go_ret
        exact ⟨rfl, b4⟩
      · have he : sumE sm = 0 := by unfold sumE; rw [hf]; rfl
        rw [he] at hS
        rw [hf] at hF
        have HSm := Lib.hid hS
        have HFt := Lib.hid hF
        clear hS hF he hf
        go_wp2_with fail
        refine (HSm.out _ HI2.out).mono ?_
        rintro e w3 ⟨rfl, c3⟩
        have b3 := b2.trans (c3.mono b2.size)
        obtain ⟨⟨q0, q1, q2, q3, q4⟩, _⟩ := (ra.below c3).five
        clear c3 ra b2
        go_wp2_with fail
        refine (HFt.out _).mono ?_
        rintro e w4 ⟨rfl, c4⟩
        have b4 := b3.trans (c4.mono b3.size)
        clear c4 b3
        go_wp2_with fail
        go_ret
        exact ⟨rfl, b4⟩
end Go.Proofs.YtfbbjfjckaojeaaDoor
