/- Layer history: whether two histories are the same (Same): contract. -/
import Derived.Test.YtlnbmmaminflcaaGreatDoorM28
import Derived.Test.YtlnbmmaminflcaaGreatDoorM23
-- holds: YtlnbmmaminflcaaGreatDoorVIr
namespace Go.Proofs.YtlnbmmaminflcaaGreatDoor
open Go.RowKit Go.Shelf

structure SameI (a b : HistM) (Ba Bb Bp : Nat) (w X : World) : Prop where
 below : Below w.heap.size w X
 ba : Blk X Ba 28 a.cs
 bb : Blk X Bb 28 b.cs
 bp : Blk X Bp 75 #[.pointer (some ⟨Bb, 0, none⟩), .pointer (some ⟨Bb, 1, none⟩), .pointer (some ⟨Bb, 2, none⟩), .pointer (some ⟨Bb, 3, none⟩)]
theorem SameI.on {a b : HistM} {Ba Bb Bp : Nat} {w X Y : World} (h : SameI a b Ba Bb Bp w X) (hb : Below X.heap.size X Y) : SameI a b Ba Bb Bp w Y := ⟨h.below.trans (hb.mono h.below.size), h.ba.below hb h.ba.lt, h.bb.below hb h.bb.lt, h.bp.below hb h.bp.lt⟩
theorem hist_eq {a b : HistM} : a.pl = b.pl ↔ (∀ s, s < 4 → (a.sort s).2 = (b.sort s).2) ∧ a.ev.2.map (·.1) = b.ev.2.map (·.1) ∧ a.od.2.map (·.1) = b.od.2.map (·.1) ∧ a.ma.2.map (·.1) = b.ma.2.map (·.1) ∧ a.wa.2 = b.wa.2 := by
 constructor
 ·intro h
  refine ⟨fun s _ => by rw [sort_names, sort_names, h], ?_⟩
  unfold HistM.pl at h
  injection h with _ _ _ _ h1 h2 h3 h4
  exact ⟨h1, h2, h3, h4⟩
 ·rintro ⟨h, h1, h2, h3, h4⟩
  have g0 := h 0 (by omega)
  have g1 := h 1 (by omega)
  have g2 := h 2 (by omega)
  have g3 := h 3 (by omega)
  simp only [HistM.sort, if_true, if_false, Nat.one_ne_zero, Nat.reduceEqDiff] at g0 g1 g2 g3
  unfold HistM.pl
  rw [g0, g1, g2, g3, h1, h2, h3, h4]

set_option maxRecDepth 100000 in
set_option maxHeartbeats 16000000 in
theorem same11_any (a b : HistM) (hS : Small a.pl) (hS2 : Small b.pl) (w : World) (hm : HRd w w.heap.size a) (hm2 : HRd w w.heap.size b) : Calls Tryz.prog 13 #[.agg #[.slice a.tr.1.A a.tr.1.n a.tr.1.c, .slice a.se.1.A a.se.1.n a.se.1.c, .slice a.ob.1.A a.ob.1.n a.ob.1.c, .slice a.pr.1.A a.pr.1.n a.pr.1.c, .slice a.ev.1.A a.ev.1.n a.ev.1.c, .slice a.od.1.A a.od.1.n a.od.1.c, .slice a.ma.1.A a.ma.1.n a.ma.1.c, .slice a.wa.1.A a.wa.1.n a.wa.1.c], .agg #[.slice b.tr.1.A b.tr.1.n b.tr.1.c, .slice b.se.1.A b.se.1.n b.se.1.c, .slice b.ob.1.A b.ob.1.n b.ob.1.c, .slice b.pr.1.A b.pr.1.n b.pr.1.c, .slice b.ev.1.A b.ev.1.n b.ev.1.c, .slice b.od.1.A b.od.1.n b.od.1.c, .slice b.ma.1.A b.ma.1.n b.ma.1.c, .slice b.wa.1.A b.wa.1.n b.wa.1.c]] w fun e w' => e = .returned (.bool (decide (a.pl = b.pl))) ∧ Below w.heap.size w w' := by
 obtain ⟨ka, kb, b0, hs0⟩ := itwo w #[.slice a.tr.1.A a.tr.1.n a.tr.1.c, .slice a.se.1.A a.se.1.n a.se.1.c, .slice a.ob.1.A a.ob.1.n a.ob.1.c, .slice a.pr.1.A a.pr.1.n a.pr.1.c, .slice a.ev.1.A a.ev.1.n a.ev.1.c, .slice a.od.1.A a.od.1.n a.od.1.c, .slice a.ma.1.A a.ma.1.n a.ma.1.c, .slice a.wa.1.A a.wa.1.n a.wa.1.c] #[.slice b.tr.1.A b.tr.1.n b.tr.1.c, .slice b.se.1.A b.se.1.n b.se.1.c, .slice b.ob.1.A b.ob.1.n b.ob.1.c, .slice b.pr.1.A b.pr.1.n b.pr.1.c, .slice b.ev.1.A b.ev.1.n b.ev.1.c, .slice b.od.1.A b.od.1.n b.od.1.c, .slice b.ma.1.A b.ma.1.n b.ma.1.c, .slice b.wa.1.A b.wa.1.n b.wa.1.c] 28 28
 have hfa := hm.fit
 have hfb := hm2.fit
 have hla := hfa.low hS
 have hlb := hfb.low hS2
 have KA := Lib.hid ka
 have KB := Lib.hid kb
 have B0 := Lib.hid b0
 clear ka kb b0 hs0
 go_enter Tryz.func13, Tryz.ntmps13
 go_wp2_with fail
 refine (names_any (w.heap.size + 1) _).mono ?_
 rintro e w1 ⟨rfl, b1⟩
 obtain ⟨kp, bp, hsp⟩ := ibox w1 #[.pointer (some ⟨w.heap.size + 1, 0, none⟩), .pointer (some ⟨w.heap.size + 1, 1, none⟩), .pointer (some ⟨w.heap.size + 1, 2, none⟩), .pointer (some ⟨w.heap.size + 1, 3, none⟩)] 75
 have hb1 := B0.out.trans (b1.mono B0.out.size)
 have HI : Hid (SameI a b w.heap.size (w.heap.size + 1) w1.heap.size w (w1.alloc (.cells #[.pointer (some ⟨w.heap.size + 1, 0, none⟩), .pointer (some ⟨w.heap.size + 1, 1, none⟩), .pointer (some ⟨w.heap.size + 1, 2, none⟩), .pointer (some ⟨w.heap.size + 1, 3, none⟩)] 75))) := ⟨hb1.trans (bp.mono hb1.size), (KA.out.below b1 KA.out.lt).below bp (KA.out.below b1 KA.out.lt).lt, (KB.out.below b1 KB.out.lt).below bp (KB.out.below b1 KB.out.lt).lt, kp⟩
 clear b1 hb1 kp bp hsp KA KB B0
 go_wp2_with fail
 generalize w1.alloc (.cells #[.pointer (some ⟨w.heap.size + 1, 0, none⟩), .pointer (some ⟨w.heap.size + 1, 1, none⟩), .pointer (some ⟨w.heap.size + 1, 2, none⟩), .pointer (some ⟨w.heap.size + 1, 3, none⟩)] 75) = W1 at *
 generalize w1.heap.size = Bp at *
 obtain ⟨Bb, hBb⟩ : ∃ Bb, Bb = w.heap.size + 1 := ⟨_, rfl⟩
 rw [← hBb] at HI ⊢
 clear hBb
 obtain ⟨Ba, hBa⟩ : ∃ Ba, Ba = w.heap.size := ⟨_, rfl⟩
 have HI : Hid (SameI a b Ba Bb Bp w W1) := by rw [hBa]; exact HI
 rw [← hBa]
 clear hBa
 refine (names_any Ba _).mono ?_
 rintro e w2 ⟨rfl, b2⟩
 have HI := Lib.hid (HI.out.on b2)
 clear b2
 go_wp2_with fail
 go_loopw [10] (fun v wr => ∃ k : Nat, k ≤ 4 ∧ v = .int .i64 k ∧ Hid (∀ s, s < k → (a.sort s).2 = (b.sort s).2) ∧ Hid (SameI a b Ba Bb Bp w wr)) (fun v _ => 4 - (intOf v).toNat)
 case atStart => exact ⟨0, by omega, rfl, fun s hs => absurd hs (Nat.not_lt_zero _), HI⟩
 case round =>
  clear HI
  obtain ⟨k, hk, rfl, HEQ, HI⟩ := hrel
  by_cases hk4 : k < 4
  ·have hkl : (k : Int) < 4 := by omega
   have z1 : wr.cell? ⟨Ba, k, none⟩ = some (.slice (a.sort k).1.A (a.sort k).1.n (a.sort k).1.c) := (HI.out.ba.cell k).trans (cs_sort a k hk4)
   have z2 : wr.cell? ⟨Bb, k, none⟩ = some (.slice (b.sort k).1.A (b.sort k).1.n (b.sort k).1.c) := (HI.out.bb.cell k).trans (cs_sort b k hk4)
   have z3 : wr.cell? ⟨Bp, k, none⟩ = some (.pointer (some ⟨Bb, k, none⟩)) := (HI.out.bp.cell k).trans (ptr4_at Bb k hk4)
   have hix := idx4 hk4 Ba wr
   have h1 := hS.sort k
   have h2 := strs_len (hm.sort k)
   have h3 := hS2.sort k
   have h4 := strs_len (hm2.sort k)
   have HC := Lib.hid (eqs11_any (a.sort k).1.A (b.sort k).1.A (a.sort k).1.n (b.sort k).1.n (a.sort k).1.c (b.sort k).1.c (a.sort k).2 (b.sort k).2 (by omega) (by omega) wr.drew (((hm.sort k).below HI.out.below.drew).more HI.out.below.drew.size) (((hm2.sort k).below HI.out.below.drew).more HI.out.below.drew.size))
   clear h1 h2 h3 h4
   go_wp2_with fail
   go_still_tail 8, (by kernel_rfl)
   change wpList _ _ _ _ _ wr.drew
   have HI := Lib.hid (HI.out.on ((Below.refl _ _).drew))
   generalize wr.drew = wd at *
   go_wp2_with fail
   refine HC.out.mono ?_
   rintro e w5 ⟨rfl, b5⟩
   have HI := Lib.hid (HI.out.on b5)
   clear b5 HC z1 z2 z3 hix
   by_cases hq : (a.sort k).2 = (b.sort k).2
   ·rw [decide_eq_true hq]
    have HEQ : Hid (∀ s, s < k + 1 → (a.sort s).2 = (b.sort s).2) := fun s hs => by
     rcases Nat.lt_or_ge s k with h | h
     ·exact HEQ.out s h
     ·obtain rfl : s = k := by omega
      exact hq
    clear hq
    go_wp2_with fail
    go_roundw
    case rel => exact ⟨k + 1, by omega, by go_num, HEQ, HI⟩
    case measure => simp [intOf]; omega
   ·rw [decide_eq_false hq]
    have HX : Hid (decide (a.pl = b.pl) = false) := decide_eq_false fun e => hq ((hist_eq.1 e).1 k hk4)
    clear hq
    go_wp2_with fail
    go_ret
    exact ⟨by rw [HX.out]; rfl, HI.out.below⟩
  ·obtain rfl : k = 4 := by omega
   simp only [show ((4 : Nat) : Int) = 4 from rfl]
   clear hk hk4
   have y4 : wr.cell? ⟨Ba, 4, none⟩ = some (.slice a.ev.1.A a.ev.1.n a.ev.1.c) := HI.out.ba.cell 4
   have x4 : wr.cell? ⟨Bb, 4, none⟩ = some (.slice b.ev.1.A b.ev.1.n b.ev.1.c) := HI.out.bb.cell 4
   have HC := Lib.hid (eqfEv_any a.ev.1.A b.ev.1.A a.ev.1.n b.ev.1.n a.ev.1.c b.ev.1.c a.ev.2 b.ev.2 (by have := hla.ev; omega) ⟨fun p hp => (by have := hla.sc p hp; omega), fun p hp => (by have := hlb.sc p hp; omega)⟩ wr ((hm.ev.below HI.out.below).more HI.out.below.size) ((hm2.ev.below HI.out.below).more HI.out.below.size) (fun p hp => ((hm.sc p hp).below HI.out.below).more HI.out.below.size) (fun p hp => ((hm2.sc p hp).below HI.out.below).more HI.out.below.size))
   go_wp2_with fail
   refine HC.out.mono ?_
   rintro e w5 ⟨rfl, b5⟩
   have HI := Lib.hid (HI.out.on b5)
   clear b5 HC y4 x4
   by_cases q4 : ¬ a.ev.2.map (·.1) = b.ev.2.map (·.1)
   ·rw [decide_eq_false q4]
    have HX : Hid (decide (a.pl = b.pl) = false) := decide_eq_false fun e => q4 (hist_eq.1 e).2.1
    clear q4
    go_wp2_with fail
    go_ret
    exact ⟨by rw [HX.out]; rfl, HI.out.below⟩
   have q4 := Decidable.not_not.1 q4
   rw [decide_eq_true q4]
   have Hq4 := Lib.hid q4
   clear q4
   have y4 : w5.cell? ⟨Ba, 5, none⟩ = some (.slice a.od.1.A a.od.1.n a.od.1.c) := HI.out.ba.cell 5
   have x4 : w5.cell? ⟨Bb, 5, none⟩ = some (.slice b.od.1.A b.od.1.n b.od.1.c) := HI.out.bb.cell 5
   have HC := Lib.hid (eqfOd_any a.od.1.A b.od.1.A a.od.1.n b.od.1.n a.od.1.c b.od.1.c a.od.2 b.od.2 (by have := hla.od; omega) ⟨fun p hp => (by have := hla.ot p hp; omega), fun p hp => (by have := hlb.ot p hp; omega)⟩ w5 ((hm.od.below HI.out.below).more HI.out.below.size) ((hm2.od.below HI.out.below).more HI.out.below.size) (fun p hp => ((hm.ot p hp).below HI.out.below).more HI.out.below.size) (fun p hp => ((hm2.ot p hp).below HI.out.below).more HI.out.below.size))
   go_wp2_with fail
   refine HC.out.mono ?_
   rintro e w6 ⟨rfl, b5⟩
   have HI := Lib.hid (HI.out.on b5)
   clear b5 HC y4 x4
   by_cases q5 : ¬ a.od.2.map (·.1) = b.od.2.map (·.1)
   ·rw [decide_eq_false q5]
    have HX : Hid (decide (a.pl = b.pl) = false) := decide_eq_false fun e => q5 (hist_eq.1 e).2.2.1
    clear q5
    go_wp2_with fail
    go_ret
    exact ⟨by rw [HX.out]; rfl, HI.out.below⟩
   have q5 := Decidable.not_not.1 q5
   rw [decide_eq_true q5]
   have Hq5 := Lib.hid q5
   clear q5
   have y4 : w6.cell? ⟨Ba, 6, none⟩ = some (.slice a.ma.1.A a.ma.1.n a.ma.1.c) := HI.out.ba.cell 6
   have x4 : w6.cell? ⟨Bb, 6, none⟩ = some (.slice b.ma.1.A b.ma.1.n b.ma.1.c) := HI.out.bb.cell 6
   have HC := Lib.hid (eqfMa_any a.ma.1.A b.ma.1.A a.ma.1.n b.ma.1.n a.ma.1.c b.ma.1.c a.ma.2 b.ma.2 (by have := hla.ma; omega) ⟨fun p hp => (by have := hla.mt p hp; omega), fun p hp => (by have := hlb.mt p hp; omega)⟩ w6 ((hm.ma.below HI.out.below).more HI.out.below.size) ((hm2.ma.below HI.out.below).more HI.out.below.size) (fun p hp => ((hm.mt p hp).below HI.out.below).more HI.out.below.size) (fun p hp => ((hm2.mt p hp).below HI.out.below).more HI.out.below.size))
   go_wp2_with fail
   refine HC.out.mono ?_
   rintro e w7 ⟨rfl, b5⟩
   have HI := Lib.hid (HI.out.on b5)
   clear b5 HC y4 x4
   by_cases q6 : ¬ a.ma.2.map (·.1) = b.ma.2.map (·.1)
   ·rw [decide_eq_false q6]
    have HX : Hid (decide (a.pl = b.pl) = false) := decide_eq_false fun e => q6 (hist_eq.1 e).2.2.2.1
    clear q6
    go_wp2_with fail
    go_ret
    exact ⟨by rw [HX.out]; rfl, HI.out.below⟩
   have q6 := Decidable.not_not.1 q6
   rw [decide_eq_true q6]
   have Hq6 := Lib.hid q6
   clear q6
   have y4 : w7.cell? ⟨Ba, 7, none⟩ = some (.slice a.wa.1.A a.wa.1.n a.wa.1.c) := HI.out.ba.cell 7
   have x4 : w7.cell? ⟨Bb, 7, none⟩ = some (.slice b.wa.1.A b.wa.1.n b.wa.1.c) := HI.out.bb.cell 7
   have HC := Lib.hid (eqWant_any a.wa.1.A b.wa.1.A a.wa.1.n b.wa.1.n a.wa.1.c b.wa.1.c a.wa.2 b.wa.2 (by have := hla.wa; omega) w7 ((hm.wa.below HI.out.below).more HI.out.below.size) ((hm2.wa.below HI.out.below).more HI.out.below.size))
   go_wp2_with fail
   refine HC.out.mono ?_
   rintro e w8 ⟨rfl, b5⟩
   have HI := Lib.hid (HI.out.on b5)
   clear b5 HC y4 x4
   have HX : Hid (decide (a.pl = b.pl) = decide (a.wa.2 = b.wa.2)) := by show _ = _; rw [decide_eq_decide, hist_eq]; exact ⟨fun h => h.2.2.2.2, fun h => ⟨HEQ.out, Hq4.out, Hq5.out, Hq6.out, h⟩⟩
   generalize decide (a.wa.2 = b.wa.2) = r at *
   go_wp2_with fail
   go_ret
   exact ⟨by rw [HX.out]; rfl, HI.out.below⟩
end Go.Proofs.YtlnbmmaminflcaaGreatDoor
