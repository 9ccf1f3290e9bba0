/- Layer history: which transactions have begun, and not ended (open): contract. -/
import Derived.Test.YtlnbmmaminflcaaGreatDoorC19
import Derived.Test.YtlnbmmaminflcaaGreatDoorC18
import Derived.Deep.CutRange
import Derived.Deep.DeepCutAuto
import Derived.Test.YtlnbmmaminflcaaGreatDoorC12
import Derived.Test.YtlnbmmaminflcaaGreatDoorC13
-- holds: YtlnbmmaminflcaaGreatDoorSIr YtlnbmmaminflcaaGreatDoorSIx
namespace Go.Proofs.YtlnbmmaminflcaaGreatDoor
open Go.RowKit Go.Shelf

structure SameI (a b : HistM) (Ba Bb Bp : Nat) (w X : World) : Prop where
 below : Below w.heap.size w X
 ba : Blk X Ba 28 a.cs
 bb : Blk X Bb 28 b.cs
 bp : Blk X Bp 75 #[.pointer (some ⟨Bb, 0, none⟩), .pointer (some ⟨Bb, 1, none⟩), .pointer (some ⟨Bb, 2, none⟩), .pointer (some ⟨Bb, 3, none⟩)]
theorem SameI.on {a b : HistM} {Ba Bb Bp : Nat} {w X Y : World} (h : SameI a b Ba Bb Bp w X) (hb : Below X.heap.size X Y) : SameI a b Ba Bb Bp w Y := ⟨h.below.trans (hb.mono h.below.size), h.ba.below hb h.ba.lt, h.bb.below hb h.bb.lt, h.bp.below hb h.bp.lt⟩
theorem hist_eq {a b : HistM} : a.pl = b.pl ↔ (∀ s, s < 4 → (a.sort s).2 = (b.sort s).2) ∧ a.ev.2.map (·.1) = b.ev.2.map (·.1) ∧ a.od.2.map (·.1) = b.od.2.map (·.1) ∧ a.ma.2.map (·.1) = b.ma.2.map (·.1) ∧ a.wa.2 = b.wa.2 := by
 constructor
 ·intro h
  refine ⟨fun s _ => by rw [sort_names, sort_names, h], ?_⟩
  unfold HistM.pl at h
  injection h with _ _ _ _ h1 h2 h3 h4
  exact ⟨h1, h2, h3, h4⟩
 ·rintro ⟨h, h1, h2, h3, h4⟩
  have g0 := h 0 (by omega)
  have g1 := h 1 (by omega)
  have g2 := h 2 (by omega)
  have g3 := h 3 (by omega)
  simp only [HistM.sort, if_true, if_false, Nat.one_ne_zero, Nat.reduceEqDiff] at g0 g1 g2 g3
  unfold HistM.pl
  rw [g0, g1, g2, g3, h1, h2, h3, h4]

set_option maxRecDepth 100000 in
set_option maxHeartbeats 16000000 in
theorem same11_any (a b : HistM) (hS : Small a.pl) (hS2 : Small b.pl) (w : World) (hm : HRd w w.heap.size a) (hm2 : HRd w w.heap.size b) : Calls Tryz.prog 13 #[.agg #[.slice a.tr.1.A a.tr.1.n a.tr.1.c, .slice a.se.1.A a.se.1.n a.se.1.c, .slice a.ob.1.A a.ob.1.n a.ob.1.c, .slice a.pr.1.A a.pr.1.n a.pr.1.c, .slice a.ev.1.A a.ev.1.n a.ev.1.c, .slice a.od.1.A a.od.1.n a.od.1.c, .slice a.ma.1.A a.ma.1.n a.ma.1.c, .slice a.wa.1.A a.wa.1.n a.wa.1.c], .agg #[.slice b.tr.1.A b.tr.1.n b.tr.1.c, .slice b.se.1.A b.se.1.n b.se.1.c, .slice b.ob.1.A b.ob.1.n b.ob.1.c, .slice b.pr.1.A b.pr.1.n b.pr.1.c, .slice b.ev.1.A b.ev.1.n b.ev.1.c, .slice b.od.1.A b.od.1.n b.od.1.c, .slice b.ma.1.A b.ma.1.n b.ma.1.c, .slice b.wa.1.A b.wa.1.n b.wa.1.c]] w fun e w' => e = .returned (.bool (decide (a.pl = b.pl))) ∧ Below w.heap.size w w' := by
 obtain ⟨ka, kb, b0, hs0⟩ := itwo w #[.slice a.tr.1.A a.tr.1.n a.tr.1.c, .slice a.se.1.A a.se.1.n a.se.1.c, .slice a.ob.1.A a.ob.1.n a.ob.1.c, .slice a.pr.1.A a.pr.1.n a.pr.1.c, .slice a.ev.1.A a.ev.1.n a.ev.1.c, .slice a.od.1.A a.od.1.n a.od.1.c, .slice a.ma.1.A a.ma.1.n a.ma.1.c, .slice a.wa.1.A a.wa.1.n a.wa.1.c] #[.slice b.tr.1.A b.tr.1.n b.tr.1.c, .slice b.se.1.A b.se.1.n b.se.1.c, .slice b.ob.1.A b.ob.1.n b.ob.1.c, .slice b.pr.1.A b.pr.1.n b.pr.1.c, .slice b.ev.1.A b.ev.1.n b.ev.1.c, .slice b.od.1.A b.od.1.n b.od.1.c, .slice b.ma.1.A b.ma.1.n b.ma.1.c, .slice b.wa.1.A b.wa.1.n b.wa.1.c] 28 28
 have hfa := hm.fit
 have hfb := hm2.fit
 have hla := hfa.low hS
 have hlb := hfb.low hS2
 have KA := Lib.hid ka
 have KB := Lib.hid kb
 have B0 := Lib.hid b0
 clear ka kb b0 hs0
 go_enter Tryz.func13, Tryz.ntmps13
 go_wp2_with fail
 refine (names_any (w.heap.size + 1) _).mono ?_
 rintro e w1 ⟨rfl, b1⟩
 obtain ⟨kp, bp, hsp⟩ := ibox w1 #[.pointer (some ⟨w.heap.size + 1, 0, none⟩), .pointer (some ⟨w.heap.size + 1, 1, none⟩), .pointer (some ⟨w.heap.size + 1, 2, none⟩), .pointer (some ⟨w.heap.size + 1, 3, none⟩)] 75
 have hb1 := B0.out.trans (b1.mono B0.out.size)
 have HI : Hid (SameI a b w.heap.size (w.heap.size + 1) w1.heap.size w (w1.alloc (.cells #[.pointer (some ⟨w.heap.size + 1, 0, none⟩), .pointer (some ⟨w.heap.size + 1, 1, none⟩), .pointer (some ⟨w.heap.size + 1, 2, none⟩), .pointer (some ⟨w.heap.size + 1, 3, none⟩)] 75))) := ⟨hb1.trans (bp.mono hb1.size), (KA.out.below b1 KA.out.lt).below bp (KA.out.below b1 KA.out.lt).lt, (KB.out.below b1 KB.out.lt).below bp (KB.out.below b1 KB.out.lt).lt, kp⟩
 clear b1 hb1 kp bp hsp KA KB B0
 go_wp2_with fail
 generalize w1.alloc (.cells #[.pointer (some ⟨w.heap.size + 1, 0, none⟩), .pointer (some ⟨w.heap.size + 1, 1, none⟩), .pointer (some ⟨w.heap.size + 1, 2, none⟩), .pointer (some ⟨w.heap.size + 1, 3, none⟩)] 75) = W1 at *
 generalize w1.heap.size = Bp at *
 obtain ⟨Bb, hBb⟩ : ∃ Bb, Bb = w.heap.size + 1 := ⟨_, rfl⟩
 rw [← hBb] at HI ⊢
 clear hBb
 obtain ⟨Ba, hBa⟩ : ∃ Ba, Ba = w.heap.size := ⟨_, rfl⟩
 have HI : Hid (SameI a b Ba Bb Bp w W1) := by rw [hBa]; exact HI
 rw [← hBa]
 clear hBa
 refine (names_any Ba _).mono ?_
 rintro e w2 ⟨rfl, b2⟩
 have HI := Lib.hid (HI.out.on b2)
 clear b2
 go_wp2_with fail
 go_loopw [10] (fun v wr => ∃ k : Nat, k ≤ 4 ∧ v = .int .i64 k ∧ Hid (∀ s, s < k → (a.sort s).2 = (b.sort s).2) ∧ Hid (SameI a b Ba Bb Bp w wr)) (fun v _ => 4 - (intOf v).toNat)
 case atStart => exact ⟨0, by omega, rfl, fun s hs => absurd hs (Nat.not_lt_zero _), HI⟩
 case round =>
  clear HI
  obtain ⟨k, hk, rfl, HEQ, HI⟩ := hrel
  have h5 : k = 0 ∨ k = 1 ∨ k = 2 ∨ k = 3 ∨ k = 4 := by omega
  clear hk
  rcases h5 with rfl | rfl | rfl | rfl | rfl
  ·have z1 : wr.cell? ⟨Ba, 0, none⟩ = some (.slice (a.sort 0).1.A (a.sort 0).1.n (a.sort 0).1.c) := (HI.out.ba.cell 0).trans (cs_sort a 0 (by omega))
   have z2 : wr.cell? ⟨Bb, 0, none⟩ = some (.slice (b.sort 0).1.A (b.sort 0).1.n (b.sort 0).1.c) := (HI.out.bb.cell 0).trans (cs_sort b 0 (by omega))
   have z3 : wr.cell? ⟨Bp, 0, none⟩ = some (.pointer (some ⟨Bb, 0, none⟩)) := HI.out.bp.cell 0
   have hix := idx4_0 Ba wr
   have h1 := hS.sort 0
   have h2 := strs_len (hm.sort 0)
   have h3 := hS2.sort 0
   have h4 := strs_len (hm2.sort 0)
   have HC := Lib.hid (eqs11_any (a.sort 0).1.A (b.sort 0).1.A (a.sort 0).1.n (b.sort 0).1.n (a.sort 0).1.c (b.sort 0).1.c (a.sort 0).2 (b.sort 0).2 (by omega) (by omega) wr.drew (((hm.sort 0).below HI.out.below.drew).more HI.out.below.drew.size) (((hm2.sort 0).below HI.out.below.drew).more HI.out.below.drew.size))
   clear h1 h2 h3 h4
   go_wp2_with fail
   go_still_tail 8, (by kernel_rfl)
   change wpList _ _ _ _ _ wr.drew
   have HI := Lib.hid (HI.out.on ((Below.refl _ _).drew))
   generalize wr.drew = wd at *
   go_wp2_with fail
   refine HC.out.mono ?_
   rintro e w5 ⟨rfl, b5⟩
   have HI := Lib.hid (HI.out.on b5)
   clear b5 HC z1 z2 z3 hix
   by_cases hq : (a.sort 0).2 = (b.sort 0).2
   ·rw [decide_eq_true hq]
    have HEQ : Hid (∀ s, s < 1 → (a.sort s).2 = (b.sort s).2) := fun s hs => by
     rcases Nat.lt_or_ge s 0 with h | h
     ·exact HEQ.out s h
     ·obtain rfl : s = 0 := by omega
      exact hq
    clear hq
    go_wp2_with fail
    go_roundw
    case rel => exact ⟨1, by omega, rfl, HEQ, HI⟩
    case measure => simp [intOf]
   ·rw [decide_eq_false hq]
    have HX : Hid (decide (a.pl = b.pl) = false) := decide_eq_false fun e => hq ((hist_eq.1 e).1 0 (by omega))
    clear hq
    go_wp2_with fail
    go_ret
    exact ⟨by rw [HX.out]; rfl, HI.out.below⟩
  ·have z1 : wr.cell? ⟨Ba, 1, none⟩ = some (.slice (a.sort 1).1.A (a.sort 1).1.n (a.sort 1).1.c) := (HI.out.ba.cell 1).trans (cs_sort a 1 (by omega))
   have z2 : wr.cell? ⟨Bb, 1, none⟩ = some (.slice (b.sort 1).1.A (b.sort 1).1.n (b.sort 1).1.c) := (HI.out.bb.cell 1).trans (cs_sort b 1 (by omega))
   have z3 : wr.cell? ⟨Bp, 1, none⟩ = some (.pointer (some ⟨Bb, 1, none⟩)) := HI.out.bp.cell 1
   have hix := idx4_1 Ba wr
   have h1 := hS.sort 1
   have h2 := strs_len (hm.sort 1)
   have h3 := hS2.sort 1
   have h4 := strs_len (hm2.sort 1)
   have HC := Lib.hid (eqs11_any (a.sort 1).1.A (b.sort 1).1.A (a.sort 1).1.n (b.sort 1).1.n (a.sort 1).1.c (b.sort 1).1.c (a.sort 1).2 (b.sort 1).2 (by omega) (by omega) wr.drew (((hm.sort 1).below HI.out.below.drew).more HI.out.below.drew.size) (((hm2.sort 1).below HI.out.below.drew).more HI.out.below.drew.size))
   clear h1 h2 h3 h4
   go_wp2_with fail
   go_still_tail 8, (by kernel_rfl)
   change wpList _ _ _ _ _ wr.drew
   have HI := Lib.hid (HI.out.on ((Below.refl _ _).drew))
   generalize wr.drew = wd at *
   go_wp2_with fail
   refine HC.out.mono ?_
   rintro e w5 ⟨rfl, b5⟩
   have HI := Lib.hid (HI.out.on b5)
   clear b5 HC z1 z2 z3 hix
   by_cases hq : (a.sort 1).2 = (b.sort 1).2
   ·rw [decide_eq_true hq]
    have HEQ : Hid (∀ s, s < 2 → (a.sort s).2 = (b.sort s).2) := fun s hs => by
     rcases Nat.lt_or_ge s 1 with h | h
     ·exact HEQ.out s h
     ·obtain rfl : s = 1 := by omega
      exact hq
    clear hq
    go_wp2_with fail
    go_roundw
    case rel => exact ⟨2, by omega, rfl, HEQ, HI⟩
    case measure => simp [intOf]
   ·rw [decide_eq_false hq]
    have HX : Hid (decide (a.pl = b.pl) = false) := decide_eq_false fun e => hq ((hist_eq.1 e).1 1 (by omega))
    clear hq
    go_wp2_with fail
    go_ret
    exact ⟨by rw [HX.out]; rfl, HI.out.below⟩
  ·have z1 : wr.cell? ⟨Ba, 2, none⟩ = some (.slice (a.sort 2).1.A (a.sort 2).1.n (a.sort 2).1.c) := (HI.out.ba.cell 2).trans (cs_sort a 2 (by omega))
   have z2 : wr.cell? ⟨Bb, 2, none⟩ = some (.slice (b.sort 2).1.A (b.sort 2).1.n (b.sort 2).1.c) := (HI.out.bb.cell 2).trans (cs_sort b 2 (by omega))
   have z3 : wr.cell? ⟨Bp, 2, none⟩ = some (.pointer (some ⟨Bb, 2, none⟩)) := HI.out.bp.cell 2
   have hix := idx4_2 Ba wr
   have h1 := hS.sort 2
   have h2 := strs_len (hm.sort 2)
   have h3 := hS2.sort 2
   have h4 := strs_len (hm2.sort 2)
   have HC := Lib.hid (eqs11_any (a.sort 2).1.A (b.sort 2).1.A (a.sort 2).1.n (b.sort 2).1.n (a.sort 2).1.c (b.sort 2).1.c (a.sort 2).2 (b.sort 2).2 (by omega) (by omega) wr.drew (((hm.sort 2).below HI.out.below.drew).more HI.out.below.drew.size) (((hm2.sort 2).below HI.out.below.drew).more HI.out.below.drew.size))
   clear h1 h2 h3 h4
   go_wp2_with fail
   go_still_tail 8, (by kernel_rfl)
   change wpList _ _ _ _ _ wr.drew
   have HI := Lib.hid (HI.out.on ((Below.refl _ _).drew))
   generalize wr.drew = wd at *
   go_wp2_with fail
   refine HC.out.mono ?_
   rintro e w5 ⟨rfl, b5⟩
   have HI := Lib.hid (HI.out.on b5)
   clear b5 HC z1 z2 z3 hix
   by_cases hq : (a.sort 2).2 = (b.sort 2).2
   ·rw [decide_eq_true hq]
    have HEQ : Hid (∀ s, s < 3 → (a.sort s).2 = (b.sort s).2) := fun s hs => by
     rcases Nat.lt_or_ge s 2 with h | h
     ·exact HEQ.out s h
     ·obtain rfl : s = 2 := by omega
      exact hq
    clear hq
    go_wp2_with fail
    go_roundw
    case rel => exact ⟨3, by omega, rfl, HEQ, HI⟩
    case measure => simp [intOf]
   ·rw [decide_eq_false hq]
    have HX : Hid (decide (a.pl = b.pl) = false) := decide_eq_false fun e => hq ((hist_eq.1 e).1 2 (by omega))
    clear hq
    go_wp2_with fail
    go_ret
    exact ⟨by rw [HX.out]; rfl, HI.out.below⟩
  ·have z1 : wr.cell? ⟨Ba, 3, none⟩ = some (.slice (a.sort 3).1.A (a.sort 3).1.n (a.sort 3).1.c) := (HI.out.ba.cell 3).trans (cs_sort a 3 (by omega))
   have z2 : wr.cell? ⟨Bb, 3, none⟩ = some (.slice (b.sort 3).1.A (b.sort 3).1.n (b.sort 3).1.c) := (HI.out.bb.cell 3).trans (cs_sort b 3 (by omega))
   have z3 : wr.cell? ⟨Bp, 3, none⟩ = some (.pointer (some ⟨Bb, 3, none⟩)) := HI.out.bp.cell 3
   have hix := idx4_3 Ba wr
   have h1 := hS.sort 3
   have h2 := strs_len (hm.sort 3)
   have h3 := hS2.sort 3
   have h4 := strs_len (hm2.sort 3)
   have HC := Lib.hid (eqs11_any (a.sort 3).1.A (b.sort 3).1.A (a.sort 3).1.n (b.sort 3).1.n (a.sort 3).1.c (b.sort 3).1.c (a.sort 3).2 (b.sort 3).2 (by omega) (by omega) wr.drew (((hm.sort 3).below HI.out.below.drew).more HI.out.below.drew.size) (((hm2.sort 3).below HI.out.below.drew).more HI.out.below.drew.size))
   clear h1 h2 h3 h4
   go_wp2_with fail
   go_still_tail 8, (by kernel_rfl)
   change wpList _ _ _ _ _ wr.drew
   have HI := Lib.hid (HI.out.on ((Below.refl _ _).drew))
   generalize wr.drew = wd at *
   go_wp2_with fail
   refine HC.out.mono ?_
   rintro e w5 ⟨rfl, b5⟩
   have HI := Lib.hid (HI.out.on b5)
   clear b5 HC z1 z2 z3 hix
   by_cases hq : (a.sort 3).2 = (b.sort 3).2
   ·rw [decide_eq_true hq]
    have HEQ : Hid (∀ s, s < 4 → (a.sort s).2 = (b.sort s).2) := fun s hs => by
     rcases Nat.lt_or_ge s 3 with h | h
     ·exact HEQ.out s h
     ·obtain rfl : s = 3 := by omega
      exact hq
    clear hq
    go_wp2_with fail
    go_roundw
    case rel => exact ⟨4, by omega, rfl, HEQ, HI⟩
    case measure => simp [intOf]
   ·rw [decide_eq_false hq]
    have HX : Hid (decide (a.pl = b.pl) = false) := decide_eq_false fun e => hq ((hist_eq.1 e).1 3 (by omega))
    clear hq
    go_wp2_with fail
    go_ret
    exact ⟨by rw [HX.out]; rfl, HI.out.below⟩
  ·have y4 : wr.cell? ⟨Ba, 4, none⟩ = some (.slice a.ev.1.A a.ev.1.n a.ev.1.c) := HI.out.ba.cell 4
   have x4 : wr.cell? ⟨Bb, 4, none⟩ = some (.slice b.ev.1.A b.ev.1.n b.ev.1.c) := HI.out.bb.cell 4
   have HC := Lib.hid (eqfEv_any a.ev.1.A b.ev.1.A a.ev.1.n b.ev.1.n a.ev.1.c b.ev.1.c a.ev.2 b.ev.2 (by have := hla.ev; omega) ⟨fun p hp => (by have := hla.sc p hp; omega), fun p hp => (by have := hlb.sc p hp; omega)⟩ wr ((hm.ev.below HI.out.below).more HI.out.below.size) ((hm2.ev.below HI.out.below).more HI.out.below.size) (fun p hp => ((hm.sc p hp).below HI.out.below).more HI.out.below.size) (fun p hp => ((hm2.sc p hp).below HI.out.below).more HI.out.below.size))
   go_wp2_with fail
   refine HC.out.mono ?_
   rintro e w5 ⟨rfl, b5⟩
   have HI := Lib.hid (HI.out.on b5)
   clear b5 HC y4 x4
   by_cases q4 : ¬ a.ev.2.map (·.1) = b.ev.2.map (·.1)
   ·rw [decide_eq_false q4]
    have HX : Hid (decide (a.pl = b.pl) = false) := decide_eq_false fun e => q4 (hist_eq.1 e).2.1
    clear q4
    go_wp2_with fail
    go_ret
    exact ⟨by rw [HX.out]; rfl, HI.out.below⟩
   have q4 := Decidable.not_not.1 q4
   rw [decide_eq_true q4]
   have Hq4 := Lib.hid q4
   clear q4
   have y4 : w5.cell? ⟨Ba, 5, none⟩ = some (.slice a.od.1.A a.od.1.n a.od.1.c) := HI.out.ba.cell 5
   have x4 : w5.cell? ⟨Bb, 5, none⟩ = some (.slice b.od.1.A b.od.1.n b.od.1.c) := HI.out.bb.cell 5
   have HC := Lib.hid (eqfOd_any a.od.1.A b.od.1.A a.od.1.n b.od.1.n a.od.1.c b.od.1.c a.od.2 b.od.2 (by have := hla.od; omega) ⟨fun p hp => (by have := hla.ot p hp; omega), fun p hp => (by have := hlb.ot p hp; omega)⟩ w5 ((hm.od.below HI.out.below).more HI.out.below.size) ((hm2.od.below HI.out.below).more HI.out.below.size) (fun p hp => ((hm.ot p hp).below HI.out.below).more HI.out.below.size) (fun p hp => ((hm2.ot p hp).below HI.out.below).more HI.out.below.size))
   go_wp2_with fail
   refine HC.out.mono ?_
   rintro e w6 ⟨rfl, b5⟩
   have HI := Lib.hid (HI.out.on b5)
   clear b5 HC y4 x4
   by_cases q5 : ¬ a.od.2.map (·.1) = b.od.2.map (·.1)
   ·rw [decide_eq_false q5]
    have HX : Hid (decide (a.pl = b.pl) = false) := decide_eq_false fun e => q5 (hist_eq.1 e).2.2.1
    clear q5
    go_wp2_with fail
    go_ret
    exact ⟨by rw [HX.out]; rfl, HI.out.below⟩
   have q5 := Decidable.not_not.1 q5
   rw [decide_eq_true q5]
   have Hq5 := Lib.hid q5
   clear q5
   have y4 : w6.cell? ⟨Ba, 6, none⟩ = some (.slice a.ma.1.A a.ma.1.n a.ma.1.c) := HI.out.ba.cell 6
   have x4 : w6.cell? ⟨Bb, 6, none⟩ = some (.slice b.ma.1.A b.ma.1.n b.ma.1.c) := HI.out.bb.cell 6
   have HC := Lib.hid (eqfMa_any a.ma.1.A b.ma.1.A a.ma.1.n b.ma.1.n a.ma.1.c b.ma.1.c a.ma.2 b.ma.2 (by have := hla.ma; omega) ⟨fun p hp => (by have := hla.mt p hp; omega), fun p hp => (by have := hlb.mt p hp; omega)⟩ w6 ((hm.ma.below HI.out.below).more HI.out.below.size) ((hm2.ma.below HI.out.below).more HI.out.below.size) (fun p hp => ((hm.mt p hp).below HI.out.below).more HI.out.below.size) (fun p hp => ((hm2.mt p hp).below HI.out.below).more HI.out.below.size))
   go_wp2_with fail
   refine HC.out.mono ?_
   rintro e w7 ⟨rfl, b5⟩
   have HI := Lib.hid (HI.out.on b5)
   clear b5 HC y4 x4
   by_cases q6 : ¬ a.ma.2.map (·.1) = b.ma.2.map (·.1)
   ·rw [decide_eq_false q6]
    have HX : Hid (decide (a.pl = b.pl) = false) := decide_eq_false fun e => q6 (hist_eq.1 e).2.2.2.1
    clear q6
    go_wp2_with fail
    go_ret
    exact ⟨by rw [HX.out]; rfl, HI.out.below⟩
   have q6 := Decidable.not_not.1 q6
   rw [decide_eq_true q6]
   have Hq6 := Lib.hid q6
   clear q6
   have y4 : w7.cell? ⟨Ba, 7, none⟩ = some (.slice a.wa.1.A a.wa.1.n a.wa.1.c) := HI.out.ba.cell 7
   have x4 : w7.cell? ⟨Bb, 7, none⟩ = some (.slice b.wa.1.A b.wa.1.n b.wa.1.c) := HI.out.bb.cell 7
   have HC := Lib.hid (eqWant_any a.wa.1.A b.wa.1.A a.wa.1.n b.wa.1.n a.wa.1.c b.wa.1.c a.wa.2 b.wa.2 (by have := hla.wa; omega) w7 ((hm.wa.below HI.out.below).more HI.out.below.size) ((hm2.wa.below HI.out.below).more HI.out.below.size))
   go_wp2_with fail
   refine HC.out.mono ?_
   rintro e w8 ⟨rfl, b5⟩
   have HI := Lib.hid (HI.out.on b5)
   clear b5 HC y4 x4
   have HX : Hid (decide (a.pl = b.pl) = decide (a.wa.2 = b.wa.2)) := by show _ = _; rw [decide_eq_decide, hist_eq]; exact ⟨fun h => h.2.2.2.2, fun h => ⟨HEQ.out, Hq4.out, Hq5.out, Hq6.out, h⟩⟩
   generalize decide (a.wa.2 = b.wa.2) = r at *
   go_wp2_with fail
   go_ret
   exact ⟨by rw [HX.out]; rfl, HI.out.below⟩
end Go.Proofs.YtlnbmmaminflcaaGreatDoor
namespace Go.Proofs.YtlnbmmaminflcaaGreatDoor
open Go.RowKit Go.Shelf

def bools (bs : List Bool) : List Value := bs.map Value.bool
theorem bools_length (bs : List Bool) : (bools bs).length = bs.length := by unfold bools; simp
theorem bools_set (bs : List Bool) (k : Nat) (b : Bool) : (bools bs).set k (.bool b) = bools (bs.set k b) := by unfold bools; rw [List.map_set]
theorem bools_get {bs : List Bool} {k : Nat} {b : Bool} (h : bs[k]? = some b) : (bools bs)[k]? = some (.bool b) := by unfold bools; rw [List.getElem?_map, h]; rfl
theorem bool_info : (Tryz.prog.info? 4).map (fun i => (i.zero, i.size, i.bytes)) = some (some (.bool false), 1, 1) := by kernel_rfl
theorem made_bools (n : Nat) : madeCells (Value.bool false).cells (n * 1) = (bools (List.replicate n false)).toArray := by
 apply Array.ext
 ·rw [size_madeCells, List.size_toArray, bools_length, List.length_replicate, Nat.mul_one]
 ·intro j h1 h2
  have hz : (Value.bool false).cells = #[.bool false] := by simp [Value.cells]
  simp only [madeCells, hz, Array.getElem_map, Array.getElem_range, List.getElem_toArray, bools, List.getElem_map, List.getElem_replicate]
  simp [Nat.mod_one]
theorem bool_make (n : Nat) (z : Int) (hz : z = (n : Int)) (hn : n ≤ 1000000) (W : World) :
 (Instr.makeSlice 131 (.int .i64 z) (.int .i64 z)).run Tryz.prog W = .ok (.slice (some ⟨W.heap.size, 0, none⟩) n n) (W.alloc (.cells (bools (List.replicate n false)).toArray 4)) := by
 subst hz
 obtain ⟨i0, hi, hz0, hz1, hz2⟩ := info_parts bool_info
 have hr := run_make (P := Tryz.prog) W 131 4 i0 _ Tryz.underlying131 hi hz0 .i64 .i64 n n (by omega) (by omega) (by rw [hz2]; omega) (by omega)
 simp only [Int.toNat_natCast] at hr
 rw [hz1, made_bools] at hr
 exact hr

def hasK (H : Hist) (t : Int) (k : Nat) (p : Int → Bool) : Bool := (H.ev.take k).any fun e => decide (e.t = t) && p e.kd
def marks (n : Nat) (H : Hist) (k : Nat) (p : Int → Bool) : List Bool := (List.range n).map fun u : Nat => hasK H u k p
def kOne (k : Int) : Bool := decide (k = 1)
def kEnd (k : Int) : Bool := decide (k = 5) || decide (k = 6)
section
variable {n k u : Nat} {H : Hist} {p : Int → Bool} {e : EvP}
theorem marks_len : (marks n H k p).length = n := by simp [marks]
theorem marks_get (h : u < n) : (marks n H k p)[u]? = some (hasK H u k p) := by simp [marks, h]
theorem marks_nil : marks n H 0 p = List.replicate n false := by
 unfold marks
 refine List.ext_getElem (by simp) fun i h1 h2 => by simp [hasK]
theorem hasK_next (h : H.ev[k]? = some e) {t : Int} : hasK H t (k + 1) p = (hasK H t k p || (decide (e.t = t) && p e.kd)) := by
 unfold hasK
 rw [List.take_add_one, h, List.any_append]
 simp
theorem marks_no (h : H.ev[k]? = some e) (hp : p e.kd = false) : marks n H (k + 1) p = marks n H k p := by
 unfold marks
 congr 1
 funext u
 rw [hasK_next h, hp]
 simp
theorem marks_yes (h : H.ev[k]? = some e) (hp : p e.kd = true) {tn : Nat} (ht : e.t = tn) (hn : tn < n) : (marks n H k p).set tn true = marks n H (k + 1) p := by
 refine List.ext_getElem? fun i => ?_
 by_cases hi : i < n
 ·rw [marks_get hi, List.getElem?_set, hasK_next h, hp, ht]
  by_cases e1 : tn = i
  ·subst e1
   simp [marks_len, hn]
  ·rw [if_neg e1, marks_get hi]
   have : ¬ ((tn : Int) = (i : Int)) := by omega
   simp [this]
 ·rw [List.getElem?_eq_none (by rw [List.length_set, marks_len]; omega), List.getElem?_eq_none (by rw [marks_len]; omega)]
theorem marks_all (hk : H.ev.length ≤ k) : hasK H u k kOne = hasB H u 1 ∧ hasK H u k kEnd = (hasB H u 5 || hasB H u 6) := by
 unfold hasK hasB
 rw [List.take_of_length_le hk]
 refine ⟨rfl, ?_⟩
 rw [Bool.eq_iff_iff]
 simp only [List.any_eq_true, Bool.or_eq_true, Bool.and_eq_true, decide_eq_true_eq, kEnd]
 constructor
 ·rintro ⟨e, he, h1, h2 | h2⟩
  ·exact .inl ⟨e, he, h1, h2⟩
  ·exact .inr ⟨e, he, h1, h2⟩
 ·rintro (⟨e, he, h1, h2⟩ | ⟨e, he, h1, h2⟩)
  ·exact ⟨e, he, h1, .inl h2⟩
  ·exact ⟨e, he, h1, .inr h2⟩
end
def leftK (H : Hist) (k : Nat) : List Int := (upI k).filter (openB H)
theorem leftK_all (H : Hist) : leftK H H.tr.length = leftL H := rfl
theorem leftK_len (H : Hist) (k : Nat) : (leftK H k).length ≤ k := by
 have := List.length_filter_le (openB H) (upI k)
 rwa [upI_len] at this
theorem leftK_yes {H : Hist} {k : Nat} (h : openB H k = true) : leftK H (k + 1) = leftK H k ++ [(k : Int)] := by unfold leftK; rw [upI_succ, List.filter_append]; simp [h]
theorem leftK_no {H : Hist} {k : Nat} (h : openB H k = false) : leftK H (k + 1) = leftK H k := by unfold leftK; rw [upI_succ, List.filter_append]; simp [h]

structure MkI (w : World) (m : HistM) (n P Q k : Nat) (X : World) : Prop where
 p : Blk X P 4 (bools (marks n m.pl k kOne)).toArray
 q : Blk X Q 4 (bools (marks n m.pl k kEnd)).toArray
 h : Blk X w.heap.size 28 m.cs
 below : Below w.heap.size w X
 ne : P ≠ Q ∧ w.heap.size < P ∧ w.heap.size < Q
section
variable {w X Y : World} {m : HistM} {n P Q k : Nat}
theorem MkI.on (h : MkI w m n P Q k X) (hb : Below X.heap.size X Y) : MkI w m n P Q k Y := ⟨h.p.below hb h.p.lt, h.q.below hb h.q.lt, h.h.below hb h.h.lt, h.below.trans (hb.mono h.below.size), h.ne⟩
theorem MkI.alloc (h : MkI w m n P Q k X) (o : Obj) : MkI w m n P Q k (X.alloc o) := h.on ((Below.refl _ _).alloc (Nat.le_refl _) o)
theorem MkI.pass (h : MkI w m n P Q k X) {e : EvP} (he : m.pl.ev[k]? = some e) (h1 : kOne e.kd = false) (h2 : kEnd e.kd = false) : MkI w m n P Q (k + 1) X :=
 ⟨by rw [marks_no he h1]; exact h.p, by rw [marks_no he h2]; exact h.q, h.h, h.below, h.ne⟩
theorem MkI.one (h : MkI w m n P Q k X) {e : EvP} (he : m.pl.ev[k]? = some e) (h1 : kOne e.kd = true) (h2 : kEnd e.kd = false) {tn : Nat} (ht : e.t = tn) (hn : tn < n) : MkI w m n P Q (k + 1) (X.setCell ⟨P, tn, none⟩ (.bool true)) := by
 refine ⟨?_, ?_, h.h.far (p := ⟨P, tn, none⟩) (by show w.heap.size ≠ P; have := h.ne; omega) _, h.below.setCell (p := ⟨P, tn, none⟩) (by show w.heap.size ≤ P; have := h.ne; omega) _, h.ne⟩
 ·have := h.p.set_ tn (.bool true)
  rwa [List.setIfInBounds_toArray, bools_set, marks_yes he h1 ht hn] at this
 ·rw [marks_no he h2]
  exact h.q.far (p := ⟨P, tn, none⟩) (Ne.symm h.ne.1) _
theorem MkI.fin (h : MkI w m n P Q k X) {e : EvP} (he : m.pl.ev[k]? = some e) (h1 : kOne e.kd = false) (h2 : kEnd e.kd = true) {tn : Nat} (ht : e.t = tn) (hn : tn < n) : MkI w m n P Q (k + 1) (X.setCell ⟨Q, tn, none⟩ (.bool true)) := by
 refine ⟨?_, ?_, h.h.far (p := ⟨Q, tn, none⟩) (by show w.heap.size ≠ Q; have := h.ne; omega) _, h.below.setCell (p := ⟨Q, tn, none⟩) (by show w.heap.size ≤ Q; have := h.ne; omega) _, h.ne⟩
 ·rw [marks_no he h1]
  exact h.p.far (p := ⟨Q, tn, none⟩) h.ne.1 _
 ·have := h.q.set_ tn (.bool true)
  rwa [List.setIfInBounds_toArray, bools_set, marks_yes he h2 ht hn] at this
theorem MkI.grown (h : MkI w m n P Q k X) {v v' : Value} {j : Nat} {xs ys : List Value} {j' : Nat} (_ho : Y.ownsRow w.heap.size 3 1 v' j' ys) (hg : X.grownBy Y v.ownBlock) (hx : X.ownsRow w.heap.size 3 1 v j xs) : MkI w m n P Q k Y := by
 have k1 : KeepT 3 X Y := KeepT.grown hx hg
 exact ⟨k1.blk h.p (by decide), k1.blk h.q (by decide), k1.blk h.h (by decide), h.below.grown hg h.below.size fun g hg2 => (own_in_block hx hg2).1, h.ne⟩
theorem MkI.cellP (h : MkI w m n P Q k X) {u : Nat} (hu : u < n) : X.cell? ⟨P, u, none⟩ = some (.bool (hasK m.pl u k kOne)) := by rw [h.p.cell, List.getElem?_toArray]; exact bools_get (marks_get hu)
theorem MkI.cellQ (h : MkI w m n P Q k X) {u : Nat} (hu : u < n) : X.cell? ⟨Q, u, none⟩ = some (.bool (hasK m.pl u k kEnd)) := by rw [h.q.cell, List.getElem?_toArray]; exact bools_get (marks_get hu)
end
def LeftR (H : Hist) (w : World) : Ending → World → Prop := fun e w' => ∃ (A : Option Addr) (c : Nat), e = .returned (.slice A (leftL H).length c) ∧ w'.ownsRow w.heap.size 3 1 (.slice A (leftL H).length c) (leftL H).length (ints (leftL H)) ∧ Below w.heap.size w w'

set_option maxRecDepth 100000 in
set_option maxHeartbeats 8000000 in
theorem open_any (m : HistM) (hS : Small m.pl) (hs : shapedB m.pl = true) (w : World) (hm : HRd w w.heap.size m) : Calls Tryz.prog 56 #[.agg #[.slice m.tr.1.A m.tr.1.n m.tr.1.c, .slice m.se.1.A m.se.1.n m.se.1.c, .slice m.ob.1.A m.ob.1.n m.ob.1.c, .slice m.pr.1.A m.pr.1.n m.pr.1.c, .slice m.ev.1.A m.ev.1.n m.ev.1.c, .slice m.od.1.A m.od.1.n m.od.1.c, .slice m.ma.1.A m.ma.1.n m.ma.1.c, .slice m.wa.1.A m.wa.1.n m.wa.1.c]] w (LeftR m.pl w) := by
 obtain ⟨i0, hi, hz0, hz1, hz2⟩ := info_parts int_info11
 obtain ⟨kh, b0, hs0⟩ := ibox w #[.slice m.tr.1.A m.tr.1.n m.tr.1.c, .slice m.se.1.A m.se.1.n m.se.1.c, .slice m.ob.1.A m.ob.1.n m.ob.1.c, .slice m.pr.1.A m.pr.1.n m.pr.1.c, .slice m.ev.1.A m.ev.1.n m.ev.1.c, .slice m.od.1.A m.od.1.n m.od.1.c, .slice m.ma.1.A m.ma.1.n m.ma.1.c, .slice m.wa.1.A m.wa.1.n m.wa.1.c] 28
 obtain ⟨n, hn⟩ : ∃ n, m.tr.1.n = n := ⟨_, rfl⟩
 have hnl : m.tr.2.length = n := (strs_len hm.tr).trans hn
 have HNL : Hid (m.pl.tr.length = n) := hnl
 have HN := Lib.hid hn
 have hn60 : n ≤ 60 := by have := hS.tr; have := HNL.out; omega
 have hmk : ∀ X, (Instr.makeSlice 131 (.int .i64 (n : Int)) (.int .i64 (n : Int))).run Tryz.prog X = .ok (.slice (some ⟨X.heap.size, 0, none⟩) n n) (X.alloc (.cells (bools (List.replicate n false)).toArray 4)) := fun X => bool_make n n rfl (by omega) X
 have KH := Lib.hid kh
 have B0 := Lib.hid b0
 have HFIT := Lib.hid hm.fit
 have HSH := Lib.hid hs
 clear kh b0 hs0 hn hnl hs
 go_enter Tryz.func56, Tryz.ntmps56
 go_upto_region 1 with fail
 go_cut [3, 4] (fun s3 s4 wx => ∃ (P Q : Nat), s3 = .slice (some ⟨P, 0, none⟩) n n ∧ s4 = .slice (some ⟨Q, 0, none⟩) n n ∧ Hid (MkI w m n P Q 0 wx))
 case first =>
  refine wp_region_noPanic ?_
  refine wp_region_held_drew (S := fun W => Blk W w.heap.size 28 m.cs) (by kernel_rfl) KH.out.drew (fun hHeld => ?_)
  have KH := Lib.hid KH.out.drew
  have B0 := Lib.hid B0.out.drew
  generalize (w.alloc (.cells #[.slice m.tr.1.A m.tr.1.n m.tr.1.c, .slice m.se.1.A m.se.1.n m.se.1.c, .slice m.ob.1.A m.ob.1.n m.ob.1.c, .slice m.pr.1.A m.pr.1.n m.pr.1.c, .slice m.ev.1.A m.ev.1.n m.ev.1.c, .slice m.od.1.A m.od.1.n m.od.1.c, .slice m.ma.1.A m.ma.1.n m.ma.1.c, .slice m.wa.1.A m.wa.1.n m.wa.1.c] 28)).drew = wd at *
  refine tkv 0 (some 9) (.pointer (some ⟨w.heap.size, 0, none⟩)) rfl rfl (fun w' hSw => by (try dsimp only at hSw); go_simp) ?_
  try simp only [Act.put, sA, sB, sC]
  refine tkv 1 (some 10) (.slice m.tr.1.A n m.tr.1.c) rfl rfl (fun w' hSw => by (have c9 : w'.cell? ⟨w.heap.size, 0, none⟩ = some (.slice m.tr.1.A n m.tr.1.c) := by rw [← HN.out]; exact Blk.cell (w := w') hSw 0); go_simp) ?_
  try simp only [Act.put, sA, sB, sC]
  refine tkv 2 (some 11) (.int .i64 (n : Int)) rfl rfl (fun w' hSw => by (try dsimp only at hSw); go_simp) ?_
  try simp only [Act.put, sA, sB, sC]
  refine tkv 4 (some 13) (.pointer (some ⟨w.heap.size, 0, none⟩)) rfl rfl (fun w' hSw => by (try dsimp only at hSw); go_simp) ?_
  try simp only [Act.put, sA, sB, sC]
  refine tkv 5 (some 14) (.slice m.tr.1.A n m.tr.1.c) rfl rfl (fun w' hSw => by (have c9 : w'.cell? ⟨w.heap.size, 0, none⟩ = some (.slice m.tr.1.A n m.tr.1.c) := by rw [← HN.out]; exact Blk.cell (w := w') hSw 0); go_simp) ?_
  try simp only [Act.put, sA, sB, sC]
  refine tkv 6 (some 15) (.int .i64 (n : Int)) rfl rfl (fun w' hSw => by (try dsimp only at hSw); go_simp) ?_
  try simp only [Act.put, sA, sB, sC]
  refine wpAnyH_ready (rs := [3, 7]) (by kernel_rfl) (by simp) ?_
  refine AllReadyH.cons rfl (fun K hK => ?_) ?_
  ·skip
   go_simp
   refine hK.out _ _ (KH.out.alloc _) (fun hHeld => ?_)
   clear hK K
   try simp only [Act.put, sA, sB, sC]
   have hb9 : Below wd.heap.size wd (wd.alloc (.cells (bools (List.replicate n false)).toArray 4)) := (Below.refl _ _).alloc (Nat.le_refl _) _
   have hk9 := Blk.new wd 4 (bools (List.replicate n false)).toArray
   have HKP := Lib.hid hk9
   have HLTP : Hid (w.heap.size < wd.heap.size) := KH.out.lt
   have KH := Lib.hid (KH.out.below hb9 KH.out.lt)
   have B0 := Lib.hid (B0.out.trans (hb9.mono B0.out.size))
   clear hb9 hk9 hHeld
   generalize wd.alloc (.cells (bools (List.replicate n false)).toArray 4) = uP at *
   generalize wd.heap.size = P at *
   have hHeld := KH.out
   refine tkv 8 (some 3) (.slice (some ⟨P, 0, none⟩) n n) rfl rfl (fun w' hSw => by (try dsimp only at hSw); go_simp) ?_
   try simp only [Act.put, sA, sB, sC]
   refine wpAnyH_ready (rs := [7]) (by kernel_rfl) (by simp) ?_
   refine AllReadyH.cons rfl (fun K hK => ?_) ?_
   ·skip
    go_simp
    refine hK.out _ _ (KH.out.alloc _) (fun hHeld => ?_)
    clear hK K
    try simp only [Act.put, sA, sB, sC]
    have hb9 : Below uP.heap.size uP (uP.alloc (.cells (bools (List.replicate n false)).toArray 4)) := (Below.refl _ _).alloc (Nat.le_refl _) _
    have hk9 := Blk.new uP 4 (bools (List.replicate n false)).toArray
    have HKQ := Lib.hid hk9
    have HLTQ : Hid (w.heap.size < uP.heap.size) := KH.out.lt
    have HNE : Hid (P ≠ uP.heap.size) := Nat.ne_of_lt HKP.out.lt
    have HKP := Lib.hid (HKP.out.below hb9 HKP.out.lt)
    have KH := Lib.hid (KH.out.below hb9 KH.out.lt)
    have B0 := Lib.hid (B0.out.trans (hb9.mono B0.out.size))
    clear hb9 hk9 hHeld
    generalize uP.alloc (.cells (bools (List.replicate n false)).toArray 4) = uQ at *
    generalize uP.heap.size = Q at *
    have hHeld := KH.out
    refine tkv 9 (some 4) (.slice (some ⟨Q, 0, none⟩) n n) rfl rfl (fun w' hSw => by (try dsimp only at hSw); go_simp) ?_
    try simp only [Act.put, sA, sB, sC]
    refine wpAnyH_done (by kernel_rfl) ?_ _
    refine NoPanic.normal ?_
    go_wp2_with fail
    go_meet
    exact ⟨P, Q, rfl, rfl, ⟨by rw [marks_nil]; exact HKP.out, by rw [marks_nil]; exact HKQ.out, KH.out, B0.out, ⟨HNE.out, HLTP.out, HLTQ.out⟩⟩⟩
   exact AllReadyH.nil
  refine AllReadyH.cons rfl (fun K hK => ?_) ?_
  ·skip
   go_simp
   refine hK.out _ _ (KH.out.alloc _) (fun hHeld => ?_)
   clear hK K
   try simp only [Act.put, sA, sB, sC]
   have hb9 : Below wd.heap.size wd (wd.alloc (.cells (bools (List.replicate n false)).toArray 4)) := (Below.refl _ _).alloc (Nat.le_refl _) _
   have hk9 := Blk.new wd 4 (bools (List.replicate n false)).toArray
   have HKP := Lib.hid hk9
   have HLTP : Hid (w.heap.size < wd.heap.size) := KH.out.lt
   have KH := Lib.hid (KH.out.below hb9 KH.out.lt)
   have B0 := Lib.hid (B0.out.trans (hb9.mono B0.out.size))
   clear hb9 hk9 hHeld
   generalize wd.alloc (.cells (bools (List.replicate n false)).toArray 4) = uP at *
   generalize wd.heap.size = P at *
   have hHeld := KH.out
   refine wpAnyH_ready (rs := [3]) (by kernel_rfl) (by simp) ?_
   refine AllReadyH.cons rfl (fun K hK => ?_) ?_
   ·skip
    go_simp
    refine hK.out _ _ (KH.out.alloc _) (fun hHeld => ?_)
    clear hK K
    try simp only [Act.put, sA, sB, sC]
    have hb9 : Below uP.heap.size uP (uP.alloc (.cells (bools (List.replicate n false)).toArray 4)) := (Below.refl _ _).alloc (Nat.le_refl _) _
    have hk9 := Blk.new uP 4 (bools (List.replicate n false)).toArray
    have HKQ := Lib.hid hk9
    have HLTQ : Hid (w.heap.size < uP.heap.size) := KH.out.lt
    have HNE : Hid (P ≠ uP.heap.size) := Nat.ne_of_lt HKP.out.lt
    have HKP := Lib.hid (HKP.out.below hb9 HKP.out.lt)
    have KH := Lib.hid (KH.out.below hb9 KH.out.lt)
    have B0 := Lib.hid (B0.out.trans (hb9.mono B0.out.size))
    clear hb9 hk9 hHeld
    generalize uP.alloc (.cells (bools (List.replicate n false)).toArray 4) = uQ at *
    generalize uP.heap.size = Q at *
    have hHeld := KH.out
    refine tkv 8 (some 3) (.slice (some ⟨Q, 0, none⟩) n n) rfl rfl (fun w' hSw => by (try dsimp only at hSw); go_simp) ?_
    try simp only [Act.put, sA, sB, sC]
    refine tkv 9 (some 4) (.slice (some ⟨P, 0, none⟩) n n) rfl rfl (fun w' hSw => by (try dsimp only at hSw); go_simp) ?_
    try simp only [Act.put, sA, sB, sC]
    refine wpAnyH_done (by kernel_rfl) ?_ _
    refine NoPanic.normal ?_
    go_wp2_with fail
    go_meet
    exact ⟨Q, P, rfl, rfl, ⟨by rw [marks_nil]; exact HKQ.out, by rw [marks_nil]; exact HKP.out, KH.out, B0.out, ⟨Ne.symm HNE.out, HLTQ.out, HLTP.out⟩⟩⟩
   exact AllReadyH.nil
  exact AllReadyH.nil
 case rest =>
  clear KH B0 hmk
  obtain ⟨P, Q, rfl, rfl, HM⟩ := hcut
  have z4 : wc.cell? ⟨w.heap.size, 4, none⟩ = some (.slice m.ev.1.A m.ev.1.n m.ev.1.c) := HM.out.h.cell 4
  go_wp2_with fail
  have HLEN : Hid (m.pl.ev.length = m.ev.1.n) := by show m.pl.ev.length = _; rw [← HFIT.out.ev.1]; unfold HistM.pl; simp
  obtain ⟨en, hen⟩ : ∃ en, m.ev.1.n = en := ⟨_, rfl⟩
  have HEN := Lib.hid hen
  have hn2 : en ≤ 200 := by have := hS.ev; have := HLEN.out; omega
  rw [hen] at HLEN z4 ⊢
  clear z4 hen
  go_loopw [20] (fun v wr => ∃ i : Nat, i ≤ en ∧ v = .int .i64 i ∧ Hid (MkI w m n P Q i wr)) (fun v _ => en - (intOf v).toNat)
  case atStart => exact ⟨0, Nat.zero_le _, rfl, HM⟩
  case round =>
   clear HM
   obtain ⟨i, hk, rfl, HM⟩ := hrel
   by_cases hlt : i < en
   ·have hlt2 : (i : Int) < (en : Int) := by omega
    obtain ⟨p, hp⟩ : ∃ p, m.ev.2[i]? = some p := ⟨m.ev.2[i]'(by rw [HFIT.out.ev.1, HEN.out]; exact hlt), List.getElem?_eq_getElem _⟩
    obtain ⟨b, o, hA, hb, hc⟩ := row_cells evCs_len (by omega) (hm.ev.below HM.out.below) hp
    have HE : Hid (m.pl.ev[i]? = some p.1) := by show m.pl.ev[i]? = _; unfold HistM.pl; simp [hp]
    have ht0 := shaped_in HSH.out (refs_t (List.mem_of_getElem? HE.out))
    obtain ⟨tn, htn⟩ : ∃ tn : Nat, p.1.t = (tn : Int) := ⟨p.1.t.toNat, by omega⟩
    have hmany : m.pl.many 0 = n := HNL.out
    have htl : tn < n := by rw [hmany] at ht0; simp only at ht0; omega
    have htl2 : (tn : Int) < (n : Int) := by omega
    rw [hA]
    have c0 : wr.cell? ⟨b, o + i * 9, none⟩ = some (.int .i64 p.1.kd) := hc 0 _ rfl
    have c1 : wr.cell? ⟨b, o + i * 9 + 1, none⟩ = some (.int .i64 (tn : Int)) := by rw [← htn]; exact hc 1 _ rfl
    have c2 : wr.cell? ⟨b, o + i * 9 + 2, none⟩ = some (.int .i64 p.1.s) := hc 2 _ rfl
    have c3 : wr.cell? ⟨b, o + i * 9 + 3, none⟩ = some (.int .i64 p.1.lev) := hc 3 _ rfl
    have c4 : wr.cell? ⟨b, o + i * 9 + 4, none⟩ = some (.int .i64 p.1.o) := hc 4 _ rfl
    have c5 : wr.cell? ⟨b, o + i * 9 + 5, none⟩ = some (.int .i64 p.1.vt) := hc 5 _ rfl
    have c6 : wr.cell? ⟨b, o + i * 9 + 6, none⟩ = some (.int .i64 p.1.vk) := hc 6 _ rfl
    have c7 : wr.cell? ⟨b, o + i * 9 + 7, none⟩ = some (.int .i64 p.1.p) := hc 7 _ rfl
    have c8 : wr.cell? ⟨b, o + i * 9 + 8, none⟩ = some (.slice p.2.A p.2.n p.2.c) := hc 8 _ rfl
    have HT := Lib.hid htn
    have HM2 := Lib.hid (HM.out.alloc (.cells #[.int .i64 p.1.kd, .int .i64 (tn : Int), .int .i64 p.1.s, .int .i64 p.1.lev, .int .i64 p.1.o, .int .i64 p.1.vt, .int .i64 p.1.vk, .int .i64 p.1.p, .slice p.2.A p.2.n p.2.c] 39))
    have yP := HM2.out.cellP htl
    have fP := HM2.out.p.frozen tn
    have yQ := HM2.out.cellQ htl
    have fQ := HM2.out.q.frozen tn
    clear hc hp hA ht0 hmany htn
    by_cases h1 : p.1.kd = 1
    ·have hb1 : (p.1.kd == 1) = true := by simpa using h1
     have HX := Lib.hid (HM2.out.one HE.out (by unfold kOne; simpa using h1) (by unfold kEnd; simp [h1]) HT.out htl)
     clear h1
     go_wp2_with fail
     go_roundw
     case rel => exact ⟨i + 1, by omega, by go_num, HX⟩
     case measure => simp [intOf]; omega
    ·have hb1 : (p.1.kd == 1) = false := by simpa using h1
     by_cases h5 : p.1.kd = 5
     ·have hb5 : (p.1.kd == 5) = true := by simpa using h5
      have HX := Lib.hid (HM2.out.fin HE.out (by unfold kOne; simpa using h1) (by unfold kEnd; simp [h5]) HT.out htl)
      clear h1 h5
      go_wp2_with fail
      go_roundw
      case rel => exact ⟨i + 1, by omega, by go_num, HX⟩
      case measure => simp [intOf]; omega
     ·have hb5 : (p.1.kd == 5) = false := by simpa using h5
      by_cases h6 : p.1.kd = 6
      ·have hb6 : (p.1.kd == 6) = true := by simpa using h6
       have HX := Lib.hid (HM2.out.fin HE.out (by unfold kOne; simpa using h1) (by unfold kEnd; simp [h6]) HT.out htl)
       clear h1 h5 h6
       go_wp2_with fail
       go_roundw
       case rel => exact ⟨i + 1, by omega, by go_num, HX⟩
       case measure => simp [intOf]; omega
      ·have hb6 : (p.1.kd == 6) = false := by simpa using h6
       have HX := Lib.hid (HM2.out.pass HE.out (by unfold kOne; simpa using h1) (by unfold kEnd; simp [h5, h6]))
       clear h1 h5 h6
       go_wp2_with fail
       go_roundw
       case rel => exact ⟨i + 1, by omega, by go_num, HX⟩
       case measure => simp [intOf]; omega
   ·obtain rfl : i = en := by omega
    have z0 : wr.cell? ⟨w.heap.size, 0, none⟩ = some (.slice m.tr.1.A n m.tr.1.c) := by rw [← HN.out]; exact HM.out.h.cell 0
    go_wp2_with fail
    rename World => wo
    clear z0
    have HALL := Lib.hid fun (u : Nat) => marks_all (u := u) (Nat.le_of_eq HLEN.out)
    clear HLEN
    have HG : Hid (GotI w (leftK m.pl 0) (.slice none 0 0) wo) := ⟨World.ownsRow_nil _ _ _ _, HM.out.below⟩
    go_loopw [7, 43] (fun v i3 wr => ∃ k : Nat, k ≤ n ∧ i3 = .int .i64 k ∧ Hid (MkI w m n P Q i wr) ∧ Hid (GotI w (leftK m.pl k) v wr)) (fun _ i3 _ => n - (intOf i3).toNat)
    case atStart => exact ⟨0, Nat.zero_le _, rfl, HM, HG⟩
    case round =>
     clear HM HG
     obtain ⟨k, hk3, rfl, HM, HG⟩ := hrel
     by_cases hkn : k < n
     ·have hkn2 : (k : Int) < (n : Int) := by omega
      have yP := HM.out.cellP hkn
      have yQ := HM.out.cellQ hkn
      have hop : openB m.pl k = (hasK m.pl k i kOne && !hasK m.pl k i kEnd) := by rw [(HALL.out k).1, (HALL.out k).2]; unfold openB; simp
      have hql := leftK_len m.pl k
      have HQL := Lib.hid hql
      clear hql
      cases h1 : hasK m.pl k i kOne
      ·rw [h1] at yP
       have HG2 := Lib.hid (HG.out.cast (leftK_no (by rw [hop, h1]; rfl)))
       clear hop h1
       go_wp2_with fail
       go_roundw
       case rel => exact ⟨k + 1, by omega, by go_num, HM, HG2⟩
       case measure => simp [intOf]; omega
      ·rw [h1] at yP
       cases h2 : hasK m.pl k i kEnd
       ·rw [h2] at yQ
        have HY := Lib.hid (leftK_yes (H := m.pl) (k := k) (by rw [hop, h1, h2]; rfl))
        clear hop h1 h2
        have OW := Lib.hid (HG.out.alloc (.cells #[.int .i64 (k : Int)] 3))
        have HM2 := Lib.hid (HM.out.alloc (.cells #[.int .i64 (k : Int)] 3))
        have hs1 := HG.out.below.size
        generalize hq : leftK m.pl k = q at *
        have hql := HQL.out
        go_wp2_with (at_builtin; refine wpList_append_own _ rfl (.tmp 57) (.tmp 59) 45 rfl w.heap.size 3 i0 _ 1 8 Tryz.underlying45 hi hz0 hz1 hz2 rfl (by decide) _ _ _ rfl OW.out.own ⟨wr.heap.size, 0, none⟩ 1 1 [.int .i64 (k : Int)] rfl rfl (cell_one_new wr (.int .i64 (k : Int)) 3) (by simp [Value.oneCell']) (by unfold maxLen; omega) (by omega) (by simp at hs1 ⊢; omega) ?_; intro v' w2 hown' hgrow _)
        have HN2 : Hid (GotI w (leftK m.pl (k + 1)) v' w2) := by show GotI _ _ _ _; rw [HY.out]; exact OW.out.more hown' hgrow
        have HM3 := Lib.hid (HM2.out.grown hown' hgrow OW.out.own)
        clear hown' hgrow OW HG hs1 hq hql HM2
        go_wp2_with fail
        go_roundw
        case rel => exact ⟨k + 1, by omega, by go_num, HM3, HN2⟩
        case measure => simp [intOf]; omega
       ·rw [h2] at yQ
        have HG2 := Lib.hid (HG.out.cast (leftK_no (by rw [hop, h1, h2]; rfl)))
        clear hop h1 h2
        go_wp2_with fail
        go_roundw
        case rel => exact ⟨k + 1, by omega, by go_num, HM, HG2⟩
        case measure => simp [intOf]; omega
     ·obtain rfl : k = n := by omega
      have HF : Hid (leftK m.pl k = leftL m.pl) := by show _ = _; rw [← leftK_all, HNL.out]
      obtain ⟨A, c, rfl, h1, h2⟩ := own_form2 HG.out.own
      go_wp2_with fail
      go_ret
      have h9 := HG.out.own
      rw [HF.out] at h9
      exact ⟨A, c, by rw [HF.out]; rfl, h9, HG.out.below⟩
end Go.Proofs.YtlnbmmaminflcaaGreatDoor
