/- The document's answers of layer history: Shaped: contract. -/
import Derived.Test.YtlnbmmaminflcaaGreatDoorM23
import Derived.Test.YtlnbmmaminflcaaGreatDoorM32
import Derived.Test.YtlnbmmaminflcaaGreatDoorM16
import Derived.Test.YtlnbmmaminflcaaGreatDoorM17
-- holds: YtlnbmmaminflcaaGreatDoorVJf YtlnbmmaminflcaaGreatDoorVJg YtlnbmmaminflcaaGreatDoorVJh YtlnbmmaminflcaaGreatDoorVJq YtlnbmmaminflcaaGreatDoorVJr
namespace Go.Proofs.YtlnbmmaminflcaaGreatDoor
open Go.RowKit Go.Shelf

def fineK (ss : List ByteArray) (i : Nat) : Prop := (∀ x ∈ ss.take i, wrdB x = true) ∧ (ss.take i).Nodup
theorem fineK.next {ss : List ByteArray} {i : Nat} {s : ByteArray} (h : fineK ss i) (hs : ss[i]? = some s) (hw : wrdB s = true) (hn : s ∉ ss.take i) : fineK ss (i + 1) := by
 unfold fineK
 rw [List.take_add_one, hs]
 refine ⟨fun x hx => ?_, ?_⟩
 ·rcases List.mem_append.1 hx with hx | hx
  ·exact h.1 x hx
  ·simp at hx
   subst hx
   exact hw
 ·rw [List.nodup_append]
  refine ⟨h.2, by simp, fun a ha b hb e => ?_⟩
  simp at hb
  subst hb
  exact hn (e ▸ ha)
theorem names_word {ss : List ByteArray} {i : Nat} {s : ByteArray} (hs : ss[i]? = some s) (hw : wrdB s = false) : namesB ss = false := by
 rw [Bool.eq_false_iff]
 intro h
 have := (namesB_iff.1 h).1 s (List.mem_of_getElem? hs)
 rw [hw] at this
 cases this
theorem names_twice {ss : List ByteArray} {i j : Nat} {s : ByteArray} (hs : ss[i]? = some s) (ht : ss[j]? = some s) (hji : j < i) : namesB ss = false := by
 rw [Bool.eq_false_iff]
 intro h
 have hn := (namesB_iff.1 h).2
 have := (List.getElem?_inj (List.getElem?_eq_some_iff.1 ht).1 hn).1 (ht.trans hs.symm)
 omega
theorem fineK.all {ss : List ByteArray} {i : Nat} (h : fineK ss i) (hi : ss.length = i) : namesB ss = true := by
 unfold fineK at h
 rw [List.take_of_length_le (Nat.le_of_eq hi)] at h
 exact namesB_iff.2 h
set_option maxRecDepth 100000 in
set_option maxHeartbeats 8000000 in
theorem rnames_right (A : Option Addr) (n c : Nat) (ss : List ByteArray) (most : Nat) (hn : n ≤ 1000) (hnc : n ≤ c) (w : World) (hR : Reads w w.heap.size 1 A n (strs ss)) :
 Calls Tryz.prog 48 #[.slice A n c, .int .i64 (most : Int)] w fun e w' => e = .returned (.bool (namesB ss && decide (n ≤ most))) ∧ Below w.heap.size w w' := by
 have HL := Lib.hid (strs_len hR)
 have HR := Lib.hid hR
 have HD : Hid (decide (n ≤ most) = decide ((n : Int) ≤ (most : Int))) := by show _ = _; rw [decide_eq_decide]; omega
 clear hR
 go_enter Tryz.func48, Tryz.ntmps48
 go_wp2_with fail
 go_loopw [11] (fun v wr => ∃ i : Nat, i ≤ n ∧ v = .int .i64 i ∧ Hid (fineK ss i) ∧ Hid (Below w.heap.size w wr)) (fun v _ => n - (intOf v).toNat)
 case atStart => exact ⟨0, Nat.zero_le _, rfl, ⟨by simp, by simp⟩, Below.refl _ _⟩
 case round =>
  obtain ⟨i, hi, rfl, HK, HB⟩ := hrel
  by_cases hin : i < n
  ·have hlt : (i : Int) < (n : Int) := by omega
   obtain ⟨s, hs⟩ : ∃ s, ss[i]? = some s := ⟨ss[i]'(by rw [HL.out]; exact hin), List.getElem?_eq_getElem _⟩
   obtain ⟨b, o, rfl, hb, hc⟩ := str_at (HR.out.below HB.out) hs
   have HC := Lib.hid (rword_any s wr)
   have HS := Lib.hid hs
   have hsl := fun W => sliceS_h (some ⟨b, o, none⟩) n c i (by omega) W
   clear hs hb
   go_wp2_with fail
   refine HC.out.mono ?_
   rintro e w1 ⟨rfl, b1⟩
   have HB1 := Lib.hid (HB.out.trans (b1.mono HB.out.size))
   clear b1 HC
   cases hw : wordB s.data.toList
   ·have HN := Lib.hid (names_word HS.out hw)
    clear hw hc
    go_wp2_with fail
    go_ret
    exact ⟨by rw [HN.out]; rfl, HB1.out⟩
   ·have HW : Hid (wrdB s = true) := hw
    clear hw hc
    go_wp2_with fail
    rename World => wo
    go_loopw [23] (fun v wr => ∃ j : Nat, j ≤ i ∧ v = .int .i64 j ∧ Hid (s ∉ ss.take j) ∧ Hid (Below w.heap.size w wr)) (fun v _ => i - (intOf v).toNat)
    case atStart => exact ⟨0, Nat.zero_le _, rfl, by simp [Hid], HB1⟩
    case round =>
     clear HB1
     obtain ⟨j, hj, rfl, HX, HB2⟩ := hrel
     by_cases hji : j < i
     ·have hlt2 : (j : Int) < (i : Int) := by omega
      obtain ⟨t, ht⟩ : ∃ t, ss[j]? = some t := ⟨ss[j]'(by rw [HL.out]; omega), List.getElem?_eq_getElem _⟩
      obtain ⟨b2, o2, hA2, hb2, hc2⟩ := str_at (HR.out.below HB2.out) ht
      obtain ⟨rfl, rfl⟩ : b = b2 ∧ o = o2 := by simpa using hA2
      have HT := Lib.hid ht
      clear ht hA2 hb2
      by_cases hq : s = t
      ·have hbq := str_yes hq
       have HN := Lib.hid (names_twice HS.out (by rw [hq]; exact HT.out) hji)
       clear hq
       go_wp2_with fail
       go_ret
       exact ⟨by rw [HN.out]; rfl, HB2.out⟩
      ·have hbq := str_no hq
       have HX2 : Hid (s ∉ ss.take (j + 1)) := by
        show s ∉ _
        rw [List.take_add_one, HT.out, List.mem_append]
        rintro (h | h)
        ·exact HX.out h
        ·simp at h
         exact hq h
       clear hq
       go_wp2_with fail
       go_roundw
       case rel => exact ⟨j + 1, hji, by go_num, HX2, HB2⟩
       case measure => simp [intOf]; omega
     ·obtain rfl : j = i := by omega
      have HK2 := Lib.hid (HK.out.next HS.out HW.out HX.out)
      go_wp2_with fail
      go_roundw
      case rel => exact ⟨j + 1, hin, by go_num, HK2, HB2⟩
      case measure => simp [intOf]; omega
  ·obtain rfl : i = n := by omega
   have HN := Lib.hid (HK.out.all HL.out)
   go_wp2_with fail
   go_ret
   exact ⟨by rw [HN.out, HD.out]; rfl, HB.out⟩
end Go.Proofs.YtlnbmmaminflcaaGreatDoor
namespace Go.Proofs.YtlnbmmaminflcaaGreatDoor
open Go.RowKit Go.Shelf

set_option maxRecDepth 100000 in
set_option maxHeartbeats 8000000 in
theorem rts_any (m : HistM) (A : Option Addr) (n c : Nat) (ts : List Int) (hn : n ≤ 1000) (w : World) (hR : Reads w w.heap.size 1 A n (ints ts)) :
 Calls Tryz.prog 51 #[.agg #[.slice m.tr.1.A m.tr.1.n m.tr.1.c, .slice m.se.1.A m.se.1.n m.se.1.c, .slice m.ob.1.A m.ob.1.n m.ob.1.c, .slice m.pr.1.A m.pr.1.n m.pr.1.c, .slice m.ev.1.A m.ev.1.n m.ev.1.c, .slice m.od.1.A m.od.1.n m.od.1.c, .slice m.ma.1.A m.ma.1.n m.ma.1.c, .slice m.wa.1.A m.wa.1.n m.wa.1.c], .slice A n c] w fun e w' => e = .returned (.bool ((ts.all fun t => isN t m.tr.1.n) && decide (n ≤ 300))) ∧ Below w.heap.size w w' := by
 obtain ⟨kh, b0, hs0⟩ := ibox w #[.slice m.tr.1.A m.tr.1.n m.tr.1.c, .slice m.se.1.A m.se.1.n m.se.1.c, .slice m.ob.1.A m.ob.1.n m.ob.1.c, .slice m.pr.1.A m.pr.1.n m.pr.1.c, .slice m.ev.1.A m.ev.1.n m.ev.1.c, .slice m.od.1.A m.od.1.n m.od.1.c, .slice m.ma.1.A m.ma.1.n m.ma.1.c, .slice m.wa.1.A m.wa.1.n m.wa.1.c] 28
 have KH := Lib.hid kh
 have B0 := Lib.hid b0
 have HL := Lib.hid (ints_len hR)
 have HR := Lib.hid hR
 have HD : Hid (decide (n ≤ 300) = decide ((n : Int) ≤ 300)) := by show _ = _; rw [decide_eq_decide]; omega
 clear hR kh b0 hs0
 go_enter Tryz.func51, Tryz.ntmps51
 go_wp2_with fail
 generalize w.alloc (.cells #[.slice m.tr.1.A m.tr.1.n m.tr.1.c, .slice m.se.1.A m.se.1.n m.se.1.c, .slice m.ob.1.A m.ob.1.n m.ob.1.c, .slice m.pr.1.A m.pr.1.n m.pr.1.c, .slice m.ev.1.A m.ev.1.n m.ev.1.c, .slice m.od.1.A m.od.1.n m.od.1.c, .slice m.ma.1.A m.ma.1.n m.ma.1.c, .slice m.wa.1.A m.wa.1.n m.wa.1.c] 28) = W0 at *
 go_loopw [9] (fun v wr => ∃ i : Nat, i ≤ n ∧ v = .int .i64 i ∧ Hid (∀ t ∈ ts.take i, isN t m.tr.1.n = true) ∧ Hid (Below w.heap.size w wr) ∧ Hid (wr = W0)) (fun v _ => n - (intOf v).toNat)
 case atStart => exact ⟨0, Nat.zero_le _, rfl, fun t ht => by simp at ht, B0.out, rfl⟩
 case round =>
  obtain ⟨i, hi, rfl, HK, HB, HW⟩ := hrel
  have hw0 := HW.out
  subst hw0
  by_cases hin : i < n
  ·have hlt : (i : Int) < (n : Int) := by omega
   obtain ⟨t, ht⟩ : ∃ t, ts[i]? = some t := ⟨ts[i]'(by rw [HL.out]; exact hin), List.getElem?_eq_getElem _⟩
   obtain ⟨b, o, rfl, hb, hc⟩ := int_at (HR.out.below HB.out) ht
   have HT := Lib.hid ht
   have z0 : wr.cell? ⟨w.heap.size, 0, none⟩ = some (.slice m.tr.1.A m.tr.1.n m.tr.1.c) := KH.out.cell 0
   clear ht hb
   go_wp2_with fail
   refine (is_any t m.tr.1.n wr).mono ?_
   rintro e w1 ⟨rfl, rfl⟩
   cases hq : isN t m.tr.1.n
   ·have HN : Hid ((ts.all fun t => isN t m.tr.1.n) = false) := by
     show _ = _
     rw [Bool.eq_false_iff]
     intro h
     have := List.all_eq_true.1 h t (List.mem_of_getElem? HT.out)
     rw [hq] at this
     cases this
    clear hq
    go_wp2_with fail
    go_ret
    exact ⟨by rw [HN.out]; rfl, HB.out⟩
   ·have HK2 : Hid (∀ t ∈ ts.take (i + 1), isN t m.tr.1.n = true) := fun x hx => by
     rw [List.take_add_one, HT.out] at hx
     rcases List.mem_append.1 hx with hx | hx
     ·exact HK.out x hx
     ·simp at hx
      subst hx
      exact hq
    clear hq
    go_wp2_with fail
    go_roundw
    case rel => exact ⟨i + 1, hin, by go_num, HK2, HB, trivial⟩
    case measure => simp [intOf]; omega
  ·obtain rfl : i = n := by omega
   have HN : Hid ((ts.all fun t => isN t m.tr.1.n) = true) := List.all_eq_true.2 fun t ht => HK.out t (by rw [List.take_of_length_le (Nat.le_of_eq HL.out)]; exact ht)
   go_wp2_with fail
   go_ret
   exact ⟨by rw [HN.out, HD.out]; rfl, HB.out⟩
end Go.Proofs.YtlnbmmaminflcaaGreatDoor
namespace Go.Proofs.YtlnbmmaminflcaaGreatDoor
open Go.RowKit Go.Shelf

structure GotS (w : World) (xs : List ByteArray) (v : Value) (X : World) : Prop where
 own : X.ownsRow w.heap.size 9 1 v xs.length (strs xs)
 below : Below w.heap.size w X
section
variable {w X Y : World} {xs : List ByteArray} {v v' : Value} {x : ByteArray} {o : Obj}
theorem GotS.on (h : GotS w xs v X) (hb : Below X.heap.size X Y) : GotS w xs v Y := ⟨own_on h.own hb, h.below.trans (hb.mono h.below.size)⟩
theorem GotS.alloc (h : GotS w xs v X) (o : Obj) : GotS w xs v (X.alloc o) := h.on ((Below.refl _ _).alloc (Nat.le_refl _) o)
theorem GotS.more (h : GotS w xs v X) (hown : Y.ownsRow w.heap.size 9 1 v' (xs.length + 1) (strs xs ++ [.string x])) (hg : X.grownBy Y v.ownBlock) : GotS w (xs ++ [x]) v' Y :=
 ⟨by rw [List.length_append, strs_append]; exact hown, h.below.grown hg h.below.size fun k hk => (own_in_block h.own hk).1⟩
end
end Go.Proofs.YtlnbmmaminflcaaGreatDoor
namespace Go.Proofs.YtlnbmmaminflcaaGreatDoor
open Go.RowKit Go.Shelf

set_option maxRecDepth 100000 in
set_option maxHeartbeats 16000000 in
theorem rrev_any (m : HistM) (e : EvP) (hd : SH) (hn : hd.n ≤ 1000000) (w : World) (hR : Reads w w.heap.size 3 hd.A hd.n (e.scan.flatMap seCs)) :
 Calls Tryz.prog 49 #[.agg #[.slice m.tr.1.A m.tr.1.n m.tr.1.c, .slice m.se.1.A m.se.1.n m.se.1.c, .slice m.ob.1.A m.ob.1.n m.ob.1.c, .slice m.pr.1.A m.pr.1.n m.pr.1.c, .slice m.ev.1.A m.ev.1.n m.ev.1.c, .slice m.od.1.A m.od.1.n m.od.1.c, .slice m.ma.1.A m.ma.1.n m.ma.1.c, .slice m.wa.1.A m.wa.1.n m.wa.1.c], .agg #[.int .i64 e.kd, .int .i64 e.t, .int .i64 e.s, .int .i64 e.lev, .int .i64 e.o, .int .i64 e.vt, .int .i64 e.vk, .int .i64 e.p, .slice hd.A hd.n hd.c]] w fun x w' => x = .returned (.bool (revB m.tr.1.n m.se.1.n m.ob.1.n m.pr.1.n e)) ∧ Below w.heap.size w w' := by
 obtain ⟨kh, ke, b0, hs0⟩ := itwo w #[.slice m.tr.1.A m.tr.1.n m.tr.1.c, .slice m.se.1.A m.se.1.n m.se.1.c, .slice m.ob.1.A m.ob.1.n m.ob.1.c, .slice m.pr.1.A m.pr.1.n m.pr.1.c, .slice m.ev.1.A m.ev.1.n m.ev.1.c, .slice m.od.1.A m.od.1.n m.od.1.c, .slice m.ma.1.A m.ma.1.n m.ma.1.c, .slice m.wa.1.A m.wa.1.n m.wa.1.c] #[.int .i64 e.kd, .int .i64 e.t, .int .i64 e.s, .int .i64 e.lev, .int .i64 e.o, .int .i64 e.vt, .int .i64 e.vk, .int .i64 e.p, .slice hd.A hd.n hd.c] 28 39
 have hR0 := (hR.below b0).more b0.size
 have HR := Lib.hid hR
 have HLS := Lib.hid (reads_len_s seCs_len (by omega) hR)
 obtain ⟨BE, hBE⟩ : ∃ BE, BE = w.heap.size + 1 := ⟨_, rfl⟩
 rw [← hBE] at ke
 obtain ⟨W0, hW0⟩ : ∃ W0, W0 = (w.alloc (.cells #[.slice m.tr.1.A m.tr.1.n m.tr.1.c, .slice m.se.1.A m.se.1.n m.se.1.c, .slice m.ob.1.A m.ob.1.n m.ob.1.c, .slice m.pr.1.A m.pr.1.n m.pr.1.c, .slice m.ev.1.A m.ev.1.n m.ev.1.c, .slice m.od.1.A m.od.1.n m.od.1.c, .slice m.ma.1.A m.ma.1.n m.ma.1.c, .slice m.wa.1.A m.wa.1.n m.wa.1.c] 28)).alloc (.cells #[.int .i64 e.kd, .int .i64 e.t, .int .i64 e.s, .int .i64 e.lev, .int .i64 e.o, .int .i64 e.vt, .int .i64 e.vk, .int .i64 e.p, .slice hd.A hd.n hd.c] 39) := ⟨_, rfl⟩
 rw [← hW0] at kh ke b0 hR0
 have KH : Hid (Blk W0 w.heap.size 28 m.cs) := kh
 have KE := Lib.hid ke
 have B0 := Lib.hid b0
 clear kh ke b0 hs0 hR hR0
 go_enter Tryz.func49, Tryz.ntmps49
 go_upto_region 1 with fail
 rw [← hBE, ← hW0]
 clear hBE hW0
 have z0 : W0.cell? ⟨w.heap.size, 0, none⟩ = some (.slice m.tr.1.A m.tr.1.n m.tr.1.c) := KH.out.cell 0
 have c0 : W0.cell? ⟨BE, 0, none⟩ = some (.int .i64 e.kd) := KE.out.cell 0
 have c1 : W0.cell? ⟨BE, 1, none⟩ = some (.int .i64 e.t) := KE.out.cell 1
 have c2 : W0.cell? ⟨BE, 2, none⟩ = some (.int .i64 e.s) := KE.out.cell 2
 have c3 : W0.cell? ⟨BE, 3, none⟩ = some (.int .i64 e.lev) := KE.out.cell 3
 have c4 : W0.cell? ⟨BE, 4, none⟩ = some (.int .i64 e.o) := KE.out.cell 4
 have c5 : W0.cell? ⟨BE, 5, none⟩ = some (.int .i64 e.vt) := KE.out.cell 5
 have c6 : W0.cell? ⟨BE, 6, none⟩ = some (.int .i64 e.vk) := KE.out.cell 6
 have c7 : W0.cell? ⟨BE, 7, none⟩ = some (.int .i64 e.p) := KE.out.cell 7
 have c8 : W0.cell? ⟨BE, 8, none⟩ = some (.slice hd.A hd.n hd.c) := KE.out.cell 8
 go_wp2_with fail
 refine (is_any e.t m.tr.1.n W0).mono ?_
 rintro _ w1 ⟨rfl, hw⟩
 obtain rfl := hw.symm
 cases hi : isN e.t m.tr.1.n
 ·have HE : Hid (revB m.tr.1.n m.se.1.n m.ob.1.n m.pr.1.n e = false) := by show _ = _; unfold revB; rw [hi]; rfl
  go_wp2_with fail
  go_ret
  exact ⟨by rw [HE.out]; rfl, B0.out⟩
 ·have d0 : (W0.alloc (.cells #[.int .i64 e.kd, .int .i64 e.t, .int .i64 0, .int .i64 0, .int .i64 0, .int .i64 0, .int .i64 0, .int .i64 0, .slice none 0 0] 39)).cell? ⟨BE, 0, none⟩ = some (.int .i64 e.kd) := (KE.out.below ((Below.refl _ _).alloc (Nat.le_refl _) _) KE.out.lt).cell 0
  by_cases hk : e.kd = 1
  ·have hb1 : (e.kd == 1) = true := by rw [hk]; rfl
   have HS := Lib.hid (fun (W : World) (hW : Below w.heap.size w W) => (show Calls Tryz.prog 12 #[.agg #[.int .i64 e.kd, .int .i64 e.t, .int .i64 e.s, .int .i64 e.lev, .int .i64 0, .int .i64 0, .int .i64 0, .int .i64 0, .slice none 0 0], .agg #[.int .i64 e.kd, .int .i64 e.t, .int .i64 e.s, .int .i64 e.lev, .int .i64 e.o, .int .i64 e.vt, .int .i64 e.vk, .int .i64 e.p, .slice hd.A hd.n hd.c]] W fun x w' => x = .returned (.bool (decide ((⟨e.kd, e.t, e.s, e.lev, 0, 0, 0, 0, []⟩ : EvP) = e))) ∧ Below W.heap.size W w' from rsameEvent_any ((⟨e.kd, e.t, e.s, e.lev, 0, 0, 0, 0, []⟩ : EvP), (⟨none, 0, 0⟩ : SH)) (e, hd) (Nat.zero_le _) hn W Reads.none_ ((HR.out.below hW).more hW.size)))
   have HE : Hid (revB m.tr.1.n m.se.1.n m.ob.1.n m.pr.1.n e = ((decide ((⟨e.kd, e.t, e.s, e.lev, 0, 0, 0, 0, []⟩ : EvP) = e) && isN e.s m.se.1.n) && levB e.lev)) := by show _ = _; unfold revB; rw [hi, if_pos hk, show bareE e = ⟨e.kd, e.t, e.s, e.lev, 0, 0, 0, 0, []⟩ from by unfold bareE; simp [hk], Bool.true_and]
   clear hk
   go_upto_region 7 with fail
   generalize hW1 : W0.alloc (.cells #[.int .i64 e.kd, .int .i64 e.t, .int .i64 0, .int .i64 0, .int .i64 0, .int .i64 0, .int .i64 0, .int .i64 0, .slice none 0 0] 39) = W1 at *
   have K6 : Hid (Blk W1 W0.heap.size 39 #[.int .i64 e.kd, .int .i64 e.t, .int .i64 0, .int .i64 0, .int .i64 0, .int .i64 0, .int .i64 0, .int .i64 0, .slice none 0 0]) := by rw [← hW1]; exact Blk.new _ _ _
   have hb01 : Below W0.heap.size W0 W1 := by rw [← hW1]; exact (Below.refl _ _).alloc (Nat.le_refl _) _
   have HNE : Hid (BE ≠ W0.heap.size) := Nat.ne_of_lt KE.out.lt
   have HNH : Hid (w.heap.size ≠ W0.heap.size) := Nat.ne_of_lt KH.out.lt
   have HGE : Hid (w.heap.size ≤ W0.heap.size) := B0.out.size
   have KE := Lib.hid (KE.out.below hb01 KE.out.lt)
   have KH := Lib.hid (KH.out.below hb01 KH.out.lt)
   have B1 := Lib.hid (B0.out.trans (hb01.mono B0.out.size))
   clear hb01 hW1 d0
   generalize W0.heap.size = B6 at *
   refine wp_region_noPanic ?_
   refine wp_region_held_drew (S := fun W => Blk W BE 39 #[.int .i64 e.kd, .int .i64 e.t, .int .i64 e.s, .int .i64 e.lev, .int .i64 e.o, .int .i64 e.vt, .int .i64 e.vk, .int .i64 e.p, .slice hd.A hd.n hd.c]) (by kernel_rfl) KE.out.drew (fun hHeld => ?_)
   have KE := Lib.hid KE.out.drew
   have KH := Lib.hid KH.out.drew
   have K6 := Lib.hid K6.out.drew
   have B1 := Lib.hid B1.out.drew
   generalize W1.drew = wd at *
   refine tkv 0 (some 26) (.pointer (some ⟨BE, 2, none⟩)) rfl rfl (fun w' hSw => by (try dsimp only at hSw); go_simp) ?_
   try simp only [Act.put, sA, sB, sC]
   refine tkv 1 (some 27) (.int .i64 e.s) rfl rfl (fun w' hSw => by (have c2 := Blk.cell (w := w') hSw 2; go_simp)) ?_
   try simp only [Act.put, sA, sB, sC]
   refine tkv 2 (some 28) (.pointer (some ⟨BE, 3, none⟩)) rfl rfl (fun w' hSw => by (try dsimp only at hSw); go_simp) ?_
   try simp only [Act.put, sA, sB, sC]
   refine tkv 3 (some 29) (.int .i64 e.lev) rfl rfl (fun w' hSw => by (have c3 := Blk.cell (w := w') hSw 3; go_simp)) ?_
   try simp only [Act.put, sA, sB, sC]
   refine tkv 4 (some 30) (.pointer (some ⟨B6, 2, none⟩)) rfl rfl (fun w' hSw => by (try dsimp only at hSw); go_simp) ?_
   try simp only [Act.put, sA, sB, sC]
   refine rdH [5] ?_
   refine AllReadyH.cons (o := { dst := none, op := Op.store 3 (Operand.tmp 30) (Operand.tmp 27), type := 0, pos := "ref.go:45", after := #[{ on := 4, ground := Ground.data }, { on := 1, ground := Ground.data }, { on := 0, ground := Ground.phase }, { on := 1, ground := Ground.phase }, { on := 2, ground := Ground.textOnly Departure.lateStores }, { on := 3, ground := Ground.textOnly Departure.lateStores }], guard := none }) rfl (fun K hK => ?_) ?_
   ·have y2 := K6.out.cell 2
    have f2 := K6.out.frozen 2
    go_simp
    clear hHeld y2 f2
    have k6 := (K6.out.set_ 2 (.int .i64 e.s))
    have KE := Lib.hid (KE.out.far (p := ⟨B6, 2, none⟩) HNE.out (.int .i64 e.s))
    have KH := Lib.hid (KH.out.far (p := ⟨B6, 2, none⟩) HNH.out (.int .i64 e.s))
    have B1 := Lib.hid (B1.out.setCell (p := ⟨B6, 2, none⟩) HGE.out (.int .i64 e.s))
    simp at k6
    have K6 := Lib.hid k6
    clear k6
    refine hK.out _ _ KE.out (fun hHeld => ?_)
    clear hK K
    try simp only [Act.put, sA, sB, sC]
    generalize (wd.setCell ⟨B6, 2, none⟩ (.int .i64 e.s)) = u1 at *
    refine tkv 6 (some 31) (.pointer (some ⟨B6, 3, none⟩)) rfl rfl (fun w' hSw => by (try dsimp only at hSw); go_simp) ?_
    try simp only [Act.put, sA, sB, sC]
    refine rdH [7] ?_
    refine AllReadyH.cons (o := { dst := none, op := Op.store 3 (Operand.tmp 31) (Operand.tmp 29), type := 0, pos := "ref.go:45", after := #[{ on := 6, ground := Ground.data }, { on := 3, ground := Ground.data }, { on := 5, ground := Ground.chain }, { on := 0, ground := Ground.phase }, { on := 1, ground := Ground.phase }, { on := 2, ground := Ground.phase }, { on := 3, ground := Ground.phase }, { on := 4, ground := Ground.phase }, { on := 5, ground := Ground.phase }], guard := none }) rfl (fun K hK => ?_) ?_
    ·have y3 := K6.out.cell 3
     have f3 := K6.out.frozen 3
     go_simp
     clear hHeld y3 f3
     have k6 := (K6.out.set_ 3 (.int .i64 e.lev))
     have KE := Lib.hid (KE.out.far (p := ⟨B6, 3, none⟩) HNE.out (.int .i64 e.lev))
     have KH := Lib.hid (KH.out.far (p := ⟨B6, 3, none⟩) HNH.out (.int .i64 e.lev))
     have B1 := Lib.hid (B1.out.setCell (p := ⟨B6, 3, none⟩) HGE.out (.int .i64 e.lev))
     simp at k6
     have K6 := Lib.hid k6
     clear k6
     refine hK.out _ _ KE.out (fun hHeld => ?_)
     clear hK K
     try simp only [Act.put, sA, sB, sC]
     generalize (u1.setCell ⟨B6, 3, none⟩ (.int .i64 e.lev)) = u2 at *
     refine wpAnyH_done (by kernel_rfl) ?_ _
     refine NoPanic.normal ?_
     have a0 : u2.cell? ⟨B6, 0, none⟩ = some (.int .i64 e.kd) := K6.out.cell 0
     have a1 : u2.cell? ⟨B6, 1, none⟩ = some (.int .i64 e.t) := K6.out.cell 1
     have a2 : u2.cell? ⟨B6, 2, none⟩ = some (.int .i64 e.s) := K6.out.cell 2
     have a3 : u2.cell? ⟨B6, 3, none⟩ = some (.int .i64 e.lev) := K6.out.cell 3
     have a4 : u2.cell? ⟨B6, 4, none⟩ = some (.int .i64 0) := K6.out.cell 4
     have a5 : u2.cell? ⟨B6, 5, none⟩ = some (.int .i64 0) := K6.out.cell 5
     have a6 : u2.cell? ⟨B6, 6, none⟩ = some (.int .i64 0) := K6.out.cell 6
     have a7 : u2.cell? ⟨B6, 7, none⟩ = some (.int .i64 0) := K6.out.cell 7
     have a8 : u2.cell? ⟨B6, 8, none⟩ = some (.slice none 0 0) := K6.out.cell 8
     have c0 : u2.cell? ⟨BE, 0, none⟩ = some (.int .i64 e.kd) := KE.out.cell 0
     have c1 : u2.cell? ⟨BE, 1, none⟩ = some (.int .i64 e.t) := KE.out.cell 1
     have c2 : u2.cell? ⟨BE, 2, none⟩ = some (.int .i64 e.s) := KE.out.cell 2
     have c3 : u2.cell? ⟨BE, 3, none⟩ = some (.int .i64 e.lev) := KE.out.cell 3
     have c4 : u2.cell? ⟨BE, 4, none⟩ = some (.int .i64 e.o) := KE.out.cell 4
     have c5 : u2.cell? ⟨BE, 5, none⟩ = some (.int .i64 e.vt) := KE.out.cell 5
     have c6 : u2.cell? ⟨BE, 6, none⟩ = some (.int .i64 e.vk) := KE.out.cell 6
     have c7 : u2.cell? ⟨BE, 7, none⟩ = some (.int .i64 e.p) := KE.out.cell 7
     have c8 : u2.cell? ⟨BE, 8, none⟩ = some (.slice hd.A hd.n hd.c) := KE.out.cell 8
     have BW := B1
     go_wp2_with fail
     refine (HS.out _ BW.out).mono ?_
     rintro _ w2 ⟨rfl, b2⟩
     have KE := Lib.hid (KE.out.below b2 KE.out.lt)
     have KH := Lib.hid (KH.out.below b2 KH.out.lt)
     have BW := Lib.hid (BW.out.trans (b2.mono BW.out.size))
     clear b2 HS K6 B1 a0 c0 a1 c1 a2 c2 a3 c3 a4 c4 a5 c5 a6 c6 a7 c7 a8 c8
     cases hq : decide ((⟨e.kd, e.t, e.s, e.lev, 0, 0, 0, 0, []⟩ : EvP) = e)
     ·go_wp2_with fail
      go_ret
      exact ⟨by rw [HE.out, hq]; rfl, BW.out⟩
     ·have c0 : w2.cell? ⟨BE, 0, none⟩ = some (.int .i64 e.kd) := KE.out.cell 0
      have c1 : w2.cell? ⟨BE, 1, none⟩ = some (.int .i64 e.t) := KE.out.cell 1
      have c2 : w2.cell? ⟨BE, 2, none⟩ = some (.int .i64 e.s) := KE.out.cell 2
      have c3 : w2.cell? ⟨BE, 3, none⟩ = some (.int .i64 e.lev) := KE.out.cell 3
      have c4 : w2.cell? ⟨BE, 4, none⟩ = some (.int .i64 e.o) := KE.out.cell 4
      have c5 : w2.cell? ⟨BE, 5, none⟩ = some (.int .i64 e.vt) := KE.out.cell 5
      have c6 : w2.cell? ⟨BE, 6, none⟩ = some (.int .i64 e.vk) := KE.out.cell 6
      have c7 : w2.cell? ⟨BE, 7, none⟩ = some (.int .i64 e.p) := KE.out.cell 7
      have c8 : w2.cell? ⟨BE, 8, none⟩ = some (.slice hd.A hd.n hd.c) := KE.out.cell 8
      have z1 : w2.cell? ⟨w.heap.size, 1, none⟩ = some (.slice m.se.1.A m.se.1.n m.se.1.c) := KH.out.cell 1
      have HQ := Lib.hid hq
      clear hq
      go_wp2_with fail
      refine (is_any e.s m.se.1.n w2).mono ?_
      rintro _ w3 ⟨rfl, hw⟩
      obtain rfl := hw.symm
      cases hs : isN e.s m.se.1.n
      ·go_wp2_with fail
       go_ret
       exact ⟨by rw [HE.out, HQ.out, hs]; rfl, BW.out⟩
      ·have HS2 := Lib.hid hs
       clear hs
       go_wp2_with fail
       refine (rright_any e.lev w2).mono ?_
       rintro _ w4 ⟨rfl, hw⟩
       obtain rfl := hw
       go_wp2_with fail
       go_ret
       exact ⟨by rw [HE.out, HQ.out, HS2.out]; rfl, BW.out⟩
    exact AllReadyH.nil
   exact AllReadyH.nil
  ·have hk1 := hk
   clear hk
   by_cases hk : e.kd = 2
   ·have hb1 : (e.kd == 1) = false := by rw [hk]; rfl
    have hb2 : (e.kd == 2) = true := by rw [hk]; rfl
    have HS := Lib.hid (fun (W : World) (hW : Below w.heap.size w W) => (show Calls Tryz.prog 12 #[.agg #[.int .i64 e.kd, .int .i64 e.t, .int .i64 0, .int .i64 0, .int .i64 e.o, .int .i64 e.vt, .int .i64 e.vk, .int .i64 0, .slice none 0 0], .agg #[.int .i64 e.kd, .int .i64 e.t, .int .i64 e.s, .int .i64 e.lev, .int .i64 e.o, .int .i64 e.vt, .int .i64 e.vk, .int .i64 e.p, .slice hd.A hd.n hd.c]] W fun x w' => x = .returned (.bool (decide ((⟨e.kd, e.t, 0, 0, e.o, e.vt, e.vk, 0, []⟩ : EvP) = e))) ∧ Below W.heap.size W w' from rsameEvent_any ((⟨e.kd, e.t, 0, 0, e.o, e.vt, e.vk, 0, []⟩ : EvP), (⟨none, 0, 0⟩ : SH)) (e, hd) (Nat.zero_le _) hn W Reads.none_ ((HR.out.below hW).more hW.size)))
    have HE0 : Hid ((e.vk < 1 ∨ e.vt ≠ e.t) → revB m.tr.1.n m.se.1.n m.ob.1.n m.pr.1.n e = false) := by intro hx; show _ = _; unfold revB; rw [if_neg (by omega), if_pos (Or.inl hk), if_pos ⟨hk, hx⟩]; simp
    have HE : Hid (¬ (e.vk < 1 ∨ e.vt ≠ e.t) → revB m.tr.1.n m.se.1.n m.ob.1.n m.pr.1.n e = ((decide ((⟨e.kd, e.t, 0, 0, e.o, e.vt, e.vk, 0, []⟩ : EvP) = e) && isN e.o m.ob.1.n) && verB e.vt e.vk m.tr.1.n)) := by intro hx; show _ = _; unfold revB; rw [hi, if_neg (by omega), if_pos (Or.inl hk), if_neg (fun h => hx h.2), show bareE e = ⟨e.kd, e.t, 0, 0, e.o, e.vt, e.vk, 0, []⟩ from by unfold bareE; simp [hk], Bool.true_and]
    clear hk
    go_upto_region 11 with fail
    generalize hW1 : W0.alloc (.cells #[.int .i64 e.kd, .int .i64 e.t, .int .i64 0, .int .i64 0, .int .i64 0, .int .i64 0, .int .i64 0, .int .i64 0, .slice none 0 0] 39) = W1 at *
    have K6 : Hid (Blk W1 W0.heap.size 39 #[.int .i64 e.kd, .int .i64 e.t, .int .i64 0, .int .i64 0, .int .i64 0, .int .i64 0, .int .i64 0, .int .i64 0, .slice none 0 0]) := by rw [← hW1]; exact Blk.new _ _ _
    have hb01 : Below W0.heap.size W0 W1 := by rw [← hW1]; exact (Below.refl _ _).alloc (Nat.le_refl _) _
    have HNE : Hid (BE ≠ W0.heap.size) := Nat.ne_of_lt KE.out.lt
    have HNH : Hid (w.heap.size ≠ W0.heap.size) := Nat.ne_of_lt KH.out.lt
    have HGE : Hid (w.heap.size ≤ W0.heap.size) := B0.out.size
    have KE := Lib.hid (KE.out.below hb01 KE.out.lt)
    have KH := Lib.hid (KH.out.below hb01 KH.out.lt)
    have B1 := Lib.hid (B0.out.trans (hb01.mono B0.out.size))
    clear hb01 hW1 d0
    generalize W0.heap.size = B6 at *
    refine wp_region_noPanic ?_
    refine wp_region_held_drew (S := fun W => Blk W BE 39 #[.int .i64 e.kd, .int .i64 e.t, .int .i64 e.s, .int .i64 e.lev, .int .i64 e.o, .int .i64 e.vt, .int .i64 e.vk, .int .i64 e.p, .slice hd.A hd.n hd.c]) (by kernel_rfl) KE.out.drew (fun hHeld => ?_)
    have KE := Lib.hid KE.out.drew
    have KH := Lib.hid KH.out.drew
    have K6 := Lib.hid K6.out.drew
    have B1 := Lib.hid B1.out.drew
    generalize W1.drew = wd at *
    refine tkv 0 (some 51) (.pointer (some ⟨BE, 4, none⟩)) rfl rfl (fun w' hSw => by (try dsimp only at hSw); go_simp) ?_
    try simp only [Act.put, sA, sB, sC]
    refine tkv 1 (some 52) (.int .i64 e.o) rfl rfl (fun w' hSw => by (have c4 := Blk.cell (w := w') hSw 4; go_simp)) ?_
    try simp only [Act.put, sA, sB, sC]
    refine tkv 2 (some 53) (.pointer (some ⟨BE, 5, none⟩)) rfl rfl (fun w' hSw => by (try dsimp only at hSw); go_simp) ?_
    try simp only [Act.put, sA, sB, sC]
    refine tkv 3 (some 54) (.agg #[.int .i64 e.vt, .int .i64 e.vk]) rfl rfl (fun w' hSw => by (have c5 := Blk.cell (w := w') hSw 5; have c6 := Blk.cell (w := w') hSw 6; go_simp)) ?_
    try simp only [Act.put, sA, sB, sC]
    refine tkv 4 (some 55) (.pointer (some ⟨B6, 4, none⟩)) rfl rfl (fun w' hSw => by (try dsimp only at hSw); go_simp) ?_
    try simp only [Act.put, sA, sB, sC]
    refine rdH [5] ?_
    refine AllReadyH.cons (o := { dst := none, op := Op.store 3 (Operand.tmp 55) (Operand.tmp 52), type := 0, pos := "ref.go:48", after := #[{ on := 4, ground := Ground.data }, { on := 1, ground := Ground.data }, { on := 0, ground := Ground.phase }, { on := 1, ground := Ground.phase }, { on := 2, ground := Ground.textOnly Departure.lateStores }, { on := 3, ground := Ground.textOnly Departure.lateStores }], guard := none }) rfl (fun K hK => ?_) ?_
    ·have y4 := K6.out.cell 4
     have f4 := K6.out.frozen 4
     go_simp
     clear hHeld y4 f4
     have k6 := (K6.out.set_ 4 (.int .i64 e.o))
     have KE := Lib.hid (KE.out.far (p := ⟨B6, 4, none⟩) HNE.out (.int .i64 e.o))
     have KH := Lib.hid (KH.out.far (p := ⟨B6, 4, none⟩) HNH.out (.int .i64 e.o))
     have B1 := Lib.hid (B1.out.setCell (p := ⟨B6, 4, none⟩) HGE.out (.int .i64 e.o))
     simp at k6
     have K6 := Lib.hid k6
     clear k6
     refine hK.out _ _ KE.out (fun hHeld => ?_)
     clear hK K
     try simp only [Act.put, sA, sB, sC]
     generalize (wd.setCell ⟨B6, 4, none⟩ (.int .i64 e.o)) = u1 at *
     refine tkv 6 (some 56) (.pointer (some ⟨B6, 5, none⟩)) rfl rfl (fun w' hSw => by (try dsimp only at hSw); go_simp) ?_
     try simp only [Act.put, sA, sB, sC]
     refine rdH [7] ?_
     refine AllReadyH.cons (o := { dst := none, op := Op.store 36 (Operand.tmp 56) (Operand.tmp 54), type := 0, pos := "ref.go:48", after := #[{ on := 6, ground := Ground.data }, { on := 3, ground := Ground.data }, { on := 5, ground := Ground.chain }, { on := 0, ground := Ground.phase }, { on := 1, ground := Ground.phase }, { on := 2, ground := Ground.phase }, { on := 3, ground := Ground.phase }, { on := 4, ground := Ground.phase }, { on := 5, ground := Ground.phase }], guard := none }) rfl (fun K hK => ?_) ?_
     ·have y5 := K6.out.cell 5
      have y6 := K6.out.cell 6
      have f5 := K6.out.frozen 5
      have f6 := K6.out.frozen 6
      go_simp
      clear hHeld y5 f5 y6 f6
      have k6 := ((K6.out.set_ 5 (.int .i64 e.vt)).set_ 6 (.int .i64 e.vk))
      have KE := Lib.hid ((KE.out.far (p := ⟨B6, 5, none⟩) HNE.out (.int .i64 e.vt)).far (p := ⟨B6, 6, none⟩) HNE.out (.int .i64 e.vk))
      have KH := Lib.hid ((KH.out.far (p := ⟨B6, 5, none⟩) HNH.out (.int .i64 e.vt)).far (p := ⟨B6, 6, none⟩) HNH.out (.int .i64 e.vk))
      have B1 := Lib.hid ((B1.out.setCell (p := ⟨B6, 5, none⟩) HGE.out (.int .i64 e.vt)).setCell (p := ⟨B6, 6, none⟩) HGE.out (.int .i64 e.vk))
      simp at k6
      have K6 := Lib.hid k6
      clear k6
      refine hK.out _ _ KE.out (fun hHeld => ?_)
      clear hK K
      try simp only [Act.put, sA, sB, sC]
      generalize ((u1.setCell ⟨B6, 5, none⟩ (.int .i64 e.vt)).setCell ⟨B6, 6, none⟩ (.int .i64 e.vk)) = u2 at *
      refine wpAnyH_done (by kernel_rfl) ?_ _
      refine NoPanic.normal ?_
      have c0 : u2.cell? ⟨BE, 0, none⟩ = some (.int .i64 e.kd) := KE.out.cell 0
      have c1 : u2.cell? ⟨BE, 1, none⟩ = some (.int .i64 e.t) := KE.out.cell 1
      have c2 : u2.cell? ⟨BE, 2, none⟩ = some (.int .i64 e.s) := KE.out.cell 2
      have c3 : u2.cell? ⟨BE, 3, none⟩ = some (.int .i64 e.lev) := KE.out.cell 3
      have c4 : u2.cell? ⟨BE, 4, none⟩ = some (.int .i64 e.o) := KE.out.cell 4
      have c5 : u2.cell? ⟨BE, 5, none⟩ = some (.int .i64 e.vt) := KE.out.cell 5
      have c6 : u2.cell? ⟨BE, 6, none⟩ = some (.int .i64 e.vk) := KE.out.cell 6
      have c7 : u2.cell? ⟨BE, 7, none⟩ = some (.int .i64 e.p) := KE.out.cell 7
      have c8 : u2.cell? ⟨BE, 8, none⟩ = some (.slice hd.A hd.n hd.c) := KE.out.cell 8
      by_cases hx : e.vk < 1 ∨ e.vt ≠ e.t
      ·have BW := B1
       have HF := Lib.hid (HE0.out hx)
       clear HE HE0
       by_cases hx1 : e.vk < 1
       ·go_wp2_with fail
        go_ret
        exact ⟨by rw [HF.out]; rfl, BW.out⟩
       ·have hx2 : e.vt ≠ e.t := by omega
        have hne : (e.vt != e.t) = true := by simpa using hx2
        go_wp2_with fail
        go_ret
        exact ⟨by rw [HF.out]; rfl, BW.out⟩
      ·have hx1 : ¬ e.vk < 1 := by omega
       have hx2 : e.vt = e.t := by omega
       have hne : (e.vt != e.t) = false := by rw [hx2]; simp
       clear hx2
       clear c0 c1 c2 c3 c4 c5 c6 c7 c8
       have a0 : u2.cell? ⟨B6, 0, none⟩ = some (.int .i64 e.kd) := K6.out.cell 0
       have a1 : u2.cell? ⟨B6, 1, none⟩ = some (.int .i64 e.t) := K6.out.cell 1
       have a2 : u2.cell? ⟨B6, 2, none⟩ = some (.int .i64 0) := K6.out.cell 2
       have a3 : u2.cell? ⟨B6, 3, none⟩ = some (.int .i64 0) := K6.out.cell 3
       have a4 : u2.cell? ⟨B6, 4, none⟩ = some (.int .i64 e.o) := K6.out.cell 4
       have a5 : u2.cell? ⟨B6, 5, none⟩ = some (.int .i64 e.vt) := K6.out.cell 5
       have a6 : u2.cell? ⟨B6, 6, none⟩ = some (.int .i64 e.vk) := K6.out.cell 6
       have a7 : u2.cell? ⟨B6, 7, none⟩ = some (.int .i64 0) := K6.out.cell 7
       have a8 : u2.cell? ⟨B6, 8, none⟩ = some (.slice none 0 0) := K6.out.cell 8
       have c0 : u2.cell? ⟨BE, 0, none⟩ = some (.int .i64 e.kd) := KE.out.cell 0
       have c1 : u2.cell? ⟨BE, 1, none⟩ = some (.int .i64 e.t) := KE.out.cell 1
       have c2 : u2.cell? ⟨BE, 2, none⟩ = some (.int .i64 e.s) := KE.out.cell 2
       have c3 : u2.cell? ⟨BE, 3, none⟩ = some (.int .i64 e.lev) := KE.out.cell 3
       have c4 : u2.cell? ⟨BE, 4, none⟩ = some (.int .i64 e.o) := KE.out.cell 4
       have c5 : u2.cell? ⟨BE, 5, none⟩ = some (.int .i64 e.vt) := KE.out.cell 5
       have c6 : u2.cell? ⟨BE, 6, none⟩ = some (.int .i64 e.vk) := KE.out.cell 6
       have c7 : u2.cell? ⟨BE, 7, none⟩ = some (.int .i64 e.p) := KE.out.cell 7
       have c8 : u2.cell? ⟨BE, 8, none⟩ = some (.slice hd.A hd.n hd.c) := KE.out.cell 8
       have BW := B1
       go_wp2_with fail
       refine (HS.out _ BW.out).mono ?_
       rintro _ w2 ⟨rfl, b2⟩
       have KE := Lib.hid (KE.out.below b2 KE.out.lt)
       have KH := Lib.hid (KH.out.below b2 KH.out.lt)
       have BW := Lib.hid (BW.out.trans (b2.mono BW.out.size))
       clear b2 HS K6 B1 a0 c0 a1 c1 a2 c2 a3 c3 a4 c4 a5 c5 a6 c6 a7 c7 a8 c8
       cases hq : decide ((⟨e.kd, e.t, 0, 0, e.o, e.vt, e.vk, 0, []⟩ : EvP) = e)
       ·go_wp2_with fail
        go_ret
        exact ⟨by rw [HE.out hx, hq]; rfl, BW.out⟩
       ·have c0 : w2.cell? ⟨BE, 0, none⟩ = some (.int .i64 e.kd) := KE.out.cell 0
        have c1 : w2.cell? ⟨BE, 1, none⟩ = some (.int .i64 e.t) := KE.out.cell 1
        have c2 : w2.cell? ⟨BE, 2, none⟩ = some (.int .i64 e.s) := KE.out.cell 2
        have c3 : w2.cell? ⟨BE, 3, none⟩ = some (.int .i64 e.lev) := KE.out.cell 3
        have c4 : w2.cell? ⟨BE, 4, none⟩ = some (.int .i64 e.o) := KE.out.cell 4
        have c5 : w2.cell? ⟨BE, 5, none⟩ = some (.int .i64 e.vt) := KE.out.cell 5
        have c6 : w2.cell? ⟨BE, 6, none⟩ = some (.int .i64 e.vk) := KE.out.cell 6
        have c7 : w2.cell? ⟨BE, 7, none⟩ = some (.int .i64 e.p) := KE.out.cell 7
        have c8 : w2.cell? ⟨BE, 8, none⟩ = some (.slice hd.A hd.n hd.c) := KE.out.cell 8
        have z2 : w2.cell? ⟨w.heap.size, 2, none⟩ = some (.slice m.ob.1.A m.ob.1.n m.ob.1.c) := KH.out.cell 2
        have HQ := Lib.hid hq
        clear hq
        go_wp2_with fail
        refine (is_any e.o m.ob.1.n w2).mono ?_
        rintro _ w3 ⟨rfl, hw⟩
        obtain rfl := hw.symm
        cases hs : isN e.o m.ob.1.n
        ·go_wp2_with fail
         go_ret
         exact ⟨by rw [HE.out hx, HQ.out, hs]; rfl, BW.out⟩
        ·have HS2 := Lib.hid hs
         clear hs
         go_wp2_with fail
         refine (rversion_any e.vt e.vk m.tr.1.n w2).mono ?_
         rintro _ w4 ⟨rfl, b4⟩
         have BX := Lib.hid (BW.out.trans (b4.mono BW.out.size))
         clear b4
         go_wp2_with fail
         go_ret
         exact ⟨by rw [HE.out hx, HQ.out, HS2.out]; rfl, BX.out⟩
     exact AllReadyH.nil
    exact AllReadyH.nil
   ·have hk2 := hk
    clear hk
    by_cases hk : e.kd = 3
    ·have hb1 : (e.kd == 1) = false := by rw [hk]; rfl
     have hb2 : (e.kd == 2) = false := by rw [hk]; rfl
     have hb3 : (e.kd == 3) = true := by rw [hk]; rfl
     have HS := Lib.hid (fun (W : World) (hW : Below w.heap.size w W) => (show Calls Tryz.prog 12 #[.agg #[.int .i64 e.kd, .int .i64 e.t, .int .i64 0, .int .i64 0, .int .i64 e.o, .int .i64 e.vt, .int .i64 e.vk, .int .i64 0, .slice none 0 0], .agg #[.int .i64 e.kd, .int .i64 e.t, .int .i64 e.s, .int .i64 e.lev, .int .i64 e.o, .int .i64 e.vt, .int .i64 e.vk, .int .i64 e.p, .slice hd.A hd.n hd.c]] W fun x w' => x = .returned (.bool (decide ((⟨e.kd, e.t, 0, 0, e.o, e.vt, e.vk, 0, []⟩ : EvP) = e))) ∧ Below W.heap.size W w' from rsameEvent_any ((⟨e.kd, e.t, 0, 0, e.o, e.vt, e.vk, 0, []⟩ : EvP), (⟨none, 0, 0⟩ : SH)) (e, hd) (Nat.zero_le _) hn W Reads.none_ ((HR.out.below hW).more hW.size)))
     have HE : Hid (revB m.tr.1.n m.se.1.n m.ob.1.n m.pr.1.n e = ((decide ((⟨e.kd, e.t, 0, 0, e.o, e.vt, e.vk, 0, []⟩ : EvP) = e) && isN e.o m.ob.1.n) && verB e.vt e.vk m.tr.1.n)) := by show _ = _; unfold revB; rw [hi, if_neg (by omega), if_pos (Or.inr hk), if_neg (fun h => by omega), show bareE e = ⟨e.kd, e.t, 0, 0, e.o, e.vt, e.vk, 0, []⟩ from by unfold bareE; simp [hk], Bool.true_and]
     clear hk
     go_upto_region 11 with fail
     generalize hW1 : W0.alloc (.cells #[.int .i64 e.kd, .int .i64 e.t, .int .i64 0, .int .i64 0, .int .i64 0, .int .i64 0, .int .i64 0, .int .i64 0, .slice none 0 0] 39) = W1 at *
     have K6 : Hid (Blk W1 W0.heap.size 39 #[.int .i64 e.kd, .int .i64 e.t, .int .i64 0, .int .i64 0, .int .i64 0, .int .i64 0, .int .i64 0, .int .i64 0, .slice none 0 0]) := by rw [← hW1]; exact Blk.new _ _ _
     have hb01 : Below W0.heap.size W0 W1 := by rw [← hW1]; exact (Below.refl _ _).alloc (Nat.le_refl _) _
     have HNE : Hid (BE ≠ W0.heap.size) := Nat.ne_of_lt KE.out.lt
     have HNH : Hid (w.heap.size ≠ W0.heap.size) := Nat.ne_of_lt KH.out.lt
     have HGE : Hid (w.heap.size ≤ W0.heap.size) := B0.out.size
     have KE := Lib.hid (KE.out.below hb01 KE.out.lt)
     have KH := Lib.hid (KH.out.below hb01 KH.out.lt)
     have B1 := Lib.hid (B0.out.trans (hb01.mono B0.out.size))
     clear hb01 hW1 d0
     generalize W0.heap.size = B6 at *
     refine wp_region_noPanic ?_
     refine wp_region_held_drew (S := fun W => Blk W BE 39 #[.int .i64 e.kd, .int .i64 e.t, .int .i64 e.s, .int .i64 e.lev, .int .i64 e.o, .int .i64 e.vt, .int .i64 e.vk, .int .i64 e.p, .slice hd.A hd.n hd.c]) (by kernel_rfl) KE.out.drew (fun hHeld => ?_)
     have KE := Lib.hid KE.out.drew
     have KH := Lib.hid KH.out.drew
     have K6 := Lib.hid K6.out.drew
     have B1 := Lib.hid B1.out.drew
     generalize W1.drew = wd at *
     refine tkv 0 (some 51) (.pointer (some ⟨BE, 4, none⟩)) rfl rfl (fun w' hSw => by (try dsimp only at hSw); go_simp) ?_
     try simp only [Act.put, sA, sB, sC]
     refine tkv 1 (some 52) (.int .i64 e.o) rfl rfl (fun w' hSw => by (have c4 := Blk.cell (w := w') hSw 4; go_simp)) ?_
     try simp only [Act.put, sA, sB, sC]
     refine tkv 2 (some 53) (.pointer (some ⟨BE, 5, none⟩)) rfl rfl (fun w' hSw => by (try dsimp only at hSw); go_simp) ?_
     try simp only [Act.put, sA, sB, sC]
     refine tkv 3 (some 54) (.agg #[.int .i64 e.vt, .int .i64 e.vk]) rfl rfl (fun w' hSw => by (have c5 := Blk.cell (w := w') hSw 5; have c6 := Blk.cell (w := w') hSw 6; go_simp)) ?_
     try simp only [Act.put, sA, sB, sC]
     refine tkv 4 (some 55) (.pointer (some ⟨B6, 4, none⟩)) rfl rfl (fun w' hSw => by (try dsimp only at hSw); go_simp) ?_
     try simp only [Act.put, sA, sB, sC]
     refine rdH [5] ?_
     refine AllReadyH.cons (o := { dst := none, op := Op.store 3 (Operand.tmp 55) (Operand.tmp 52), type := 0, pos := "ref.go:48", after := #[{ on := 4, ground := Ground.data }, { on := 1, ground := Ground.data }, { on := 0, ground := Ground.phase }, { on := 1, ground := Ground.phase }, { on := 2, ground := Ground.textOnly Departure.lateStores }, { on := 3, ground := Ground.textOnly Departure.lateStores }], guard := none }) rfl (fun K hK => ?_) ?_
     ·have y4 := K6.out.cell 4
      have f4 := K6.out.frozen 4
      go_simp
      clear hHeld y4 f4
      have k6 := (K6.out.set_ 4 (.int .i64 e.o))
      have KE := Lib.hid (KE.out.far (p := ⟨B6, 4, none⟩) HNE.out (.int .i64 e.o))
      have KH := Lib.hid (KH.out.far (p := ⟨B6, 4, none⟩) HNH.out (.int .i64 e.o))
      have B1 := Lib.hid (B1.out.setCell (p := ⟨B6, 4, none⟩) HGE.out (.int .i64 e.o))
      simp at k6
      have K6 := Lib.hid k6
      clear k6
      refine hK.out _ _ KE.out (fun hHeld => ?_)
      clear hK K
      try simp only [Act.put, sA, sB, sC]
      generalize (wd.setCell ⟨B6, 4, none⟩ (.int .i64 e.o)) = u1 at *
      refine tkv 6 (some 56) (.pointer (some ⟨B6, 5, none⟩)) rfl rfl (fun w' hSw => by (try dsimp only at hSw); go_simp) ?_
      try simp only [Act.put, sA, sB, sC]
      refine rdH [7] ?_
      refine AllReadyH.cons (o := { dst := none, op := Op.store 36 (Operand.tmp 56) (Operand.tmp 54), type := 0, pos := "ref.go:48", after := #[{ on := 6, ground := Ground.data }, { on := 3, ground := Ground.data }, { on := 5, ground := Ground.chain }, { on := 0, ground := Ground.phase }, { on := 1, ground := Ground.phase }, { on := 2, ground := Ground.phase }, { on := 3, ground := Ground.phase }, { on := 4, ground := Ground.phase }, { on := 5, ground := Ground.phase }], guard := none }) rfl (fun K hK => ?_) ?_
      ·have y5 := K6.out.cell 5
       have y6 := K6.out.cell 6
       have f5 := K6.out.frozen 5
       have f6 := K6.out.frozen 6
       go_simp
       clear hHeld y5 f5 y6 f6
       have k6 := ((K6.out.set_ 5 (.int .i64 e.vt)).set_ 6 (.int .i64 e.vk))
       have KE := Lib.hid ((KE.out.far (p := ⟨B6, 5, none⟩) HNE.out (.int .i64 e.vt)).far (p := ⟨B6, 6, none⟩) HNE.out (.int .i64 e.vk))
       have KH := Lib.hid ((KH.out.far (p := ⟨B6, 5, none⟩) HNH.out (.int .i64 e.vt)).far (p := ⟨B6, 6, none⟩) HNH.out (.int .i64 e.vk))
       have B1 := Lib.hid ((B1.out.setCell (p := ⟨B6, 5, none⟩) HGE.out (.int .i64 e.vt)).setCell (p := ⟨B6, 6, none⟩) HGE.out (.int .i64 e.vk))
       simp at k6
       have K6 := Lib.hid k6
       clear k6
       refine hK.out _ _ KE.out (fun hHeld => ?_)
       clear hK K
       try simp only [Act.put, sA, sB, sC]
       generalize ((u1.setCell ⟨B6, 5, none⟩ (.int .i64 e.vt)).setCell ⟨B6, 6, none⟩ (.int .i64 e.vk)) = u2 at *
       refine wpAnyH_done (by kernel_rfl) ?_ _
       refine NoPanic.normal ?_
       have c0 : u2.cell? ⟨BE, 0, none⟩ = some (.int .i64 e.kd) := KE.out.cell 0
       have c1 : u2.cell? ⟨BE, 1, none⟩ = some (.int .i64 e.t) := KE.out.cell 1
       have c2 : u2.cell? ⟨BE, 2, none⟩ = some (.int .i64 e.s) := KE.out.cell 2
       have c3 : u2.cell? ⟨BE, 3, none⟩ = some (.int .i64 e.lev) := KE.out.cell 3
       have c4 : u2.cell? ⟨BE, 4, none⟩ = some (.int .i64 e.o) := KE.out.cell 4
       have c5 : u2.cell? ⟨BE, 5, none⟩ = some (.int .i64 e.vt) := KE.out.cell 5
       have c6 : u2.cell? ⟨BE, 6, none⟩ = some (.int .i64 e.vk) := KE.out.cell 6
       have c7 : u2.cell? ⟨BE, 7, none⟩ = some (.int .i64 e.p) := KE.out.cell 7
       have c8 : u2.cell? ⟨BE, 8, none⟩ = some (.slice hd.A hd.n hd.c) := KE.out.cell 8
       clear c0 c1 c2 c3 c4 c5 c6 c7 c8
       have a0 : u2.cell? ⟨B6, 0, none⟩ = some (.int .i64 e.kd) := K6.out.cell 0
       have a1 : u2.cell? ⟨B6, 1, none⟩ = some (.int .i64 e.t) := K6.out.cell 1
       have a2 : u2.cell? ⟨B6, 2, none⟩ = some (.int .i64 0) := K6.out.cell 2
       have a3 : u2.cell? ⟨B6, 3, none⟩ = some (.int .i64 0) := K6.out.cell 3
       have a4 : u2.cell? ⟨B6, 4, none⟩ = some (.int .i64 e.o) := K6.out.cell 4
       have a5 : u2.cell? ⟨B6, 5, none⟩ = some (.int .i64 e.vt) := K6.out.cell 5
       have a6 : u2.cell? ⟨B6, 6, none⟩ = some (.int .i64 e.vk) := K6.out.cell 6
       have a7 : u2.cell? ⟨B6, 7, none⟩ = some (.int .i64 0) := K6.out.cell 7
       have a8 : u2.cell? ⟨B6, 8, none⟩ = some (.slice none 0 0) := K6.out.cell 8
       have c0 : u2.cell? ⟨BE, 0, none⟩ = some (.int .i64 e.kd) := KE.out.cell 0
       have c1 : u2.cell? ⟨BE, 1, none⟩ = some (.int .i64 e.t) := KE.out.cell 1
       have c2 : u2.cell? ⟨BE, 2, none⟩ = some (.int .i64 e.s) := KE.out.cell 2
       have c3 : u2.cell? ⟨BE, 3, none⟩ = some (.int .i64 e.lev) := KE.out.cell 3
       have c4 : u2.cell? ⟨BE, 4, none⟩ = some (.int .i64 e.o) := KE.out.cell 4
       have c5 : u2.cell? ⟨BE, 5, none⟩ = some (.int .i64 e.vt) := KE.out.cell 5
       have c6 : u2.cell? ⟨BE, 6, none⟩ = some (.int .i64 e.vk) := KE.out.cell 6
       have c7 : u2.cell? ⟨BE, 7, none⟩ = some (.int .i64 e.p) := KE.out.cell 7
       have c8 : u2.cell? ⟨BE, 8, none⟩ = some (.slice hd.A hd.n hd.c) := KE.out.cell 8
       have BW := B1
       go_wp2_with fail
       refine (HS.out _ BW.out).mono ?_
       rintro _ w2 ⟨rfl, b2⟩
       have KE := Lib.hid (KE.out.below b2 KE.out.lt)
       have KH := Lib.hid (KH.out.below b2 KH.out.lt)
       have BW := Lib.hid (BW.out.trans (b2.mono BW.out.size))
       clear b2 HS K6 B1 a0 c0 a1 c1 a2 c2 a3 c3 a4 c4 a5 c5 a6 c6 a7 c7 a8 c8
       cases hq : decide ((⟨e.kd, e.t, 0, 0, e.o, e.vt, e.vk, 0, []⟩ : EvP) = e)
       ·go_wp2_with fail
        go_ret
        exact ⟨by rw [HE.out, hq]; rfl, BW.out⟩
       ·have c0 : w2.cell? ⟨BE, 0, none⟩ = some (.int .i64 e.kd) := KE.out.cell 0
        have c1 : w2.cell? ⟨BE, 1, none⟩ = some (.int .i64 e.t) := KE.out.cell 1
        have c2 : w2.cell? ⟨BE, 2, none⟩ = some (.int .i64 e.s) := KE.out.cell 2
        have c3 : w2.cell? ⟨BE, 3, none⟩ = some (.int .i64 e.lev) := KE.out.cell 3
        have c4 : w2.cell? ⟨BE, 4, none⟩ = some (.int .i64 e.o) := KE.out.cell 4
        have c5 : w2.cell? ⟨BE, 5, none⟩ = some (.int .i64 e.vt) := KE.out.cell 5
        have c6 : w2.cell? ⟨BE, 6, none⟩ = some (.int .i64 e.vk) := KE.out.cell 6
        have c7 : w2.cell? ⟨BE, 7, none⟩ = some (.int .i64 e.p) := KE.out.cell 7
        have c8 : w2.cell? ⟨BE, 8, none⟩ = some (.slice hd.A hd.n hd.c) := KE.out.cell 8
        have z2 : w2.cell? ⟨w.heap.size, 2, none⟩ = some (.slice m.ob.1.A m.ob.1.n m.ob.1.c) := KH.out.cell 2
        have HQ := Lib.hid hq
        clear hq
        go_wp2_with fail
        refine (is_any e.o m.ob.1.n w2).mono ?_
        rintro _ w3 ⟨rfl, hw⟩
        obtain rfl := hw.symm
        cases hs : isN e.o m.ob.1.n
        ·go_wp2_with fail
         go_ret
         exact ⟨by rw [HE.out, HQ.out, hs]; rfl, BW.out⟩
        ·have HS2 := Lib.hid hs
         clear hs
         go_wp2_with fail
         refine (rversion_any e.vt e.vk m.tr.1.n w2).mono ?_
         rintro _ w4 ⟨rfl, b4⟩
         have BX := Lib.hid (BW.out.trans (b4.mono BW.out.size))
         clear b4
         go_wp2_with fail
         go_ret
         exact ⟨by rw [HE.out, HQ.out, HS2.out]; rfl, BX.out⟩
      exact AllReadyH.nil
     exact AllReadyH.nil
    ·have hk3 := hk
     clear hk
     by_cases hk : e.kd = 4
     ·have hb1 : (e.kd == 1) = false := by rw [hk]; rfl
      have hb2 : (e.kd == 2) = false := by rw [hk]; rfl
      have hb3 : (e.kd == 3) = false := by rw [hk]; rfl
      have hb4 : (e.kd == 4) = true := by rw [hk]; rfl
      have HS := Lib.hid (fun (W : World) (hW : Below w.heap.size w W) => (show Calls Tryz.prog 12 #[.agg #[.int .i64 e.kd, .int .i64 e.t, .int .i64 0, .int .i64 0, .int .i64 0, .int .i64 0, .int .i64 0, .int .i64 e.p, .slice hd.A hd.n hd.c], .agg #[.int .i64 e.kd, .int .i64 e.t, .int .i64 e.s, .int .i64 e.lev, .int .i64 e.o, .int .i64 e.vt, .int .i64 e.vk, .int .i64 e.p, .slice hd.A hd.n hd.c]] W fun x w' => x = .returned (.bool (decide ((⟨e.kd, e.t, 0, 0, 0, 0, 0, e.p, e.scan⟩ : EvP) = e))) ∧ Below W.heap.size W w' from rsameEvent_any ((⟨e.kd, e.t, 0, 0, 0, 0, 0, e.p, e.scan⟩ : EvP), (hd : SH)) (e, hd) hn hn W ((HR.out.below hW).more hW.size) ((HR.out.below hW).more hW.size)))
      have HE : Hid (revB m.tr.1.n m.se.1.n m.ob.1.n m.pr.1.n e = ((e.scan.all fun s => isN s.o m.ob.1.n && verB s.t s.k m.tr.1.n) && ((decide ((⟨e.kd, e.t, 0, 0, 0, 0, 0, e.p, e.scan⟩ : EvP) = e) && isN e.p m.pr.1.n) && decide (e.scan.length ≤ 40)))) := by show _ = _; unfold revB; rw [hi, if_neg (by omega), if_neg (by omega), if_pos hk, show bareE e = ⟨e.kd, e.t, 0, 0, 0, 0, 0, e.p, e.scan⟩ from by unfold bareE; simp [hk], Bool.true_and]
      clear hk
      go_upto_region 16 with fail
      generalize hW1 : W0.alloc (.cells #[.int .i64 e.kd, .int .i64 e.t, .int .i64 0, .int .i64 0, .int .i64 0, .int .i64 0, .int .i64 0, .int .i64 0, .slice none 0 0] 39) = W1 at *
      have K6 : Hid (Blk W1 W0.heap.size 39 #[.int .i64 e.kd, .int .i64 e.t, .int .i64 0, .int .i64 0, .int .i64 0, .int .i64 0, .int .i64 0, .int .i64 0, .slice none 0 0]) := by rw [← hW1]; exact Blk.new _ _ _
      have hb01 : Below W0.heap.size W0 W1 := by rw [← hW1]; exact (Below.refl _ _).alloc (Nat.le_refl _) _
      have HNE : Hid (BE ≠ W0.heap.size) := Nat.ne_of_lt KE.out.lt
      have HNH : Hid (w.heap.size ≠ W0.heap.size) := Nat.ne_of_lt KH.out.lt
      have HGE : Hid (w.heap.size ≤ W0.heap.size) := B0.out.size
      have KE := Lib.hid (KE.out.below hb01 KE.out.lt)
      have KH := Lib.hid (KH.out.below hb01 KH.out.lt)
      have B1 := Lib.hid (B0.out.trans (hb01.mono B0.out.size))
      clear hb01 hW1 d0
      generalize W0.heap.size = B6 at *
      refine wp_region_noPanic ?_
      refine wp_region_held_drew (S := fun W => Blk W BE 39 #[.int .i64 e.kd, .int .i64 e.t, .int .i64 e.s, .int .i64 e.lev, .int .i64 e.o, .int .i64 e.vt, .int .i64 e.vk, .int .i64 e.p, .slice hd.A hd.n hd.c]) (by kernel_rfl) KE.out.drew (fun hHeld => ?_)
      have KE := Lib.hid KE.out.drew
      have KH := Lib.hid KH.out.drew
      have K6 := Lib.hid K6.out.drew
      have B1 := Lib.hid B1.out.drew
      generalize W1.drew = wd at *
      refine tkv 0 (some 93) (.pointer (some ⟨BE, 7, none⟩)) rfl rfl (fun w' hSw => by (try dsimp only at hSw); go_simp) ?_
      try simp only [Act.put, sA, sB, sC]
      refine tkv 1 (some 94) (.int .i64 e.p) rfl rfl (fun w' hSw => by (have c7 := Blk.cell (w := w') hSw 7; go_simp)) ?_
      try simp only [Act.put, sA, sB, sC]
      refine tkv 2 (some 95) (.pointer (some ⟨BE, 8, none⟩)) rfl rfl (fun w' hSw => by (try dsimp only at hSw); go_simp) ?_
      try simp only [Act.put, sA, sB, sC]
      refine tkv 3 (some 96) (.slice hd.A hd.n hd.c) rfl rfl (fun w' hSw => by (have c8 := Blk.cell (w := w') hSw 8; go_simp)) ?_
      try simp only [Act.put, sA, sB, sC]
      refine tkv 4 (some 97) (.pointer (some ⟨B6, 7, none⟩)) rfl rfl (fun w' hSw => by (try dsimp only at hSw); go_simp) ?_
      try simp only [Act.put, sA, sB, sC]
      refine rdH [5] ?_
      refine AllReadyH.cons (o := { dst := none, op := Op.store 3 (Operand.tmp 97) (Operand.tmp 94), type := 0, pos := "ref.go:54", after := #[{ on := 4, ground := Ground.data }, { on := 1, ground := Ground.data }, { on := 0, ground := Ground.phase }, { on := 1, ground := Ground.phase }, { on := 2, ground := Ground.textOnly Departure.lateStores }, { on := 3, ground := Ground.textOnly Departure.lateStores }], guard := none }) rfl (fun K hK => ?_) ?_
      ·have y7 := K6.out.cell 7
       have f7 := K6.out.frozen 7
       go_simp
       clear hHeld y7 f7
       have k6 := (K6.out.set_ 7 (.int .i64 e.p))
       have KE := Lib.hid (KE.out.far (p := ⟨B6, 7, none⟩) HNE.out (.int .i64 e.p))
       have KH := Lib.hid (KH.out.far (p := ⟨B6, 7, none⟩) HNH.out (.int .i64 e.p))
       have B1 := Lib.hid (B1.out.setCell (p := ⟨B6, 7, none⟩) HGE.out (.int .i64 e.p))
       simp at k6
       have K6 := Lib.hid k6
       clear k6
       refine hK.out _ _ KE.out (fun hHeld => ?_)
       clear hK K
       try simp only [Act.put, sA, sB, sC]
       generalize (wd.setCell ⟨B6, 7, none⟩ (.int .i64 e.p)) = u1 at *
       refine tkv 6 (some 98) (.pointer (some ⟨B6, 8, none⟩)) rfl rfl (fun w' hSw => by (try dsimp only at hSw); go_simp) ?_
       try simp only [Act.put, sA, sB, sC]
       refine rdH [7] ?_
       refine AllReadyH.cons (o := { dst := none, op := Op.store 37 (Operand.tmp 98) (Operand.tmp 96), type := 0, pos := "ref.go:54", after := #[{ on := 6, ground := Ground.data }, { on := 3, ground := Ground.data }, { on := 5, ground := Ground.chain }, { on := 0, ground := Ground.phase }, { on := 1, ground := Ground.phase }, { on := 2, ground := Ground.phase }, { on := 3, ground := Ground.phase }, { on := 4, ground := Ground.phase }, { on := 5, ground := Ground.phase }], guard := none }) rfl (fun K hK => ?_) ?_
       ·have y8 := K6.out.cell 8
        have f8 := K6.out.frozen 8
        go_simp
        clear hHeld y8 f8
        have k6 := (K6.out.set_ 8 (.slice hd.A hd.n hd.c))
        have KE := Lib.hid (KE.out.far (p := ⟨B6, 8, none⟩) HNE.out (.slice hd.A hd.n hd.c))
        have KH := Lib.hid (KH.out.far (p := ⟨B6, 8, none⟩) HNH.out (.slice hd.A hd.n hd.c))
        have B1 := Lib.hid (B1.out.setCell (p := ⟨B6, 8, none⟩) HGE.out (.slice hd.A hd.n hd.c))
        simp at k6
        have K6 := Lib.hid k6
        clear k6
        refine hK.out _ _ KE.out (fun hHeld => ?_)
        clear hK K
        try simp only [Act.put, sA, sB, sC]
        generalize (u1.setCell ⟨B6, 8, none⟩ (.slice hd.A hd.n hd.c)) = u2 at *
        refine wpAnyH_done (by kernel_rfl) ?_ _
        refine NoPanic.normal ?_
        have c8 := KE.out.cell 8
        go_wp2_with fail
        clear c8
        go_loopw [102] (fun v wr => ∃ i : Nat, i ≤ hd.n ∧ v = .int .i64 i ∧ Hid (∀ s ∈ e.scan.take i, (isN s.o m.ob.1.n && verB s.t s.k m.tr.1.n) = true) ∧ Hid (Blk wr BE 39 #[.int .i64 e.kd, .int .i64 e.t, .int .i64 e.s, .int .i64 e.lev, .int .i64 e.o, .int .i64 e.vt, .int .i64 e.vk, .int .i64 e.p, .slice hd.A hd.n hd.c]) ∧ Hid (Blk wr w.heap.size 28 m.cs) ∧ Hid (Blk wr B6 39 #[.int .i64 e.kd, .int .i64 e.t, .int .i64 0, .int .i64 0, .int .i64 0, .int .i64 0, .int .i64 0, .int .i64 e.p, .slice hd.A hd.n hd.c]) ∧ Hid (Below w.heap.size w wr)) (fun v _ => hd.n - (intOf v).toNat)
        case atStart => exact ⟨0, Nat.zero_le _, rfl, fun s hs => by simp at hs, KE, KH, K6, B1⟩
        case round =>
         clear KE KH K6 B1
         obtain ⟨i, hi0, rfl, HK, KE, KH, K6, B1⟩ := hrel
         by_cases hin : i < hd.n
         ·have hlt : (i : Int) < (hd.n : Int) := by omega
          obtain ⟨s, hs⟩ : ∃ s, e.scan[i]? = some s := ⟨e.scan[i]'(by rw [HLS.out]; exact hin), List.getElem?_eq_getElem _⟩
          obtain ⟨b, o, hA, hbl, hc⟩ := row_cells seCs_len (by omega) (HR.out.below B1.out) hs
          rw [hA]
          have d0 : wr.cell? ⟨b, o + i * 3, none⟩ = some (.int .i64 s.o) := hc 0 _ rfl
          have d1 : wr.cell? ⟨b, o + i * 3 + 1, none⟩ = some (.int .i64 s.t) := hc 1 _ rfl
          have d2 : wr.cell? ⟨b, o + i * 3 + 2, none⟩ = some (.int .i64 s.k) := hc 2 _ rfl
          have HSI := Lib.hid hs
          have HA0 := Lib.hid hA
          have hal : Below wr.heap.size wr (wr.alloc (.cells #[.int .i64 s.o, .int .i64 s.t, .int .i64 s.k] 59)) := (Below.refl _ _).alloc (Nat.le_refl _) _
          have KE2 := Lib.hid (KE.out.below hal KE.out.lt)
          have KH2 := Lib.hid (KH.out.below hal KH.out.lt)
          have K62 := Lib.hid (K6.out.below hal K6.out.lt)
          have B2 := Lib.hid (B1.out.trans (hal.mono B1.out.size))
          clear hs hc hbl hA hal
          have z2 : (wr.alloc (.cells #[.int .i64 s.o, .int .i64 s.t, .int .i64 s.k] 59)).cell? ⟨w.heap.size, 2, none⟩ = some (.slice m.ob.1.A m.ob.1.n m.ob.1.c) := KH2.out.cell 2
          go_wp2_with fail
          refine (is_any s.o m.ob.1.n _).mono ?_
          rintro _ w3 ⟨rfl, hw⟩
          obtain rfl := hw.symm
          cases hq : isN s.o m.ob.1.n
          ·have HN : Hid ((e.scan.all fun s => isN s.o m.ob.1.n && verB s.t s.k m.tr.1.n) = false) := by
            show _ = _
            rw [Bool.eq_false_iff]
            intro h
            have := List.all_eq_true.1 h s (List.mem_of_getElem? HSI.out)
            rw [hq] at this
            cases this
           go_wp2_with fail
           go_ret
           exact ⟨by rw [HE.out, HN.out]; rfl, B2.out⟩
          ·have HQ := Lib.hid hq
           clear hq
           go_wp2_with fail
           refine (rversion_any s.t s.k m.tr.1.n _).mono ?_
           rintro _ w4 ⟨rfl, b4⟩
           have KE4 := Lib.hid (KE2.out.below b4 KE2.out.lt)
           have KH4 := Lib.hid (KH2.out.below b4 KH2.out.lt)
           have K64 := Lib.hid (K62.out.below b4 K62.out.lt)
           have B4 := Lib.hid (B2.out.trans (b4.mono B2.out.size))
           clear b4 KE2 KH2 K62 B2
           cases hv : verB s.t s.k m.tr.1.n
           ·have HN : Hid ((e.scan.all fun s => isN s.o m.ob.1.n && verB s.t s.k m.tr.1.n) = false) := by
             show _ = _
             rw [Bool.eq_false_iff]
             intro h
             have := List.all_eq_true.1 h s (List.mem_of_getElem? HSI.out)
             rw [HQ.out, hv] at this
             cases this
            go_wp2_with fail
            go_ret
            exact ⟨by rw [HE.out, HN.out]; rfl, B4.out⟩
           ·have HK2 : Hid (∀ s ∈ e.scan.take (i + 1), (isN s.o m.ob.1.n && verB s.t s.k m.tr.1.n) = true) := fun x hx => by
             rw [List.take_add_one, HSI.out] at hx
             rcases List.mem_append.1 hx with hx | hx
             ·exact HK.out x hx
             ·simp at hx
              subst hx
              rw [HQ.out, hv]; rfl
            clear hv
            go_wp2_with fail
            go_roundw
            case rel => exact ⟨i + 1, hin, by go_num, HK2, by rw [← HA0.out]; exact KE4, KH4, by rw [← HA0.out]; exact K64, B4⟩
            case measure => simp [intOf]; omega
         ·have hie : i = hd.n := by omega
          have HA : Hid ((e.scan.all fun s => isN s.o m.ob.1.n && verB s.t s.k m.tr.1.n) = true) := List.all_eq_true.2 fun s hs => HK.out s (by rw [List.take_of_length_le (by rw [HLS.out, hie]; exact Nat.le_refl _)]; exact hs)
          rw [hie]
          clear hie hin hi0
          have a0 : wr.cell? ⟨B6, 0, none⟩ = some (.int .i64 e.kd) := K6.out.cell 0
          have a1 : wr.cell? ⟨B6, 1, none⟩ = some (.int .i64 e.t) := K6.out.cell 1
          have a2 : wr.cell? ⟨B6, 2, none⟩ = some (.int .i64 0) := K6.out.cell 2
          have a3 : wr.cell? ⟨B6, 3, none⟩ = some (.int .i64 0) := K6.out.cell 3
          have a4 : wr.cell? ⟨B6, 4, none⟩ = some (.int .i64 0) := K6.out.cell 4
          have a5 : wr.cell? ⟨B6, 5, none⟩ = some (.int .i64 0) := K6.out.cell 5
          have a6 : wr.cell? ⟨B6, 6, none⟩ = some (.int .i64 0) := K6.out.cell 6
          have a7 : wr.cell? ⟨B6, 7, none⟩ = some (.int .i64 e.p) := K6.out.cell 7
          have a8 : wr.cell? ⟨B6, 8, none⟩ = some (.slice hd.A hd.n hd.c) := K6.out.cell 8
          have c0 : wr.cell? ⟨BE, 0, none⟩ = some (.int .i64 e.kd) := KE.out.cell 0
          have c1 : wr.cell? ⟨BE, 1, none⟩ = some (.int .i64 e.t) := KE.out.cell 1
          have c2 : wr.cell? ⟨BE, 2, none⟩ = some (.int .i64 e.s) := KE.out.cell 2
          have c3 : wr.cell? ⟨BE, 3, none⟩ = some (.int .i64 e.lev) := KE.out.cell 3
          have c4 : wr.cell? ⟨BE, 4, none⟩ = some (.int .i64 e.o) := KE.out.cell 4
          have c5 : wr.cell? ⟨BE, 5, none⟩ = some (.int .i64 e.vt) := KE.out.cell 5
          have c6 : wr.cell? ⟨BE, 6, none⟩ = some (.int .i64 e.vk) := KE.out.cell 6
          have c7 : wr.cell? ⟨BE, 7, none⟩ = some (.int .i64 e.p) := KE.out.cell 7
          have c8 : wr.cell? ⟨BE, 8, none⟩ = some (.slice hd.A hd.n hd.c) := KE.out.cell 8
          have BW := B1
          go_wp2_with fail
          refine (HS.out _ BW.out).mono ?_
          rintro _ w2 ⟨rfl, b2⟩
          have KE := Lib.hid (KE.out.below b2 KE.out.lt)
          have KH := Lib.hid (KH.out.below b2 KH.out.lt)
          have BW := Lib.hid (BW.out.trans (b2.mono BW.out.size))
          clear b2 HS K6 B1 a0 c0 a1 c1 a2 c2 a3 c3 a4 c4 a5 c5 a6 c6 a7 c7 a8 c8
          cases hq : decide ((⟨e.kd, e.t, 0, 0, 0, 0, 0, e.p, e.scan⟩ : EvP) = e)
          ·go_wp2_with fail
           go_ret
           exact ⟨by rw [HE.out, HA.out, Bool.true_and, hq]; rfl, BW.out⟩
          ·have c0 : w2.cell? ⟨BE, 0, none⟩ = some (.int .i64 e.kd) := KE.out.cell 0
           have c1 : w2.cell? ⟨BE, 1, none⟩ = some (.int .i64 e.t) := KE.out.cell 1
           have c2 : w2.cell? ⟨BE, 2, none⟩ = some (.int .i64 e.s) := KE.out.cell 2
           have c3 : w2.cell? ⟨BE, 3, none⟩ = some (.int .i64 e.lev) := KE.out.cell 3
           have c4 : w2.cell? ⟨BE, 4, none⟩ = some (.int .i64 e.o) := KE.out.cell 4
           have c5 : w2.cell? ⟨BE, 5, none⟩ = some (.int .i64 e.vt) := KE.out.cell 5
           have c6 : w2.cell? ⟨BE, 6, none⟩ = some (.int .i64 e.vk) := KE.out.cell 6
           have c7 : w2.cell? ⟨BE, 7, none⟩ = some (.int .i64 e.p) := KE.out.cell 7
           have c8 : w2.cell? ⟨BE, 8, none⟩ = some (.slice hd.A hd.n hd.c) := KE.out.cell 8
           have z3 : w2.cell? ⟨w.heap.size, 3, none⟩ = some (.slice m.pr.1.A m.pr.1.n m.pr.1.c) := KH.out.cell 3
           have HQ := Lib.hid hq
           clear hq
           go_wp2_with fail
           refine (is_any e.p m.pr.1.n w2).mono ?_
           rintro _ w3 ⟨rfl, hw⟩
           obtain rfl := hw.symm
           cases hs : isN e.p m.pr.1.n
           ·go_wp2_with fail
            go_ret
            exact ⟨by rw [HE.out, HA.out, Bool.true_and, HQ.out, hs]; rfl, BW.out⟩
           ·have HS2 := Lib.hid hs
            clear hs
            have HD : Hid (decide (e.scan.length ≤ 40) = decide ((hd.n : Int) ≤ 40)) := by show _ = _; rw [decide_eq_decide, HLS.out]; omega
            go_wp2_with fail
            go_ret
            exact ⟨by rw [HE.out, HA.out, Bool.true_and, HQ.out, HS2.out, HD.out]; rfl, BW.out⟩
       exact AllReadyH.nil
      exact AllReadyH.nil
     ·have hk4 := hk
      clear hk
      have hb1 : (e.kd == 1) = false := by simp; omega
      have hb2 : (e.kd == 2) = false := by simp; omega
      have hb3 : (e.kd == 3) = false := by simp; omega
      have hb4 : (e.kd == 4) = false := by simp; omega
      have HS := Lib.hid (fun (W : World) (hW : Below w.heap.size w W) => (show Calls Tryz.prog 12 #[.agg #[.int .i64 e.kd, .int .i64 e.t, .int .i64 0, .int .i64 0, .int .i64 0, .int .i64 0, .int .i64 0, .int .i64 0, .slice none 0 0], .agg #[.int .i64 e.kd, .int .i64 e.t, .int .i64 e.s, .int .i64 e.lev, .int .i64 e.o, .int .i64 e.vt, .int .i64 e.vk, .int .i64 e.p, .slice hd.A hd.n hd.c]] W fun x w' => x = .returned (.bool (decide ((⟨e.kd, e.t, 0, 0, 0, 0, 0, 0, []⟩ : EvP) = e))) ∧ Below W.heap.size W w' from rsameEvent_any ((⟨e.kd, e.t, 0, 0, 0, 0, 0, 0, []⟩ : EvP), (⟨none, 0, 0⟩ : SH)) (e, hd) (Nat.zero_le _) hn W Reads.none_ ((HR.out.below hW).more hW.size)))
      have HE : Hid (revB m.tr.1.n m.se.1.n m.ob.1.n m.pr.1.n e = (decide ((⟨e.kd, e.t, 0, 0, 0, 0, 0, 0, []⟩ : EvP) = e) && decide (e.kd = 5 ∨ e.kd = 6))) := by show _ = _; unfold revB; rw [hi, if_neg (by omega), if_neg (by omega), if_neg (by omega), show bareE e = ⟨e.kd, e.t, 0, 0, 0, 0, 0, 0, []⟩ from by unfold bareE; rw [if_neg (by omega), if_neg (by omega), if_neg (by omega)], Bool.true_and]
      clear hk1 hk2 hk3 hk4
      go_upto_region 24 with fail
      generalize hW1 : W0.alloc (.cells #[.int .i64 e.kd, .int .i64 e.t, .int .i64 0, .int .i64 0, .int .i64 0, .int .i64 0, .int .i64 0, .int .i64 0, .slice none 0 0] 39) = W1 at *
      have K6 : Hid (Blk W1 W0.heap.size 39 #[.int .i64 e.kd, .int .i64 e.t, .int .i64 0, .int .i64 0, .int .i64 0, .int .i64 0, .int .i64 0, .int .i64 0, .slice none 0 0]) := by rw [← hW1]; exact Blk.new _ _ _
      have hb01 : Below W0.heap.size W0 W1 := by rw [← hW1]; exact (Below.refl _ _).alloc (Nat.le_refl _) _
      have HNE : Hid (BE ≠ W0.heap.size) := Nat.ne_of_lt KE.out.lt
      have HNH : Hid (w.heap.size ≠ W0.heap.size) := Nat.ne_of_lt KH.out.lt
      have HGE : Hid (w.heap.size ≤ W0.heap.size) := B0.out.size
      have KE := Lib.hid (KE.out.below hb01 KE.out.lt)
      have KH := Lib.hid (KH.out.below hb01 KH.out.lt)
      have B1 := Lib.hid (B0.out.trans (hb01.mono B0.out.size))
      clear hb01 hW1 d0
      generalize W0.heap.size = B6 at *
      have a0 : W1.cell? ⟨B6, 0, none⟩ = some (.int .i64 e.kd) := K6.out.cell 0
      have a1 : W1.cell? ⟨B6, 1, none⟩ = some (.int .i64 e.t) := K6.out.cell 1
      have a2 : W1.cell? ⟨B6, 2, none⟩ = some (.int .i64 0) := K6.out.cell 2
      have a3 : W1.cell? ⟨B6, 3, none⟩ = some (.int .i64 0) := K6.out.cell 3
      have a4 : W1.cell? ⟨B6, 4, none⟩ = some (.int .i64 0) := K6.out.cell 4
      have a5 : W1.cell? ⟨B6, 5, none⟩ = some (.int .i64 0) := K6.out.cell 5
      have a6 : W1.cell? ⟨B6, 6, none⟩ = some (.int .i64 0) := K6.out.cell 6
      have a7 : W1.cell? ⟨B6, 7, none⟩ = some (.int .i64 0) := K6.out.cell 7
      have a8 : W1.cell? ⟨B6, 8, none⟩ = some (.slice none 0 0) := K6.out.cell 8
      have c0 : W1.cell? ⟨BE, 0, none⟩ = some (.int .i64 e.kd) := KE.out.cell 0
      have c1 : W1.cell? ⟨BE, 1, none⟩ = some (.int .i64 e.t) := KE.out.cell 1
      have c2 : W1.cell? ⟨BE, 2, none⟩ = some (.int .i64 e.s) := KE.out.cell 2
      have c3 : W1.cell? ⟨BE, 3, none⟩ = some (.int .i64 e.lev) := KE.out.cell 3
      have c4 : W1.cell? ⟨BE, 4, none⟩ = some (.int .i64 e.o) := KE.out.cell 4
      have c5 : W1.cell? ⟨BE, 5, none⟩ = some (.int .i64 e.vt) := KE.out.cell 5
      have c6 : W1.cell? ⟨BE, 6, none⟩ = some (.int .i64 e.vk) := KE.out.cell 6
      have c7 : W1.cell? ⟨BE, 7, none⟩ = some (.int .i64 e.p) := KE.out.cell 7
      have c8 : W1.cell? ⟨BE, 8, none⟩ = some (.slice hd.A hd.n hd.c) := KE.out.cell 8
      have BW := B1
      go_wp2_with fail
      refine (HS.out _ BW.out).mono ?_
      rintro _ w2 ⟨rfl, b2⟩
      have KE := Lib.hid (KE.out.below b2 KE.out.lt)
      have KH := Lib.hid (KH.out.below b2 KH.out.lt)
      have BW := Lib.hid (BW.out.trans (b2.mono BW.out.size))
      clear b2 HS K6 B1 a0 c0 a1 c1 a2 c2 a3 c3 a4 c4 a5 c5 a6 c6 a7 c7 a8 c8
      cases hq : decide ((⟨e.kd, e.t, 0, 0, 0, 0, 0, 0, []⟩ : EvP) = e)
      ·go_wp2_with fail
       go_ret
       exact ⟨by rw [HE.out, hq]; rfl, BW.out⟩
      ·have c0 : w2.cell? ⟨BE, 0, none⟩ = some (.int .i64 e.kd) := KE.out.cell 0
       have c1 : w2.cell? ⟨BE, 1, none⟩ = some (.int .i64 e.t) := KE.out.cell 1
       have c2 : w2.cell? ⟨BE, 2, none⟩ = some (.int .i64 e.s) := KE.out.cell 2
       have c3 : w2.cell? ⟨BE, 3, none⟩ = some (.int .i64 e.lev) := KE.out.cell 3
       have c4 : w2.cell? ⟨BE, 4, none⟩ = some (.int .i64 e.o) := KE.out.cell 4
       have c5 : w2.cell? ⟨BE, 5, none⟩ = some (.int .i64 e.vt) := KE.out.cell 5
       have c6 : w2.cell? ⟨BE, 6, none⟩ = some (.int .i64 e.vk) := KE.out.cell 6
       have c7 : w2.cell? ⟨BE, 7, none⟩ = some (.int .i64 e.p) := KE.out.cell 7
       have c8 : w2.cell? ⟨BE, 8, none⟩ = some (.slice hd.A hd.n hd.c) := KE.out.cell 8
       have HQ := Lib.hid hq
       clear hq
       by_cases h5 : e.kd = 5
       ·have hb5 : (e.kd == 5) = true := by rw [h5]; rfl
        have H5 : Hid (decide (e.kd = 5 ∨ e.kd = 6) = true) := decide_eq_true (Or.inl h5)
        clear h5
        go_wp2_with fail
        go_ret
        exact ⟨by rw [HE.out, HQ.out, H5.out]; rfl, BW.out⟩
       ·have hb5 : (e.kd == 5) = false := by simpa using h5
        by_cases h6 : e.kd = 6
        ·have hb6 : (e.kd == 6) = true := by rw [h6]; rfl
         have H5 : Hid (decide (e.kd = 5 ∨ e.kd = 6) = true) := decide_eq_true (Or.inr h6)
         clear h5 h6
         go_wp2_with fail
         go_ret
         exact ⟨by rw [HE.out, HQ.out, H5.out]; rfl, BW.out⟩
        ·have hb6 : (e.kd == 6) = false := by simpa using h6
         have H5 : Hid (decide (e.kd = 5 ∨ e.kd = 6) = false) := decide_eq_false (by omega)
         clear h5 h6
         go_wp2_with fail
         go_ret
         exact ⟨by rw [HE.out, HQ.out, H5.out]; rfl, BW.out⟩
end Go.Proofs.YtlnbmmaminflcaaGreatDoor
namespace Go.Proofs.YtlnbmmaminflcaaGreatDoor
open Go.RowKit Go.Shelf

def odB (nt no : Nat) (r : OrdP) : Bool := isN r.o no && r.ts.all fun t => isN t nt
def maB (nt no np : Nat) (r : MatP) : Bool := isN r.p np && (isN r.o no && r.ts.all fun t => isN t nt)
def waB (ns : Nat) (r : WantP) : Bool := isN r.s ns && isN r.b 16
theorem gu_is (b : Int) : isN b 16 = guB b := by
 unfold isN guB
 rw [decide_eq_decide]
 omega
theorem ts_inR (H : Hist) (ts : List Int) : (refsT ts).all H.inR = ts.all fun t => isN t H.tr.length := by
 unfold refsT
 rw [List.all_map]
 rfl
theorem od_inR (H : Hist) (r : OrdP) : (refsO r).all H.inR = odB H.tr.length H.ob.length r := by
 unfold refsO odB
 rw [List.all_cons, ts_inR, isN_inR2]
theorem ma_inR (H : Hist) (r : MatP) : (refsM r).all H.inR = maB H.tr.length H.ob.length H.pr.length r := by
 unfold refsM maB
 rw [List.all_cons, List.all_cons, ts_inR, isN_inR2, isN_inR3]
theorem wa_inR (H : Hist) (r : WantP) : (guB r.b && (refsW r).all H.inR) = waB H.se.length r := by
 unfold refsW waB
 rw [List.all_cons, List.all_nil, Bool.and_true, isN_inR1, gu_is, Bool.and_comm]
theorem shaped_is (H : Hist) : shapedB H = (nmsB H && (H.ev.all (revB H.tr.length H.se.length H.ob.length H.pr.length) && (H.od.all (odB H.tr.length H.ob.length) && (H.ma.all (maB H.tr.length H.ob.length H.pr.length) && H.wa.all (waB H.se.length))))) := by
 have e1 : H.ev.all (revB H.tr.length H.se.length H.ob.length H.pr.length) = (H.ev.all fineE && (H.ev.flatMap refsE).all H.inR) := by
  rw [List.all_flatMap, ← all_and]
  congr 1
  funext e
  exact revB_is
 have e2 : H.od.all (odB H.tr.length H.ob.length) = (H.od.flatMap refsO).all H.inR := by
  rw [List.all_flatMap]
  congr 1
  funext r
  exact (od_inR H r).symm
 have e3 : H.ma.all (maB H.tr.length H.ob.length H.pr.length) = (H.ma.flatMap refsM).all H.inR := by
  rw [List.all_flatMap]
  congr 1
  funext r
  exact (ma_inR H r).symm
 have e4 : H.wa.all (waB H.se.length) = ((H.wa.all fun r => guB r.b) && (H.wa.flatMap refsW).all H.inR) := by
  rw [List.all_flatMap, ← all_and]
  congr 1
  funext r
  exact (wa_inR H r).symm
 rw [e1, e2, e3, e4]
 unfold shapedB fineH refs
 rw [List.all_append, List.all_append, List.all_append]
 generalize nmsB H = a
 generalize H.ev.all fineE = b
 generalize (H.ev.flatMap refsE).all H.inR = c
 generalize (H.od.flatMap refsO).all H.inR = d
 generalize (H.ma.flatMap refsM).all H.inR = e
 generalize (H.wa.all fun r => guB r.b) = f
 generalize (H.wa.flatMap refsW).all H.inR = g
 revert a b c d e f g
 decide
theorem all_no {α : Type} {l : List α} {p : α → Bool} {i : Nat} {x : α} (hx : l[i]? = some x) (h : p x = false) : l.all p = false := by
 rw [Bool.eq_false_iff]
 intro hh
 have := List.all_eq_true.1 hh x (List.mem_of_getElem? hx)
 rw [h] at this
 cases this
theorem take_next {α : Type} {l : List α} {p : α → Bool} {i : Nat} {x : α} (hk : ∀ y ∈ l.take i, p y = true) (hx : l[i]? = some x) (h : p x = true) : ∀ y ∈ l.take (i + 1), p y = true := by
 intro y hy
 rw [List.take_add_one, hx] at hy
 rcases List.mem_append.1 hy with hy | hy
 ·exact hk y hy
 ·simp at hy
  subst hy
  exact h
theorem take_all {α : Type} {l : List α} {p : α → Bool} {i : Nat} (hk : ∀ y ∈ l.take i, p y = true) (hi : l.length = i) : l.all p = true :=
 List.all_eq_true.2 fun y hy => hk y (by rw [List.take_of_length_le (Nat.le_of_eq hi)]; exact hy)
set_option maxRecDepth 100000 in
set_option maxHeartbeats 8000000 in
theorem rshaped_any (m : HistM) (hS : Small m.pl) (hcap : (m.tr.1.n ≤ m.tr.1.c) ∧ (m.se.1.n ≤ m.se.1.c) ∧ (m.ob.1.n ≤ m.ob.1.c) ∧ m.pr.1.n ≤ m.pr.1.c) (w : World) (hm : HRd w w.heap.size m) : Calls Tryz.prog 16 #[.agg #[.slice m.tr.1.A m.tr.1.n m.tr.1.c, .slice m.se.1.A m.se.1.n m.se.1.c, .slice m.ob.1.A m.ob.1.n m.ob.1.c, .slice m.pr.1.A m.pr.1.n m.pr.1.c, .slice m.ev.1.A m.ev.1.n m.ev.1.c, .slice m.od.1.A m.od.1.n m.od.1.c, .slice m.ma.1.A m.ma.1.n m.ma.1.c, .slice m.wa.1.A m.wa.1.n m.wa.1.c]] w fun x w' => x = .returned (.bool (shapedB m.pl)) ∧ Below w.heap.size w w' := by
 obtain ⟨kh, b0, hs0⟩ := ibox w #[.slice m.tr.1.A m.tr.1.n m.tr.1.c, .slice m.se.1.A m.se.1.n m.se.1.c, .slice m.ob.1.A m.ob.1.n m.ob.1.c, .slice m.pr.1.A m.pr.1.n m.pr.1.c, .slice m.ev.1.A m.ev.1.n m.ev.1.c, .slice m.od.1.A m.od.1.n m.od.1.c, .slice m.ma.1.A m.ma.1.n m.ma.1.c, .slice m.wa.1.A m.wa.1.n m.wa.1.c] 28
 obtain ⟨W0, hW0⟩ : ∃ W0, W0 = w.alloc (.cells #[.slice m.tr.1.A m.tr.1.n m.tr.1.c, .slice m.se.1.A m.se.1.n m.se.1.c, .slice m.ob.1.A m.ob.1.n m.ob.1.c, .slice m.pr.1.A m.pr.1.n m.pr.1.c, .slice m.ev.1.A m.ev.1.n m.ev.1.c, .slice m.od.1.A m.od.1.n m.od.1.c, .slice m.ma.1.A m.ma.1.n m.ma.1.c, .slice m.wa.1.A m.wa.1.n m.wa.1.c] 28) := ⟨_, rfl⟩
 rw [← hW0] at kh b0
 have KH : Hid (Blk W0 w.heap.size 28 m.cs) := kh
 have BW := Lib.hid b0
 have HCP := Lib.hid hcap
 clear hcap
 have HM := Lib.hid hm
 have HFIT := Lib.hid hm.fit
 have HSM := Lib.hid hS
 have HL0 : Hid (m.pl.tr.length = m.tr.1.n) := strs_len hm.tr
 have HL1 : Hid (m.pl.se.length = m.se.1.n) := strs_len hm.se
 have HL2 : Hid (m.pl.ob.length = m.ob.1.n) := strs_len hm.ob
 have HL3 : Hid (m.pl.pr.length = m.pr.1.n) := strs_len hm.pr
 have HE : Hid (shapedB m.pl = ((((namesB m.tr.2 && namesB m.se.2) && (namesB m.ob.2 && namesB m.pr.2))) && (m.pl.ev.all (revB m.tr.1.n m.se.1.n m.ob.1.n m.pr.1.n) && (m.pl.od.all (odB m.tr.1.n m.ob.1.n) && (m.pl.ma.all (maB m.tr.1.n m.ob.1.n m.pr.1.n) && m.pl.wa.all (waB m.se.1.n)))))) := by show _ = _; rw [shaped_is, HL0.out, HL1.out, HL2.out, HL3.out]; rfl
 have hq0 : m.tr.1.n ≤ 60 := by have := hS.tr; have := HL0.out; omega
 have hq1 : m.se.1.n ≤ 60 := by have := hS.se; have := HL1.out; omega
 have hq2 : m.ob.1.n ≤ 60 := by have := hS.ob; have := HL2.out; omega
 have hq3 : m.pr.1.n ≤ 60 := by have := hS.pr; have := HL3.out; omega
 have HQ := Lib.hid (And.intro hq0 (And.intro hq1 (And.intro hq2 hq3)))
 have HLE : Hid (m.ev.2.length = m.ev.1.n ∧ m.od.2.length = m.od.1.n ∧ m.ma.2.length = m.ma.1.n ∧ m.wa.2.length = m.wa.1.n) := ⟨HFIT.out.ev.1, HFIT.out.od.1, HFIT.out.ma.1, HFIT.out.wa.1⟩
 have HN : Hid (m.ev.1.n ≤ 200 ∧ m.od.1.n ≤ 60 ∧ m.ma.1.n ≤ 60 ∧ m.wa.1.n ≤ 60) := by have h1 := hS.ev; have h2 := hS.od; have h3 := hS.ma; have h4 := hS.wa; have h5 := HLE.out; have e1 : m.pl.ev.length = m.ev.2.length := List.length_map ..; have e2 : m.pl.od.length = m.od.2.length := List.length_map ..; have e3 : m.pl.ma.length = m.ma.2.length := List.length_map ..; have e4 : m.pl.wa.length = m.wa.2.length := rfl; show _ ∧ _; omega
 clear kh b0 hs0 hq0 hq1 hq2 hq3
 go_enter Tryz.func16, Tryz.ntmps16
 go_upto_region 1 with fail
 rw [← hW0]
 clear hW0
 have z0 : W0.cell? ⟨w.heap.size, 0, none⟩ = some (.slice m.tr.1.A m.tr.1.n m.tr.1.c) := KH.out.cell 0
 go_wp2_with fail
 refine (rnames_right m.tr.1.A m.tr.1.n m.tr.1.c m.tr.2 300 (by have := HQ.out; omega) HCP.out.1 W0 ((HM.out.tr.below BW.out).more BW.out.size)).mono ?_
 rintro _ W1 ⟨rfl, bb⟩
 have KH := Lib.hid (KH.out.below bb KH.out.lt)
 have BW := Lib.hid (BW.out.trans (bb.mono BW.out.size))
 clear bb z0
 have HD0 : Hid (decide (m.tr.1.n ≤ 300) = true) := decide_eq_true (by have := HQ.out; omega)
 rw [HD0.out, Bool.and_true]
 cases hn0 : namesB m.tr.2
 ·go_wp2_with fail
  go_ret
  exact ⟨by rw [HE.out, hn0]; simp, BW.out⟩
 ·have HN0 := Lib.hid hn0
  clear hn0
  have z1 : W1.cell? ⟨w.heap.size, 1, none⟩ = some (.slice m.se.1.A m.se.1.n m.se.1.c) := KH.out.cell 1
  go_wp2_with fail
  refine (rnames_right m.se.1.A m.se.1.n m.se.1.c m.se.2 60 (by have := HQ.out; omega) HCP.out.2.1 W1 ((HM.out.se.below BW.out).more BW.out.size)).mono ?_
  rintro _ W2 ⟨rfl, bb⟩
  have KH := Lib.hid (KH.out.below bb KH.out.lt)
  have BW := Lib.hid (BW.out.trans (bb.mono BW.out.size))
  clear bb z1
  have HD1 : Hid (decide (m.se.1.n ≤ 60) = true) := decide_eq_true (by have := HQ.out; omega)
  rw [HD1.out, Bool.and_true]
  cases hn1 : namesB m.se.2
  ·go_wp2_with fail
   go_ret
   exact ⟨by rw [HE.out, HN0.out, hn1]; simp, BW.out⟩
  ·have HN1 := Lib.hid hn1
   clear hn1
   have z2 : W2.cell? ⟨w.heap.size, 2, none⟩ = some (.slice m.ob.1.A m.ob.1.n m.ob.1.c) := KH.out.cell 2
   go_wp2_with fail
   refine (rnames_right m.ob.1.A m.ob.1.n m.ob.1.c m.ob.2 300 (by have := HQ.out; omega) HCP.out.2.2.1 W2 ((HM.out.ob.below BW.out).more BW.out.size)).mono ?_
   rintro _ W3 ⟨rfl, bb⟩
   have KH := Lib.hid (KH.out.below bb KH.out.lt)
   have BW := Lib.hid (BW.out.trans (bb.mono BW.out.size))
   clear bb z2
   have HD2 : Hid (decide (m.ob.1.n ≤ 300) = true) := decide_eq_true (by have := HQ.out; omega)
   rw [HD2.out, Bool.and_true]
   cases hn2 : namesB m.ob.2
   ·go_wp2_with fail
    go_ret
    exact ⟨by rw [HE.out, HN0.out, HN1.out, hn2]; simp, BW.out⟩
   ·have HN2 := Lib.hid hn2
    clear hn2
    have z3 : W3.cell? ⟨w.heap.size, 3, none⟩ = some (.slice m.pr.1.A m.pr.1.n m.pr.1.c) := KH.out.cell 3
    go_wp2_with fail
    refine (rnames_right m.pr.1.A m.pr.1.n m.pr.1.c m.pr.2 60 (by have := HQ.out; omega) HCP.out.2.2.2 W3 ((HM.out.pr.below BW.out).more BW.out.size)).mono ?_
    rintro _ W4 ⟨rfl, bb⟩
    have KH := Lib.hid (KH.out.below bb KH.out.lt)
    have BW := Lib.hid (BW.out.trans (bb.mono BW.out.size))
    clear bb z3
    have HD3 : Hid (decide (m.pr.1.n ≤ 60) = true) := decide_eq_true (by have := HQ.out; omega)
    rw [HD3.out, Bool.and_true]
    cases hn3 : namesB m.pr.2
    ·go_wp2_with fail
     go_ret
     exact ⟨by rw [HE.out, HN0.out, HN1.out, HN2.out, hn3]; simp, BW.out⟩
    ·have HN3 := Lib.hid hn3
     clear hn3
     have HE2 : Hid (shapedB m.pl = (m.pl.ev.all (revB m.tr.1.n m.se.1.n m.ob.1.n m.pr.1.n) && (m.pl.od.all (odB m.tr.1.n m.ob.1.n) && (m.pl.ma.all (maB m.tr.1.n m.ob.1.n m.pr.1.n) && m.pl.wa.all (waB m.se.1.n))))) := by show _ = _; rw [HE.out, HN0.out, HN1.out, HN2.out, HN3.out]; rfl
     clear HE HN0 HN1 HN2 HN3 HD0 HD1 HD2 HD3
     have z4 : W4.cell? ⟨w.heap.size, 4, none⟩ = some (.slice m.ev.1.A m.ev.1.n m.ev.1.c) := KH.out.cell 4
     have hnev : m.ev.1.n ≤ 200 := HN.out.1
     go_wp2_with fail
     clear z4
     go_loopw [36] (fun v wr => ∃ i : Nat, i ≤ m.ev.1.n ∧ v = .int .i64 i ∧ Hid (∀ x ∈ m.pl.ev.take i, revB m.tr.1.n m.se.1.n m.ob.1.n m.pr.1.n x = true) ∧ Hid (Blk wr w.heap.size 28 m.cs) ∧ Hid (Below w.heap.size w wr)) (fun v _ => m.ev.1.n - (intOf v).toNat)
     case atStart => exact ⟨0, Nat.zero_le _, rfl, fun s hs => by simp at hs, KH, BW⟩
     case round =>
      clear KH BW
      obtain ⟨i, hi0, rfl, HK, KH, BW⟩ := hrel
      by_cases hin : i < m.ev.1.n
      ·have hlt : (i : Int) < (m.ev.1.n : Int) := by omega
       obtain ⟨⟨e, hd⟩, hs⟩ : ∃ p, m.ev.2[i]? = some p := ⟨m.ev.2[i]'(by rw [HLE.out.1]; exact hin), List.getElem?_eq_getElem _⟩
       have HSI : Hid (m.pl.ev[i]? = some e) := by show m.pl.ev[i]? = _; unfold HistM.pl; simp [hs]
       obtain ⟨b, o, hA, hbl, hc⟩ := row_cells evCs_len (by omega) (HM.out.ev.below BW.out) hs
       have c0 : wr.cell? ⟨b, o + i * 9, none⟩ = some (.int .i64 e.kd) := hc 0 _ rfl
       have c1 : wr.cell? ⟨b, o + i * 9 + 1, none⟩ = some (.int .i64 e.t) := hc 1 _ rfl
       have c2 : wr.cell? ⟨b, o + i * 9 + 2, none⟩ = some (.int .i64 e.s) := hc 2 _ rfl
       have c3 : wr.cell? ⟨b, o + i * 9 + 3, none⟩ = some (.int .i64 e.lev) := hc 3 _ rfl
       have c4 : wr.cell? ⟨b, o + i * 9 + 4, none⟩ = some (.int .i64 e.o) := hc 4 _ rfl
       have c5 : wr.cell? ⟨b, o + i * 9 + 5, none⟩ = some (.int .i64 e.vt) := hc 5 _ rfl
       have c6 : wr.cell? ⟨b, o + i * 9 + 6, none⟩ = some (.int .i64 e.vk) := hc 6 _ rfl
       have c7 : wr.cell? ⟨b, o + i * 9 + 7, none⟩ = some (.int .i64 e.p) := hc 7 _ rfl
       have c8 : wr.cell? ⟨b, o + i * 9 + 8, none⟩ = some (.slice hd.A hd.n hd.c) := hc 8 _ rfl
       have HSC := Lib.hid (HM.out.sc _ (List.mem_of_getElem? hs))
       have hsn : hd.n ≤ 1000000 := by have h9 := HFIT.out.sc _ (List.mem_of_getElem? hs); have := hS.sc e (List.mem_of_getElem? HSI.out); have : e.scan.length = hd.n := h9.1; omega
       rw [hA]
       have HA0 := Lib.hid hA
       have hal : Below wr.heap.size wr (wr.alloc (.cells #[.int .i64 e.kd, .int .i64 e.t, .int .i64 e.s, .int .i64 e.lev, .int .i64 e.o, .int .i64 e.vt, .int .i64 e.vk, .int .i64 e.p, .slice hd.A hd.n hd.c] 39)) := (Below.refl _ _).alloc (Nat.le_refl _) _
       have KH2 := Lib.hid (KH.out.below hal KH.out.lt)
       have B2 := Lib.hid (BW.out.trans (hal.mono BW.out.size))
       clear hs hc hbl hA hal
       have z0 : (wr.alloc (.cells #[.int .i64 e.kd, .int .i64 e.t, .int .i64 e.s, .int .i64 e.lev, .int .i64 e.o, .int .i64 e.vt, .int .i64 e.vk, .int .i64 e.p, .slice hd.A hd.n hd.c] 39)).cell? ⟨w.heap.size, 0, none⟩ = some (.slice m.tr.1.A m.tr.1.n m.tr.1.c) := KH2.out.cell 0
       have z1 : (wr.alloc (.cells #[.int .i64 e.kd, .int .i64 e.t, .int .i64 e.s, .int .i64 e.lev, .int .i64 e.o, .int .i64 e.vt, .int .i64 e.vk, .int .i64 e.p, .slice hd.A hd.n hd.c] 39)).cell? ⟨w.heap.size, 1, none⟩ = some (.slice m.se.1.A m.se.1.n m.se.1.c) := KH2.out.cell 1
       have z2 : (wr.alloc (.cells #[.int .i64 e.kd, .int .i64 e.t, .int .i64 e.s, .int .i64 e.lev, .int .i64 e.o, .int .i64 e.vt, .int .i64 e.vk, .int .i64 e.p, .slice hd.A hd.n hd.c] 39)).cell? ⟨w.heap.size, 2, none⟩ = some (.slice m.ob.1.A m.ob.1.n m.ob.1.c) := KH2.out.cell 2
       have z3 : (wr.alloc (.cells #[.int .i64 e.kd, .int .i64 e.t, .int .i64 e.s, .int .i64 e.lev, .int .i64 e.o, .int .i64 e.vt, .int .i64 e.vk, .int .i64 e.p, .slice hd.A hd.n hd.c] 39)).cell? ⟨w.heap.size, 3, none⟩ = some (.slice m.pr.1.A m.pr.1.n m.pr.1.c) := KH2.out.cell 3
       have z4 : (wr.alloc (.cells #[.int .i64 e.kd, .int .i64 e.t, .int .i64 e.s, .int .i64 e.lev, .int .i64 e.o, .int .i64 e.vt, .int .i64 e.vk, .int .i64 e.p, .slice hd.A hd.n hd.c] 39)).cell? ⟨w.heap.size, 4, none⟩ = some (.slice (some ⟨b, o, none⟩) m.ev.1.n m.ev.1.c) := by rw [← HA0.out]; exact KH2.out.cell 4
       have z5 : (wr.alloc (.cells #[.int .i64 e.kd, .int .i64 e.t, .int .i64 e.s, .int .i64 e.lev, .int .i64 e.o, .int .i64 e.vt, .int .i64 e.vk, .int .i64 e.p, .slice hd.A hd.n hd.c] 39)).cell? ⟨w.heap.size, 5, none⟩ = some (.slice m.od.1.A m.od.1.n m.od.1.c) := KH2.out.cell 5
       have z6 : (wr.alloc (.cells #[.int .i64 e.kd, .int .i64 e.t, .int .i64 e.s, .int .i64 e.lev, .int .i64 e.o, .int .i64 e.vt, .int .i64 e.vk, .int .i64 e.p, .slice hd.A hd.n hd.c] 39)).cell? ⟨w.heap.size, 6, none⟩ = some (.slice m.ma.1.A m.ma.1.n m.ma.1.c) := KH2.out.cell 6
       have z7 : (wr.alloc (.cells #[.int .i64 e.kd, .int .i64 e.t, .int .i64 e.s, .int .i64 e.lev, .int .i64 e.o, .int .i64 e.vt, .int .i64 e.vk, .int .i64 e.p, .slice hd.A hd.n hd.c] 39)).cell? ⟨w.heap.size, 7, none⟩ = some (.slice m.wa.1.A m.wa.1.n m.wa.1.c) := KH2.out.cell 7
       go_wp2_with fail
       have HC := rrev_any m e hd hsn _ ((HSC.out.below B2.out).more B2.out.size)
       rw [HA0.out] at HC
       refine HC.mono ?_
       clear HC
       rintro _ w2 ⟨rfl, bb⟩
       have KH3 := Lib.hid (KH2.out.below bb KH2.out.lt)
       have B3 := Lib.hid (B2.out.trans (bb.mono B2.out.size))
       clear bb z0 z1 z2 z3 z4 z5 z6 z7
       cases hq : revB m.tr.1.n m.se.1.n m.ob.1.n m.pr.1.n e
       ·have HF := Lib.hid (all_no (p := (revB m.tr.1.n m.se.1.n m.ob.1.n m.pr.1.n)) HSI.out hq)
        go_wp2_with fail
        go_ret
        exact ⟨by rw [HE2.out, HF.out]; rfl, B3.out⟩
       ·have HK2 := Lib.hid (take_next HK.out HSI.out hq)
        clear hq
        go_wp2_with fail
        go_roundw
        case rel => exact ⟨i + 1, hin, by go_num, HK2, KH3, B3⟩
        case measure => simp [intOf]; omega
      ·have hie : i = m.ev.1.n := by omega
       have HA4 : Hid (m.pl.ev.all (revB m.tr.1.n m.se.1.n m.ob.1.n m.pr.1.n) = true) := take_all HK.out (by rw [hie, ← HLE.out.1]; exact List.length_map ..)
       rw [hie]
       clear hie hin hi0 HK
       rename World => wev
       have z5 : wev.cell? ⟨w.heap.size, 5, none⟩ = some (.slice m.od.1.A m.od.1.n m.od.1.c) := KH.out.cell 5
       have hnod : m.od.1.n ≤ 60 := HN.out.2.1
       go_wp2_with fail
       clear z5
       go_loopw [48] (fun v wr => ∃ i : Nat, i ≤ m.od.1.n ∧ v = .int .i64 i ∧ Hid (∀ x ∈ m.pl.od.take i, odB m.tr.1.n m.ob.1.n x = true) ∧ Hid (Blk wr w.heap.size 28 m.cs) ∧ Hid (Below w.heap.size w wr)) (fun v _ => m.od.1.n - (intOf v).toNat)
       case atStart => exact ⟨0, Nat.zero_le _, rfl, fun s hs => by simp at hs, KH, BW⟩
       case round =>
        clear KH BW
        obtain ⟨i, hi0, rfl, HK, KH, BW⟩ := hrel
        by_cases hin : i < m.od.1.n
        ·have hlt : (i : Int) < (m.od.1.n : Int) := by omega
         obtain ⟨⟨e, hd⟩, hs⟩ : ∃ p, m.od.2[i]? = some p := ⟨m.od.2[i]'(by rw [HLE.out.2.1]; exact hin), List.getElem?_eq_getElem _⟩
         have HSI : Hid (m.pl.od[i]? = some e) := by show m.pl.od[i]? = _; unfold HistM.pl; simp [hs]
         obtain ⟨b, o, hA, hbl, hc⟩ := row_cells odCs_len (by omega) (HM.out.od.below BW.out) hs
         have c0 : wr.cell? ⟨b, o + i * 2, none⟩ = some (.int .i64 e.o) := hc 0 _ rfl
         have c1 : wr.cell? ⟨b, o + i * 2 + 1, none⟩ = some (.slice hd.A hd.n hd.c) := hc 1 _ rfl
         have HSC := Lib.hid (HM.out.ot _ (List.mem_of_getElem? hs))
         have hsn : hd.n ≤ 60 := by have h9 := HFIT.out.ot _ (List.mem_of_getElem? hs); have := hS.ot e (List.mem_of_getElem? HSI.out); have : e.ts.length = hd.n := h9.1; omega
         rw [hA]
         have HA0 := Lib.hid hA
         have hal : Below wr.heap.size wr (wr.alloc (.cells #[.int .i64 e.o, .slice hd.A hd.n hd.c] 61)) := (Below.refl _ _).alloc (Nat.le_refl _) _
         have KH2 := Lib.hid (KH.out.below hal KH.out.lt)
         have B2 := Lib.hid (BW.out.trans (hal.mono BW.out.size))
         clear hs hc hbl hA hal
         have z2 : (wr.alloc (.cells #[.int .i64 e.o, .slice hd.A hd.n hd.c] 61)).cell? ⟨w.heap.size, 2, none⟩ = some (.slice m.ob.1.A m.ob.1.n m.ob.1.c) := KH2.out.cell 2
         go_wp2_with fail
         refine (is_any e.o m.ob.1.n _).mono ?_
         rintro _ w2 ⟨rfl, hw⟩
         obtain rfl := hw.symm
         clear z2
         cases hq : isN e.o m.ob.1.n
         ·have HF := Lib.hid (all_no (p := (odB m.tr.1.n m.ob.1.n)) HSI.out (by unfold odB; rw [hq]; rfl))
          go_wp2_with fail
          go_ret
          exact ⟨by rw [HE2.out, HA4.out, Bool.true_and, HF.out]; rfl, B2.out⟩
         ·have HQ1 := Lib.hid hq
          clear hq
          have z0 : (wr.alloc (.cells #[.int .i64 e.o, .slice hd.A hd.n hd.c] 61)).cell? ⟨w.heap.size, 0, none⟩ = some (.slice m.tr.1.A m.tr.1.n m.tr.1.c) := KH2.out.cell 0
          have z1 : (wr.alloc (.cells #[.int .i64 e.o, .slice hd.A hd.n hd.c] 61)).cell? ⟨w.heap.size, 1, none⟩ = some (.slice m.se.1.A m.se.1.n m.se.1.c) := KH2.out.cell 1
          have z2 : (wr.alloc (.cells #[.int .i64 e.o, .slice hd.A hd.n hd.c] 61)).cell? ⟨w.heap.size, 2, none⟩ = some (.slice m.ob.1.A m.ob.1.n m.ob.1.c) := KH2.out.cell 2
          have z3 : (wr.alloc (.cells #[.int .i64 e.o, .slice hd.A hd.n hd.c] 61)).cell? ⟨w.heap.size, 3, none⟩ = some (.slice m.pr.1.A m.pr.1.n m.pr.1.c) := KH2.out.cell 3
          have z4 : (wr.alloc (.cells #[.int .i64 e.o, .slice hd.A hd.n hd.c] 61)).cell? ⟨w.heap.size, 4, none⟩ = some (.slice m.ev.1.A m.ev.1.n m.ev.1.c) := KH2.out.cell 4
          have z5 : (wr.alloc (.cells #[.int .i64 e.o, .slice hd.A hd.n hd.c] 61)).cell? ⟨w.heap.size, 5, none⟩ = some (.slice (some ⟨b, o, none⟩) m.od.1.n m.od.1.c) := by rw [← HA0.out]; exact KH2.out.cell 5
          have z6 : (wr.alloc (.cells #[.int .i64 e.o, .slice hd.A hd.n hd.c] 61)).cell? ⟨w.heap.size, 6, none⟩ = some (.slice m.ma.1.A m.ma.1.n m.ma.1.c) := KH2.out.cell 6
          have z7 : (wr.alloc (.cells #[.int .i64 e.o, .slice hd.A hd.n hd.c] 61)).cell? ⟨w.heap.size, 7, none⟩ = some (.slice m.wa.1.A m.wa.1.n m.wa.1.c) := KH2.out.cell 7
          go_wp2_with fail
          have HC := rts_any m hd.A hd.n hd.c e.ts (by omega) _ ((HSC.out.below B2.out).more B2.out.size)
          rw [HA0.out] at HC
          refine HC.mono ?_
          clear HC
          rintro _ w2 ⟨rfl, bb⟩
          have KH3 := Lib.hid (KH2.out.below bb KH2.out.lt)
          have B3 := Lib.hid (B2.out.trans (bb.mono B2.out.size))
          clear bb z0 z1 z2 z3 z4 z5 z6 z7
          rw [show decide (hd.n ≤ 300) = true from decide_eq_true (by omega), Bool.and_true]
          cases hq : (e.ts.all fun t => isN t m.tr.1.n)
          ·have HF := Lib.hid (all_no (p := (odB m.tr.1.n m.ob.1.n)) HSI.out (by unfold odB; rw [HQ1.out, hq]; rfl))
           go_wp2_with fail
           go_ret
           exact ⟨by rw [HE2.out, HA4.out, Bool.true_and, HF.out]; rfl, B3.out⟩
          ·have HK2 := Lib.hid (take_next HK.out HSI.out (by unfold odB; rw [HQ1.out, hq]; rfl))
           clear hq
           go_wp2_with fail
           go_roundw
           case rel => exact ⟨i + 1, hin, by go_num, HK2, KH3, B3⟩
           case measure => simp [intOf]; omega
        ·have hie : i = m.od.1.n := by omega
         have HA5 : Hid (m.pl.od.all (odB m.tr.1.n m.ob.1.n) = true) := take_all HK.out (by rw [hie, ← HLE.out.2.1]; exact List.length_map ..)
         rw [hie]
         clear hie hin hi0 HK
         rename World => wod
         have z6 : wod.cell? ⟨w.heap.size, 6, none⟩ = some (.slice m.ma.1.A m.ma.1.n m.ma.1.c) := KH.out.cell 6
         have hnma : m.ma.1.n ≤ 60 := HN.out.2.2.1
         go_wp2_with fail
         clear z6
         go_loopw [70] (fun v wr => ∃ i : Nat, i ≤ m.ma.1.n ∧ v = .int .i64 i ∧ Hid (∀ x ∈ m.pl.ma.take i, maB m.tr.1.n m.ob.1.n m.pr.1.n x = true) ∧ Hid (Blk wr w.heap.size 28 m.cs) ∧ Hid (Below w.heap.size w wr)) (fun v _ => m.ma.1.n - (intOf v).toNat)
         case atStart => exact ⟨0, Nat.zero_le _, rfl, fun s hs => by simp at hs, KH, BW⟩
         case round =>
          clear KH BW
          obtain ⟨i, hi0, rfl, HK, KH, BW⟩ := hrel
          by_cases hin : i < m.ma.1.n
          ·have hlt : (i : Int) < (m.ma.1.n : Int) := by omega
           obtain ⟨⟨e, hd⟩, hs⟩ : ∃ p, m.ma.2[i]? = some p := ⟨m.ma.2[i]'(by rw [HLE.out.2.2.1]; exact hin), List.getElem?_eq_getElem _⟩
           have HSI : Hid (m.pl.ma[i]? = some e) := by show m.pl.ma[i]? = _; unfold HistM.pl; simp [hs]
           obtain ⟨b, o, hA, hbl, hc⟩ := row_cells maCs_len (by omega) (HM.out.ma.below BW.out) hs
           have c0 : wr.cell? ⟨b, o + i * 4, none⟩ = some (.int .i64 e.p) := hc 0 _ rfl
           have c1 : wr.cell? ⟨b, o + i * 4 + 1, none⟩ = some (.int .i64 e.o) := hc 1 _ rfl
           have c2 : wr.cell? ⟨b, o + i * 4 + 2, none⟩ = some (.bool e.fi) := hc 2 _ rfl
           have c3 : wr.cell? ⟨b, o + i * 4 + 3, none⟩ = some (.slice hd.A hd.n hd.c) := hc 3 _ rfl
           have HSC := Lib.hid (HM.out.mt _ (List.mem_of_getElem? hs))
           have hsn : hd.n ≤ 60 := by have h9 := HFIT.out.mt _ (List.mem_of_getElem? hs); have := hS.mt e (List.mem_of_getElem? HSI.out); have : e.ts.length = hd.n := h9.1; omega
           rw [hA]
           have HA0 := Lib.hid hA
           have hal : Below wr.heap.size wr (wr.alloc (.cells #[.int .i64 e.p, .int .i64 e.o, .bool e.fi, .slice hd.A hd.n hd.c] 64)) := (Below.refl _ _).alloc (Nat.le_refl _) _
           have KH2 := Lib.hid (KH.out.below hal KH.out.lt)
           have B2 := Lib.hid (BW.out.trans (hal.mono BW.out.size))
           clear hs hc hbl hA hal
           have z3 : (wr.alloc (.cells #[.int .i64 e.p, .int .i64 e.o, .bool e.fi, .slice hd.A hd.n hd.c] 64)).cell? ⟨w.heap.size, 3, none⟩ = some (.slice m.pr.1.A m.pr.1.n m.pr.1.c) := KH2.out.cell 3
           go_wp2_with fail
           refine (is_any e.p m.pr.1.n _).mono ?_
           rintro _ w2 ⟨rfl, hw⟩
           obtain rfl := hw.symm
           clear z3
           cases hq : isN e.p m.pr.1.n
           ·have HF := Lib.hid (all_no (p := (maB m.tr.1.n m.ob.1.n m.pr.1.n)) HSI.out (by unfold maB; rw [hq]; rfl))
            go_wp2_with fail
            go_ret
            exact ⟨by rw [HE2.out, HA4.out, HA5.out, Bool.true_and, Bool.true_and, HF.out]; rfl, B2.out⟩
           ·have HQ1 := Lib.hid hq
            clear hq
            have z2 : (wr.alloc (.cells #[.int .i64 e.p, .int .i64 e.o, .bool e.fi, .slice hd.A hd.n hd.c] 64)).cell? ⟨w.heap.size, 2, none⟩ = some (.slice m.ob.1.A m.ob.1.n m.ob.1.c) := KH2.out.cell 2
            go_wp2_with fail
            refine (is_any e.o m.ob.1.n _).mono ?_
            rintro _ w2 ⟨rfl, hw⟩
            obtain rfl := hw.symm
            clear z2
            cases hq : isN e.o m.ob.1.n
            ·have HF := Lib.hid (all_no (p := (maB m.tr.1.n m.ob.1.n m.pr.1.n)) HSI.out (by unfold maB; rw [HQ1.out, hq]; rfl))
             go_wp2_with fail
             go_ret
             exact ⟨by rw [HE2.out, HA4.out, HA5.out, Bool.true_and, Bool.true_and, HF.out]; rfl, B2.out⟩
            ·have HQ2 := Lib.hid hq
             clear hq
             have z0 : (wr.alloc (.cells #[.int .i64 e.p, .int .i64 e.o, .bool e.fi, .slice hd.A hd.n hd.c] 64)).cell? ⟨w.heap.size, 0, none⟩ = some (.slice m.tr.1.A m.tr.1.n m.tr.1.c) := KH2.out.cell 0
             have z1 : (wr.alloc (.cells #[.int .i64 e.p, .int .i64 e.o, .bool e.fi, .slice hd.A hd.n hd.c] 64)).cell? ⟨w.heap.size, 1, none⟩ = some (.slice m.se.1.A m.se.1.n m.se.1.c) := KH2.out.cell 1
             have z2 : (wr.alloc (.cells #[.int .i64 e.p, .int .i64 e.o, .bool e.fi, .slice hd.A hd.n hd.c] 64)).cell? ⟨w.heap.size, 2, none⟩ = some (.slice m.ob.1.A m.ob.1.n m.ob.1.c) := KH2.out.cell 2
             have z3 : (wr.alloc (.cells #[.int .i64 e.p, .int .i64 e.o, .bool e.fi, .slice hd.A hd.n hd.c] 64)).cell? ⟨w.heap.size, 3, none⟩ = some (.slice m.pr.1.A m.pr.1.n m.pr.1.c) := KH2.out.cell 3
             have z4 : (wr.alloc (.cells #[.int .i64 e.p, .int .i64 e.o, .bool e.fi, .slice hd.A hd.n hd.c] 64)).cell? ⟨w.heap.size, 4, none⟩ = some (.slice m.ev.1.A m.ev.1.n m.ev.1.c) := KH2.out.cell 4
             have z5 : (wr.alloc (.cells #[.int .i64 e.p, .int .i64 e.o, .bool e.fi, .slice hd.A hd.n hd.c] 64)).cell? ⟨w.heap.size, 5, none⟩ = some (.slice m.od.1.A m.od.1.n m.od.1.c) := KH2.out.cell 5
             have z6 : (wr.alloc (.cells #[.int .i64 e.p, .int .i64 e.o, .bool e.fi, .slice hd.A hd.n hd.c] 64)).cell? ⟨w.heap.size, 6, none⟩ = some (.slice (some ⟨b, o, none⟩) m.ma.1.n m.ma.1.c) := by rw [← HA0.out]; exact KH2.out.cell 6
             have z7 : (wr.alloc (.cells #[.int .i64 e.p, .int .i64 e.o, .bool e.fi, .slice hd.A hd.n hd.c] 64)).cell? ⟨w.heap.size, 7, none⟩ = some (.slice m.wa.1.A m.wa.1.n m.wa.1.c) := KH2.out.cell 7
             go_wp2_with fail
             have HC := rts_any m hd.A hd.n hd.c e.ts (by omega) _ ((HSC.out.below B2.out).more B2.out.size)
             rw [HA0.out] at HC
             refine HC.mono ?_
             clear HC
             rintro _ w2 ⟨rfl, bb⟩
             have KH3 := Lib.hid (KH2.out.below bb KH2.out.lt)
             have B3 := Lib.hid (B2.out.trans (bb.mono B2.out.size))
             clear bb z0 z1 z2 z3 z4 z5 z6 z7
             rw [show decide (hd.n ≤ 300) = true from decide_eq_true (by omega), Bool.and_true]
             cases hq : (e.ts.all fun t => isN t m.tr.1.n)
             ·have HF := Lib.hid (all_no (p := (maB m.tr.1.n m.ob.1.n m.pr.1.n)) HSI.out (by unfold maB; rw [HQ1.out, HQ2.out, hq]; rfl))
              go_wp2_with fail
              go_ret
              exact ⟨by rw [HE2.out, HA4.out, HA5.out, Bool.true_and, Bool.true_and, HF.out]; rfl, B3.out⟩
             ·have HK2 := Lib.hid (take_next HK.out HSI.out (by unfold maB; rw [HQ1.out, HQ2.out, hq]; rfl))
              clear hq
              go_wp2_with fail
              go_roundw
              case rel => exact ⟨i + 1, hin, by go_num, HK2, KH3, B3⟩
              case measure => simp [intOf]; omega
          ·have hie : i = m.ma.1.n := by omega
           have HA6 : Hid (m.pl.ma.all (maB m.tr.1.n m.ob.1.n m.pr.1.n) = true) := take_all HK.out (by rw [hie, ← HLE.out.2.2.1]; exact List.length_map ..)
           rw [hie]
           clear hie hin hi0 HK
           rename World => wma
           have z7 : wma.cell? ⟨w.heap.size, 7, none⟩ = some (.slice m.wa.1.A m.wa.1.n m.wa.1.c) := KH.out.cell 7
           have hnwa : m.wa.1.n ≤ 60 := HN.out.2.2.2
           go_wp2_with fail
           clear z7
           go_loopw [101] (fun v wr => ∃ i : Nat, i ≤ m.wa.1.n ∧ v = .int .i64 i ∧ Hid (∀ x ∈ m.pl.wa.take i, waB m.se.1.n x = true) ∧ Hid (Blk wr w.heap.size 28 m.cs) ∧ Hid (Below w.heap.size w wr)) (fun v _ => m.wa.1.n - (intOf v).toNat)
           case atStart => exact ⟨0, Nat.zero_le _, rfl, fun s hs => by simp at hs, KH, BW⟩
           case round =>
            clear KH BW
            obtain ⟨i, hi0, rfl, HK, KH, BW⟩ := hrel
            by_cases hin : i < m.wa.1.n
            ·have hlt : (i : Int) < (m.wa.1.n : Int) := by omega
             obtain ⟨e, hs⟩ : ∃ p, m.wa.2[i]? = some p := ⟨m.wa.2[i]'(by rw [HLE.out.2.2.2]; exact hin), List.getElem?_eq_getElem _⟩
             have HSI : Hid (m.pl.wa[i]? = some e) := hs
             obtain ⟨b, o, hA, hbl, hc⟩ := row_cells waCs_len (by omega) (HM.out.wa.below BW.out) hs
             have c0 : wr.cell? ⟨b, o + i * 2, none⟩ = some (.int .i64 e.s) := hc 0 _ rfl
             have c1 : wr.cell? ⟨b, o + i * 2 + 1, none⟩ = some (.int .i64 e.b) := hc 1 _ rfl
             rw [hA]
             have HA0 := Lib.hid hA
             have hal : Below wr.heap.size wr (wr.alloc (.cells #[.int .i64 e.s, .int .i64 e.b] 67)) := (Below.refl _ _).alloc (Nat.le_refl _) _
             have KH2 := Lib.hid (KH.out.below hal KH.out.lt)
             have B2 := Lib.hid (BW.out.trans (hal.mono BW.out.size))
             clear hs hc hbl hA hal
             have z1 : (wr.alloc (.cells #[.int .i64 e.s, .int .i64 e.b] 67)).cell? ⟨w.heap.size, 1, none⟩ = some (.slice m.se.1.A m.se.1.n m.se.1.c) := KH2.out.cell 1
             go_wp2_with fail
             refine (is_any e.s m.se.1.n _).mono ?_
             rintro _ w2 ⟨rfl, hw⟩
             obtain rfl := hw.symm
             clear z1
             cases hq : isN e.s m.se.1.n
             ·have HF := Lib.hid (all_no (p := (waB m.se.1.n)) HSI.out (by unfold waB; rw [hq]; rfl))
              go_wp2_with fail
              go_ret
              exact ⟨by rw [HE2.out, HA4.out, HA5.out, HA6.out, Bool.true_and, Bool.true_and, Bool.true_and, HF.out]; rfl, B2.out⟩
             ·have HQ1 := Lib.hid hq
              clear hq
              go_wp2_with fail
              refine (is_any e.b 16 _).mono ?_
              rintro _ w2 ⟨rfl, hw⟩
              obtain rfl := hw.symm
              have KH3 := KH2
              cases hq : isN e.b 16
              ·have HF := Lib.hid (all_no (p := (waB m.se.1.n)) HSI.out (by unfold waB; rw [HQ1.out, hq]; rfl))
               go_wp2_with fail
               go_ret
               exact ⟨by rw [HE2.out, HA4.out, HA5.out, HA6.out, Bool.true_and, Bool.true_and, Bool.true_and, HF.out]; rfl, B2.out⟩
              ·have HK2 := Lib.hid (take_next HK.out HSI.out (by unfold waB; rw [HQ1.out, hq]; rfl))
               clear hq
               go_wp2_with fail
               go_roundw
               case rel => exact ⟨i + 1, hin, by go_num, HK2, KH3, B2⟩
               case measure => simp [intOf]; omega
            ·have hie : i = m.wa.1.n := by omega
             have HA7 : Hid (m.pl.wa.all (waB m.se.1.n) = true) := take_all HK.out (by rw [hie, ← HLE.out.2.2.2]; rfl)
             rw [hie]
             clear hie hin hi0 HK
             rename World => wwa
             have z4 : wwa.cell? ⟨w.heap.size, 4, none⟩ = some (.slice m.ev.1.A m.ev.1.n m.ev.1.c) := KH.out.cell 4
             have z5 : wwa.cell? ⟨w.heap.size, 5, none⟩ = some (.slice m.od.1.A m.od.1.n m.od.1.c) := KH.out.cell 5
             have z6 : wwa.cell? ⟨w.heap.size, 6, none⟩ = some (.slice m.ma.1.A m.ma.1.n m.ma.1.c) := KH.out.cell 6
             have z7 : wwa.cell? ⟨w.heap.size, 7, none⟩ = some (.slice m.wa.1.A m.wa.1.n m.wa.1.c) := KH.out.cell 7
             have hl4 : (m.ev.1.n : Int) ≤ 3000 := by omega
             have hl5 : (m.od.1.n : Int) ≤ 3000 := by omega
             have hl6 : (m.ma.1.n : Int) ≤ 3000 := by omega
             have hl7 : (m.wa.1.n : Int) ≤ 3000 := by omega
             go_wp2_with fail
             go_ret
             exact ⟨by rw [HE2.out, HA4.out, HA5.out, HA6.out, HA7.out]; rfl, BW.out⟩
end Go.Proofs.YtlnbmmaminflcaaGreatDoor
