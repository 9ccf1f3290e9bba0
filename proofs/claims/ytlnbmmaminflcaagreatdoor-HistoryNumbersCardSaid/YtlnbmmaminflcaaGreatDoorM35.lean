/- The document's answers of layer history: Same: contract. -/
import Derived.StillTailTactics
import Derived.Deep.CutBlock
import Derived.Deep.CutRange
import Derived.Deep.DeepCutAuto
import Derived.Deep.LoopGhost
import Derived.Test.YtlnbmmaminflcaaGreatDoorM23
import Derived.Test.YtlnbmmaminflcaaGreatDoorM29
-- holds: YtlnbmmaminflcaaGreatDoorVJu
namespace Go.Proofs.YtlnbmmaminflcaaGreatDoor
open Go.RowKit Go.Shelf

structure S2 (a b : HistM) (Ba Bb : Nat) (w X : World) : Prop where
 below : Below w.heap.size w X
 ba : Blk X Ba 28 a.cs
 bb : Blk X Bb 28 b.cs
theorem S2.on {a b : HistM} {Ba Bb : Nat} {w X Y : World} (h : S2 a b Ba Bb w X) (hb : Below X.heap.size X Y) : S2 a b Ba Bb w Y := ⟨h.below.trans (hb.mono h.below.size), h.ba.below hb h.ba.lt, h.bb.below hb h.bb.lt⟩
theorem hist_eq2 {a b : HistM} : a.pl = b.pl ↔ (((a.tr.2 = b.tr.2 ∧ a.se.2 = b.se.2) ∧ (a.ob.2 = b.ob.2 ∧ a.pr.2 = b.pr.2)) ∧ (a.pl.ev = b.pl.ev ∧ (a.pl.od = b.pl.od ∧ (a.pl.ma = b.pl.ma ∧ a.wa.2 = b.wa.2)))) := by
 constructor
 ·intro h
  exact ⟨⟨⟨congrArg Hist.tr h, congrArg Hist.se h⟩, congrArg Hist.ob h, congrArg Hist.pr h⟩, congrArg Hist.ev h, congrArg Hist.od h, congrArg Hist.ma h, congrArg Hist.wa h⟩
 ·rintro ⟨⟨⟨h1, h2⟩, h3, h4⟩, h5, h6, h7, h8⟩
  unfold HistM.pl at h5 h6 h7 ⊢
  simp only at h5 h6 h7
  rw [h1, h2, h3, h4, h5, h6, h7, h8]
theorem same_next {α : Type} {l k : List α} {i : Nat} {x y : α} (h : l.take i = k.take i) (hx : l[i]? = some x) (hy : k[i]? = some y) (e : x = y) : l.take (i + 1) = k.take (i + 1) := by
 rw [List.take_add_one, List.take_add_one, h, hx, hy, e]
theorem same_not {α : Type} {l k : List α} {i : Nat} {x y : α} (hx : l[i]? = some x) (hy : k[i]? = some y) (e : x ≠ y) : l ≠ k := by
 rintro rfl
 rw [hx] at hy
 injection hy with hy
 exact e hy
theorem same_all {α : Type} {l k : List α} {i : Nat} (h : l.take i = k.take i) (hl : l.length = i) (hk : k.length = i) : l = k := by
 rwa [List.take_of_length_le (Nat.le_of_eq hl), List.take_of_length_le (Nat.le_of_eq hk)] at h
set_option maxRecDepth 100000 in
set_option maxHeartbeats 16000000 in
theorem rsame11_any (a b : HistM) (hS : Small a.pl) (hS2 : Small b.pl) (w : World) (hm : HRd w w.heap.size a) (hm2 : HRd w w.heap.size b) : Calls Tryz.prog 14 #[.agg #[.slice a.tr.1.A a.tr.1.n a.tr.1.c, .slice a.se.1.A a.se.1.n a.se.1.c, .slice a.ob.1.A a.ob.1.n a.ob.1.c, .slice a.pr.1.A a.pr.1.n a.pr.1.c, .slice a.ev.1.A a.ev.1.n a.ev.1.c, .slice a.od.1.A a.od.1.n a.od.1.c, .slice a.ma.1.A a.ma.1.n a.ma.1.c, .slice a.wa.1.A a.wa.1.n a.wa.1.c], .agg #[.slice b.tr.1.A b.tr.1.n b.tr.1.c, .slice b.se.1.A b.se.1.n b.se.1.c, .slice b.ob.1.A b.ob.1.n b.ob.1.c, .slice b.pr.1.A b.pr.1.n b.pr.1.c, .slice b.ev.1.A b.ev.1.n b.ev.1.c, .slice b.od.1.A b.od.1.n b.od.1.c, .slice b.ma.1.A b.ma.1.n b.ma.1.c, .slice b.wa.1.A b.wa.1.n b.wa.1.c]] w fun x w' => x = .returned (.bool (decide (a.pl = b.pl))) ∧ Below w.heap.size w w' := by
 obtain ⟨ka, kb, b0, hs0⟩ := itwo w #[.slice a.tr.1.A a.tr.1.n a.tr.1.c, .slice a.se.1.A a.se.1.n a.se.1.c, .slice a.ob.1.A a.ob.1.n a.ob.1.c, .slice a.pr.1.A a.pr.1.n a.pr.1.c, .slice a.ev.1.A a.ev.1.n a.ev.1.c, .slice a.od.1.A a.od.1.n a.od.1.c, .slice a.ma.1.A a.ma.1.n a.ma.1.c, .slice a.wa.1.A a.wa.1.n a.wa.1.c] #[.slice b.tr.1.A b.tr.1.n b.tr.1.c, .slice b.se.1.A b.se.1.n b.se.1.c, .slice b.ob.1.A b.ob.1.n b.ob.1.c, .slice b.pr.1.A b.pr.1.n b.pr.1.c, .slice b.ev.1.A b.ev.1.n b.ev.1.c, .slice b.od.1.A b.od.1.n b.od.1.c, .slice b.ma.1.A b.ma.1.n b.ma.1.c, .slice b.wa.1.A b.wa.1.n b.wa.1.c] 28 28
 obtain ⟨W0, hW0⟩ : ∃ W0, W0 = ((w.alloc (.cells #[.slice a.tr.1.A a.tr.1.n a.tr.1.c, .slice a.se.1.A a.se.1.n a.se.1.c, .slice a.ob.1.A a.ob.1.n a.ob.1.c, .slice a.pr.1.A a.pr.1.n a.pr.1.c, .slice a.ev.1.A a.ev.1.n a.ev.1.c, .slice a.od.1.A a.od.1.n a.od.1.c, .slice a.ma.1.A a.ma.1.n a.ma.1.c, .slice a.wa.1.A a.wa.1.n a.wa.1.c] 28)).alloc (.cells #[.slice b.tr.1.A b.tr.1.n b.tr.1.c, .slice b.se.1.A b.se.1.n b.se.1.c, .slice b.ob.1.A b.ob.1.n b.ob.1.c, .slice b.pr.1.A b.pr.1.n b.pr.1.c, .slice b.ev.1.A b.ev.1.n b.ev.1.c, .slice b.od.1.A b.od.1.n b.od.1.c, .slice b.ma.1.A b.ma.1.n b.ma.1.c, .slice b.wa.1.A b.wa.1.n b.wa.1.c] 28)) := ⟨_, rfl⟩
 obtain ⟨Ba, hBa⟩ : ∃ Ba, Ba = w.heap.size := ⟨_, rfl⟩
 obtain ⟨Bb, hBb⟩ : ∃ Bb, Bb = w.heap.size + 1 := ⟨_, rfl⟩
 rw [← hW0] at ka kb b0
 rw [← hBa] at ka
 rw [← hBb] at kb
 have HS : Hid (S2 a b Ba Bb w W0) := ⟨b0, ka, kb⟩
 have HM := Lib.hid hm
 have HM2 := Lib.hid hm2
 have FA := Lib.hid hm.fit
 have FB := Lib.hid hm2.fit
 have HN : Hid ((a.tr.1.n ≤ 60 ∧ a.se.1.n ≤ 60 ∧ a.ob.1.n ≤ 60 ∧ a.pr.1.n ≤ 60) ∧ a.ev.1.n ≤ 200 ∧ a.od.1.n ≤ 60 ∧ a.ma.1.n ≤ 60 ∧ a.wa.1.n ≤ 60) := by
  have h1 := hS.ev; have h2 := hS.od; have h3 := hS.ma; have h4 := hS.wa; have g1 := hS.tr; have g2 := hS.se; have g3 := hS.ob; have g4 := hS.pr
  have e1 : a.pl.ev.length = a.ev.1.n := (List.length_map ..).trans FA.out.ev.1; have e2 : a.pl.od.length = a.od.1.n := (List.length_map ..).trans FA.out.od.1; have e3 : a.pl.ma.length = a.ma.1.n := (List.length_map ..).trans FA.out.ma.1; have e4 : a.pl.wa.length = a.wa.1.n := FA.out.wa.1
  have f1 : a.pl.tr.length = a.tr.1.n := strs_len hm.tr; have f2 : a.pl.se.length = a.se.1.n := strs_len hm.se; have f3 : a.pl.ob.length = a.ob.1.n := strs_len hm.ob; have f4 : a.pl.pr.length = a.pr.1.n := strs_len hm.pr
  show (_ ∧ _) ∧ _; omega
 have Lev : Hid (a.pl.ev.length = a.ev.1.n ∧ b.pl.ev.length = b.ev.1.n) := ⟨(List.length_map ..).trans FA.out.ev.1, (List.length_map ..).trans FB.out.ev.1⟩
 have Lod : Hid (a.pl.od.length = a.od.1.n ∧ b.pl.od.length = b.od.1.n) := ⟨(List.length_map ..).trans FA.out.od.1, (List.length_map ..).trans FB.out.od.1⟩
 have Lma : Hid (a.pl.ma.length = a.ma.1.n ∧ b.pl.ma.length = b.ma.1.n) := ⟨(List.length_map ..).trans FA.out.ma.1, (List.length_map ..).trans FB.out.ma.1⟩
 have Lwa : Hid (a.wa.2.length = a.wa.1.n ∧ b.wa.2.length = b.wa.1.n) := ⟨FA.out.wa.1, FB.out.wa.1⟩
 have HSZ : Hid ((∀ e ∈ a.pl.ev, e.scan.length ≤ 60) ∧ (∀ r ∈ a.pl.od, r.ts.length ≤ 60) ∧ (∀ r ∈ a.pl.ma, r.ts.length ≤ 60) ∧ (∀ e ∈ b.pl.ev, e.scan.length ≤ 60)) := ⟨hS.sc, hS.ot, hS.mt, hS2.sc⟩
 clear ka kb b0 hs0 hm hm2 hS hS2
 go_enter Tryz.func14, Tryz.ntmps14
 go_upto_region 1 with fail
 rw [← hBb, ← hBa, ← hW0]
 clear hBa hBb hW0
 have y0 : W0.cell? ⟨Ba, 0, none⟩ = some (.slice a.tr.1.A a.tr.1.n a.tr.1.c) := HS.out.ba.cell 0
 have z0 : W0.cell? ⟨Bb, 0, none⟩ = some (.slice b.tr.1.A b.tr.1.n b.tr.1.c) := HS.out.bb.cell 0
 go_wp2_with fail
 refine (rnames_any a.tr.1.A b.tr.1.A a.tr.1.n b.tr.1.n a.tr.1.c b.tr.1.c a.tr.2 b.tr.2 (by have := HN.out; omega) W0 ((HM.out.tr.below HS.out.below).more HS.out.below.size) ((HM2.out.tr.below HS.out.below).more HS.out.below.size)).mono ?_
 rintro _ W1 ⟨rfl, bb⟩
 have HS := Lib.hid (HS.out.on bb)
 clear bb y0 z0
 cases hq0 : decide (a.tr.2 = b.tr.2)
 ·have HF : Hid (decide (a.pl = b.pl) = false) := decide_eq_false fun e => of_decide_eq_false hq0 ((hist_eq2.1 e).1.1.1)
  go_wp2_with fail
  go_ret
  exact ⟨by rw [HF.out]; rfl, HS.out.below⟩
 ·have HQ0 := Lib.hid (of_decide_eq_true hq0)
  clear hq0
  have y1 : W1.cell? ⟨Ba, 1, none⟩ = some (.slice a.se.1.A a.se.1.n a.se.1.c) := HS.out.ba.cell 1
  have z1 : W1.cell? ⟨Bb, 1, none⟩ = some (.slice b.se.1.A b.se.1.n b.se.1.c) := HS.out.bb.cell 1
  go_wp2_with fail
  refine (rnames_any a.se.1.A b.se.1.A a.se.1.n b.se.1.n a.se.1.c b.se.1.c a.se.2 b.se.2 (by have := HN.out; omega) W1 ((HM.out.se.below HS.out.below).more HS.out.below.size) ((HM2.out.se.below HS.out.below).more HS.out.below.size)).mono ?_
  rintro _ W2 ⟨rfl, bb⟩
  have HS := Lib.hid (HS.out.on bb)
  clear bb y1 z1
  cases hq1 : decide (a.se.2 = b.se.2)
  ·have HF : Hid (decide (a.pl = b.pl) = false) := decide_eq_false fun e => of_decide_eq_false hq1 ((hist_eq2.1 e).1.1.2)
   go_wp2_with fail
   go_ret
   exact ⟨by rw [HF.out]; rfl, HS.out.below⟩
  ·have HQ1 := Lib.hid (of_decide_eq_true hq1)
   clear hq1
   have y2 : W2.cell? ⟨Ba, 2, none⟩ = some (.slice a.ob.1.A a.ob.1.n a.ob.1.c) := HS.out.ba.cell 2
   have z2 : W2.cell? ⟨Bb, 2, none⟩ = some (.slice b.ob.1.A b.ob.1.n b.ob.1.c) := HS.out.bb.cell 2
   go_wp2_with fail
   refine (rnames_any a.ob.1.A b.ob.1.A a.ob.1.n b.ob.1.n a.ob.1.c b.ob.1.c a.ob.2 b.ob.2 (by have := HN.out; omega) W2 ((HM.out.ob.below HS.out.below).more HS.out.below.size) ((HM2.out.ob.below HS.out.below).more HS.out.below.size)).mono ?_
   rintro _ W3 ⟨rfl, bb⟩
   have HS := Lib.hid (HS.out.on bb)
   clear bb y2 z2
   cases hq2 : decide (a.ob.2 = b.ob.2)
   ·have HF : Hid (decide (a.pl = b.pl) = false) := decide_eq_false fun e => of_decide_eq_false hq2 ((hist_eq2.1 e).1.2.1)
    go_wp2_with fail
    go_ret
    exact ⟨by rw [HF.out]; rfl, HS.out.below⟩
   ·have HQ2 := Lib.hid (of_decide_eq_true hq2)
    clear hq2
    have y3 : W3.cell? ⟨Ba, 3, none⟩ = some (.slice a.pr.1.A a.pr.1.n a.pr.1.c) := HS.out.ba.cell 3
    have z3 : W3.cell? ⟨Bb, 3, none⟩ = some (.slice b.pr.1.A b.pr.1.n b.pr.1.c) := HS.out.bb.cell 3
    go_wp2_with fail
    refine (rnames_any a.pr.1.A b.pr.1.A a.pr.1.n b.pr.1.n a.pr.1.c b.pr.1.c a.pr.2 b.pr.2 (by have := HN.out; omega) W3 ((HM.out.pr.below HS.out.below).more HS.out.below.size) ((HM2.out.pr.below HS.out.below).more HS.out.below.size)).mono ?_
    rintro _ W4 ⟨rfl, bb⟩
    have HS := Lib.hid (HS.out.on bb)
    clear bb y3 z3
    cases hq3 : decide (a.pr.2 = b.pr.2)
    ·have HF : Hid (decide (a.pl = b.pl) = false) := decide_eq_false fun e => of_decide_eq_false hq3 ((hist_eq2.1 e).1.2.2)
     go_wp2_with fail
     go_ret
     exact ⟨by rw [HF.out]; rfl, HS.out.below⟩
    ·have HQ3 := Lib.hid (of_decide_eq_true hq3)
     clear hq3
     have y4 : W4.cell? ⟨Ba, 4, none⟩ = some (.slice a.ev.1.A a.ev.1.n a.ev.1.c) := HS.out.ba.cell 4
     have z4 : W4.cell? ⟨Bb, 4, none⟩ = some (.slice b.ev.1.A b.ev.1.n b.ev.1.c) := HS.out.bb.cell 4
     have y5 : W4.cell? ⟨Ba, 5, none⟩ = some (.slice a.od.1.A a.od.1.n a.od.1.c) := HS.out.ba.cell 5
     have z5 : W4.cell? ⟨Bb, 5, none⟩ = some (.slice b.od.1.A b.od.1.n b.od.1.c) := HS.out.bb.cell 5
     have y6 : W4.cell? ⟨Ba, 6, none⟩ = some (.slice a.ma.1.A a.ma.1.n a.ma.1.c) := HS.out.ba.cell 6
     have z6 : W4.cell? ⟨Bb, 6, none⟩ = some (.slice b.ma.1.A b.ma.1.n b.ma.1.c) := HS.out.bb.cell 6
     have y7 : W4.cell? ⟨Ba, 7, none⟩ = some (.slice a.wa.1.A a.wa.1.n a.wa.1.c) := HS.out.ba.cell 7
     have z7 : W4.cell? ⟨Bb, 7, none⟩ = some (.slice b.wa.1.A b.wa.1.n b.wa.1.c) := HS.out.bb.cell 7
     by_cases hl4 : a.ev.1.n = b.ev.1.n
     ·have lb4 : ((a.ev.1.n : Int) != (b.ev.1.n : Int)) = false := by rw [hl4]; simp
      have HL4 := Lib.hid hl4
      clear hl4
      by_cases hl5 : a.od.1.n = b.od.1.n
      ·have lb5 : ((a.od.1.n : Int) != (b.od.1.n : Int)) = false := by rw [hl5]; simp
       have HL5 := Lib.hid hl5
       clear hl5
       by_cases hl6 : a.ma.1.n = b.ma.1.n
       ·have lb6 : ((a.ma.1.n : Int) != (b.ma.1.n : Int)) = false := by rw [hl6]; simp
        have HL6 := Lib.hid hl6
        clear hl6
        by_cases hl7 : a.wa.1.n = b.wa.1.n
        ·have lb7 : ((a.wa.1.n : Int) != (b.wa.1.n : Int)) = false := by rw [hl7]; simp
         have HL7 := Lib.hid hl7
         clear hl7
         go_wp2_with fail
         clear lb4 lb5 lb6 lb7 y5 z5 y6 z6 y7 z7
         have hnev : a.ev.1.n ≤ 200 := by have := HN.out; omega
         go_loopw [82] (fun v wr => ∃ i : Nat, i ≤ a.ev.1.n ∧ v = .int .i64 i ∧ Hid (a.pl.ev.take i = b.pl.ev.take i) ∧ Hid (S2 a b Ba Bb w wr)) (fun v _ => a.ev.1.n - (intOf v).toNat)
         case atStart => exact ⟨0, Nat.zero_le _, rfl, by simp [Hid], HS⟩
         case round =>
          clear HS
          obtain ⟨i, hi0, rfl, HT, HS⟩ := hrel
          by_cases hin : i < a.ev.1.n
          ·have hlt : (i : Int) < (a.ev.1.n : Int) := by omega
           obtain ⟨⟨e, hd⟩, hs⟩ : ∃ p, a.ev.2[i]? = some p := ⟨a.ev.2[i]'(by rw [FA.out.ev.1]; exact hin), List.getElem?_eq_getElem _⟩
           obtain ⟨⟨e2, hd2⟩, hs2⟩ : ∃ p, b.ev.2[i]? = some p := ⟨b.ev.2[i]'(by rw [FB.out.ev.1, ← HL4.out]; exact hin), List.getElem?_eq_getElem _⟩
           have HX : Hid (a.pl.ev[i]? = some e) := by show a.pl.ev[i]? = _; unfold HistM.pl; simp [hs]
           have HY : Hid (b.pl.ev[i]? = some e2) := by show b.pl.ev[i]? = _; unfold HistM.pl; simp [hs2]
           have R1 := Lib.hid (HM.out.sc _ (List.mem_of_getElem? hs))
           have R2 := Lib.hid (HM2.out.sc _ (List.mem_of_getElem? hs2))
           have hn1 : hd.n ≤ 60 := by have h9 : e.scan.length = hd.n := (FA.out.sc _ (List.mem_of_getElem? hs)).1; have := HSZ.out.1 e (List.mem_of_getElem? HX.out); omega
           have hn2 : hd2.n ≤ 60 := by have h9 : e2.scan.length = hd2.n := (FB.out.sc _ (List.mem_of_getElem? hs2)).1; have := HSZ.out.2.2.2 e2 (List.mem_of_getElem? HY.out); omega
           obtain ⟨b1, o1, hA, hbl, hc⟩ := row_cells evCs_len (by omega) (HM.out.ev.below HS.out.below) hs
           obtain ⟨b2, o2, hA2, hbl2, hc2⟩ := row_cells evCs_len (by omega) (HM2.out.ev.below HS.out.below) hs2
           have y4 : wr.cell? ⟨Ba, 4, none⟩ = some (.slice a.ev.1.A a.ev.1.n a.ev.1.c) := HS.out.ba.cell 4
           have z4 : wr.cell? ⟨Bb, 4, none⟩ = some (.slice b.ev.1.A b.ev.1.n b.ev.1.c) := HS.out.bb.cell 4
           rw [hA] at y4 ⊢
           rw [hA2] at z4
           have hlt2 : (i : Int) < (b.ev.1.n : Int) := by have := HL4.out; omega
           have c0 : wr.cell? ⟨b1, o1 + i * 9, none⟩ = some (.int .i64 e.kd) := hc 0 _ rfl
           have c1 : wr.cell? ⟨b1, o1 + i * 9 + 1, none⟩ = some (.int .i64 e.t) := hc 1 _ rfl
           have c2 : wr.cell? ⟨b1, o1 + i * 9 + 2, none⟩ = some (.int .i64 e.s) := hc 2 _ rfl
           have c3 : wr.cell? ⟨b1, o1 + i * 9 + 3, none⟩ = some (.int .i64 e.lev) := hc 3 _ rfl
           have c4 : wr.cell? ⟨b1, o1 + i * 9 + 4, none⟩ = some (.int .i64 e.o) := hc 4 _ rfl
           have c5 : wr.cell? ⟨b1, o1 + i * 9 + 5, none⟩ = some (.int .i64 e.vt) := hc 5 _ rfl
           have c6 : wr.cell? ⟨b1, o1 + i * 9 + 6, none⟩ = some (.int .i64 e.vk) := hc 6 _ rfl
           have c7 : wr.cell? ⟨b1, o1 + i * 9 + 7, none⟩ = some (.int .i64 e.p) := hc 7 _ rfl
           have c8 : wr.cell? ⟨b1, o1 + i * 9 + 8, none⟩ = some (.slice hd.A hd.n hd.c) := hc 8 _ rfl
           have d0 : wr.cell? ⟨b2, o2 + i * 9, none⟩ = some (.int .i64 e2.kd) := hc2 0 _ rfl
           have d1 : wr.cell? ⟨b2, o2 + i * 9 + 1, none⟩ = some (.int .i64 e2.t) := hc2 1 _ rfl
           have d2 : wr.cell? ⟨b2, o2 + i * 9 + 2, none⟩ = some (.int .i64 e2.s) := hc2 2 _ rfl
           have d3 : wr.cell? ⟨b2, o2 + i * 9 + 3, none⟩ = some (.int .i64 e2.lev) := hc2 3 _ rfl
           have d4 : wr.cell? ⟨b2, o2 + i * 9 + 4, none⟩ = some (.int .i64 e2.o) := hc2 4 _ rfl
           have d5 : wr.cell? ⟨b2, o2 + i * 9 + 5, none⟩ = some (.int .i64 e2.vt) := hc2 5 _ rfl
           have d6 : wr.cell? ⟨b2, o2 + i * 9 + 6, none⟩ = some (.int .i64 e2.vk) := hc2 6 _ rfl
           have d7 : wr.cell? ⟨b2, o2 + i * 9 + 7, none⟩ = some (.int .i64 e2.p) := hc2 7 _ rfl
           have d8 : wr.cell? ⟨b2, o2 + i * 9 + 8, none⟩ = some (.slice hd2.A hd2.n hd2.c) := hc2 8 _ rfl
           have HSD := Lib.hid (HS.out.on ((Below.refl _ _).drew))
           have HC := Lib.hid (rsameEvent_any (e, hd) (e2, hd2) (by show hd.n ≤ _; omega) (by show hd2.n ≤ _; omega) wr.drew ((R1.out.below HSD.out.below).more HSD.out.below.size) ((R2.out.below HSD.out.below).more HSD.out.below.size))
           have HA0 := Lib.hid hA
           clear hs hs2 hc hc2 hbl hbl2 hA hA2
           go_wp2_with fail
           go_still_tail 10, (by kernel_rfl)
           change wpList _ _ _ _ _ wr.drew
           generalize wr.drew = wd at *
           go_wp2_with fail
           refine HC.out.mono ?_
           rintro _ w5 ⟨rfl, b5⟩
           have HS5 := Lib.hid (HSD.out.on b5)
           clear b5 HC y4 z4 c0 d0 c1 d1 c2 d2 c3 d3 c4 d4 c5 d5 c6 d6 c7 d7 c8 d8
           by_cases he : e = e2
           ·have HT2 := Lib.hid (same_next HT.out HX.out HY.out he)
            rw [show decide ((e, hd).1 = (e2, hd2).1) = true from decide_eq_true he]
            clear he
            go_wp2_with fail
            go_roundw
            case rel => exact ⟨i + 1, hin, by go_num, HT2, HS5⟩
            case measure => simp [intOf]; omega
           ·have HF : Hid (decide (a.pl = b.pl) = false) := decide_eq_false fun h => same_not HX.out HY.out he (hist_eq2.1 h).2.1
            rw [show decide ((e, hd).1 = (e2, hd2).1) = false from decide_eq_false he]
            clear he
            go_wp2_with fail
            go_ret
            exact ⟨by rw [HF.out]; rfl, HS5.out.below⟩
          ·have hie : i = a.ev.1.n := by omega
           have HE4 : Hid (a.pl.ev = b.pl.ev) := same_all HT.out (by rw [hie]; exact Lev.out.1) (by rw [hie, HL4.out]; exact Lev.out.2)
           rw [hie]
           clear hie hin hi0
           rename World => wev
           have y5 : wev.cell? ⟨Ba, 5, none⟩ = some (.slice a.od.1.A a.od.1.n a.od.1.c) := HS.out.ba.cell 5
           go_wp2_with fail
           clear y5
           have hnod : a.od.1.n ≤ 200 := by have := HN.out; omega
           go_loopw [101] (fun v wr => ∃ i : Nat, i ≤ a.od.1.n ∧ v = .int .i64 i ∧ Hid (a.pl.od.take i = b.pl.od.take i) ∧ Hid (S2 a b Ba Bb w wr)) (fun v _ => a.od.1.n - (intOf v).toNat)
           case atStart => exact ⟨0, Nat.zero_le _, rfl, by simp [Hid], HS⟩
           case round =>
            clear HS
            obtain ⟨i, hi0, rfl, HT, HS⟩ := hrel
            by_cases hin : i < a.od.1.n
            ·have hlt : (i : Int) < (a.od.1.n : Int) := by omega
             obtain ⟨⟨e, hd⟩, hs⟩ : ∃ p, a.od.2[i]? = some p := ⟨a.od.2[i]'(by rw [FA.out.od.1]; exact hin), List.getElem?_eq_getElem _⟩
             obtain ⟨⟨e2, hd2⟩, hs2⟩ : ∃ p, b.od.2[i]? = some p := ⟨b.od.2[i]'(by rw [FB.out.od.1, ← HL5.out]; exact hin), List.getElem?_eq_getElem _⟩
             have HX : Hid (a.pl.od[i]? = some e) := by show a.pl.od[i]? = _; unfold HistM.pl; simp [hs]
             have HY : Hid (b.pl.od[i]? = some e2) := by show b.pl.od[i]? = _; unfold HistM.pl; simp [hs2]
             have R1 := Lib.hid (HM.out.ot _ (List.mem_of_getElem? hs))
             have R2 := Lib.hid (HM2.out.ot _ (List.mem_of_getElem? hs2))
             have hn1 : hd.n ≤ 60 := by have h9 : e.ts.length = hd.n := (FA.out.ot _ (List.mem_of_getElem? hs)).1; have := HSZ.out.2.1 e (List.mem_of_getElem? HX.out); omega
             obtain ⟨b1, o1, hA, hbl, hc⟩ := row_cells odCs_len (by omega) (HM.out.od.below HS.out.below) hs
             obtain ⟨b2, o2, hA2, hbl2, hc2⟩ := row_cells odCs_len (by omega) (HM2.out.od.below HS.out.below) hs2
             have c0 : wr.cell? ⟨b1, o1 + i * 2, none⟩ = some (.int .i64 e.o) := hc 0 _ rfl
             have c1 : wr.cell? ⟨b1, o1 + i * 2 + 1, none⟩ = some (.slice hd.A hd.n hd.c) := hc 1 _ rfl
             have ha1 : Below wr.heap.size wr (wr.alloc (.cells #[.int .i64 e.o, .slice hd.A hd.n hd.c] 61)) := (Below.refl _ _).alloc (Nat.le_refl _) _
             have HS1 := Lib.hid (HS.out.on ha1)
             have z5 : (wr.alloc (.cells #[.int .i64 e.o, .slice hd.A hd.n hd.c] 61)).cell? ⟨Bb, 5, none⟩ = some (.slice b.od.1.A b.od.1.n b.od.1.c) := HS1.out.bb.cell 5
             rw [hA2] at z5
             have d0 : (wr.alloc (.cells #[.int .i64 e.o, .slice hd.A hd.n hd.c] 61)).cell? ⟨b2, o2 + i * 2, none⟩ = some (.int .i64 e2.o) := (ha1.cell (p := ⟨b2, o2 + i * 2, none⟩) (Nat.lt_of_lt_of_le hbl2 HS.out.below.size)).trans (hc2 0 _ rfl)
             have d1 : (wr.alloc (.cells #[.int .i64 e.o, .slice hd.A hd.n hd.c] 61)).cell? ⟨b2, o2 + i * 2 + 1, none⟩ = some (.slice hd2.A hd2.n hd2.c) := (ha1.cell (p := ⟨b2, o2 + i * 2 + 1, none⟩) (Nat.lt_of_lt_of_le hbl2 HS.out.below.size)).trans (hc2 1 _ rfl)
             have hlt2 : (i : Int) < (b.od.1.n : Int) := by have := HL5.out; omega
             have ha2 : Below (wr.alloc (.cells #[.int .i64 e.o, .slice hd.A hd.n hd.c] 61)).heap.size (wr.alloc (.cells #[.int .i64 e.o, .slice hd.A hd.n hd.c] 61)) ((wr.alloc (.cells #[.int .i64 e.o, .slice hd.A hd.n hd.c] 61)).alloc (.cells #[.int .i64 e2.o, .slice hd2.A hd2.n hd2.c] 61)) := (Below.refl _ _).alloc (Nat.le_refl _) _
             have HS2 := Lib.hid (HS1.out.on ha2)
             have K1 : Hid (Blk ((wr.alloc (.cells #[.int .i64 e.o, .slice hd.A hd.n hd.c] 61)).alloc (.cells #[.int .i64 e2.o, .slice hd2.A hd2.n hd2.c] 61)) wr.heap.size 61 #[.int .i64 e.o, .slice hd.A hd.n hd.c]) := (Blk.new _ _ _).below ha2 (by simp)
             have HC := Lib.hid (rnumbers_any hd.A hd2.A hd.n hd2.n hd.c hd2.c e.ts e2.ts (by omega) ((wr.alloc (.cells #[.int .i64 e.o, .slice hd.A hd.n hd.c] 61)).alloc (.cells #[.int .i64 e2.o, .slice hd2.A hd2.n hd2.c] 61)) ((R1.out.below HS2.out.below).more HS2.out.below.size) ((R2.out.below HS2.out.below).more HS2.out.below.size))
             rw [hA]
             clear hs hs2 hc hc2 hbl hbl2 hA hA2 ha1 ha2
             go_upto_region 13 with fail
             clear z5 c0 d0 c1 d1
             have K2 : Hid (Blk ((wr.alloc (.cells #[.int .i64 e.o, .slice hd.A hd.n hd.c] 61)).alloc (.cells #[.int .i64 e2.o, .slice hd2.A hd2.n hd2.c] 61)) (wr.heap.size + 1) 61 #[.int .i64 e2.o, .slice hd2.A hd2.n hd2.c]) := by have := Blk.new (wr.alloc (.cells #[.int .i64 e.o, .slice hd.A hd.n hd.c] 61)) 61 #[.int .i64 e2.o, .slice hd2.A hd2.n hd2.c]; rwa [World.size_alloc] at this
             generalize ((wr.alloc (.cells #[.int .i64 e.o, .slice hd.A hd.n hd.c] 61)).alloc (.cells #[.int .i64 e2.o, .slice hd2.A hd2.n hd2.c] 61)) = X2 at *
             have c0 : X2.cell? ⟨wr.heap.size, 0, none⟩ = some (.int .i64 e.o) := K1.out.cell 0
             have c1 : X2.cell? ⟨wr.heap.size, 1, none⟩ = some (.slice hd.A hd.n hd.c) := K1.out.cell 1
             have d0 : X2.cell? ⟨wr.heap.size + 1, 0, none⟩ = some (.int .i64 e2.o) := K2.out.cell 0
             have d1 : X2.cell? ⟨wr.heap.size + 1, 1, none⟩ = some (.slice hd2.A hd2.n hd2.c) := K2.out.cell 1
             by_cases hf0 : e.o = e2.o
             ·have hfb0 : (e.o != e2.o) = false := by rw [hf0]; simp
              have HF0 := Lib.hid hf0
              clear hf0
              go_wp2_with fail
              refine HC.out.mono ?_
              rintro _ w5 ⟨rfl, b5⟩
              have HS5 := Lib.hid (HS2.out.on b5)
              clear b5
              by_cases he : e.ts = e2.ts
              ·have HT2 := Lib.hid (same_next HT.out HX.out HY.out (by cases e; cases e2; have := HF0.out; simp_all))
               rw [show decide (e.ts = e2.ts) = true from decide_eq_true he]
               clear he
               go_wp2_with fail
               go_roundw
               case rel => exact ⟨i + 1, hin, by go_num, HT2, HS5⟩
               case measure => simp [intOf]; omega
              ·have HF : Hid (decide (a.pl = b.pl) = false) := decide_eq_false fun h => same_not HX.out HY.out (fun h2 => he (by rw [h2])) (hist_eq2.1 h).2.2.1
               rw [show decide (e.ts = e2.ts) = false from decide_eq_false he]
               clear he
               go_wp2_with fail
               go_ret
               exact ⟨by rw [HF.out]; rfl, HS5.out.below⟩
             ·have hfb0 : (e.o != e2.o) = true := by simpa using hf0
              have HF : Hid (decide (a.pl = b.pl) = false) := decide_eq_false fun h => same_not HX.out HY.out (fun h2 => hf0 (by rw [h2])) (hist_eq2.1 h).2.2.1
              clear hf0
              go_wp2_with fail
              go_ret
              exact ⟨by rw [HF.out]; rfl, HS2.out.below⟩
            ·have hie : i = a.od.1.n := by omega
             have HE5 : Hid (a.pl.od = b.pl.od) := same_all HT.out (by rw [hie]; exact Lod.out.1) (by rw [hie, HL5.out]; exact Lod.out.2)
             rw [hie]
             clear hie hin hi0
             rename World => wod
             have y6 : wod.cell? ⟨Ba, 6, none⟩ = some (.slice a.ma.1.A a.ma.1.n a.ma.1.c) := HS.out.ba.cell 6
             go_wp2_with fail
             clear y6
             have hnma : a.ma.1.n ≤ 200 := by have := HN.out; omega
             go_loopw [128] (fun v wr => ∃ i : Nat, i ≤ a.ma.1.n ∧ v = .int .i64 i ∧ Hid (a.pl.ma.take i = b.pl.ma.take i) ∧ Hid (S2 a b Ba Bb w wr)) (fun v _ => a.ma.1.n - (intOf v).toNat)
             case atStart => exact ⟨0, Nat.zero_le _, rfl, by simp [Hid], HS⟩
             case round =>
              clear HS
              obtain ⟨i, hi0, rfl, HT, HS⟩ := hrel
              by_cases hin : i < a.ma.1.n
              ·have hlt : (i : Int) < (a.ma.1.n : Int) := by omega
               obtain ⟨⟨e, hd⟩, hs⟩ : ∃ p, a.ma.2[i]? = some p := ⟨a.ma.2[i]'(by rw [FA.out.ma.1]; exact hin), List.getElem?_eq_getElem _⟩
               obtain ⟨⟨e2, hd2⟩, hs2⟩ : ∃ p, b.ma.2[i]? = some p := ⟨b.ma.2[i]'(by rw [FB.out.ma.1, ← HL6.out]; exact hin), List.getElem?_eq_getElem _⟩
               have HX : Hid (a.pl.ma[i]? = some e) := by show a.pl.ma[i]? = _; unfold HistM.pl; simp [hs]
               have HY : Hid (b.pl.ma[i]? = some e2) := by show b.pl.ma[i]? = _; unfold HistM.pl; simp [hs2]
               have R1 := Lib.hid (HM.out.mt _ (List.mem_of_getElem? hs))
               have R2 := Lib.hid (HM2.out.mt _ (List.mem_of_getElem? hs2))
               have hn1 : hd.n ≤ 60 := by have h9 : e.ts.length = hd.n := (FA.out.mt _ (List.mem_of_getElem? hs)).1; have := HSZ.out.2.2.1 e (List.mem_of_getElem? HX.out); omega
               obtain ⟨b1, o1, hA, hbl, hc⟩ := row_cells maCs_len (by omega) (HM.out.ma.below HS.out.below) hs
               obtain ⟨b2, o2, hA2, hbl2, hc2⟩ := row_cells maCs_len (by omega) (HM2.out.ma.below HS.out.below) hs2
               have c0 : wr.cell? ⟨b1, o1 + i * 4, none⟩ = some (.int .i64 e.p) := hc 0 _ rfl
               have c1 : wr.cell? ⟨b1, o1 + i * 4 + 1, none⟩ = some (.int .i64 e.o) := hc 1 _ rfl
               have c2 : wr.cell? ⟨b1, o1 + i * 4 + 2, none⟩ = some (.bool e.fi) := hc 2 _ rfl
               have c3 : wr.cell? ⟨b1, o1 + i * 4 + 3, none⟩ = some (.slice hd.A hd.n hd.c) := hc 3 _ rfl
               have ha1 : Below wr.heap.size wr (wr.alloc (.cells #[.int .i64 e.p, .int .i64 e.o, .bool e.fi, .slice hd.A hd.n hd.c] 64)) := (Below.refl _ _).alloc (Nat.le_refl _) _
               have HS1 := Lib.hid (HS.out.on ha1)
               have z6 : (wr.alloc (.cells #[.int .i64 e.p, .int .i64 e.o, .bool e.fi, .slice hd.A hd.n hd.c] 64)).cell? ⟨Bb, 6, none⟩ = some (.slice b.ma.1.A b.ma.1.n b.ma.1.c) := HS1.out.bb.cell 6
               rw [hA2] at z6
               have d0 : (wr.alloc (.cells #[.int .i64 e.p, .int .i64 e.o, .bool e.fi, .slice hd.A hd.n hd.c] 64)).cell? ⟨b2, o2 + i * 4, none⟩ = some (.int .i64 e2.p) := (ha1.cell (p := ⟨b2, o2 + i * 4, none⟩) (Nat.lt_of_lt_of_le hbl2 HS.out.below.size)).trans (hc2 0 _ rfl)
               have d1 : (wr.alloc (.cells #[.int .i64 e.p, .int .i64 e.o, .bool e.fi, .slice hd.A hd.n hd.c] 64)).cell? ⟨b2, o2 + i * 4 + 1, none⟩ = some (.int .i64 e2.o) := (ha1.cell (p := ⟨b2, o2 + i * 4 + 1, none⟩) (Nat.lt_of_lt_of_le hbl2 HS.out.below.size)).trans (hc2 1 _ rfl)
               have d2 : (wr.alloc (.cells #[.int .i64 e.p, .int .i64 e.o, .bool e.fi, .slice hd.A hd.n hd.c] 64)).cell? ⟨b2, o2 + i * 4 + 2, none⟩ = some (.bool e2.fi) := (ha1.cell (p := ⟨b2, o2 + i * 4 + 2, none⟩) (Nat.lt_of_lt_of_le hbl2 HS.out.below.size)).trans (hc2 2 _ rfl)
               have d3 : (wr.alloc (.cells #[.int .i64 e.p, .int .i64 e.o, .bool e.fi, .slice hd.A hd.n hd.c] 64)).cell? ⟨b2, o2 + i * 4 + 3, none⟩ = some (.slice hd2.A hd2.n hd2.c) := (ha1.cell (p := ⟨b2, o2 + i * 4 + 3, none⟩) (Nat.lt_of_lt_of_le hbl2 HS.out.below.size)).trans (hc2 3 _ rfl)
               have hlt2 : (i : Int) < (b.ma.1.n : Int) := by have := HL6.out; omega
               have ha2 : Below (wr.alloc (.cells #[.int .i64 e.p, .int .i64 e.o, .bool e.fi, .slice hd.A hd.n hd.c] 64)).heap.size (wr.alloc (.cells #[.int .i64 e.p, .int .i64 e.o, .bool e.fi, .slice hd.A hd.n hd.c] 64)) ((wr.alloc (.cells #[.int .i64 e.p, .int .i64 e.o, .bool e.fi, .slice hd.A hd.n hd.c] 64)).alloc (.cells #[.int .i64 e2.p, .int .i64 e2.o, .bool e2.fi, .slice hd2.A hd2.n hd2.c] 64)) := (Below.refl _ _).alloc (Nat.le_refl _) _
               have HS2 := Lib.hid (HS1.out.on ha2)
               have K1 : Hid (Blk ((wr.alloc (.cells #[.int .i64 e.p, .int .i64 e.o, .bool e.fi, .slice hd.A hd.n hd.c] 64)).alloc (.cells #[.int .i64 e2.p, .int .i64 e2.o, .bool e2.fi, .slice hd2.A hd2.n hd2.c] 64)) wr.heap.size 64 #[.int .i64 e.p, .int .i64 e.o, .bool e.fi, .slice hd.A hd.n hd.c]) := (Blk.new _ _ _).below ha2 (by simp)
               have HC := Lib.hid (rnumbers_any hd.A hd2.A hd.n hd2.n hd.c hd2.c e.ts e2.ts (by omega) ((wr.alloc (.cells #[.int .i64 e.p, .int .i64 e.o, .bool e.fi, .slice hd.A hd.n hd.c] 64)).alloc (.cells #[.int .i64 e2.p, .int .i64 e2.o, .bool e2.fi, .slice hd2.A hd2.n hd2.c] 64)) ((R1.out.below HS2.out.below).more HS2.out.below.size) ((R2.out.below HS2.out.below).more HS2.out.below.size))
               rw [hA]
               clear hs hs2 hc hc2 hbl hbl2 hA hA2 ha1 ha2
               go_upto_region 20 with fail
               clear z6 c0 d0 c1 d1 c2 d2 c3 d3
               have K2 : Hid (Blk ((wr.alloc (.cells #[.int .i64 e.p, .int .i64 e.o, .bool e.fi, .slice hd.A hd.n hd.c] 64)).alloc (.cells #[.int .i64 e2.p, .int .i64 e2.o, .bool e2.fi, .slice hd2.A hd2.n hd2.c] 64)) (wr.heap.size + 1) 64 #[.int .i64 e2.p, .int .i64 e2.o, .bool e2.fi, .slice hd2.A hd2.n hd2.c]) := by have := Blk.new (wr.alloc (.cells #[.int .i64 e.p, .int .i64 e.o, .bool e.fi, .slice hd.A hd.n hd.c] 64)) 64 #[.int .i64 e2.p, .int .i64 e2.o, .bool e2.fi, .slice hd2.A hd2.n hd2.c]; rwa [World.size_alloc] at this
               generalize ((wr.alloc (.cells #[.int .i64 e.p, .int .i64 e.o, .bool e.fi, .slice hd.A hd.n hd.c] 64)).alloc (.cells #[.int .i64 e2.p, .int .i64 e2.o, .bool e2.fi, .slice hd2.A hd2.n hd2.c] 64)) = X2 at *
               have c0 : X2.cell? ⟨wr.heap.size, 0, none⟩ = some (.int .i64 e.p) := K1.out.cell 0
               have c1 : X2.cell? ⟨wr.heap.size, 1, none⟩ = some (.int .i64 e.o) := K1.out.cell 1
               have c2 : X2.cell? ⟨wr.heap.size, 2, none⟩ = some (.bool e.fi) := K1.out.cell 2
               have c3 : X2.cell? ⟨wr.heap.size, 3, none⟩ = some (.slice hd.A hd.n hd.c) := K1.out.cell 3
               have d0 : X2.cell? ⟨wr.heap.size + 1, 0, none⟩ = some (.int .i64 e2.p) := K2.out.cell 0
               have d1 : X2.cell? ⟨wr.heap.size + 1, 1, none⟩ = some (.int .i64 e2.o) := K2.out.cell 1
               have d2 : X2.cell? ⟨wr.heap.size + 1, 2, none⟩ = some (.bool e2.fi) := K2.out.cell 2
               have d3 : X2.cell? ⟨wr.heap.size + 1, 3, none⟩ = some (.slice hd2.A hd2.n hd2.c) := K2.out.cell 3
               by_cases hf0 : e.p = e2.p
               ·have hfb0 : (e.p != e2.p) = false := by rw [hf0]; simp
                have HF0 := Lib.hid hf0
                clear hf0
                by_cases hf1 : e.o = e2.o
                ·have hfb1 : (e.o != e2.o) = false := by rw [hf1]; simp
                 have HF1 := Lib.hid hf1
                 clear hf1
                 by_cases hf2 : e.fi = e2.fi
                 ·have hfb2 : (e.fi != e2.fi) = false := by rw [hf2]; simp
                  have hfb2b : (e.fi == e2.fi) = true := by rw [hf2]; simp
                  have HF2 := Lib.hid hf2
                  clear hf2
                  go_wp2_with fail
                  refine HC.out.mono ?_
                  rintro _ w5 ⟨rfl, b5⟩
                  have HS5 := Lib.hid (HS2.out.on b5)
                  clear b5
                  by_cases he : e.ts = e2.ts
                  ·have HT2 := Lib.hid (same_next HT.out HX.out HY.out (by cases e; cases e2; have := HF0.out; have := HF1.out; have := HF2.out; simp_all))
                   rw [show decide (e.ts = e2.ts) = true from decide_eq_true he]
                   clear he
                   go_wp2_with fail
                   go_roundw
                   case rel => exact ⟨i + 1, hin, by go_num, HT2, HS5⟩
                   case measure => simp [intOf]; omega
                  ·have HF : Hid (decide (a.pl = b.pl) = false) := decide_eq_false fun h => same_not HX.out HY.out (fun h2 => he (by rw [h2])) (hist_eq2.1 h).2.2.2.1
                   rw [show decide (e.ts = e2.ts) = false from decide_eq_false he]
                   clear he
                   go_wp2_with fail
                   go_ret
                   exact ⟨by rw [HF.out]; rfl, HS5.out.below⟩
                 ·have hfb2 : (e.fi != e2.fi) = true := by cases h1 : e.fi <;> cases h2 : e2.fi <;> first | rfl | exact absurd (h1.trans h2.symm) hf2
                  have HF : Hid (decide (a.pl = b.pl) = false) := decide_eq_false fun h => same_not HX.out HY.out (fun h2 => hf2 (by rw [h2])) (hist_eq2.1 h).2.2.2.1
                  clear hfb2
                  go_wp2_with fail
                  go_ret
                  exact ⟨by rw [HF.out]; rfl, HS2.out.below⟩
                ·have hfb1 : (e.o != e2.o) = true := by simpa using hf1
                 have HF : Hid (decide (a.pl = b.pl) = false) := decide_eq_false fun h => same_not HX.out HY.out (fun h2 => hf1 (by rw [h2])) (hist_eq2.1 h).2.2.2.1
                 clear hf1
                 go_wp2_with fail
                 go_ret
                 exact ⟨by rw [HF.out]; rfl, HS2.out.below⟩
               ·have hfb0 : (e.p != e2.p) = true := by simpa using hf0
                have HF : Hid (decide (a.pl = b.pl) = false) := decide_eq_false fun h => same_not HX.out HY.out (fun h2 => hf0 (by rw [h2])) (hist_eq2.1 h).2.2.2.1
                clear hf0
                go_wp2_with fail
                go_ret
                exact ⟨by rw [HF.out]; rfl, HS2.out.below⟩
              ·have hie : i = a.ma.1.n := by omega
               have HE6 : Hid (a.pl.ma = b.pl.ma) := same_all HT.out (by rw [hie]; exact Lma.out.1) (by rw [hie, HL6.out]; exact Lma.out.2)
               rw [hie]
               clear hie hin hi0
               rename World => wma
               have y7 : wma.cell? ⟨Ba, 7, none⟩ = some (.slice a.wa.1.A a.wa.1.n a.wa.1.c) := HS.out.ba.cell 7
               go_wp2_with fail
               clear y7
               have hnwa : a.wa.1.n ≤ 200 := by have := HN.out; omega
               go_loopw [169] (fun v wr => ∃ i : Nat, i ≤ a.wa.1.n ∧ v = .int .i64 i ∧ Hid (a.wa.2.take i = b.wa.2.take i) ∧ Hid (S2 a b Ba Bb w wr)) (fun v _ => a.wa.1.n - (intOf v).toNat)
               case atStart => exact ⟨0, Nat.zero_le _, rfl, by simp [Hid], HS⟩
               case round =>
                clear HS
                obtain ⟨i, hi0, rfl, HT, HS⟩ := hrel
                by_cases hin : i < a.wa.1.n
                ·have hlt : (i : Int) < (a.wa.1.n : Int) := by omega
                 obtain ⟨e, hs⟩ : ∃ p, a.wa.2[i]? = some p := ⟨a.wa.2[i]'(by rw [FA.out.wa.1]; exact hin), List.getElem?_eq_getElem _⟩
                 obtain ⟨e2, hs2⟩ : ∃ p, b.wa.2[i]? = some p := ⟨b.wa.2[i]'(by rw [FB.out.wa.1, ← HL7.out]; exact hin), List.getElem?_eq_getElem _⟩
                 have HX := Lib.hid hs
                 have HY := Lib.hid hs2
                 obtain ⟨b1, o1, hA, hbl, hc⟩ := row_cells waCs_len (by omega) (HM.out.wa.below HS.out.below) hs
                 obtain ⟨b2, o2, hA2, hbl2, hc2⟩ := row_cells waCs_len (by omega) (HM2.out.wa.below HS.out.below) hs2
                 have y7 : wr.cell? ⟨Ba, 7, none⟩ = some (.slice a.wa.1.A a.wa.1.n a.wa.1.c) := HS.out.ba.cell 7
                 have z7 : wr.cell? ⟨Bb, 7, none⟩ = some (.slice b.wa.1.A b.wa.1.n b.wa.1.c) := HS.out.bb.cell 7
                 rw [hA] at y7 ⊢
                 rw [hA2] at z7
                 have hlt2 : (i : Int) < (b.wa.1.n : Int) := by have := HL7.out; omega
                 have c0 : wr.cell? ⟨b1, o1 + i * 2, none⟩ = some (.int .i64 e.s) := hc 0 _ rfl
                 have c1 : wr.cell? ⟨b1, o1 + i * 2 + 1, none⟩ = some (.int .i64 e.b) := hc 1 _ rfl
                 have d0 : wr.cell? ⟨b2, o2 + i * 2, none⟩ = some (.int .i64 e2.s) := hc2 0 _ rfl
                 have d1 : wr.cell? ⟨b2, o2 + i * 2 + 1, none⟩ = some (.int .i64 e2.b) := hc2 1 _ rfl
                 clear hs hs2 hc hc2 hbl hbl2 hA hA2
                 by_cases he : e = e2
                 ·have HT2 := Lib.hid (same_next HT.out HX.out HY.out he)
                  subst he
                  go_wp2_with fail
                  go_quiet (fail)
                  go_wp2_with fail
                  go_roundw
                  case rel => exact ⟨i + 1, hin, by go_num, HT2, HS.out.on (below_drewN (Below.refl _ _) _)⟩
                  case measure => simp [intOf]; omega
                 ·have HF : Hid (decide (a.pl = b.pl) = false) := decide_eq_false fun h => same_not HX.out HY.out he (hist_eq2.1 h).2.2.2.2
                  have hne : ((e.s == e2.s) = false) ∨ ((e.s == e2.s) = true ∧ (e.b == e2.b) = false) := by
                   by_cases h0 : e.s = e2.s
                   ·by_cases h1 : e.b = e2.b
                    ·exact absurd (by cases e; cases e2; simp_all) he
                    ·exact .inr ⟨by simpa using h0, by simpa using h1⟩
                   ·exact .inl (by simpa using h0)
                  clear he
                  rcases hne with e0 | ⟨e0, e1⟩
                  all_goals
                   go_wp2_with fail
                   go_quiet (fail)
                   go_wp2_with fail
                   go_ret
                   exact ⟨by rw [HF.out]; rfl, (HS.out.on (below_drewN (Below.refl _ _) _)).below⟩
                ·have hie : i = a.wa.1.n := by omega
                 have HE7 : Hid (a.wa.2 = b.wa.2) := same_all HT.out (by rw [hie]; exact Lwa.out.1) (by rw [hie, HL7.out]; exact Lwa.out.2)
                 rw [hie]
                 clear hie hin hi0
                 have HT : Hid (decide (a.pl = b.pl) = true) := decide_eq_true (hist_eq2.2 ⟨⟨⟨HQ0.out, HQ1.out⟩, HQ2.out, HQ3.out⟩, HE4.out, HE5.out, HE6.out, HE7.out⟩)
                 go_wp2_with fail
                 go_ret
                 exact ⟨by rw [HT.out]; rfl, HS.out.below⟩
        ·have lb7 : ((a.wa.1.n : Int) != (b.wa.1.n : Int)) = true := by simp; omega
         have HF : Hid (decide (a.pl = b.pl) = false) := decide_eq_false fun e => hl7 (by have h9 := congrArg List.length (hist_eq2.1 e).2.2.2.2; rw [Lwa.out.1, Lwa.out.2] at h9; exact h9)
         clear hl7
         go_wp2_with fail
         go_ret
         exact ⟨by rw [HF.out]; rfl, HS.out.below⟩
       ·have lb6 : ((a.ma.1.n : Int) != (b.ma.1.n : Int)) = true := by simp; omega
        have HF : Hid (decide (a.pl = b.pl) = false) := decide_eq_false fun e => hl6 (by have h9 := congrArg List.length (hist_eq2.1 e).2.2.2.1; rw [Lma.out.1, Lma.out.2] at h9; exact h9)
        clear hl6
        go_wp2_with fail
        go_ret
        exact ⟨by rw [HF.out]; rfl, HS.out.below⟩
      ·have lb5 : ((a.od.1.n : Int) != (b.od.1.n : Int)) = true := by simp; omega
       have HF : Hid (decide (a.pl = b.pl) = false) := decide_eq_false fun e => hl5 (by have h9 := congrArg List.length (hist_eq2.1 e).2.2.1; rw [Lod.out.1, Lod.out.2] at h9; exact h9)
       clear hl5
       go_wp2_with fail
       go_ret
       exact ⟨by rw [HF.out]; rfl, HS.out.below⟩
     ·have lb4 : ((a.ev.1.n : Int) != (b.ev.1.n : Int)) = true := by simp; omega
      have HF : Hid (decide (a.pl = b.pl) = false) := decide_eq_false fun e => hl4 (by have h9 := congrArg List.length (hist_eq2.1 e).2.1; rw [Lev.out.1, Lev.out.2] at h9; exact h9)
      clear hl4
      go_wp2_with fail
      go_ret
      exact ⟨by rw [HF.out]; rfl, HS.out.below⟩
end Go.Proofs.YtlnbmmaminflcaaGreatDoor
