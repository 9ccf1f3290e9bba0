/- HistoryCompletes: the walk. -/
import Derived.Test.YtlnbmmaminflcaaGreatDoorU1
import Derived.Test.YtlnbmmaminflcaaGreatDoorC35
import Derived.Test.YtlnbmmaminflcaaGreatDoorC21
import Derived.Test.YtlnbmmaminflcaaGreatDoorC13
-- holds: YtlnbmmaminflcaaGreatDoorSJye
namespace Go.Proofs.YtlnbmmaminflcaaGreatDoor
open Go.RowKit Go.Shelf

theorem com_small2 {H : Hist} (hS : Small H) (h1 : H.ev.length ≤ 80) (h2 : H.tr.length ≤ 20) : Small (comP H) := by
 refine ⟨hS.tr, hS.se, hS.ob, hS.pr, ?_, hS.od, hS.ma, hS.wa, ?_, hS.ot, hS.mt, hS.tx⟩
 ·show (H.ev ++ (leftL H).map abortE).length ≤ 200
  rw [List.length_append, List.length_map]
  have := left_len H
  omega
 ·intro e he
  rcases List.mem_append.1 (show e ∈ H.ev ++ (leftL H).map abortE from he) with h | h
  ·exact hS.sc e h
  ·obtain ⟨t, _, rfl⟩ := List.mem_map.1 h
   simp [abortE]

theorem ofP_le9 {H : Hist} (t : Int) : (ofP H t).length ≤ H.ev.length := by
 unfold ofP
 have := List.length_filter_le (fun i : Int => decide ((H.ev.map (·.t))[i.toNat]? = some t)) (upI H.ev.length)
 rwa [upI_len] at this
def emptyM9 : HistM := ⟨(⟨none, 0, 0⟩, []), (⟨none, 0, 0⟩, []), (⟨none, 0, 0⟩, []), (⟨none, 0, 0⟩, []), (⟨none, 0, 0⟩, []), (⟨none, 0, 0⟩, []), (⟨none, 0, 0⟩, []), (⟨none, 0, 0⟩, [])⟩
theorem empty_rd9 (X : World) (B : Nat) : HRd X B emptyM9 := ⟨Reads.none_, Reads.none_, Reads.none_, Reads.none_, Reads.none_, Reads.none_, Reads.none_, Reads.none_, fun _ h => by simp [emptyM9] at h, fun _ h => by simp [emptyM9] at h, fun _ h => by simp [emptyM9] at h⟩
theorem empty_small9 : Small emptyH := lit_small (by decide +kernel)

set_option maxRecDepth 100000 in
set_option maxHeartbeats 8000000 in
theorem compl_core (m : HistM) (A : Option Addr) (nn cc : Nat) (ts : List Int) (w : World) (hT : Tabs w) (ha : HArg w m) (hts : Reads w w.heap.size 1 A nn (ints ts)) : Calls Tryz.prog 5 #[.agg #[.slice m.tr.1.A m.tr.1.n m.tr.1.c, .slice m.se.1.A m.se.1.n m.se.1.c, .slice m.ob.1.A m.ob.1.n m.ob.1.c, .slice m.pr.1.A m.pr.1.n m.pr.1.c, .slice m.ev.1.A m.ev.1.n m.ev.1.c, .slice m.od.1.A m.od.1.n m.od.1.c, .slice m.ma.1.A m.ma.1.n m.ma.1.c, .slice m.wa.1.A m.wa.1.n m.wa.1.c], .slice A nn cc] w fun x w' => x = .returned (.bool true) ∧ Below w.heap.size w w' := by
 obtain ⟨kh, b0, hs0⟩ := ibox w #[.slice m.tr.1.A m.tr.1.n m.tr.1.c, .slice m.se.1.A m.se.1.n m.se.1.c, .slice m.ob.1.A m.ob.1.n m.ob.1.c, .slice m.pr.1.A m.pr.1.n m.pr.1.c, .slice m.ev.1.A m.ev.1.n m.ev.1.c, .slice m.od.1.A m.od.1.n m.od.1.c, .slice m.ma.1.A m.ma.1.n m.ma.1.c, .slice m.wa.1.A m.wa.1.n m.wa.1.c] 28
 obtain ⟨W0, hW0⟩ : ∃ W0, W0 = w.alloc (.cells #[.slice m.tr.1.A m.tr.1.n m.tr.1.c, .slice m.se.1.A m.se.1.n m.se.1.c, .slice m.ob.1.A m.ob.1.n m.ob.1.c, .slice m.pr.1.A m.pr.1.n m.pr.1.c, .slice m.ev.1.A m.ev.1.n m.ev.1.c, .slice m.od.1.A m.od.1.n m.od.1.c, .slice m.ma.1.A m.ma.1.n m.ma.1.c, .slice m.wa.1.A m.wa.1.n m.wa.1.c] 28) := ⟨_, rfl⟩
 rw [← hW0] at kh b0
 have KH : Hid (Blk W0 w.heap.size 28 m.cs) := kh
 have BW := Lib.hid b0
 have HT := Lib.hid hT
 have HARG := Lib.hid ha
 have HS := Lib.hid (few_small m.pl)
 have HTS := Lib.hid hts
 have LTS := Lib.hid (ints_len hts)
 clear kh b0 hs0 hT ha hts
 go_enter Tryz.func5, Tryz.ntmps5
 go_upto_region 1 with fail
 rw [← hW0]
 clear hW0
 go_wp2_with fail
 refine (wakes11_any W0 (HT.out.on BW.out (Nat.le_refl _))).mono ?_
 rintro _ W1 ⟨rfl, bb⟩
 have KH := Lib.hid (KH.out.below bb KH.out.lt)
 have BW := Lib.hid (BW.out.trans (bb.mono BW.out.size))
 clear bb
 obtain ⟨z0, z1, z2, z3, z4, z5, z6, z7⟩ := c8 KH.out
 go_wp2_with fail
 refine (few11_any m W1 (HARG.out.on BW.out)).mono ?_
 rintro _ Y ⟨h, rfl, ho, hp, bb⟩
 have hbx := HBx.new (w := w) ho BW.out.size #[.slice h.tr.1.A h.tr.1.n h.tr.1.c, .slice h.se.1.A h.se.1.n h.se.1.c, .slice h.ob.1.A h.ob.1.n h.ob.1.c, .slice h.pr.1.A h.pr.1.n h.pr.1.c, .slice h.ev.1.A h.ev.1.n h.ev.1.c, .slice h.od.1.A h.od.1.n h.od.1.c, .slice h.ma.1.A h.ma.1.n h.ma.1.c, .slice h.wa.1.A h.wa.1.n h.wa.1.c] rfl
 have b2 : Below Y.heap.size Y (Y.alloc (.cells #[.slice h.tr.1.A h.tr.1.n h.tr.1.c, .slice h.se.1.A h.se.1.n h.se.1.c, .slice h.ob.1.A h.ob.1.n h.ob.1.c, .slice h.pr.1.A h.pr.1.n h.pr.1.c, .slice h.ev.1.A h.ev.1.n h.ev.1.c, .slice h.od.1.A h.od.1.n h.od.1.c, .slice h.ma.1.A h.ma.1.n h.ma.1.c, .slice h.wa.1.A h.wa.1.n h.wa.1.c] 28)) := (Below.refl _ _).alloc (Nat.le_refl _) _
 have bb := bb.trans (b2.mono bb.size)
 have KH := Lib.hid (KH.out.below bb KH.out.lt)
 have BW := Lib.hid (BW.out.trans (bb.mono BW.out.size))
 have HPh := Lib.hid hp
 have HH := Lib.hid hbx
 clear z0 z1 z2 z3 z4 z5 z6 z7 ho hp bb b2 hbx
 go_upto_region 4 with fail
 generalize Y.alloc (.cells #[.slice h.tr.1.A h.tr.1.n h.tr.1.c, .slice h.se.1.A h.se.1.n h.se.1.c, .slice h.ob.1.A h.ob.1.n h.ob.1.c, .slice h.pr.1.A h.pr.1.n h.pr.1.c, .slice h.ev.1.A h.ev.1.n h.ev.1.c, .slice h.od.1.A h.od.1.n h.od.1.c, .slice h.ma.1.A h.ma.1.n h.ma.1.c, .slice h.wa.1.A h.wa.1.n h.wa.1.c] 28) = Xh at *
 generalize Y.heap.size = Bh at *
 have HSh : Hid (Small h.pl) := by show Small h.pl; rw [HPh.out]; exact HS.out
 have HEV : Hid (h.pl.ev.length ≤ 80) := by show h.pl.ev.length ≤ 80; rw [HPh.out]; exact few_ev m.pl
 have HTR : Hid (h.pl.tr.length ≤ 20) := by show h.pl.tr.length ≤ 20; rw [HPh.out]; exact few_tr m.pl
 obtain ⟨z0, z1, z2, z3, z4, z5, z6, z7⟩ := c8 HH.out.blk
 go_wp2_with fail
 refine (complete_any h HSh.out Xh (HT.out.on BW.out (Nat.le_refl _)) HH.out.rd).mono ?_
 rintro _ Y ⟨c, rfl, ho, hp, bb⟩
 have hbx := HBx.new (w := Xh) ho (Nat.le_refl _) #[.slice c.tr.1.A c.tr.1.n c.tr.1.c, .slice c.se.1.A c.se.1.n c.se.1.c, .slice c.ob.1.A c.ob.1.n c.ob.1.c, .slice c.pr.1.A c.pr.1.n c.pr.1.c, .slice c.ev.1.A c.ev.1.n c.ev.1.c, .slice c.od.1.A c.od.1.n c.od.1.c, .slice c.ma.1.A c.ma.1.n c.ma.1.c, .slice c.wa.1.A c.wa.1.n c.wa.1.c] rfl
 have b2 : Below Y.heap.size Y (Y.alloc (.cells #[.slice c.tr.1.A c.tr.1.n c.tr.1.c, .slice c.se.1.A c.se.1.n c.se.1.c, .slice c.ob.1.A c.ob.1.n c.ob.1.c, .slice c.pr.1.A c.pr.1.n c.pr.1.c, .slice c.ev.1.A c.ev.1.n c.ev.1.c, .slice c.od.1.A c.od.1.n c.od.1.c, .slice c.ma.1.A c.ma.1.n c.ma.1.c, .slice c.wa.1.A c.wa.1.n c.wa.1.c] 28)) := (Below.refl _ _).alloc (Nat.le_refl _) _
 have BX : Hid (Below Xh.heap.size Xh (Y.alloc (.cells #[.slice c.tr.1.A c.tr.1.n c.tr.1.c, .slice c.se.1.A c.se.1.n c.se.1.c, .slice c.ob.1.A c.ob.1.n c.ob.1.c, .slice c.pr.1.A c.pr.1.n c.pr.1.c, .slice c.ev.1.A c.ev.1.n c.ev.1.c, .slice c.od.1.A c.od.1.n c.od.1.c, .slice c.ma.1.A c.ma.1.n c.ma.1.c, .slice c.wa.1.A c.wa.1.n c.wa.1.c] 28))) := bb.trans (b2.mono bb.size)
 have HC := Lib.hid hbx
 have HPc := Lib.hid hp
 clear z0 z1 z2 z3 z4 z5 z6 z7 ho hp bb b2 hbx
 go_upto_region 5 with fail
 generalize Y.alloc (.cells #[.slice c.tr.1.A c.tr.1.n c.tr.1.c, .slice c.se.1.A c.se.1.n c.se.1.c, .slice c.ob.1.A c.ob.1.n c.ob.1.c, .slice c.pr.1.A c.pr.1.n c.pr.1.c, .slice c.ev.1.A c.ev.1.n c.ev.1.c, .slice c.od.1.A c.od.1.n c.od.1.c, .slice c.ma.1.A c.ma.1.n c.ma.1.c, .slice c.wa.1.A c.wa.1.n c.wa.1.c] 28) = Xc at *
 generalize Y.heap.size = Bc at *
 obtain ⟨z0, z1, z2, z3, z4, z5, z6, z7⟩ := c8 ((HH.out.on BX.out).blk)
 go_wp2_with fail
 refine (rright11_any h HSh.out HH.out.own.caps Xc (HH.out.on BX.out).rd).mono ?_
 rintro _ X1 ⟨rfl, bb⟩
 clear z0 z1 z2 z3 z4 z5 z6 z7
 have HC := Lib.hid (HC.out.on bb)
 have BX := Lib.hid (BX.out.trans (bb.mono BX.out.size))
 clear bb
 cases hr : rightB h.pl
 ·have HCE : Hid (checkE h.pl = 210) := checkE_no hr
  have HR := Lib.hid hr
  have HPC : Hid (c.pl = emptyH) := by show c.pl = _; rw [HPc.out, if_neg (by rw [hr]; simp)]
  have HSc : Hid (Small c.pl) := by show Small c.pl; rw [HPC.out]; exact empty_small9
  clear hr HPc
  rw [HCE.out]
  obtain ⟨z0, z1, z2, z3, z4, z5, z6, z7⟩ := c8 HC.out.blk
  go_wp2_with fail
  refine (rsame11_any c emptyM9 HSc.out empty_small9 X1 HC.out.rd (empty_rd9 _ _)).mono ?_
  rintro _ X2 ⟨rfl, bb⟩
  clear z0 z1 z2 z3 z4 z5 z6 z7
  rw [show decide (c.pl = emptyM9.pl) = true from decide_eq_true HPC.out]
  have HC := Lib.hid (HC.out.on bb)
  have BX := Lib.hid (BX.out.trans (bb.mono BX.out.size))
  clear bb
  go_upto_region 12 with fail
  obtain ⟨z0, z1, z2, z3, z4, z5, z6, z7⟩ := c8 HC.out.blk
  go_wp2_with fail
  refine (spoil11_any Xh.heap.size c HSc.out X2 BX.out.size HC.out.own).mono ?_
  rintro _ X5 ⟨rfl, bb⟩
  clear z0 z1 z2 z3 z4 z5 z6 z7
  have BX := Lib.hid (BX.out.trans bb)
  clear bb HC
  go_wp2_with fail
  go_loopw [58] (fun v wr => ∃ i : Nat, i ≤ nn ∧ i ≤ 8 ∧ v = .int .i64 i ∧ Hid (Below Xh.heap.size Xh wr)) (fun v _ => 8 - (intOf v).toNat)
  case atStart => exact ⟨0, Nat.zero_le _, by omega, rfl, BX⟩
  case round =>
   clear BX
   obtain ⟨i, hin0, hi8, rfl, BX⟩ := hrel
   by_cases hin : i < nn
   ·have hlt : (i : Int) < (nn : Int) := by omega
    obtain ⟨z, hz⟩ : ∃ z, ts[i]? = some z := ⟨ts[i]'(by rw [LTS.out]; exact hin), List.getElem?_eq_getElem _⟩
    obtain ⟨b, o, hA, hb, g0⟩ := int_at (HTS.out.below (BW.out.trans (BX.out.mono BW.out.size))) hz
    rw [hA]
    clear hA hb hz
    by_cases h8 : i = 8
    ·have hb8 : ((i : Int) == 8) = true := by rw [h8]; rfl
     clear h8 hin hin0 hi8
     go_upto_region 24 with fail
     clear hb8 hlt g0
     refine wp_region_noPanic ?_
     refine wp_region_held_drew (S := fun W' : World => W'.cell? ⟨Bh, 0, none⟩ = some (.slice h.tr.1.A h.tr.1.n h.tr.1.c) ∧ W'.cell? ⟨Bh, 1, none⟩ = some (.slice h.se.1.A h.se.1.n h.se.1.c) ∧ W'.cell? ⟨Bh, 2, none⟩ = some (.slice h.ob.1.A h.ob.1.n h.ob.1.c) ∧ W'.cell? ⟨Bh, 3, none⟩ = some (.slice h.pr.1.A h.pr.1.n h.pr.1.c) ∧ W'.cell? ⟨Bh, 4, none⟩ = some (.slice h.ev.1.A h.ev.1.n h.ev.1.c) ∧ W'.cell? ⟨Bh, 5, none⟩ = some (.slice h.od.1.A h.od.1.n h.od.1.c) ∧ W'.cell? ⟨Bh, 6, none⟩ = some (.slice h.ma.1.A h.ma.1.n h.ma.1.c) ∧ W'.cell? ⟨Bh, 7, none⟩ = some (.slice h.wa.1.A h.wa.1.n h.wa.1.c) ∧ W'.cell? ⟨w.heap.size, 0, none⟩ = some (.slice m.tr.1.A m.tr.1.n m.tr.1.c) ∧ W'.cell? ⟨w.heap.size, 1, none⟩ = some (.slice m.se.1.A m.se.1.n m.se.1.c) ∧ W'.cell? ⟨w.heap.size, 2, none⟩ = some (.slice m.ob.1.A m.ob.1.n m.ob.1.c) ∧ W'.cell? ⟨w.heap.size, 3, none⟩ = some (.slice m.pr.1.A m.pr.1.n m.pr.1.c) ∧ W'.cell? ⟨w.heap.size, 4, none⟩ = some (.slice m.ev.1.A m.ev.1.n m.ev.1.c) ∧ W'.cell? ⟨w.heap.size, 5, none⟩ = some (.slice m.od.1.A m.od.1.n m.od.1.c) ∧ W'.cell? ⟨w.heap.size, 6, none⟩ = some (.slice m.ma.1.A m.ma.1.n m.ma.1.c) ∧ W'.cell? ⟨w.heap.size, 7, none⟩ = some (.slice m.wa.1.A m.wa.1.n m.wa.1.c)) (by kernel_rfl) ⟨(HH.out.on BX.out).blk.cell 0, (HH.out.on BX.out).blk.cell 1, (HH.out.on BX.out).blk.cell 2, (HH.out.on BX.out).blk.cell 3, (HH.out.on BX.out).blk.cell 4, (HH.out.on BX.out).blk.cell 5, (HH.out.on BX.out).blk.cell 6, (HH.out.on BX.out).blk.cell 7, (KH.out.below BX.out KH.out.lt).cell 0, (KH.out.below BX.out KH.out.lt).cell 1, (KH.out.below BX.out KH.out.lt).cell 2, (KH.out.below BX.out KH.out.lt).cell 3, (KH.out.below BX.out KH.out.lt).cell 4, (KH.out.below BX.out KH.out.lt).cell 5, (KH.out.below BX.out KH.out.lt).cell 6, (KH.out.below BX.out KH.out.lt).cell 7⟩ (fun hHeld => ?_)
     have BX := Lib.hid BX.out.drew
     generalize wr.drew = wd at *
     refine tkv 0 (some 91) (.agg #[.slice h.tr.1.A h.tr.1.n h.tr.1.c, .slice h.se.1.A h.se.1.n h.se.1.c, .slice h.ob.1.A h.ob.1.n h.ob.1.c, .slice h.pr.1.A h.pr.1.n h.pr.1.c, .slice h.ev.1.A h.ev.1.n h.ev.1.c, .slice h.od.1.A h.od.1.n h.od.1.c, .slice h.ma.1.A h.ma.1.n h.ma.1.c, .slice h.wa.1.A h.wa.1.n h.wa.1.c]) rfl rfl (fun w' hSw => by (try dsimp only at hSw); go_simp) ?_
     try simp only [Act.put, sA, sB, sC]
     refine tkv 1 (some 92) (.agg #[.slice m.tr.1.A m.tr.1.n m.tr.1.c, .slice m.se.1.A m.se.1.n m.se.1.c, .slice m.ob.1.A m.ob.1.n m.ob.1.c, .slice m.pr.1.A m.pr.1.n m.pr.1.c, .slice m.ev.1.A m.ev.1.n m.ev.1.c, .slice m.od.1.A m.od.1.n m.od.1.c, .slice m.ma.1.A m.ma.1.n m.ma.1.c, .slice m.wa.1.A m.wa.1.n m.wa.1.c]) rfl rfl (fun w' hSw => by (try dsimp only at hSw); go_simp) ?_
     try simp only [Act.put, sA, sB, sC]
     refine wpAnyH_ready (rs := [2]) (by kernel_rfl) (by simp) ?_
     refine AllReadyH.cons rfl (fun K hK => ?_) ?_
     ·skip
      go_simp
      refine (few11_any m wd (HARG.out.on (BW.out.trans (BX.out.mono BW.out.size)))).mono ?_
      rintro _ y2 ⟨g, rfl, hog, hpg, bb⟩
      have HOG := Lib.hid hog
      have HPG := Lib.hid hpg
      have BX := Lib.hid (BX.out.trans (bb.mono BX.out.size))
      clear hog hpg bb hHeld
      go_simp
      refine hK.out _ _ ⟨(HH.out.on BX.out).blk.cell 0, (HH.out.on BX.out).blk.cell 1, (HH.out.on BX.out).blk.cell 2, (HH.out.on BX.out).blk.cell 3, (HH.out.on BX.out).blk.cell 4, (HH.out.on BX.out).blk.cell 5, (HH.out.on BX.out).blk.cell 6, (HH.out.on BX.out).blk.cell 7, (KH.out.below BX.out KH.out.lt).cell 0, (KH.out.below BX.out KH.out.lt).cell 1, (KH.out.below BX.out KH.out.lt).cell 2, (KH.out.below BX.out KH.out.lt).cell 3, (KH.out.below BX.out KH.out.lt).cell 4, (KH.out.below BX.out KH.out.lt).cell 5, (KH.out.below BX.out KH.out.lt).cell 6, (KH.out.below BX.out KH.out.lt).cell 7⟩ (fun hHeld => ?_)
      clear hK K
      try simp only [Act.put, sA, sB, sC]
      refine wpAnyH_ready (rs := [3]) (by kernel_rfl) (by simp) ?_
      refine AllReadyH.cons rfl (fun K hK => ?_) ?_
      ·skip
       go_simp
       refine (rsame11_any h g HSh.out (by rw [HPG.out]; exact HS.out) y2 (HH.out.on BX.out).rd HOG.out.rd).mono ?_
       rintro e9 y3 ⟨he9, bb⟩
       obtain rfl : e9 = .returned (.bool true) := by rw [he9, show decide (h.pl = g.pl) = true from decide_eq_true (HPh.out.trans HPG.out.symm)]
       have BX := Lib.hid (BX.out.trans (bb.mono BX.out.size))
       clear he9 bb hHeld
       go_simp
       refine hK.out _ _ ⟨(HH.out.on BX.out).blk.cell 0, (HH.out.on BX.out).blk.cell 1, (HH.out.on BX.out).blk.cell 2, (HH.out.on BX.out).blk.cell 3, (HH.out.on BX.out).blk.cell 4, (HH.out.on BX.out).blk.cell 5, (HH.out.on BX.out).blk.cell 6, (HH.out.on BX.out).blk.cell 7, (KH.out.below BX.out KH.out.lt).cell 0, (KH.out.below BX.out KH.out.lt).cell 1, (KH.out.below BX.out KH.out.lt).cell 2, (KH.out.below BX.out KH.out.lt).cell 3, (KH.out.below BX.out KH.out.lt).cell 4, (KH.out.below BX.out KH.out.lt).cell 5, (KH.out.below BX.out KH.out.lt).cell 6, (KH.out.below BX.out KH.out.lt).cell 7⟩ (fun hHeld => ?_)
       clear hK K
       try simp only [Act.put, sA, sB, sC]
       refine tkv 4 (some 4) (.bool true) rfl rfl (fun w' hSw => by (try dsimp only at hSw); go_simp) ?_
       try simp only [Act.put, sA, sB, sC]
       refine wpAnyH_done (by kernel_rfl) ?_ _
       refine NoPanic.normal ?_
       go_wp2_with fail
       go_ret
       exact ⟨rfl, (BW.out.trans (BX.out.mono BW.out.size))⟩
      exact AllReadyH.nil
     exact AllReadyH.nil
    ·have hb8 : ((i : Int) == 8) = false := by simp; omega
     obtain ⟨z0, z1, z2, z3, z4, z5, z6, z7⟩ := c8 ((HH.out.on BX.out).blk)
     go_wp2_with fail
     refine (of11_any h z HSh.out wr (HT.out.on (BW.out.trans (BX.out.mono BW.out.size)) (Nat.le_refl _)) (HH.out.on BX.out).rd).mono ?_
     rintro _ x1 ⟨A5, c5, xs, rfl, ho, bb, hxs⟩
     clear z0 z1 z2 z3 z4 z5 z6 z7
     rw [HCE.out]
     have BX := Lib.hid (BX.out.trans (bb.mono BX.out.size))
     rw [HR.out] at hxs
     obtain rfl : xs = [] := hxs
     clear ho bb
     go_wp2_with fail
     go_roundw
     case rel => exact ⟨i + 1, hin, by omega, by go_num, BX⟩
     case measure => simp [intOf]; omega
   ·have hie : i = nn := by omega
    have hnl : ¬ ((i : Int) < (nn : Int)) := by omega
    clear hie hin hin0 hi8
    go_upto_region 24 with fail
    clear hnl
    refine wp_region_noPanic ?_
    refine wp_region_held_drew (S := fun W' : World => W'.cell? ⟨Bh, 0, none⟩ = some (.slice h.tr.1.A h.tr.1.n h.tr.1.c) ∧ W'.cell? ⟨Bh, 1, none⟩ = some (.slice h.se.1.A h.se.1.n h.se.1.c) ∧ W'.cell? ⟨Bh, 2, none⟩ = some (.slice h.ob.1.A h.ob.1.n h.ob.1.c) ∧ W'.cell? ⟨Bh, 3, none⟩ = some (.slice h.pr.1.A h.pr.1.n h.pr.1.c) ∧ W'.cell? ⟨Bh, 4, none⟩ = some (.slice h.ev.1.A h.ev.1.n h.ev.1.c) ∧ W'.cell? ⟨Bh, 5, none⟩ = some (.slice h.od.1.A h.od.1.n h.od.1.c) ∧ W'.cell? ⟨Bh, 6, none⟩ = some (.slice h.ma.1.A h.ma.1.n h.ma.1.c) ∧ W'.cell? ⟨Bh, 7, none⟩ = some (.slice h.wa.1.A h.wa.1.n h.wa.1.c) ∧ W'.cell? ⟨w.heap.size, 0, none⟩ = some (.slice m.tr.1.A m.tr.1.n m.tr.1.c) ∧ W'.cell? ⟨w.heap.size, 1, none⟩ = some (.slice m.se.1.A m.se.1.n m.se.1.c) ∧ W'.cell? ⟨w.heap.size, 2, none⟩ = some (.slice m.ob.1.A m.ob.1.n m.ob.1.c) ∧ W'.cell? ⟨w.heap.size, 3, none⟩ = some (.slice m.pr.1.A m.pr.1.n m.pr.1.c) ∧ W'.cell? ⟨w.heap.size, 4, none⟩ = some (.slice m.ev.1.A m.ev.1.n m.ev.1.c) ∧ W'.cell? ⟨w.heap.size, 5, none⟩ = some (.slice m.od.1.A m.od.1.n m.od.1.c) ∧ W'.cell? ⟨w.heap.size, 6, none⟩ = some (.slice m.ma.1.A m.ma.1.n m.ma.1.c) ∧ W'.cell? ⟨w.heap.size, 7, none⟩ = some (.slice m.wa.1.A m.wa.1.n m.wa.1.c)) (by kernel_rfl) ⟨(HH.out.on BX.out).blk.cell 0, (HH.out.on BX.out).blk.cell 1, (HH.out.on BX.out).blk.cell 2, (HH.out.on BX.out).blk.cell 3, (HH.out.on BX.out).blk.cell 4, (HH.out.on BX.out).blk.cell 5, (HH.out.on BX.out).blk.cell 6, (HH.out.on BX.out).blk.cell 7, (KH.out.below BX.out KH.out.lt).cell 0, (KH.out.below BX.out KH.out.lt).cell 1, (KH.out.below BX.out KH.out.lt).cell 2, (KH.out.below BX.out KH.out.lt).cell 3, (KH.out.below BX.out KH.out.lt).cell 4, (KH.out.below BX.out KH.out.lt).cell 5, (KH.out.below BX.out KH.out.lt).cell 6, (KH.out.below BX.out KH.out.lt).cell 7⟩ (fun hHeld => ?_)
    have BX := Lib.hid BX.out.drew
    generalize wr.drew = wd at *
    refine tkv 0 (some 91) (.agg #[.slice h.tr.1.A h.tr.1.n h.tr.1.c, .slice h.se.1.A h.se.1.n h.se.1.c, .slice h.ob.1.A h.ob.1.n h.ob.1.c, .slice h.pr.1.A h.pr.1.n h.pr.1.c, .slice h.ev.1.A h.ev.1.n h.ev.1.c, .slice h.od.1.A h.od.1.n h.od.1.c, .slice h.ma.1.A h.ma.1.n h.ma.1.c, .slice h.wa.1.A h.wa.1.n h.wa.1.c]) rfl rfl (fun w' hSw => by (try dsimp only at hSw); go_simp) ?_
    try simp only [Act.put, sA, sB, sC]
    refine tkv 1 (some 92) (.agg #[.slice m.tr.1.A m.tr.1.n m.tr.1.c, .slice m.se.1.A m.se.1.n m.se.1.c, .slice m.ob.1.A m.ob.1.n m.ob.1.c, .slice m.pr.1.A m.pr.1.n m.pr.1.c, .slice m.ev.1.A m.ev.1.n m.ev.1.c, .slice m.od.1.A m.od.1.n m.od.1.c, .slice m.ma.1.A m.ma.1.n m.ma.1.c, .slice m.wa.1.A m.wa.1.n m.wa.1.c]) rfl rfl (fun w' hSw => by (try dsimp only at hSw); go_simp) ?_
    try simp only [Act.put, sA, sB, sC]
    refine wpAnyH_ready (rs := [2]) (by kernel_rfl) (by simp) ?_
    refine AllReadyH.cons rfl (fun K hK => ?_) ?_
    ·skip
     go_simp
     refine (few11_any m wd (HARG.out.on (BW.out.trans (BX.out.mono BW.out.size)))).mono ?_
     rintro _ y2 ⟨g, rfl, hog, hpg, bb⟩
     have HOG := Lib.hid hog
     have HPG := Lib.hid hpg
     have BX := Lib.hid (BX.out.trans (bb.mono BX.out.size))
     clear hog hpg bb hHeld
     go_simp
     refine hK.out _ _ ⟨(HH.out.on BX.out).blk.cell 0, (HH.out.on BX.out).blk.cell 1, (HH.out.on BX.out).blk.cell 2, (HH.out.on BX.out).blk.cell 3, (HH.out.on BX.out).blk.cell 4, (HH.out.on BX.out).blk.cell 5, (HH.out.on BX.out).blk.cell 6, (HH.out.on BX.out).blk.cell 7, (KH.out.below BX.out KH.out.lt).cell 0, (KH.out.below BX.out KH.out.lt).cell 1, (KH.out.below BX.out KH.out.lt).cell 2, (KH.out.below BX.out KH.out.lt).cell 3, (KH.out.below BX.out KH.out.lt).cell 4, (KH.out.below BX.out KH.out.lt).cell 5, (KH.out.below BX.out KH.out.lt).cell 6, (KH.out.below BX.out KH.out.lt).cell 7⟩ (fun hHeld => ?_)
     clear hK K
     try simp only [Act.put, sA, sB, sC]
     refine wpAnyH_ready (rs := [3]) (by kernel_rfl) (by simp) ?_
     refine AllReadyH.cons rfl (fun K hK => ?_) ?_
     ·skip
      go_simp
      refine (rsame11_any h g HSh.out (by rw [HPG.out]; exact HS.out) y2 (HH.out.on BX.out).rd HOG.out.rd).mono ?_
      rintro e9 y3 ⟨he9, bb⟩
      obtain rfl : e9 = .returned (.bool true) := by rw [he9, show decide (h.pl = g.pl) = true from decide_eq_true (HPh.out.trans HPG.out.symm)]
      have BX := Lib.hid (BX.out.trans (bb.mono BX.out.size))
      clear he9 bb hHeld
      go_simp
      refine hK.out _ _ ⟨(HH.out.on BX.out).blk.cell 0, (HH.out.on BX.out).blk.cell 1, (HH.out.on BX.out).blk.cell 2, (HH.out.on BX.out).blk.cell 3, (HH.out.on BX.out).blk.cell 4, (HH.out.on BX.out).blk.cell 5, (HH.out.on BX.out).blk.cell 6, (HH.out.on BX.out).blk.cell 7, (KH.out.below BX.out KH.out.lt).cell 0, (KH.out.below BX.out KH.out.lt).cell 1, (KH.out.below BX.out KH.out.lt).cell 2, (KH.out.below BX.out KH.out.lt).cell 3, (KH.out.below BX.out KH.out.lt).cell 4, (KH.out.below BX.out KH.out.lt).cell 5, (KH.out.below BX.out KH.out.lt).cell 6, (KH.out.below BX.out KH.out.lt).cell 7⟩ (fun hHeld => ?_)
      clear hK K
      try simp only [Act.put, sA, sB, sC]
      refine tkv 4 (some 4) (.bool true) rfl rfl (fun w' hSw => by (try dsimp only at hSw); go_simp) ?_
      try simp only [Act.put, sA, sB, sC]
      refine wpAnyH_done (by kernel_rfl) ?_ _
      refine NoPanic.normal ?_
      go_wp2_with fail
      go_ret
      exact ⟨rfl, (BW.out.trans (BX.out.mono BW.out.size))⟩
     exact AllReadyH.nil
    exact AllReadyH.nil
 ·have HCE : Hid (checkE h.pl = 0) := checkE_ok hr
  have HR := Lib.hid hr
  have HPC : Hid (c.pl = comP h.pl) := by show c.pl = _; rw [HPc.out, if_pos hr]
  have HSc : Hid (Small c.pl) := by show Small c.pl; rw [HPC.out]; exact com_small2 HSh.out HEV.out HTR.out
  clear hr HPc
  rw [HCE.out]
  obtain ⟨z0, z1, z2, z3, z4, z5, z6, z7⟩ := c8 ((KH.out.below BX.out KH.out.lt))
  go_wp2_with fail
  refine (few11_any m X1 (HARG.out.on (BW.out.trans (BX.out.mono BW.out.size)))).mono ?_
  rintro _ X2 ⟨g, rfl, hog, hpg, bb⟩
  clear z0 z1 z2 z3 z4 z5 z6 z7
  have HC := Lib.hid (HC.out.on bb)
  have BX := Lib.hid (BX.out.trans (bb.mono BX.out.size))
  have HOG := Lib.hid hog
  have HPG := Lib.hid hpg
  clear hog hpg bb
  go_wp2_with fail
  refine (rcomplete11_any g (by rw [HPG.out]; exact HS.out) X2 HOG.out.rd).mono ?_
  rintro _ X3 ⟨n, rfl, hrn, hpn, bb⟩
  have HC := Lib.hid (HC.out.on bb)
  have BX := Lib.hid (BX.out.trans (bb.mono BX.out.size))
  have hal : Below X3.heap.size X3 (X3.alloc (.cells #[.slice n.tr.1.A n.tr.1.n n.tr.1.c, .slice n.se.1.A n.se.1.n n.se.1.c, .slice n.ob.1.A n.ob.1.n n.ob.1.c, .slice n.pr.1.A n.pr.1.n n.pr.1.c, .slice n.ev.1.A n.ev.1.n n.ev.1.c, .slice n.od.1.A n.od.1.n n.od.1.c, .slice n.ma.1.A n.ma.1.n n.ma.1.c, .slice n.wa.1.A n.wa.1.n n.wa.1.c] 28)) := (Below.refl _ _).alloc (Nat.le_refl _) _
  have KN : Hid (Blk (X3.alloc (.cells #[.slice n.tr.1.A n.tr.1.n n.tr.1.c, .slice n.se.1.A n.se.1.n n.se.1.c, .slice n.ob.1.A n.ob.1.n n.ob.1.c, .slice n.pr.1.A n.pr.1.n n.pr.1.c, .slice n.ev.1.A n.ev.1.n n.ev.1.c, .slice n.od.1.A n.od.1.n n.od.1.c, .slice n.ma.1.A n.ma.1.n n.ma.1.c, .slice n.wa.1.A n.wa.1.n n.wa.1.c] 28)) X3.heap.size 28 n.cs) := Blk.new _ _ _
  have HRN := Lib.hid (hrn.on_ hal)
  have HPN : Hid (n.pl = c.pl) := by show n.pl = _; rw [hpn, HPC.out, HPG.out, HPh.out]
  clear hpn hrn bb
  have HC := Lib.hid (HC.out.on hal)
  have BX := Lib.hid (BX.out.trans (hal.mono BX.out.size))
  clear hal
  go_upto_region 10 with fail
  generalize X3.alloc (.cells #[.slice n.tr.1.A n.tr.1.n n.tr.1.c, .slice n.se.1.A n.se.1.n n.se.1.c, .slice n.ob.1.A n.ob.1.n n.ob.1.c, .slice n.pr.1.A n.pr.1.n n.pr.1.c, .slice n.ev.1.A n.ev.1.n n.ev.1.c, .slice n.od.1.A n.od.1.n n.od.1.c, .slice n.ma.1.A n.ma.1.n n.ma.1.c, .slice n.wa.1.A n.wa.1.n n.wa.1.c] 28) = X4 at *
  generalize X3.heap.size = Bn at *
  obtain ⟨z0, z1, z2, z3, z4, z5, z6, z7⟩ := c8 HC.out.blk
  obtain ⟨y0, y1, y2, y3, y4, y5, y6, y7⟩ := c8 KN.out
  go_wp2_with fail
  refine (rsame11_any c n HSc.out (by rw [HPN.out]; exact HSc.out) X4 HC.out.rd HRN.out).mono ?_
  rintro _ X6 ⟨rfl, bb⟩
  clear z0 z1 z2 z3 z4 z5 z6 z7
  clear y0 y1 y2 y3 y4 y5 y6 y7
  rw [show decide (c.pl = n.pl) = true from decide_eq_true HPN.out.symm]
  have HC := Lib.hid (HC.out.on bb)
  have BX := Lib.hid (BX.out.trans (bb.mono BX.out.size))
  clear bb KN HRN
  go_upto_region 12 with fail
  obtain ⟨z0, z1, z2, z3, z4, z5, z6, z7⟩ := c8 HC.out.blk
  go_wp2_with fail
  refine (spoil11_any Xh.heap.size c HSc.out X6 BX.out.size HC.out.own).mono ?_
  rintro _ X5 ⟨rfl, bb⟩
  clear z0 z1 z2 z3 z4 z5 z6 z7
  have BX := Lib.hid (BX.out.trans bb)
  clear bb HC
  go_wp2_with fail
  go_loopw [58] (fun v wr => ∃ i : Nat, i ≤ nn ∧ i ≤ 8 ∧ v = .int .i64 i ∧ Hid (Below Xh.heap.size Xh wr)) (fun v _ => 8 - (intOf v).toNat)
  case atStart => exact ⟨0, Nat.zero_le _, by omega, rfl, BX⟩
  case round =>
   clear BX
   obtain ⟨i, hin0, hi8, rfl, BX⟩ := hrel
   by_cases hin : i < nn
   ·have hlt : (i : Int) < (nn : Int) := by omega
    obtain ⟨z, hz⟩ : ∃ z, ts[i]? = some z := ⟨ts[i]'(by rw [LTS.out]; exact hin), List.getElem?_eq_getElem _⟩
    obtain ⟨b, o, hA, hb, g0⟩ := int_at (HTS.out.below (BW.out.trans (BX.out.mono BW.out.size))) hz
    rw [hA]
    clear hA hb hz
    by_cases h8 : i = 8
    ·have hb8 : ((i : Int) == 8) = true := by rw [h8]; rfl
     clear h8 hin hin0 hi8
     go_upto_region 24 with fail
     clear hb8 hlt g0
     refine wp_region_noPanic ?_
     refine wp_region_held_drew (S := fun W' : World => W'.cell? ⟨Bh, 0, none⟩ = some (.slice h.tr.1.A h.tr.1.n h.tr.1.c) ∧ W'.cell? ⟨Bh, 1, none⟩ = some (.slice h.se.1.A h.se.1.n h.se.1.c) ∧ W'.cell? ⟨Bh, 2, none⟩ = some (.slice h.ob.1.A h.ob.1.n h.ob.1.c) ∧ W'.cell? ⟨Bh, 3, none⟩ = some (.slice h.pr.1.A h.pr.1.n h.pr.1.c) ∧ W'.cell? ⟨Bh, 4, none⟩ = some (.slice h.ev.1.A h.ev.1.n h.ev.1.c) ∧ W'.cell? ⟨Bh, 5, none⟩ = some (.slice h.od.1.A h.od.1.n h.od.1.c) ∧ W'.cell? ⟨Bh, 6, none⟩ = some (.slice h.ma.1.A h.ma.1.n h.ma.1.c) ∧ W'.cell? ⟨Bh, 7, none⟩ = some (.slice h.wa.1.A h.wa.1.n h.wa.1.c) ∧ W'.cell? ⟨w.heap.size, 0, none⟩ = some (.slice m.tr.1.A m.tr.1.n m.tr.1.c) ∧ W'.cell? ⟨w.heap.size, 1, none⟩ = some (.slice m.se.1.A m.se.1.n m.se.1.c) ∧ W'.cell? ⟨w.heap.size, 2, none⟩ = some (.slice m.ob.1.A m.ob.1.n m.ob.1.c) ∧ W'.cell? ⟨w.heap.size, 3, none⟩ = some (.slice m.pr.1.A m.pr.1.n m.pr.1.c) ∧ W'.cell? ⟨w.heap.size, 4, none⟩ = some (.slice m.ev.1.A m.ev.1.n m.ev.1.c) ∧ W'.cell? ⟨w.heap.size, 5, none⟩ = some (.slice m.od.1.A m.od.1.n m.od.1.c) ∧ W'.cell? ⟨w.heap.size, 6, none⟩ = some (.slice m.ma.1.A m.ma.1.n m.ma.1.c) ∧ W'.cell? ⟨w.heap.size, 7, none⟩ = some (.slice m.wa.1.A m.wa.1.n m.wa.1.c)) (by kernel_rfl) ⟨(HH.out.on BX.out).blk.cell 0, (HH.out.on BX.out).blk.cell 1, (HH.out.on BX.out).blk.cell 2, (HH.out.on BX.out).blk.cell 3, (HH.out.on BX.out).blk.cell 4, (HH.out.on BX.out).blk.cell 5, (HH.out.on BX.out).blk.cell 6, (HH.out.on BX.out).blk.cell 7, (KH.out.below BX.out KH.out.lt).cell 0, (KH.out.below BX.out KH.out.lt).cell 1, (KH.out.below BX.out KH.out.lt).cell 2, (KH.out.below BX.out KH.out.lt).cell 3, (KH.out.below BX.out KH.out.lt).cell 4, (KH.out.below BX.out KH.out.lt).cell 5, (KH.out.below BX.out KH.out.lt).cell 6, (KH.out.below BX.out KH.out.lt).cell 7⟩ (fun hHeld => ?_)
     have BX := Lib.hid BX.out.drew
     generalize wr.drew = wd at *
     refine tkv 0 (some 91) (.agg #[.slice h.tr.1.A h.tr.1.n h.tr.1.c, .slice h.se.1.A h.se.1.n h.se.1.c, .slice h.ob.1.A h.ob.1.n h.ob.1.c, .slice h.pr.1.A h.pr.1.n h.pr.1.c, .slice h.ev.1.A h.ev.1.n h.ev.1.c, .slice h.od.1.A h.od.1.n h.od.1.c, .slice h.ma.1.A h.ma.1.n h.ma.1.c, .slice h.wa.1.A h.wa.1.n h.wa.1.c]) rfl rfl (fun w' hSw => by (try dsimp only at hSw); go_simp) ?_
     try simp only [Act.put, sA, sB, sC]
     refine tkv 1 (some 92) (.agg #[.slice m.tr.1.A m.tr.1.n m.tr.1.c, .slice m.se.1.A m.se.1.n m.se.1.c, .slice m.ob.1.A m.ob.1.n m.ob.1.c, .slice m.pr.1.A m.pr.1.n m.pr.1.c, .slice m.ev.1.A m.ev.1.n m.ev.1.c, .slice m.od.1.A m.od.1.n m.od.1.c, .slice m.ma.1.A m.ma.1.n m.ma.1.c, .slice m.wa.1.A m.wa.1.n m.wa.1.c]) rfl rfl (fun w' hSw => by (try dsimp only at hSw); go_simp) ?_
     try simp only [Act.put, sA, sB, sC]
     refine wpAnyH_ready (rs := [2]) (by kernel_rfl) (by simp) ?_
     refine AllReadyH.cons rfl (fun K hK => ?_) ?_
     ·skip
      go_simp
      refine (few11_any m wd (HARG.out.on (BW.out.trans (BX.out.mono BW.out.size)))).mono ?_
      rintro _ y2 ⟨g, rfl, hog, hpg, bb⟩
      have HOG := Lib.hid hog
      have HPG := Lib.hid hpg
      have BX := Lib.hid (BX.out.trans (bb.mono BX.out.size))
      clear hog hpg bb hHeld
      go_simp
      refine hK.out _ _ ⟨(HH.out.on BX.out).blk.cell 0, (HH.out.on BX.out).blk.cell 1, (HH.out.on BX.out).blk.cell 2, (HH.out.on BX.out).blk.cell 3, (HH.out.on BX.out).blk.cell 4, (HH.out.on BX.out).blk.cell 5, (HH.out.on BX.out).blk.cell 6, (HH.out.on BX.out).blk.cell 7, (KH.out.below BX.out KH.out.lt).cell 0, (KH.out.below BX.out KH.out.lt).cell 1, (KH.out.below BX.out KH.out.lt).cell 2, (KH.out.below BX.out KH.out.lt).cell 3, (KH.out.below BX.out KH.out.lt).cell 4, (KH.out.below BX.out KH.out.lt).cell 5, (KH.out.below BX.out KH.out.lt).cell 6, (KH.out.below BX.out KH.out.lt).cell 7⟩ (fun hHeld => ?_)
      clear hK K
      try simp only [Act.put, sA, sB, sC]
      refine wpAnyH_ready (rs := [3]) (by kernel_rfl) (by simp) ?_
      refine AllReadyH.cons rfl (fun K hK => ?_) ?_
      ·skip
       go_simp
       refine (rsame11_any h g HSh.out (by rw [HPG.out]; exact HS.out) y2 (HH.out.on BX.out).rd HOG.out.rd).mono ?_
       rintro e9 y3 ⟨he9, bb⟩
       obtain rfl : e9 = .returned (.bool true) := by rw [he9, show decide (h.pl = g.pl) = true from decide_eq_true (HPh.out.trans HPG.out.symm)]
       have BX := Lib.hid (BX.out.trans (bb.mono BX.out.size))
       clear he9 bb hHeld
       go_simp
       refine hK.out _ _ ⟨(HH.out.on BX.out).blk.cell 0, (HH.out.on BX.out).blk.cell 1, (HH.out.on BX.out).blk.cell 2, (HH.out.on BX.out).blk.cell 3, (HH.out.on BX.out).blk.cell 4, (HH.out.on BX.out).blk.cell 5, (HH.out.on BX.out).blk.cell 6, (HH.out.on BX.out).blk.cell 7, (KH.out.below BX.out KH.out.lt).cell 0, (KH.out.below BX.out KH.out.lt).cell 1, (KH.out.below BX.out KH.out.lt).cell 2, (KH.out.below BX.out KH.out.lt).cell 3, (KH.out.below BX.out KH.out.lt).cell 4, (KH.out.below BX.out KH.out.lt).cell 5, (KH.out.below BX.out KH.out.lt).cell 6, (KH.out.below BX.out KH.out.lt).cell 7⟩ (fun hHeld => ?_)
       clear hK K
       try simp only [Act.put, sA, sB, sC]
       refine tkv 4 (some 4) (.bool true) rfl rfl (fun w' hSw => by (try dsimp only at hSw); go_simp) ?_
       try simp only [Act.put, sA, sB, sC]
       refine wpAnyH_done (by kernel_rfl) ?_ _
       refine NoPanic.normal ?_
       go_wp2_with fail
       go_ret
       exact ⟨rfl, (BW.out.trans (BX.out.mono BW.out.size))⟩
      exact AllReadyH.nil
     exact AllReadyH.nil
    ·have hb8 : ((i : Int) == 8) = false := by simp; omega
     obtain ⟨z0, z1, z2, z3, z4, z5, z6, z7⟩ := c8 ((HH.out.on BX.out).blk)
     go_wp2_with fail
     refine (of11_any h z HSh.out wr (HT.out.on (BW.out.trans (BX.out.mono BW.out.size)) (Nat.le_refl _)) (HH.out.on BX.out).rd).mono ?_
     rintro _ x1 ⟨A5, c5, xs, rfl, ho, bb, hxs⟩
     clear z0 z1 z2 z3 z4 z5 z6 z7
     rw [HCE.out]
     have BX := Lib.hid (BX.out.trans (bb.mono BX.out.size))
     have HX : Hid (xs = ofP h.pl z) := by show xs = _; rw [hxs, HR.out, if_pos rfl]
     have SL := Lib.hid (Reads.of_own ho)
     have hx80 : xs.length ≤ 1000000 := by have h1 := ofP_le9 (H := h.pl) z; have h2 := HEV.out; rw [HX.out]; omega
     clear hxs ho bb
     obtain ⟨z0, z1, z2, z3, z4, z5, z6, z7⟩ := c8 ((HH.out.on BX.out).blk)
     go_wp2_with fail
     refine (rof11_any h z HSh.out x1 (HH.out.on BX.out).rd).mono ?_
     rintro _ x2 ⟨A6, c6, rfl, ho6, bb⟩
     clear z0 z1 z2 z3 z4 z5 z6 z7
     have BX := Lib.hid (BX.out.trans (bb.mono BX.out.size))
     have SL := Lib.hid ((SL.out.below bb).more bb.size)
     have SL6 := Lib.hid (Reads.of_own ho6)
     clear ho6 bb
     go_wp2_with fail
     refine (eqi11_any A5 A6 xs.length (ofP h.pl z).length c5 c6 xs (ofP h.pl z) hx80 (by rw [← HX.out]; exact hx80) x2 SL.out SL6.out).mono ?_
     rintro _ x3 ⟨rfl, bb⟩
     rw [show decide (xs = ofP h.pl z) = true from decide_eq_true HX.out]
     have BX := Lib.hid (BX.out.trans (bb.mono BX.out.size))
     clear bb SL SL6 hx80
     go_wp2_with fail
     go_roundw
     case rel => exact ⟨i + 1, hin, by omega, by go_num, BX⟩
     case measure => simp [intOf]; omega
   ·have hie : i = nn := by omega
    have hnl : ¬ ((i : Int) < (nn : Int)) := by omega
    clear hie hin hin0 hi8
    go_upto_region 24 with fail
    clear hnl
    refine wp_region_noPanic ?_
    refine wp_region_held_drew (S := fun W' : World => W'.cell? ⟨Bh, 0, none⟩ = some (.slice h.tr.1.A h.tr.1.n h.tr.1.c) ∧ W'.cell? ⟨Bh, 1, none⟩ = some (.slice h.se.1.A h.se.1.n h.se.1.c) ∧ W'.cell? ⟨Bh, 2, none⟩ = some (.slice h.ob.1.A h.ob.1.n h.ob.1.c) ∧ W'.cell? ⟨Bh, 3, none⟩ = some (.slice h.pr.1.A h.pr.1.n h.pr.1.c) ∧ W'.cell? ⟨Bh, 4, none⟩ = some (.slice h.ev.1.A h.ev.1.n h.ev.1.c) ∧ W'.cell? ⟨Bh, 5, none⟩ = some (.slice h.od.1.A h.od.1.n h.od.1.c) ∧ W'.cell? ⟨Bh, 6, none⟩ = some (.slice h.ma.1.A h.ma.1.n h.ma.1.c) ∧ W'.cell? ⟨Bh, 7, none⟩ = some (.slice h.wa.1.A h.wa.1.n h.wa.1.c) ∧ W'.cell? ⟨w.heap.size, 0, none⟩ = some (.slice m.tr.1.A m.tr.1.n m.tr.1.c) ∧ W'.cell? ⟨w.heap.size, 1, none⟩ = some (.slice m.se.1.A m.se.1.n m.se.1.c) ∧ W'.cell? ⟨w.heap.size, 2, none⟩ = some (.slice m.ob.1.A m.ob.1.n m.ob.1.c) ∧ W'.cell? ⟨w.heap.size, 3, none⟩ = some (.slice m.pr.1.A m.pr.1.n m.pr.1.c) ∧ W'.cell? ⟨w.heap.size, 4, none⟩ = some (.slice m.ev.1.A m.ev.1.n m.ev.1.c) ∧ W'.cell? ⟨w.heap.size, 5, none⟩ = some (.slice m.od.1.A m.od.1.n m.od.1.c) ∧ W'.cell? ⟨w.heap.size, 6, none⟩ = some (.slice m.ma.1.A m.ma.1.n m.ma.1.c) ∧ W'.cell? ⟨w.heap.size, 7, none⟩ = some (.slice m.wa.1.A m.wa.1.n m.wa.1.c)) (by kernel_rfl) ⟨(HH.out.on BX.out).blk.cell 0, (HH.out.on BX.out).blk.cell 1, (HH.out.on BX.out).blk.cell 2, (HH.out.on BX.out).blk.cell 3, (HH.out.on BX.out).blk.cell 4, (HH.out.on BX.out).blk.cell 5, (HH.out.on BX.out).blk.cell 6, (HH.out.on BX.out).blk.cell 7, (KH.out.below BX.out KH.out.lt).cell 0, (KH.out.below BX.out KH.out.lt).cell 1, (KH.out.below BX.out KH.out.lt).cell 2, (KH.out.below BX.out KH.out.lt).cell 3, (KH.out.below BX.out KH.out.lt).cell 4, (KH.out.below BX.out KH.out.lt).cell 5, (KH.out.below BX.out KH.out.lt).cell 6, (KH.out.below BX.out KH.out.lt).cell 7⟩ (fun hHeld => ?_)
    have BX := Lib.hid BX.out.drew
    generalize wr.drew = wd at *
    refine tkv 0 (some 91) (.agg #[.slice h.tr.1.A h.tr.1.n h.tr.1.c, .slice h.se.1.A h.se.1.n h.se.1.c, .slice h.ob.1.A h.ob.1.n h.ob.1.c, .slice h.pr.1.A h.pr.1.n h.pr.1.c, .slice h.ev.1.A h.ev.1.n h.ev.1.c, .slice h.od.1.A h.od.1.n h.od.1.c, .slice h.ma.1.A h.ma.1.n h.ma.1.c, .slice h.wa.1.A h.wa.1.n h.wa.1.c]) rfl rfl (fun w' hSw => by (try dsimp only at hSw); go_simp) ?_
    try simp only [Act.put, sA, sB, sC]
    refine tkv 1 (some 92) (.agg #[.slice m.tr.1.A m.tr.1.n m.tr.1.c, .slice m.se.1.A m.se.1.n m.se.1.c, .slice m.ob.1.A m.ob.1.n m.ob.1.c, .slice m.pr.1.A m.pr.1.n m.pr.1.c, .slice m.ev.1.A m.ev.1.n m.ev.1.c, .slice m.od.1.A m.od.1.n m.od.1.c, .slice m.ma.1.A m.ma.1.n m.ma.1.c, .slice m.wa.1.A m.wa.1.n m.wa.1.c]) rfl rfl (fun w' hSw => by (try dsimp only at hSw); go_simp) ?_
    try simp only [Act.put, sA, sB, sC]
    refine wpAnyH_ready (rs := [2]) (by kernel_rfl) (by simp) ?_
    refine AllReadyH.cons rfl (fun K hK => ?_) ?_
    ·skip
     go_simp
     refine (few11_any m wd (HARG.out.on (BW.out.trans (BX.out.mono BW.out.size)))).mono ?_
     rintro _ y2 ⟨g, rfl, hog, hpg, bb⟩
     have HOG := Lib.hid hog
     have HPG := Lib.hid hpg
     have BX := Lib.hid (BX.out.trans (bb.mono BX.out.size))
     clear hog hpg bb hHeld
     go_simp
     refine hK.out _ _ ⟨(HH.out.on BX.out).blk.cell 0, (HH.out.on BX.out).blk.cell 1, (HH.out.on BX.out).blk.cell 2, (HH.out.on BX.out).blk.cell 3, (HH.out.on BX.out).blk.cell 4, (HH.out.on BX.out).blk.cell 5, (HH.out.on BX.out).blk.cell 6, (HH.out.on BX.out).blk.cell 7, (KH.out.below BX.out KH.out.lt).cell 0, (KH.out.below BX.out KH.out.lt).cell 1, (KH.out.below BX.out KH.out.lt).cell 2, (KH.out.below BX.out KH.out.lt).cell 3, (KH.out.below BX.out KH.out.lt).cell 4, (KH.out.below BX.out KH.out.lt).cell 5, (KH.out.below BX.out KH.out.lt).cell 6, (KH.out.below BX.out KH.out.lt).cell 7⟩ (fun hHeld => ?_)
     clear hK K
     try simp only [Act.put, sA, sB, sC]
     refine wpAnyH_ready (rs := [3]) (by kernel_rfl) (by simp) ?_
     refine AllReadyH.cons rfl (fun K hK => ?_) ?_
     ·skip
      go_simp
      refine (rsame11_any h g HSh.out (by rw [HPG.out]; exact HS.out) y2 (HH.out.on BX.out).rd HOG.out.rd).mono ?_
      rintro e9 y3 ⟨he9, bb⟩
      obtain rfl : e9 = .returned (.bool true) := by rw [he9, show decide (h.pl = g.pl) = true from decide_eq_true (HPh.out.trans HPG.out.symm)]
      have BX := Lib.hid (BX.out.trans (bb.mono BX.out.size))
      clear he9 bb hHeld
      go_simp
      refine hK.out _ _ ⟨(HH.out.on BX.out).blk.cell 0, (HH.out.on BX.out).blk.cell 1, (HH.out.on BX.out).blk.cell 2, (HH.out.on BX.out).blk.cell 3, (HH.out.on BX.out).blk.cell 4, (HH.out.on BX.out).blk.cell 5, (HH.out.on BX.out).blk.cell 6, (HH.out.on BX.out).blk.cell 7, (KH.out.below BX.out KH.out.lt).cell 0, (KH.out.below BX.out KH.out.lt).cell 1, (KH.out.below BX.out KH.out.lt).cell 2, (KH.out.below BX.out KH.out.lt).cell 3, (KH.out.below BX.out KH.out.lt).cell 4, (KH.out.below BX.out KH.out.lt).cell 5, (KH.out.below BX.out KH.out.lt).cell 6, (KH.out.below BX.out KH.out.lt).cell 7⟩ (fun hHeld => ?_)
      clear hK K
      try simp only [Act.put, sA, sB, sC]
      refine tkv 4 (some 4) (.bool true) rfl rfl (fun w' hSw => by (try dsimp only at hSw); go_simp) ?_
      try simp only [Act.put, sA, sB, sC]
      refine wpAnyH_done (by kernel_rfl) ?_ _
      refine NoPanic.normal ?_
      go_wp2_with fail
      go_ret
      exact ⟨rfl, (BW.out.trans (BX.out.mono BW.out.size))⟩
     exact AllReadyH.nil
    exact AllReadyH.nil
end Go.Proofs.YtlnbmmaminflcaaGreatDoor
