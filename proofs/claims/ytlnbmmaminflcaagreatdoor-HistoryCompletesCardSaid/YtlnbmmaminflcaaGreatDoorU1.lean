/- The laws of layer history: a history is written over (spoil): contract. -/
import Derived.Test.YtlnbmmaminflcaaGreatDoorC36
import Derived.Test.YtlnbmmaminflcaaGreatDoorC25
import Derived.Test.YtlnbmmaminflcaaGreatDoorC13
-- holds: YtlnbmmaminflcaaGreatDoorSJxc YtlnbmmaminflcaaGreatDoorSJw
namespace Go.Proofs.YtlnbmmaminflcaaGreatDoor
open Go.RowKit Go.Shelf

def evK (m : HistM) (k : Nat) : List (EvP × SH) := m.ev.2 ++ ((upI k).filter (openB m.pl)).map fun t => (abortE t, nilH)
theorem evK_yes {m : HistM} {k : Nat} (h : openB m.pl (k : Int) = true) : evK m (k + 1) = evK m k ++ [(abortE (k : Int), nilH)] := by
 unfold evK
 rw [upI_succ, List.filter_append, List.map_append, ← List.append_assoc]
 simp [h]
theorem evK_no {m : HistM} {k : Nat} (h : openB m.pl (k : Int) = false) : evK m (k + 1) = evK m k := by
 unfold evK
 rw [upI_succ, List.filter_append]
 simp [h]
theorem evK_len (m : HistM) (k : Nat) : (evK m k).length ≤ m.ev.2.length + k := by
 unfold evK
 rw [List.length_append, List.length_map]
 have := List.length_filter_le (openB m.pl) (upI k)
 rw [upI_len] at this
 omega
def comM (m : HistM) (A : Option Addr) (q c k : Nat) : HistM := ⟨m.tr, m.se, m.ob, m.pr, (⟨A, q, c⟩, evK m k), m.od, m.ma, m.wa⟩
theorem com_pl {m : HistM} {A : Option Addr} {q c k : Nat} (hk : m.pl.tr.length = k) : (comM m A q c k).pl = comP m.pl := by
 subst hk
 have e : (evK m m.pl.tr.length).map (·.1) = m.pl.ev ++ (leftL m.pl).map abortE := by
  unfold evK leftL
  rw [List.map_append, List.map_map]
  rfl
 unfold comP
 rw [← e]
 rfl
theorem com_rd {m : HistM} {A : Option Addr} {q c k B : Nat} {X : World} (h : HRd X B m) (ho : Reads X B 9 A q ((evK m k).flatMap evCs)) : HRd X B (comM m A q c k) :=
 ⟨h.tr, h.se, h.ob, h.pr, ho, h.od, h.ma, h.wa, fun p hp => by
  rcases List.mem_append.1 (show p ∈ m.ev.2 ++ _ from hp) with h1 | h1
  ·exact h.sc p h1
  ·obtain ⟨t, _, rfl⟩ := List.mem_map.1 h1
   exact Reads.none_, h.ot, h.mt⟩

set_option maxRecDepth 100000 in
set_option maxHeartbeats 8000000 in
theorem rcomplete11_any (m : HistM) (hS : Small m.pl) (w : World) (hm : HRd w w.heap.size m) : Calls Tryz.prog 20 #[.agg #[.slice m.tr.1.A m.tr.1.n m.tr.1.c, .slice m.se.1.A m.se.1.n m.se.1.c, .slice m.ob.1.A m.ob.1.n m.ob.1.c, .slice m.pr.1.A m.pr.1.n m.pr.1.c, .slice m.ev.1.A m.ev.1.n m.ev.1.c, .slice m.od.1.A m.od.1.n m.od.1.c, .slice m.ma.1.A m.ma.1.n m.ma.1.c, .slice m.wa.1.A m.wa.1.n m.wa.1.c]] w fun e w' => ∃ n : HistM, e = .returned (.tuple #[.agg #[.slice n.tr.1.A n.tr.1.n n.tr.1.c, .slice n.se.1.A n.se.1.n n.se.1.c, .slice n.ob.1.A n.ob.1.n n.ob.1.c, .slice n.pr.1.A n.pr.1.n n.pr.1.c, .slice n.ev.1.A n.ev.1.n n.ev.1.c, .slice n.od.1.A n.od.1.n n.od.1.c, .slice n.ma.1.A n.ma.1.n n.ma.1.c, .slice n.wa.1.A n.wa.1.n n.wa.1.c], .bool true]) ∧ HRd w' w'.heap.size n ∧ n.pl = comP m.pl ∧ Below w.heap.size w w' := by
 obtain ⟨i0, hi, hz0, hz1, hz2⟩ := info_parts ev_info
 obtain ⟨kh, kr, b0, hs0⟩ := itwo w #[.slice m.tr.1.A m.tr.1.n m.tr.1.c, .slice m.se.1.A m.se.1.n m.se.1.c, .slice m.ob.1.A m.ob.1.n m.ob.1.c, .slice m.pr.1.A m.pr.1.n m.pr.1.c, .slice m.ev.1.A m.ev.1.n m.ev.1.c, .slice m.od.1.A m.od.1.n m.od.1.c, .slice m.ma.1.A m.ma.1.n m.ma.1.c, .slice m.wa.1.A m.wa.1.n m.wa.1.c] #[.slice none 0 0, .slice none 0 0, .slice none 0 0, .slice none 0 0, .slice none 0 0, .slice none 0 0, .slice none 0 0, .slice none 0 0] 28 28
 obtain ⟨W0, hW0⟩ : ∃ W0, W0 = ((w.alloc (.cells #[.slice m.tr.1.A m.tr.1.n m.tr.1.c, .slice m.se.1.A m.se.1.n m.se.1.c, .slice m.ob.1.A m.ob.1.n m.ob.1.c, .slice m.pr.1.A m.pr.1.n m.pr.1.c, .slice m.ev.1.A m.ev.1.n m.ev.1.c, .slice m.od.1.A m.od.1.n m.od.1.c, .slice m.ma.1.A m.ma.1.n m.ma.1.c, .slice m.wa.1.A m.wa.1.n m.wa.1.c] 28)).alloc (.cells #[.slice none 0 0, .slice none 0 0, .slice none 0 0, .slice none 0 0, .slice none 0 0, .slice none 0 0, .slice none 0 0, .slice none 0 0] 28)) := ⟨_, rfl⟩
 obtain ⟨Bm, hBm⟩ : ∃ B, B = w.heap.size := ⟨_, rfl⟩
 obtain ⟨Br, hBr⟩ : ∃ B, B = w.heap.size + 1 := ⟨_, rfl⟩
 rw [← hW0] at kh kr b0
 rw [← hBm] at kh
 rw [← hBr] at kr
 have KH : Hid (Blk W0 Bm 28 m.cs) := kh
 have KR : Hid (Blk W0 Br 28 #[.slice none 0 0, .slice none 0 0, .slice none 0 0, .slice none 0 0, .slice none 0 0, .slice none 0 0, .slice none 0 0, .slice none 0 0]) := kr
 have BW := Lib.hid b0
 have HM := Lib.hid hm
 have HBN : Hid (w.heap.size ≤ Bm ∧ w.heap.size ≤ Br ∧ Bm ≠ Br) := ⟨by omega, by omega, by omega⟩
 have LEV : Hid (m.ev.2.length = m.ev.1.n) := hm.fit.ev.1
 have NEV : Hid (m.ev.1.n ≤ 200) := by have h1 : m.pl.ev.length = m.ev.1.n := (pl_lens hm).1.1; have := hS.ev; show _ ≤ _; omega
 have LTR : Hid (m.pl.tr.length = m.tr.1.n) := (pl_lens hm).2
 have NTR : Hid (m.tr.1.n ≤ 60) := by have h1 : m.pl.tr.length = m.tr.1.n := (pl_lens hm).2; have := hS.tr; show _ ≤ _; omega
 clear kh kr b0 hs0 hm
 go_enter Tryz.func20, Tryz.ntmps20
 go_upto_region 1 with fail
 rw [← hBr, ← hBm, ← hW0]
 clear hBr hBm hW0
 have z4 : W0.cell? ⟨Bm, 4, none⟩ = some (.slice m.ev.1.A m.ev.1.n m.ev.1.c) := KH.out.cell 4
 have hev := NEV.out
 have hb0 := BW.out.size
 go_upto_region 3 with (at_builtin; refine wpList_append_any _ rfl (.tmp 6) (.tmp 8) 23 rfl w.heap.size 39 i0 _ 9 88 Tryz.underlying23 hi hz0 hz1 hz2 rfl (by decide) _ 0 [] rfl (World.ownsRow_nil _ _ _ _) _ m.ev.1.A m.ev.1.n m.ev.1.c (m.ev.2.flatMap evCs) rfl (HM.out.ev.below BW.out) (one_of evCs_one _) (by unfold maxLen; omega) (by omega) hb0 ?_; intro v1 w1 hown1 hgrow1 _)
 rw [Nat.zero_add, List.nil_append] at hown1
 have bb : Below W0.heap.size W0 w1 := (Below.refl _ W0).grown hgrow1 (Nat.le_refl _) (fun j hj => by cases hj)
 have HO : Hid (w1.ownsRow w.heap.size 39 9 v1 (evK m 0).length ((evK m 0).flatMap evCs)) := by
  have e0 : evK m 0 = m.ev.2 := by unfold evK upI; simp
  rw [e0, LEV.out]
  exact hown1
 have KH := Lib.hid (KH.out.below bb KH.out.lt)
 have KR := Lib.hid (KR.out.below bb KR.out.lt)
 have BW := Lib.hid (BW.out.trans (bb.mono BW.out.size))
 clear hown1 hgrow1 bb z4 hb0
 obtain ⟨nt, hnt⟩ : ∃ nt, m.tr.1.n = nt := ⟨_, rfl⟩
 have HNT := Lib.hid hnt
 have hn60 : nt ≤ 60 := by have := NTR.out; omega
 have z0 : w1.cell? ⟨Bm, 0, none⟩ = some (.slice m.tr.1.A m.tr.1.n m.tr.1.c) := KH.out.cell 0
 go_wp2_with fail
 clear z0 hnt
 go_loopw [4, 13] (fun v i wr => ∃ k : Nat, k ≤ nt ∧ i = .int .i64 k ∧ Hid (wr.ownsRow w.heap.size 39 9 v (evK m k).length ((evK m k).flatMap evCs)) ∧ Hid (Blk wr Bm 28 m.cs) ∧ Hid (Blk wr Br 28 #[.slice none 0 0, .slice none 0 0, .slice none 0 0, .slice none 0 0, .slice none 0 0, .slice none 0 0, .slice none 0 0, .slice none 0 0]) ∧ Hid (Below w.heap.size w wr)) (fun _ i _ => nt - (intOf i).toNat)
 case atStart => exact ⟨0, Nat.zero_le _, rfl, HO, KH, KR, BW⟩
 case round =>
  clear HO KH KR BW
  obtain ⟨k, hk, rfl, HO, KH, KR, BW⟩ := hrel
  by_cases hkn : k < nt
  ·have hlt : (k : Int) < (nt : Int) := by omega
   obtain ⟨z0, z1, z2, z3, z4, z5, z6, z7⟩ := c8 KH.out
   go_wp2_with fail
   refine (rhas_any m (k : Int) 1 hS wr ((HM.out.on BW.out).more BW.out.size)).mono ?_
   rintro _ x1 ⟨rfl, bb⟩
   clear z0 z1 z2 z3 z4 z5 z6 z7
   have HO := Lib.hid (own_on HO.out bb)
   have KH := Lib.hid (KH.out.below bb KH.out.lt)
   have KR := Lib.hid (KR.out.below bb KR.out.lt)
   have BW := Lib.hid (BW.out.trans (bb.mono BW.out.size))
   clear bb
   cases h1 : hasB m.pl (k : Int) 1
   ·skip
    have HK : Hid (evK m (k + 1) = evK m k) := evK_no (by unfold openB; rw [h1]; simp)
    rw [← HK.out] at HO
    clear h1
    go_wp2_with fail
    go_roundw
    case rel => exact ⟨k + 1, hkn, by go_num, HO, KH, KR, BW⟩
    case measure => simp [intOf]; omega
   ·skip
    obtain ⟨z0, z1, z2, z3, z4, z5, z6, z7⟩ := c8 KH.out
    go_wp2_with fail
    refine (rhas_any m (k : Int) 5 hS x1 ((HM.out.on BW.out).more BW.out.size)).mono ?_
    rintro _ x2 ⟨rfl, bb⟩
    clear z0 z1 z2 z3 z4 z5 z6 z7
    have HO := Lib.hid (own_on HO.out bb)
    have KH := Lib.hid (KH.out.below bb KH.out.lt)
    have KR := Lib.hid (KR.out.below bb KR.out.lt)
    have BW := Lib.hid (BW.out.trans (bb.mono BW.out.size))
    clear bb
    cases h5 : hasB m.pl (k : Int) 5
    ·skip
     obtain ⟨z0, z1, z2, z3, z4, z5, z6, z7⟩ := c8 KH.out
     go_wp2_with fail
     refine (rhas_any m (k : Int) 6 hS x2 ((HM.out.on BW.out).more BW.out.size)).mono ?_
     rintro _ x3 ⟨rfl, bb⟩
     clear z0 z1 z2 z3 z4 z5 z6 z7
     have HO := Lib.hid (own_on HO.out bb)
     have KH := Lib.hid (KH.out.below bb KH.out.lt)
     have KR := Lib.hid (KR.out.below bb KR.out.lt)
     have BW := Lib.hid (BW.out.trans (bb.mono BW.out.size))
     clear bb
     cases h6 : hasB m.pl (k : Int) 6
     ·have HK : Hid (evK m (k + 1) = evK m k ++ [(abortE (k : Int), nilH)]) := evK_yes (by unfold openB; rw [h1, h5, h6]; rfl)
      clear h1 h5 h6
      have hal : Below x3.heap.size x3 (x3.alloc (.cells #[.int .i64 6, .int .i64 (k : Int), .int .i64 0, .int .i64 0, .int .i64 0, .int .i64 0, .int .i64 0, .int .i64 0, .slice none 0 0] 39)) := (Below.refl _ _).alloc (Nat.le_refl _) _
      have HO2 := Lib.hid (own_on HO.out hal)
      have KH2 := Lib.hid (KH.out.below hal KH.out.lt)
      have KR2 := Lib.hid (KR.out.below hal KR.out.lt)
      have BW2 := Lib.hid (BW.out.trans (hal.mono BW.out.size))
      have hb9 := BW2.out.size
      have hlen := evK_len m k
      have hl4 := LEV.out
      have SL := Lib.hid (lit_of x3 39 9 (evCs (abortE (k : Int), ⟨none, 0, 0⟩)) #[.int .i64 6, .int .i64 (k : Int), .int .i64 0, .int .i64 0, .int .i64 0, .int .i64 0, .int .i64 0, .int .i64 0, .slice none 0 0] rfl rfl)
      obtain ⟨q, hq⟩ : ∃ q, (evK m k).length = q := ⟨_, rfl⟩
      have HQ := Lib.hid hq
      rw [hq] at HO2 hlen
      clear hal hq
      go_wp2_with (at_builtin; refine wpList_append_any _ rfl (.tmp 31) (.tmp 34) 23 rfl w.heap.size 39 i0 _ 9 88 Tryz.underlying23 hi hz0 hz1 hz2 rfl (by decide) _ _ _ rfl HO2.out _ (some ⟨x3.heap.size, 0, none⟩) 1 _ (evCs (abortE (k : Int), ⟨none, 0, 0⟩)) rfl SL.out (evCs_one _) (by unfold maxLen; omega) (by omega) hb9 ?_; intro v6 w6 hown6 hgrow6 _)
      have KT := KeepT.grown HO2.out hgrow6
      have KH6 := Lib.hid (KT.blk KH2.out (by decide))
      have KR6 := Lib.hid (KT.blk KR2.out (by decide))
      have BW6 := Lib.hid (BW2.out.grown hgrow6 BW2.out.size (fun j hj => (own_in_block HO2.out hj).1))
      have h9 : w6.ownsRow w.heap.size 39 9 v6 (evK m (k + 1)).length ((evK m (k + 1)).flatMap evCs) := by
       rw [HK.out, List.length_append, HQ.out, List.flatMap_append]
       simpa [nilH] using hown6
      have HO6 := Lib.hid h9
      clear h9 hown6 hgrow6 KT HO2 KH2 KR2 BW2 SL hb9 hlen hl4
      go_wp2_with fail
      go_roundw
      case rel => exact ⟨k + 1, hkn, by go_num, HO6, KH6, KR6, BW6⟩
      case measure => simp [intOf]; omega
     ·skip
      have HK : Hid (evK m (k + 1) = evK m k) := evK_no (by unfold openB; rw [h1, h5, h6]; simp)
      rw [← HK.out] at HO
      clear h1 h5 h6
      go_wp2_with fail
      go_roundw
      case rel => exact ⟨k + 1, hkn, by go_num, HO, KH, KR, BW⟩
      case measure => simp [intOf]; omega
    ·skip
     have HK : Hid (evK m (k + 1) = evK m k) := evK_no (by unfold openB; rw [h1, h5]; simp)
     rw [← HK.out] at HO
     clear h1 h5
     go_wp2_with fail
     go_roundw
     case rel => exact ⟨k + 1, hkn, by go_num, HO, KH, KR, BW⟩
     case measure => simp [intOf]; omega
  ·have hke : k = nt := by omega
   rw [hke] at HO ⊢
   clear hke hkn hk
   have hnl : ¬ ((nt : Int) < (nt : Int)) := by omega
   obtain ⟨A, c, rfl, hc1, hc2⟩ := own_form2 HO.out
   obtain ⟨q, hq⟩ : ∃ q, (evK m nt).length = q := ⟨_, rfl⟩
   have hq3 : (q : Int) ≤ 3000 := by have h1 := evK_len m nt; have h2 := LEV.out; have h3 := NEV.out; omega
   rw [hq] at HO hc1 ⊢
   clear hq
   have y4 := KH.out.cell 4
   have f4 := KH.out.frozen 4
   go_upto_region 10 with fail
   clear y4 f4 hnl
   have KH2 : Hid (Blk (wr.setCell ⟨Bm, 4, none⟩ (.slice A q c)) Bm 28 #[.slice m.tr.1.A m.tr.1.n m.tr.1.c, .slice m.se.1.A m.se.1.n m.se.1.c, .slice m.ob.1.A m.ob.1.n m.ob.1.c, .slice m.pr.1.A m.pr.1.n m.pr.1.c, .slice A q c, .slice m.od.1.A m.od.1.n m.od.1.c, .slice m.ma.1.A m.ma.1.n m.ma.1.c, .slice m.wa.1.A m.wa.1.n m.wa.1.c]) := KH.out.set_ 4 (.slice A q c)
   have KR2 : Hid (Blk (wr.setCell ⟨Bm, 4, none⟩ (.slice A q c)) Br 28 #[.slice none 0 0, .slice none 0 0, .slice none 0 0, .slice none 0 0, .slice none 0 0, .slice none 0 0, .slice none 0 0, .slice none 0 0]) := Keep.blk ((Keep.refl (fun j => j ≠ Bm) wr).set (.inr (fun h => h rfl)) 4 (.slice A q c)) KR.out (Ne.symm HBN.out.2.2)
   have KT : KeepT 28 wr (wr.setCell ⟨Bm, 4, none⟩ (.slice A q c)) := (Keep.refl _ wr).set (.inr (fun h => h _ KH.out)) 4 (.slice A q c)
   have HO2 := Lib.hid (KT.own HO.out (by decide))
   have BW2 : Hid (Below w.heap.size w (wr.setCell ⟨Bm, 4, none⟩ (.slice A q c))) := BW.out.setCell (p := ⟨Bm, 4, none⟩) HBN.out.1 (.slice A q c)
   clear KT HO KH KR BW
   generalize (wr.setCell ⟨Bm, 4, none⟩ (.slice A q c)) = X at *
   obtain ⟨z0, z1, z2, z3, z4, z5, z6, z7⟩ := c8 KH2.out
   obtain ⟨y0, y1, y2, y3, y4, y5, y6, y7⟩ := c8 KR2.out
   have f0 := KR2.out.frozen 0
   have f1 := KR2.out.frozen 1
   have f2 := KR2.out.frozen 2
   have f3 := KR2.out.frozen 3
   have f4 := KR2.out.frozen 4
   have f5 := KR2.out.frozen 5
   have f6 := KR2.out.frozen 6
   have f7 := KR2.out.frozen 7
   go_wp2_with fail
   clear z0 y0 f0 z1 y1 f1 z2 y2 f2 z3 y3 f3 z4 y4 f4 z5 y5 f5 z6 y6 f6 z7 y7 f7
   have FL := Lib.hid (fill8 KR2.out (.slice m.tr.1.A m.tr.1.n m.tr.1.c) (.slice m.se.1.A m.se.1.n m.se.1.c) (.slice m.ob.1.A m.ob.1.n m.ob.1.c) (.slice m.pr.1.A m.pr.1.n m.pr.1.c) (.slice A q c) (.slice m.od.1.A m.od.1.n m.od.1.c) (.slice m.ma.1.A m.ma.1.n m.ma.1.c) (.slice m.wa.1.A m.wa.1.n m.wa.1.c))
   have kf := FL.out.1
   have KT : KeepT 28 X ((((((((X.setCell ⟨Br, 0, none⟩ (.slice m.tr.1.A m.tr.1.n m.tr.1.c)).setCell ⟨Br, 1, none⟩ (.slice m.se.1.A m.se.1.n m.se.1.c)).setCell ⟨Br, 2, none⟩ (.slice m.ob.1.A m.ob.1.n m.ob.1.c)).setCell ⟨Br, 3, none⟩ (.slice m.pr.1.A m.pr.1.n m.pr.1.c)).setCell ⟨Br, 4, none⟩ (.slice A q c)).setCell ⟨Br, 5, none⟩ (.slice m.od.1.A m.od.1.n m.od.1.c)).setCell ⟨Br, 6, none⟩ (.slice m.ma.1.A m.ma.1.n m.ma.1.c)).setCell ⟨Br, 7, none⟩ (.slice m.wa.1.A m.wa.1.n m.wa.1.c)) := FL.out.2.1 _ (fun h => h _ KR2.out)
   have HO3 := Lib.hid (KT.own HO2.out (by decide))
   have BW3 := Lib.hid (FL.out.2.2 w BW2.out HBN.out.2.1)
   clear KT FL
   generalize ((((((((X.setCell ⟨Br, 0, none⟩ (.slice m.tr.1.A m.tr.1.n m.tr.1.c)).setCell ⟨Br, 1, none⟩ (.slice m.se.1.A m.se.1.n m.se.1.c)).setCell ⟨Br, 2, none⟩ (.slice m.ob.1.A m.ob.1.n m.ob.1.c)).setCell ⟨Br, 3, none⟩ (.slice m.pr.1.A m.pr.1.n m.pr.1.c)).setCell ⟨Br, 4, none⟩ (.slice A q c)).setCell ⟨Br, 5, none⟩ (.slice m.od.1.A m.od.1.n m.od.1.c)).setCell ⟨Br, 6, none⟩ (.slice m.ma.1.A m.ma.1.n m.ma.1.c)).setCell ⟨Br, 7, none⟩ (.slice m.wa.1.A m.wa.1.n m.wa.1.c)) = wf at *
   obtain ⟨r0, r1, r2, r3, r4, r5, r6, r7⟩ := c8 kf
   exact bodyPost_ret (v := .tuple #[.agg #[.slice m.tr.1.A m.tr.1.n m.tr.1.c, .slice m.se.1.A m.se.1.n m.se.1.c, .slice m.ob.1.A m.ob.1.n m.ob.1.c, .slice m.pr.1.A m.pr.1.n m.pr.1.c, .slice A q c, .slice m.od.1.A m.od.1.n m.od.1.c, .slice m.ma.1.A m.ma.1.n m.ma.1.c, .slice m.wa.1.A m.wa.1.n m.wa.1.c], .bool true]) (by simp [results, Tryz.results20, go_sem, r0, r1, r2, r3, r4, r5, r6, r7]) rfl ⟨comM m A q c nt, rfl, com_rd ((HM.out.on BW3.out).more BW3.out.size) (Reads.of_own HO3.out), com_pl (LTR.out.trans HNT.out), BW3.out⟩
end Go.Proofs.YtlnbmmaminflcaaGreatDoor
namespace Go.Proofs.YtlnbmmaminflcaaGreatDoor
open Go.RowKit Go.Shelf

def Owns (B : Nat) (t : TypeId) (s : Nat) (h : SH) (X : World) : Prop := ∃ xs, X.ownsRow B t s (.slice h.A h.n h.c) h.n xs
structure SpoI (B : Nat) (w : World) (m : HistM) (X : World) : Prop where
 below : Below B w X
 bh : Blk X w.heap.size 28 m.cs
 tr : Owns B 9 1 m.tr.1 X
 ev : ∃ xs, X.ownsRow B 39 9 (.slice m.ev.1.A m.ev.1.n m.ev.1.c) m.ev.1.n xs ∧ ∀ (i : Nat) (p : EvP × SH), m.ev.2[i]? = some p → xs[i * 9 + 8]? = some (.slice p.2.A p.2.n p.2.c)
 od : X.ownsRow B 61 2 (.slice m.od.1.A m.od.1.n m.od.1.c) m.od.1.n (m.od.2.flatMap odCs)
 ma : X.ownsRow B 64 4 (.slice m.ma.1.A m.ma.1.n m.ma.1.c) m.ma.1.n (m.ma.2.flatMap maCs)
 wa : Owns B 67 2 m.wa.1 X
 sc : ∀ p ∈ m.ev.2, Owns B 59 3 p.2 X
 ot : ∀ p ∈ m.od.2, Owns B 3 1 p.2 X
 mt : ∀ p ∈ m.ma.2, Owns B 3 1 p.2 X
section
variable {B g j s : Nat} {t u : TypeId} {w X : World} {m : HistM} {h : SH} {v : Value} {cs : Array Value}
theorem Owns.at_ (o : Owns B t s h X) {k : Nat} (hk : k < h.n * s) : ∃ g, h.A = some ⟨g, 0, none⟩ ∧ B ≤ g ∧ (∃ c, Blk X g t c) ∧ (∃ v, X.cell? ⟨g, k, none⟩ = some v) ∧ X.frozen? ⟨g, k, none⟩ = false := by
 obtain ⟨xs, o⟩ := o
 have hn : 0 < h.n := by rcases Nat.eq_zero_or_pos h.n with e | e; (rw [e] at hk; simp at hk); exact e
 obtain ⟨g, hg⟩ := own_pos o hn
 rw [hg] at o
 obtain ⟨h1, _, cur, hb⟩ := own_in o (g := g) rfl
 have hl : k < xs.length := by rw [o.1]; exact hk
 exact ⟨g, hg, h1, ⟨cur, hb⟩, ⟨xs[k], (o.cellAt k hk).trans (List.getElem?_eq_getElem hl)⟩, o.frozenAt k⟩
theorem Owns.set (o : Owns B t s h X) (hb : Blk X g u cs) (j : Nat) (v : Value) : Owns B t s h (X.setCell ⟨g, j, none⟩ v) := by
 obtain ⟨xs, o⟩ := o
 by_cases hg : (Value.slice h.A h.n h.c).ownBlock = some g
 ·have hA : ∃ a, h.A = some a := by
   cases hx : h.A with
   | none => rw [hx] at hg; cases hg
   | some a => exact ⟨a, rfl⟩
  rcases o.2 with ⟨e, _⟩ | ⟨g2, cap, cur, e, _⟩
  ·injection e with e1 _ _
   rw [e1] at hg
   cases hg
  ·injection e with e1 _ _
   rw [e1] at hg
   injection hg with hg
   have hg2 : g2 = g := hg
   subst hg2
   rw [e1] at o
   have st := (o.stored j v).1
   rw [← e1] at st
   exact ⟨_, st⟩
 ·exact ⟨xs, ((Keep.refl (fun k => k ≠ g) X).set (.inr fun h => h rfl) j v).own o fun g2 hg2 e => hg (by rw [hg2, e])⟩
theorem SpoI.cells (c : SpoI B w m X) (hg : B ≤ g) (hb : Blk X g t cs) (h1 : t ≠ 28) (h2 : t ≠ 39) (h3 : t ≠ 61) (h4 : t ≠ 64) (j : Nat) (v : Value) : SpoI B w m (X.setCell ⟨g, j, none⟩ v) := by
 have k := KeepT.set hb j v
 obtain ⟨xs, he, hx⟩ := c.ev
 exact ⟨c.below.setCell (p := ⟨g, j, none⟩) hg _, k.blk c.bh (Ne.symm h1), c.tr.set hb j v, ⟨xs, k.own he (Ne.symm h2), hx⟩, k.own c.od (Ne.symm h3), k.own c.ma (Ne.symm h4), c.wa.set hb j v, fun p hp => (c.sc p hp).set hb j v, fun p hp => (c.ot p hp).set hb j v, fun p hp => (c.mt p hp).set hb j v⟩
theorem SpoI.kind (c : SpoI B w m X) (hA : m.ev.1.A = some ⟨g, 0, none⟩) (i : Nat) (v : Value) : SpoI B w m (X.setCell ⟨g, i * 9, none⟩ v) := by
 obtain ⟨xs, he, hx⟩ := c.ev
 have he0 := he
 rw [hA] at he
 obtain ⟨hg, _, cur, hb⟩ := own_in he (g := g) rfl
 have k := KeepT.set hb (i * 9) v
 refine ⟨c.below.setCell (p := ⟨g, i * 9, none⟩) hg _, k.blk c.bh (by decide), c.tr.set hb _ v, ⟨xs.set (i * 9) v, ?_, fun q p hp => ?_⟩, k.own c.od (by decide), k.own c.ma (by decide), c.wa.set hb _ v, fun p hp => (c.sc p hp).set hb _ v, fun p hp => (c.ot p hp).set hb _ v, fun p hp => (c.mt p hp).set hb _ v⟩
 ·rw [hA]; exact (he.stored (i * 9) v).1
 ·rw [List.getElem?_set_ne (by omega)]
  exact hx q p hp
end
theorem HOwn.spo {B : Nat} {w X : World} {m : HistM} (h : HOwn B w m) (hb : Below w.heap.size w X) (hB : B ≤ w.heap.size) (hk : Blk X w.heap.size 28 m.cs) : SpoI B w m X := by
 have d := h.on hb
 refine ⟨hb.mono hB, hk, ⟨_, d.nm.own 0 _ rfl⟩, ⟨_, d.ev, fun i p hp => fm_at evCs_len hp rfl⟩, d.od, d.ma, ⟨_, d.wa⟩, fun p hp => ⟨_, d.sc.at_mem (List.mem_map.2 ⟨p, hp, rfl⟩)⟩, fun p hp => ⟨_, d.it.at_mem (List.mem_append_left _ (List.mem_map.2 ⟨p, hp, rfl⟩))⟩, fun p hp => ⟨_, d.it.at_mem (List.mem_append_right _ (List.mem_map.2 ⟨p, hp, rfl⟩))⟩⟩
set_option maxRecDepth 100000 in
set_option maxHeartbeats 8000000 in
theorem spoil11_any (B : Nat) (m : HistM) (hS : Small m.pl) (w : World) (hB : B ≤ w.heap.size) (ho : HOwn B w m) : Calls Tryz.prog 18 #[.agg #[.slice m.tr.1.A m.tr.1.n m.tr.1.c, .slice m.se.1.A m.se.1.n m.se.1.c, .slice m.ob.1.A m.ob.1.n m.ob.1.c, .slice m.pr.1.A m.pr.1.n m.pr.1.c, .slice m.ev.1.A m.ev.1.n m.ev.1.c, .slice m.od.1.A m.od.1.n m.od.1.c, .slice m.ma.1.A m.ma.1.n m.ma.1.c, .slice m.wa.1.A m.wa.1.n m.wa.1.c]] w fun e w' => e = .returned (.tuple #[]) ∧ Below B w w' := by
 obtain ⟨kh, b0, hs0⟩ := ibox w #[.slice m.tr.1.A m.tr.1.n m.tr.1.c, .slice m.se.1.A m.se.1.n m.se.1.c, .slice m.ob.1.A m.ob.1.n m.ob.1.c, .slice m.pr.1.A m.pr.1.n m.pr.1.c, .slice m.ev.1.A m.ev.1.n m.ev.1.c, .slice m.od.1.A m.od.1.n m.od.1.c, .slice m.ma.1.A m.ma.1.n m.ma.1.c, .slice m.wa.1.A m.wa.1.n m.wa.1.c] 28
 obtain ⟨W0, hW0⟩ : ∃ W0, W0 = w.alloc (.cells #[.slice m.tr.1.A m.tr.1.n m.tr.1.c, .slice m.se.1.A m.se.1.n m.se.1.c, .slice m.ob.1.A m.ob.1.n m.ob.1.c, .slice m.pr.1.A m.pr.1.n m.pr.1.c, .slice m.ev.1.A m.ev.1.n m.ev.1.c, .slice m.od.1.A m.od.1.n m.od.1.c, .slice m.ma.1.A m.ma.1.n m.ma.1.c, .slice m.wa.1.A m.wa.1.n m.wa.1.c] 28) := ⟨_, rfl⟩
 rw [← hW0] at kh b0
 have HS := Lib.hid (ho.spo b0 hB kh)
 have HFIT := Lib.hid ho.rd.fit
 have HN : Hid (m.tr.1.n ≤ 60 ∧ m.ev.1.n ≤ 200 ∧ m.od.1.n ≤ 60 ∧ m.ma.1.n ≤ 60 ∧ m.wa.1.n ≤ 60) := by
  have h1 := hS.ev; have h2 := hS.od; have h3 := hS.ma; have h4 := hS.wa; have g1 := hS.tr
  have e1 : m.pl.ev.length = m.ev.1.n := (List.length_map ..).trans HFIT.out.ev.1; have e2 : m.pl.od.length = m.od.1.n := (List.length_map ..).trans HFIT.out.od.1; have e3 : m.pl.ma.length = m.ma.1.n := (List.length_map ..).trans HFIT.out.ma.1; have e4 : m.pl.wa.length = m.wa.1.n := HFIT.out.wa.1; have f1 : m.pl.tr.length = m.tr.1.n := strs_len ho.rd.tr
  show _ ∧ _; omega
 have HSZ : Hid ((∀ e ∈ m.pl.ev, e.scan.length ≤ 60) ∧ (∀ r ∈ m.pl.od, r.ts.length ≤ 60) ∧ (∀ r ∈ m.pl.ma, r.ts.length ≤ 60)) := ⟨hS.sc, hS.ot, hS.mt⟩
 clear kh b0 hs0 ho hS
 go_enter Tryz.func18, Tryz.ntmps18
 go_upto_region 1 with fail
 rw [← hW0]
 clear hW0
 have z0 : W0.cell? ⟨w.heap.size, 0, none⟩ = some (.slice m.tr.1.A m.tr.1.n m.tr.1.c) := HS.out.bh.cell 0
 have hntr : m.tr.1.n ≤ 200 := by have := HN.out; omega
 go_wp2_with fail
 clear z0
 go_loopw [13] (fun v wr => ∃ i : Nat, i ≤ m.tr.1.n ∧ v = .int .i64 i ∧ Hid (SpoI B w m wr)) (fun v _ => m.tr.1.n - (intOf v).toNat)
 case atStart => exact ⟨0, Nat.zero_le _, rfl, HS⟩
 case round =>
  clear HS
  obtain ⟨i, hi0, rfl, HS⟩ := hrel
  by_cases hin : i < m.tr.1.n
  ·have hlt : (i : Int) < (m.tr.1.n : Int) := by omega
   obtain ⟨g, hA, hg, ⟨c, hb⟩, ⟨u, hu⟩, hf⟩ := HS.out.tr.at_ (k := i) (by omega)
   have HS2 := Lib.hid (HS.out.cells hg hb (by decide) (by decide) (by decide) (by decide) (i) (.string ⟨#[]⟩))
   have z0 : wr.cell? ⟨w.heap.size, 0, none⟩ = some (.slice m.tr.1.A m.tr.1.n m.tr.1.c) := HS.out.bh.cell 0
   rw [hA] at z0 ⊢
   clear hA hg hb
   go_wp2_with fail
   go_roundw
   case rel => exact ⟨i + 1, hin, by go_num, HS2⟩
   case measure => simp [intOf]; omega
  ·have hie : i = m.tr.1.n := by omega
   rw [hie]
   clear hie hin hi0
   rename World => wtr
   have z4 : wtr.cell? ⟨w.heap.size, 4, none⟩ = some (.slice m.ev.1.A m.ev.1.n m.ev.1.c) := HS.out.bh.cell 4
   have hnev : m.ev.1.n ≤ 200 := by have := HN.out; omega
   go_wp2_with fail
   clear z4
   go_loopw [24] (fun v wr => ∃ i : Nat, i ≤ m.ev.1.n ∧ v = .int .i64 i ∧ Hid (SpoI B w m wr)) (fun v _ => m.ev.1.n - (intOf v).toNat)
   case atStart => exact ⟨0, Nat.zero_le _, rfl, HS⟩
   case round =>
    clear HS
    obtain ⟨i, hi0, rfl, HS⟩ := hrel
    by_cases hin : i < m.ev.1.n
    ·have hlt : (i : Int) < (m.ev.1.n : Int) := by omega
     obtain ⟨p, hp⟩ : ∃ p, m.ev.2[i]? = some p := ⟨m.ev.2[i]'(by rw [HFIT.out.ev.1]; exact hin), List.getElem?_eq_getElem _⟩
     obtain ⟨xs, he, hx⟩ := HS.out.ev
     obtain ⟨g, hA⟩ := own_pos he (by omega)
     have HS2 := Lib.hid (HS.out.kind hA i (.int .i64 0))
     have hl8 := he.1
     have u0 : ∃ u, wr.cell? ⟨g, i * 9, none⟩ = some u := by rw [hA] at he; exact ⟨_, (he.cellAt (i * 9) (by omega)).trans (List.getElem?_eq_getElem (by omega))⟩
     obtain ⟨u, hu⟩ := u0
     have hf : wr.frozen? ⟨g, i * 9, none⟩ = false := by rw [hA] at he; exact he.frozenAt _
     have HP := Lib.hid hp
     have HA := Lib.hid hA
     have hsn : p.2.n ≤ 60 := by have h9 : p.1.scan.length = p.2.n := (HFIT.out.sc _ (List.mem_of_getElem? hp)).1; have := HSZ.out.1 p.1 (List.mem_map.2 ⟨p, List.mem_of_getElem? hp, rfl⟩); omega
     have z4 : wr.cell? ⟨w.heap.size, 4, none⟩ = some (.slice m.ev.1.A m.ev.1.n m.ev.1.c) := HS.out.bh.cell 4
     rw [hA] at z4 ⊢
     clear he hx hl8 hp
     go_upto_region 10 with fail
     clear z4 hu hf
     generalize wr.setCell ⟨g, i * 9, none⟩ (.int .i64 0) = W9 at *
     obtain ⟨xs, he, hx⟩ := HS2.out.ev
     have hl8 := he.1
     have c8 : W9.cell? ⟨g, i * 9 + 8, none⟩ = some (.slice p.2.A p.2.n p.2.c) := by have h9 := hx i p HP.out; have hl9 := (List.getElem?_eq_some_iff.1 h9).1; rw [HA.out] at he; exact (he.cellAt _ (by omega)).trans h9
     have z4 : W9.cell? ⟨w.heap.size, 4, none⟩ = some (.slice (some ⟨g, 0, none⟩) m.ev.1.n m.ev.1.c) := by rw [← HA.out]; exact HS2.out.bh.cell 4
     clear he hx hl8 hA
     go_wp2_with fail
     rename World => wsc
     clear c8 z4
     go_loopw [39] (fun v wr => ∃ j : Nat, j ≤ p.2.n ∧ v = .int .i64 j ∧ Hid (SpoI B w m wr)) (fun v _ => p.2.n - (intOf v).toNat)
     case atStart => exact ⟨0, Nat.zero_le _, rfl, HS2⟩
     case round =>
      clear HS2 HS
      obtain ⟨j, hj0, rfl, HS⟩ := hrel
      by_cases hjn : j < p.2.n
      ·have hjl : (j : Int) < (p.2.n : Int) := by omega
       obtain ⟨xs, he, hx⟩ := HS.out.ev
       have hl8 := he.1
       have c8 : wr.cell? ⟨g, i * 9 + 8, none⟩ = some (.slice p.2.A p.2.n p.2.c) := by have h9 := hx i p HP.out; have hl9 := (List.getElem?_eq_some_iff.1 h9).1; rw [HA.out] at he; exact (he.cellAt _ (by omega)).trans h9
       obtain ⟨g2, hA2, hg2, ⟨c, hb⟩, ⟨u, hu⟩, hf⟩ := (HS.out.sc p (List.mem_of_getElem? HP.out)).at_ (k := j * 3) (by omega)
       have HS2 := Lib.hid (HS.out.cells hg2 hb (by decide) (by decide) (by decide) (by decide) (j * 3) (.int .i64 99))
       have z4 : wr.cell? ⟨w.heap.size, 4, none⟩ = some (.slice (some ⟨g, 0, none⟩) m.ev.1.n m.ev.1.c) := by rw [← HA.out]; exact HS.out.bh.cell 4
       have HA2 := Lib.hid hA2
       rw [hA2] at c8 ⊢
       clear he hx hl8 hA2 hg2 hb
       go_wp2_with fail
       go_roundw
       case rel => exact ⟨j + 1, hjn, by go_num, HS2⟩
       case measure => simp [intOf]; omega
      ·have hje : j = p.2.n := by omega
       rw [hje]
       clear hje hjn hj0
       go_wp2_with fail
       go_roundw
       case rel => exact ⟨i + 1, hin, by go_num, HS⟩
       case measure => simp [intOf]; omega
    ·have hie : i = m.ev.1.n := by omega
     rw [hie]
     clear hie hin hi0
     rename World => wev
     have z5 : wev.cell? ⟨w.heap.size, 5, none⟩ = some (.slice m.od.1.A m.od.1.n m.od.1.c) := HS.out.bh.cell 5
     have hnod : m.od.1.n ≤ 200 := by have := HN.out; omega
     go_wp2_with fail
     clear z5
     go_loopw [56] (fun v wr => ∃ i : Nat, i ≤ m.od.1.n ∧ v = .int .i64 i ∧ Hid (SpoI B w m wr)) (fun v _ => m.od.1.n - (intOf v).toNat)
     case atStart => exact ⟨0, Nat.zero_le _, rfl, HS⟩
     case round =>
      clear HS
      obtain ⟨i, hi0, rfl, HS⟩ := hrel
      by_cases hin : i < m.od.1.n
      ·have hlt : (i : Int) < (m.od.1.n : Int) := by omega
       obtain ⟨p, hp⟩ : ∃ p, m.od.2[i]? = some p := ⟨m.od.2[i]'(by rw [HFIT.out.od.1]; exact hin), List.getElem?_eq_getElem _⟩
       have HP := Lib.hid hp
       obtain ⟨g, hA⟩ := own_pos HS.out.od (by omega)
       have HA := Lib.hid hA
       have HC : Hid (∀ X, SpoI B w m X → X.cell? ⟨g, i * 2 + 1, none⟩ = some (.slice p.2.A p.2.n p.2.c)) := fun X hX => by
        have h9 : (m.od.2.flatMap odCs)[i * 2 + 1]? = some (.slice p.2.A p.2.n p.2.c) := fm_at odCs_len hp rfl
        have hl9 := (List.getElem?_eq_some_iff.1 h9).1
        have he := hX.od
        have hl8 := he.1
        rw [hA] at he
        exact (he.cellAt _ (by omega)).trans h9
       have hsn : p.2.n ≤ 60 := by have h9 : p.1.ts.length = p.2.n := (HFIT.out.ot _ (List.mem_of_getElem? hp)).1; have := HSZ.out.2.1 p.1 (List.mem_map.2 ⟨p, List.mem_of_getElem? hp, rfl⟩); omega
       have z5 : wr.cell? ⟨w.heap.size, 5, none⟩ = some (.slice m.od.1.A m.od.1.n m.od.1.c) := HS.out.bh.cell 5
       rw [hA] at z5 ⊢
       have c8 := HC.out wr HS.out
       clear hp hA
       go_wp2_with fail
       rename World => wsod
       clear c8 z5
       go_loopw [66] (fun v wr => ∃ j : Nat, j ≤ p.2.n ∧ v = .int .i64 j ∧ Hid (SpoI B w m wr)) (fun v _ => p.2.n - (intOf v).toNat)
       case atStart => exact ⟨0, Nat.zero_le _, rfl, HS⟩
       case round =>
        clear HS
        obtain ⟨j, hj0, rfl, HS⟩ := hrel
        by_cases hjn : j < p.2.n
        ·have hjl : (j : Int) < (p.2.n : Int) := by omega
         obtain ⟨g2, hA2, hg2, ⟨c, hb⟩, ⟨u, hu⟩, hf⟩ := (HS.out.ot p (List.mem_of_getElem? HP.out)).at_ (k := j) (by omega)
         have HS2 := Lib.hid (HS.out.cells hg2 hb (by decide) (by decide) (by decide) (by decide) j (.int .i64 99))
         have c8 := HC.out wr HS.out
         have z5 : wr.cell? ⟨w.heap.size, 5, none⟩ = some (.slice (some ⟨g, 0, none⟩) m.od.1.n m.od.1.c) := by rw [← HA.out]; exact HS.out.bh.cell 5
         rw [hA2] at c8 ⊢
         clear hA2 hg2 hb
         go_wp2_with fail
         go_roundw
         case rel => exact ⟨j + 1, hjn, by go_num, HS2⟩
         case measure => simp [intOf]; omega
        ·have hje : j = p.2.n := by omega
         rw [hje]
         clear hje hjn hj0
         go_wp2_with fail
         go_roundw
         case rel => exact ⟨i + 1, hin, by go_num, HS⟩
         case measure => simp [intOf]; omega
      ·have hie : i = m.od.1.n := by omega
       rw [hie]
       clear hie hin hi0
       rename World => wod
       have z6 : wod.cell? ⟨w.heap.size, 6, none⟩ = some (.slice m.ma.1.A m.ma.1.n m.ma.1.c) := HS.out.bh.cell 6
       have hnma : m.ma.1.n ≤ 200 := by have := HN.out; omega
       go_wp2_with fail
       clear z6
       go_loopw [82] (fun v wr => ∃ i : Nat, i ≤ m.ma.1.n ∧ v = .int .i64 i ∧ Hid (SpoI B w m wr)) (fun v _ => m.ma.1.n - (intOf v).toNat)
       case atStart => exact ⟨0, Nat.zero_le _, rfl, HS⟩
       case round =>
        clear HS
        obtain ⟨i, hi0, rfl, HS⟩ := hrel
        by_cases hin : i < m.ma.1.n
        ·have hlt : (i : Int) < (m.ma.1.n : Int) := by omega
         obtain ⟨p, hp⟩ : ∃ p, m.ma.2[i]? = some p := ⟨m.ma.2[i]'(by rw [HFIT.out.ma.1]; exact hin), List.getElem?_eq_getElem _⟩
         have HP := Lib.hid hp
         obtain ⟨g, hA⟩ := own_pos HS.out.ma (by omega)
         have HA := Lib.hid hA
         have HC : Hid (∀ X, SpoI B w m X → X.cell? ⟨g, i * 4 + 3, none⟩ = some (.slice p.2.A p.2.n p.2.c)) := fun X hX => by
          have h9 : (m.ma.2.flatMap maCs)[i * 4 + 3]? = some (.slice p.2.A p.2.n p.2.c) := fm_at maCs_len hp rfl
          have hl9 := (List.getElem?_eq_some_iff.1 h9).1
          have he := hX.ma
          have hl8 := he.1
          rw [hA] at he
          exact (he.cellAt _ (by omega)).trans h9
         have hsn : p.2.n ≤ 60 := by have h9 : p.1.ts.length = p.2.n := (HFIT.out.mt _ (List.mem_of_getElem? hp)).1; have := HSZ.out.2.2 p.1 (List.mem_map.2 ⟨p, List.mem_of_getElem? hp, rfl⟩); omega
         have z6 : wr.cell? ⟨w.heap.size, 6, none⟩ = some (.slice m.ma.1.A m.ma.1.n m.ma.1.c) := HS.out.bh.cell 6
         rw [hA] at z6 ⊢
         have c8 := HC.out wr HS.out
         clear hp hA
         go_wp2_with fail
         rename World => wsma
         clear c8 z6
         go_loopw [92] (fun v wr => ∃ j : Nat, j ≤ p.2.n ∧ v = .int .i64 j ∧ Hid (SpoI B w m wr)) (fun v _ => p.2.n - (intOf v).toNat)
         case atStart => exact ⟨0, Nat.zero_le _, rfl, HS⟩
         case round =>
          clear HS
          obtain ⟨j, hj0, rfl, HS⟩ := hrel
          by_cases hjn : j < p.2.n
          ·have hjl : (j : Int) < (p.2.n : Int) := by omega
           obtain ⟨g2, hA2, hg2, ⟨c, hb⟩, ⟨u, hu⟩, hf⟩ := (HS.out.mt p (List.mem_of_getElem? HP.out)).at_ (k := j) (by omega)
           have HS2 := Lib.hid (HS.out.cells hg2 hb (by decide) (by decide) (by decide) (by decide) j (.int .i64 99))
           have c8 := HC.out wr HS.out
           have z6 : wr.cell? ⟨w.heap.size, 6, none⟩ = some (.slice (some ⟨g, 0, none⟩) m.ma.1.n m.ma.1.c) := by rw [← HA.out]; exact HS.out.bh.cell 6
           rw [hA2] at c8 ⊢
           clear hA2 hg2 hb
           go_wp2_with fail
           go_roundw
           case rel => exact ⟨j + 1, hjn, by go_num, HS2⟩
           case measure => simp [intOf]; omega
          ·have hje : j = p.2.n := by omega
           rw [hje]
           clear hje hjn hj0
           go_wp2_with fail
           go_roundw
           case rel => exact ⟨i + 1, hin, by go_num, HS⟩
           case measure => simp [intOf]; omega
        ·have hie : i = m.ma.1.n := by omega
         rw [hie]
         clear hie hin hi0
         rename World => wma
         have z7 : wma.cell? ⟨w.heap.size, 7, none⟩ = some (.slice m.wa.1.A m.wa.1.n m.wa.1.c) := HS.out.bh.cell 7
         have hnwa : m.wa.1.n ≤ 200 := by have := HN.out; omega
         go_wp2_with fail
         clear z7
         go_loopw [108] (fun v wr => ∃ i : Nat, i ≤ m.wa.1.n ∧ v = .int .i64 i ∧ Hid (SpoI B w m wr)) (fun v _ => m.wa.1.n - (intOf v).toNat)
         case atStart => exact ⟨0, Nat.zero_le _, rfl, HS⟩
         case round =>
          clear HS
          obtain ⟨i, hi0, rfl, HS⟩ := hrel
          by_cases hin : i < m.wa.1.n
          ·have hlt : (i : Int) < (m.wa.1.n : Int) := by omega
           obtain ⟨g, hA, hg, ⟨c, hb⟩, ⟨u, hu⟩, hf⟩ := HS.out.wa.at_ (k := i * 2 + 1) (by omega)
           have HS2 := Lib.hid (HS.out.cells hg hb (by decide) (by decide) (by decide) (by decide) (i * 2 + 1) (.int .i64 99))
           have z7 : wr.cell? ⟨w.heap.size, 7, none⟩ = some (.slice m.wa.1.A m.wa.1.n m.wa.1.c) := HS.out.bh.cell 7
           rw [hA] at z7 ⊢
           clear hA hg hb
           go_wp2_with fail
           go_roundw
           case rel => exact ⟨i + 1, hin, by go_num, HS2⟩
           case measure => simp [intOf]; omega
          ·have hie : i = m.wa.1.n := by omega
           rw [hie]
           clear hie hin hi0
           go_wp2_with fail
           exact bodyPost_end (v := .tuple #[]) (by simp [results, Tryz.results18]) rfl ⟨rfl, HS.out.below⟩
end Go.Proofs.YtlnbmmaminflcaaGreatDoor
