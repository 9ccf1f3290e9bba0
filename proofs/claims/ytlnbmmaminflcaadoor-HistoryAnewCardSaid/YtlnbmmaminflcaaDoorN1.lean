/- HistoryAnew: the walk. -/
import Derived.Test.YtlnbmmaminflcaaDoorM32
-- holds: YtlnbmmaminflcaaDoorQJya
namespace Go.Proofs.YtlnbmmaminflcaaDoor
open Go.RowKit Go.Shelf

set_option maxRecDepth 100000 in
set_option maxHeartbeats 8000000 in
theorem anew_core (m : HistM) (w : World) (hT : Tabs w) (ha : HArg w m) : Calls Tryd.prog 3 #[.agg #[.slice m.tr.1.A m.tr.1.n m.tr.1.c, .slice m.se.1.A m.se.1.n m.se.1.c, .slice m.ob.1.A m.ob.1.n m.ob.1.c, .slice m.pr.1.A m.pr.1.n m.pr.1.c, .slice m.ev.1.A m.ev.1.n m.ev.1.c, .slice m.od.1.A m.od.1.n m.od.1.c, .slice m.ma.1.A m.ma.1.n m.ma.1.c, .slice m.wa.1.A m.wa.1.n m.wa.1.c]] w fun x w' => x = .returned (.bool true) ∧ Below w.heap.size w w' := by
  obtain ⟨kh, b0, hs0⟩ := ibox w #[.slice m.tr.1.A m.tr.1.n m.tr.1.c, .slice m.se.1.A m.se.1.n m.se.1.c, .slice m.ob.1.A m.ob.1.n m.ob.1.c, .slice m.pr.1.A m.pr.1.n m.pr.1.c, .slice m.ev.1.A m.ev.1.n m.ev.1.c, .slice m.od.1.A m.od.1.n m.od.1.c, .slice m.ma.1.A m.ma.1.n m.ma.1.c, .slice m.wa.1.A m.wa.1.n m.wa.1.c] 28
  obtain ⟨W0, hW0⟩ : ∃ W0, W0 = w.alloc (.cells #[.slice m.tr.1.A m.tr.1.n m.tr.1.c, .slice m.se.1.A m.se.1.n m.se.1.c, .slice m.ob.1.A m.ob.1.n m.ob.1.c, .slice m.pr.1.A m.pr.1.n m.pr.1.c, .slice m.ev.1.A m.ev.1.n m.ev.1.c, .slice m.od.1.A m.od.1.n m.od.1.c, .slice m.ma.1.A m.ma.1.n m.ma.1.c, .slice m.wa.1.A m.wa.1.n m.wa.1.c] 28) := ⟨_, rfl⟩
  rw [← hW0] at kh b0
  have KH : Hid (Blk W0 w.heap.size 28 m.cs) := kh
  have BW := Lib.hid b0
  have HT := Lib.hid hT
  have HARG := Lib.hid ha
  have HS := Lib.hid (few_small m.pl)
  clear kh b0 hs0 hT ha
  go_enter Tryd.func3, Tryd.ntmps3
  go_upto_region 1 with fail
  rw [← hW0]
  clear hW0
  go_wp2_with fail
  refine (wakes11_any W0 (HT.out.on BW.out (Nat.le_refl _))).mono ?_
  rintro _ W1 ⟨rfl, bb⟩
  have KH := Lib.hid (KH.out.below bb KH.out.lt)
  have BW := Lib.hid (BW.out.trans (bb.mono BW.out.size))
  clear bb
  have z0 : W1.cell? ⟨w.heap.size, 0, none⟩ = some (.slice m.tr.1.A m.tr.1.n m.tr.1.c) := KH.out.cell 0
  have z1 : W1.cell? ⟨w.heap.size, 1, none⟩ = some (.slice m.se.1.A m.se.1.n m.se.1.c) := KH.out.cell 1
  have z2 : W1.cell? ⟨w.heap.size, 2, none⟩ = some (.slice m.ob.1.A m.ob.1.n m.ob.1.c) := KH.out.cell 2
  have z3 : W1.cell? ⟨w.heap.size, 3, none⟩ = some (.slice m.pr.1.A m.pr.1.n m.pr.1.c) := KH.out.cell 3
  have z4 : W1.cell? ⟨w.heap.size, 4, none⟩ = some (.slice m.ev.1.A m.ev.1.n m.ev.1.c) := KH.out.cell 4
  have z5 : W1.cell? ⟨w.heap.size, 5, none⟩ = some (.slice m.od.1.A m.od.1.n m.od.1.c) := KH.out.cell 5
  have z6 : W1.cell? ⟨w.heap.size, 6, none⟩ = some (.slice m.ma.1.A m.ma.1.n m.ma.1.c) := KH.out.cell 6
  have z7 : W1.cell? ⟨w.heap.size, 7, none⟩ = some (.slice m.wa.1.A m.wa.1.n m.wa.1.c) := KH.out.cell 7
  go_wp2_with fail
  refine (few11_any m W1 (HARG.out.on BW.out)).mono ?_
  rintro _ Y ⟨h, rfl, ho, hp, bb⟩
  have hbx := HBx.new (w := w) ho BW.out.size #[.slice h.tr.1.A h.tr.1.n h.tr.1.c, .slice h.se.1.A h.se.1.n h.se.1.c, .slice h.ob.1.A h.ob.1.n h.ob.1.c, .slice h.pr.1.A h.pr.1.n h.pr.1.c, .slice h.ev.1.A h.ev.1.n h.ev.1.c, .slice h.od.1.A h.od.1.n h.od.1.c, .slice h.ma.1.A h.ma.1.n h.ma.1.c, .slice h.wa.1.A h.wa.1.n h.wa.1.c] rfl
  have b2 : Below Y.heap.size Y (Y.alloc (.cells #[.slice h.tr.1.A h.tr.1.n h.tr.1.c, .slice h.se.1.A h.se.1.n h.se.1.c, .slice h.ob.1.A h.ob.1.n h.ob.1.c, .slice h.pr.1.A h.pr.1.n h.pr.1.c, .slice h.ev.1.A h.ev.1.n h.ev.1.c, .slice h.od.1.A h.od.1.n h.od.1.c, .slice h.ma.1.A h.ma.1.n h.ma.1.c, .slice h.wa.1.A h.wa.1.n h.wa.1.c] 28)) := (Below.refl _ _).alloc (Nat.le_refl _) _
  have bb := bb.trans (b2.mono bb.size)
  have KH := Lib.hid (KH.out.below bb KH.out.lt)
  have BW := Lib.hid (BW.out.trans (bb.mono BW.out.size))
  have HPh := Lib.hid hp
  have HH := Lib.hid hbx
  clear z0 z1 z2 z3 z4 z5 z6 z7 ho hp bb b2 hbx
  go_upto_region 4 with fail
  generalize Y.alloc (.cells #[.slice h.tr.1.A h.tr.1.n h.tr.1.c, .slice h.se.1.A h.se.1.n h.se.1.c, .slice h.ob.1.A h.ob.1.n h.ob.1.c, .slice h.pr.1.A h.pr.1.n h.pr.1.c, .slice h.ev.1.A h.ev.1.n h.ev.1.c, .slice h.od.1.A h.od.1.n h.od.1.c, .slice h.ma.1.A h.ma.1.n h.ma.1.c, .slice h.wa.1.A h.wa.1.n h.wa.1.c] 28) = Xh at *
  generalize Y.heap.size = Bh at *
  have HSh : Hid (Small h.pl) := by show Small h.pl; rw [HPh.out]; exact HS.out
  have HEV : Hid (h.pl.ev.length ≤ 80) := by show h.pl.ev.length ≤ 80; rw [HPh.out]; exact few_ev m.pl
  have z0 : Xh.cell? ⟨Bh, 0, none⟩ = some (.slice h.tr.1.A h.tr.1.n h.tr.1.c) := HH.out.blk.cell 0
  have z1 : Xh.cell? ⟨Bh, 1, none⟩ = some (.slice h.se.1.A h.se.1.n h.se.1.c) := HH.out.blk.cell 1
  have z2 : Xh.cell? ⟨Bh, 2, none⟩ = some (.slice h.ob.1.A h.ob.1.n h.ob.1.c) := HH.out.blk.cell 2
  have z3 : Xh.cell? ⟨Bh, 3, none⟩ = some (.slice h.pr.1.A h.pr.1.n h.pr.1.c) := HH.out.blk.cell 3
  have z4 : Xh.cell? ⟨Bh, 4, none⟩ = some (.slice h.ev.1.A h.ev.1.n h.ev.1.c) := HH.out.blk.cell 4
  have z5 : Xh.cell? ⟨Bh, 5, none⟩ = some (.slice h.od.1.A h.od.1.n h.od.1.c) := HH.out.blk.cell 5
  have z6 : Xh.cell? ⟨Bh, 6, none⟩ = some (.slice h.ma.1.A h.ma.1.n h.ma.1.c) := HH.out.blk.cell 6
  have z7 : Xh.cell? ⟨Bh, 7, none⟩ = some (.slice h.wa.1.A h.wa.1.n h.wa.1.c) := HH.out.blk.cell 7
  go_wp2_with fail
  refine (number11_any h HSh.out Xh (HT.out.on BW.out (Nat.le_refl _)) HH.out.rd).mono ?_
  rintro _ Y ⟨n, rfl, ho, hp, bb⟩
  have hbx := HBx.new (w := w) ho BW.out.size #[.slice n.tr.1.A n.tr.1.n n.tr.1.c, .slice n.se.1.A n.se.1.n n.se.1.c, .slice n.ob.1.A n.ob.1.n n.ob.1.c, .slice n.pr.1.A n.pr.1.n n.pr.1.c, .slice n.ev.1.A n.ev.1.n n.ev.1.c, .slice n.od.1.A n.od.1.n n.od.1.c, .slice n.ma.1.A n.ma.1.n n.ma.1.c, .slice n.wa.1.A n.wa.1.n n.wa.1.c] rfl
  have b2 : Below Y.heap.size Y (Y.alloc (.cells #[.slice n.tr.1.A n.tr.1.n n.tr.1.c, .slice n.se.1.A n.se.1.n n.se.1.c, .slice n.ob.1.A n.ob.1.n n.ob.1.c, .slice n.pr.1.A n.pr.1.n n.pr.1.c, .slice n.ev.1.A n.ev.1.n n.ev.1.c, .slice n.od.1.A n.od.1.n n.od.1.c, .slice n.ma.1.A n.ma.1.n n.ma.1.c, .slice n.wa.1.A n.wa.1.n n.wa.1.c] 28)) := (Below.refl _ _).alloc (Nat.le_refl _) _
  have bb := bb.trans (b2.mono bb.size)
  have HH := Lib.hid (HH.out.on bb)
  have BW := Lib.hid (BW.out.trans (bb.mono BW.out.size))
  have HN := Lib.hid hbx
  have HPn := Lib.hid hp
  clear z0 z1 z2 z3 z4 z5 z6 z7 ho hp bb b2 hbx
  cases hsh : shapedB h.pl
  · have HNE : Hid (numE h.pl = 210) := by show _ = _; unfold numE; rw [hsh]; rfl
    have HCE : Hid (checkE h.pl = 210) := checkE_no (right_unshaped hsh)
    clear hsh
    rw [HNE.out]
    go_upto_region 5 with fail
    generalize Y.alloc (.cells #[.slice n.tr.1.A n.tr.1.n n.tr.1.c, .slice n.se.1.A n.se.1.n n.se.1.c, .slice n.ob.1.A n.ob.1.n n.ob.1.c, .slice n.pr.1.A n.pr.1.n n.pr.1.c, .slice n.ev.1.A n.ev.1.n n.ev.1.c, .slice n.od.1.A n.od.1.n n.od.1.c, .slice n.ma.1.A n.ma.1.n n.ma.1.c, .slice n.wa.1.A n.wa.1.n n.wa.1.c] 28) = Xn at *
    generalize Y.heap.size = Bn at *
    have z0 : Xn.cell? ⟨Bh, 0, none⟩ = some (.slice h.tr.1.A h.tr.1.n h.tr.1.c) := HH.out.blk.cell 0
    have z1 : Xn.cell? ⟨Bh, 1, none⟩ = some (.slice h.se.1.A h.se.1.n h.se.1.c) := HH.out.blk.cell 1
    have z2 : Xn.cell? ⟨Bh, 2, none⟩ = some (.slice h.ob.1.A h.ob.1.n h.ob.1.c) := HH.out.blk.cell 2
    have z3 : Xn.cell? ⟨Bh, 3, none⟩ = some (.slice h.pr.1.A h.pr.1.n h.pr.1.c) := HH.out.blk.cell 3
    have z4 : Xn.cell? ⟨Bh, 4, none⟩ = some (.slice h.ev.1.A h.ev.1.n h.ev.1.c) := HH.out.blk.cell 4
    have z5 : Xn.cell? ⟨Bh, 5, none⟩ = some (.slice h.od.1.A h.od.1.n h.od.1.c) := HH.out.blk.cell 5
    have z6 : Xn.cell? ⟨Bh, 6, none⟩ = some (.slice h.ma.1.A h.ma.1.n h.ma.1.c) := HH.out.blk.cell 6
    have z7 : Xn.cell? ⟨Bh, 7, none⟩ = some (.slice h.wa.1.A h.wa.1.n h.wa.1.c) := HH.out.blk.cell 7
    go_wp2_with fail
    refine (check11_any h HSh.out Xn (HT.out.on BW.out (Nat.le_refl _)) HH.out.rd).mono ?_
    rintro _ Y2 ⟨rfl, bb⟩
    rw [HCE.out]
    have BW := Lib.hid (BW.out.trans (bb.mono BW.out.size))
    clear z0 z1 z2 z3 z4 z5 z6 z7 bb
    go_wp2_with fail
    go_ret
    exact ⟨rfl, BW.out⟩
  · have HNE : Hid (numE h.pl = 0) := by show _ = _; unfold numE; rw [hsh]; rfl
    have HSHP := Lib.hid hsh
    have HPN : Hid (n.pl = numP h.pl) := by show n.pl = _; rw [HPn.out, if_pos hsh]
    clear hsh
    rw [HNE.out]
    go_upto_region 7 with fail
    generalize Y.alloc (.cells #[.slice n.tr.1.A n.tr.1.n n.tr.1.c, .slice n.se.1.A n.se.1.n n.se.1.c, .slice n.ob.1.A n.ob.1.n n.ob.1.c, .slice n.pr.1.A n.pr.1.n n.pr.1.c, .slice n.ev.1.A n.ev.1.n n.ev.1.c, .slice n.od.1.A n.od.1.n n.od.1.c, .slice n.ma.1.A n.ma.1.n n.ma.1.c, .slice n.wa.1.A n.wa.1.n n.wa.1.c] 28) = Xn at *
    generalize Y.heap.size = Bn at *
    have HSn : Hid (Small n.pl) := by show Small n.pl; rw [HPN.out]; exact num_small HSh.out HSHP.out
    have HSP2 : Hid (shapedB n.pl = true) := by show _ = _; rw [HPN.out]; exact num_shaped HSHP.out
    have z0 : Xn.cell? ⟨Bn, 0, none⟩ = some (.slice n.tr.1.A n.tr.1.n n.tr.1.c) := HN.out.blk.cell 0
    have z1 : Xn.cell? ⟨Bn, 1, none⟩ = some (.slice n.se.1.A n.se.1.n n.se.1.c) := HN.out.blk.cell 1
    have z2 : Xn.cell? ⟨Bn, 2, none⟩ = some (.slice n.ob.1.A n.ob.1.n n.ob.1.c) := HN.out.blk.cell 2
    have z3 : Xn.cell? ⟨Bn, 3, none⟩ = some (.slice n.pr.1.A n.pr.1.n n.pr.1.c) := HN.out.blk.cell 3
    have z4 : Xn.cell? ⟨Bn, 4, none⟩ = some (.slice n.ev.1.A n.ev.1.n n.ev.1.c) := HN.out.blk.cell 4
    have z5 : Xn.cell? ⟨Bn, 5, none⟩ = some (.slice n.od.1.A n.od.1.n n.od.1.c) := HN.out.blk.cell 5
    have z6 : Xn.cell? ⟨Bn, 6, none⟩ = some (.slice n.ma.1.A n.ma.1.n n.ma.1.c) := HN.out.blk.cell 6
    have z7 : Xn.cell? ⟨Bn, 7, none⟩ = some (.slice n.wa.1.A n.wa.1.n n.wa.1.c) := HN.out.blk.cell 7
    go_wp2_with fail
    refine (number11_any n HSn.out Xn (HT.out.on BW.out (Nat.le_refl _)) HN.out.rd).mono ?_
    rintro _ Y ⟨g, rfl, ho, hp, bb⟩
    have hbx := HBx.new (w := w) ho BW.out.size #[.slice g.tr.1.A g.tr.1.n g.tr.1.c, .slice g.se.1.A g.se.1.n g.se.1.c, .slice g.ob.1.A g.ob.1.n g.ob.1.c, .slice g.pr.1.A g.pr.1.n g.pr.1.c, .slice g.ev.1.A g.ev.1.n g.ev.1.c, .slice g.od.1.A g.od.1.n g.od.1.c, .slice g.ma.1.A g.ma.1.n g.ma.1.c, .slice g.wa.1.A g.wa.1.n g.wa.1.c] rfl
    have b2 : Below Y.heap.size Y (Y.alloc (.cells #[.slice g.tr.1.A g.tr.1.n g.tr.1.c, .slice g.se.1.A g.se.1.n g.se.1.c, .slice g.ob.1.A g.ob.1.n g.ob.1.c, .slice g.pr.1.A g.pr.1.n g.pr.1.c, .slice g.ev.1.A g.ev.1.n g.ev.1.c, .slice g.od.1.A g.od.1.n g.od.1.c, .slice g.ma.1.A g.ma.1.n g.ma.1.c, .slice g.wa.1.A g.wa.1.n g.wa.1.c] 28)) := (Below.refl _ _).alloc (Nat.le_refl _) _
    have bb := bb.trans (b2.mono bb.size)
    have HH := Lib.hid (HH.out.on bb)
    have HN := Lib.hid (HN.out.on bb)
    have BW := Lib.hid (BW.out.trans (bb.mono BW.out.size))
    have HG := Lib.hid hbx
    have HPg := Lib.hid hp
    clear z0 z1 z2 z3 z4 z5 z6 z7 ho hp bb b2 hbx
    have HPG : Hid (g.pl = n.pl) := by show g.pl = _; rw [HPg.out, if_pos HSP2.out, HPN.out, num_twice]
    rw [show numE n.pl = 0 from by unfold numE; rw [HSP2.out]; rfl]
    go_upto_region 8 with fail
    generalize Y.alloc (.cells #[.slice g.tr.1.A g.tr.1.n g.tr.1.c, .slice g.se.1.A g.se.1.n g.se.1.c, .slice g.ob.1.A g.ob.1.n g.ob.1.c, .slice g.pr.1.A g.pr.1.n g.pr.1.c, .slice g.ev.1.A g.ev.1.n g.ev.1.c, .slice g.od.1.A g.od.1.n g.od.1.c, .slice g.ma.1.A g.ma.1.n g.ma.1.c, .slice g.wa.1.A g.wa.1.n g.wa.1.c] 28) = Xg at *
    generalize Y.heap.size = Bg at *
    go_cut [53] (fun s53 wx => s53 = .bool false ∧ Hid (HBx w wx Bh h) ∧ Hid (HBx w wx Bn n) ∧ Hid (Below w.heap.size w wx))
    case first =>
      have z0 : Xg.cell? ⟨Bn, 0, none⟩ = some (.slice n.tr.1.A n.tr.1.n n.tr.1.c) := HN.out.blk.cell 0
      have z1 : Xg.cell? ⟨Bn, 1, none⟩ = some (.slice n.se.1.A n.se.1.n n.se.1.c) := HN.out.blk.cell 1
      have z2 : Xg.cell? ⟨Bn, 2, none⟩ = some (.slice n.ob.1.A n.ob.1.n n.ob.1.c) := HN.out.blk.cell 2
      have z3 : Xg.cell? ⟨Bn, 3, none⟩ = some (.slice n.pr.1.A n.pr.1.n n.pr.1.c) := HN.out.blk.cell 3
      have z4 : Xg.cell? ⟨Bn, 4, none⟩ = some (.slice n.ev.1.A n.ev.1.n n.ev.1.c) := HN.out.blk.cell 4
      have z5 : Xg.cell? ⟨Bn, 5, none⟩ = some (.slice n.od.1.A n.od.1.n n.od.1.c) := HN.out.blk.cell 5
      have z6 : Xg.cell? ⟨Bn, 6, none⟩ = some (.slice n.ma.1.A n.ma.1.n n.ma.1.c) := HN.out.blk.cell 6
      have z7 : Xg.cell? ⟨Bn, 7, none⟩ = some (.slice n.wa.1.A n.wa.1.n n.wa.1.c) := HN.out.blk.cell 7
      go_wp2_with fail
      refine (check11_any n HSn.out Xg (HT.out.on BW.out (Nat.le_refl _)) HN.out.rd).mono ?_
      rintro _ X2 ⟨rfl, bb⟩
      clear z0 z1 z2 z3 z4 z5 z6 z7
      have HH := Lib.hid (HH.out.on bb)
      have HN := Lib.hid (HN.out.on bb)
      have HG := Lib.hid (HG.out.on bb)
      have BW := Lib.hid (BW.out.trans (bb.mono BW.out.size))
      clear bb
      rw [show checkE n.pl = 0 from checkE_ok (by rw [HPN.out]; exact num_right HSHP.out)]
      have z0 : X2.cell? ⟨Bn, 0, none⟩ = some (.slice n.tr.1.A n.tr.1.n n.tr.1.c) := HN.out.blk.cell 0
      have z1 : X2.cell? ⟨Bn, 1, none⟩ = some (.slice n.se.1.A n.se.1.n n.se.1.c) := HN.out.blk.cell 1
      have z2 : X2.cell? ⟨Bn, 2, none⟩ = some (.slice n.ob.1.A n.ob.1.n n.ob.1.c) := HN.out.blk.cell 2
      have z3 : X2.cell? ⟨Bn, 3, none⟩ = some (.slice n.pr.1.A n.pr.1.n n.pr.1.c) := HN.out.blk.cell 3
      have z4 : X2.cell? ⟨Bn, 4, none⟩ = some (.slice n.ev.1.A n.ev.1.n n.ev.1.c) := HN.out.blk.cell 4
      have z5 : X2.cell? ⟨Bn, 5, none⟩ = some (.slice n.od.1.A n.od.1.n n.od.1.c) := HN.out.blk.cell 5
      have z6 : X2.cell? ⟨Bn, 6, none⟩ = some (.slice n.ma.1.A n.ma.1.n n.ma.1.c) := HN.out.blk.cell 6
      have z7 : X2.cell? ⟨Bn, 7, none⟩ = some (.slice n.wa.1.A n.wa.1.n n.wa.1.c) := HN.out.blk.cell 7
      have y0 : X2.cell? ⟨Bg, 0, none⟩ = some (.slice g.tr.1.A g.tr.1.n g.tr.1.c) := HG.out.blk.cell 0
      have y1 : X2.cell? ⟨Bg, 1, none⟩ = some (.slice g.se.1.A g.se.1.n g.se.1.c) := HG.out.blk.cell 1
      have y2 : X2.cell? ⟨Bg, 2, none⟩ = some (.slice g.ob.1.A g.ob.1.n g.ob.1.c) := HG.out.blk.cell 2
      have y3 : X2.cell? ⟨Bg, 3, none⟩ = some (.slice g.pr.1.A g.pr.1.n g.pr.1.c) := HG.out.blk.cell 3
      have y4 : X2.cell? ⟨Bg, 4, none⟩ = some (.slice g.ev.1.A g.ev.1.n g.ev.1.c) := HG.out.blk.cell 4
      have y5 : X2.cell? ⟨Bg, 5, none⟩ = some (.slice g.od.1.A g.od.1.n g.od.1.c) := HG.out.blk.cell 5
      have y6 : X2.cell? ⟨Bg, 6, none⟩ = some (.slice g.ma.1.A g.ma.1.n g.ma.1.c) := HG.out.blk.cell 6
      have y7 : X2.cell? ⟨Bg, 7, none⟩ = some (.slice g.wa.1.A g.wa.1.n g.wa.1.c) := HG.out.blk.cell 7
      go_wp2_with fail
      refine (same11_any g n (by rw [HPG.out]; exact HSn.out) HSn.out X2 HG.out.rd HN.out.rd).mono ?_
      rintro _ X3 ⟨rfl, bb⟩
      clear z0 z1 z2 z3 z4 z5 z6 z7
      clear y0 y1 y2 y3 y4 y5 y6 y7
      have HH := Lib.hid (HH.out.on bb)
      have HN := Lib.hid (HN.out.on bb)
      have BW := Lib.hid (BW.out.trans (bb.mono BW.out.size))
      clear bb
      rw [show decide (g.pl = n.pl) = true from decide_eq_true HPG.out]
      have z0 : X3.cell? ⟨Bh, 0, none⟩ = some (.slice h.tr.1.A h.tr.1.n h.tr.1.c) := HH.out.blk.cell 0
      have z1 : X3.cell? ⟨Bh, 1, none⟩ = some (.slice h.se.1.A h.se.1.n h.se.1.c) := HH.out.blk.cell 1
      have z2 : X3.cell? ⟨Bh, 2, none⟩ = some (.slice h.ob.1.A h.ob.1.n h.ob.1.c) := HH.out.blk.cell 2
      have z3 : X3.cell? ⟨Bh, 3, none⟩ = some (.slice h.pr.1.A h.pr.1.n h.pr.1.c) := HH.out.blk.cell 3
      have z4 : X3.cell? ⟨Bh, 4, none⟩ = some (.slice h.ev.1.A h.ev.1.n h.ev.1.c) := HH.out.blk.cell 4
      have z5 : X3.cell? ⟨Bh, 5, none⟩ = some (.slice h.od.1.A h.od.1.n h.od.1.c) := HH.out.blk.cell 5
      have z6 : X3.cell? ⟨Bh, 6, none⟩ = some (.slice h.ma.1.A h.ma.1.n h.ma.1.c) := HH.out.blk.cell 6
      have z7 : X3.cell? ⟨Bh, 7, none⟩ = some (.slice h.wa.1.A h.wa.1.n h.wa.1.c) := HH.out.blk.cell 7
      go_wp2_with fail
      refine (check11_any h HSh.out X3 (HT.out.on BW.out (Nat.le_refl _)) HH.out.rd).mono ?_
      rintro _ X4 ⟨rfl, bb⟩
      clear z0 z1 z2 z3 z4 z5 z6 z7
      have HH := Lib.hid (HH.out.on bb)
      have HN := Lib.hid (HN.out.on bb)
      have BW := Lib.hid (BW.out.trans (bb.mono BW.out.size))
      clear bb
      skip
      skip
      skip
      cases hr : rightB h.pl
      · have hce : checkE h.pl = 210 := checkE_no hr
        rw [hce]
        clear hr hce
        go_wp2_with fail
        go_meet
        exact ⟨rfl, HH, HN, BW⟩
      · have hce : checkE h.pl = 0 := checkE_ok hr
        have HNH : Hid (n.pl = h.pl) := by show n.pl = _; rw [HPN.out, right_num hr]
        rw [hce]
        clear hr hce
        have z0 : X4.cell? ⟨Bn, 0, none⟩ = some (.slice n.tr.1.A n.tr.1.n n.tr.1.c) := HN.out.blk.cell 0
        have z1 : X4.cell? ⟨Bn, 1, none⟩ = some (.slice n.se.1.A n.se.1.n n.se.1.c) := HN.out.blk.cell 1
        have z2 : X4.cell? ⟨Bn, 2, none⟩ = some (.slice n.ob.1.A n.ob.1.n n.ob.1.c) := HN.out.blk.cell 2
        have z3 : X4.cell? ⟨Bn, 3, none⟩ = some (.slice n.pr.1.A n.pr.1.n n.pr.1.c) := HN.out.blk.cell 3
        have z4 : X4.cell? ⟨Bn, 4, none⟩ = some (.slice n.ev.1.A n.ev.1.n n.ev.1.c) := HN.out.blk.cell 4
        have z5 : X4.cell? ⟨Bn, 5, none⟩ = some (.slice n.od.1.A n.od.1.n n.od.1.c) := HN.out.blk.cell 5
        have z6 : X4.cell? ⟨Bn, 6, none⟩ = some (.slice n.ma.1.A n.ma.1.n n.ma.1.c) := HN.out.blk.cell 6
        have z7 : X4.cell? ⟨Bn, 7, none⟩ = some (.slice n.wa.1.A n.wa.1.n n.wa.1.c) := HN.out.blk.cell 7
        have y0 : X4.cell? ⟨Bh, 0, none⟩ = some (.slice h.tr.1.A h.tr.1.n h.tr.1.c) := HH.out.blk.cell 0
        have y1 : X4.cell? ⟨Bh, 1, none⟩ = some (.slice h.se.1.A h.se.1.n h.se.1.c) := HH.out.blk.cell 1
        have y2 : X4.cell? ⟨Bh, 2, none⟩ = some (.slice h.ob.1.A h.ob.1.n h.ob.1.c) := HH.out.blk.cell 2
        have y3 : X4.cell? ⟨Bh, 3, none⟩ = some (.slice h.pr.1.A h.pr.1.n h.pr.1.c) := HH.out.blk.cell 3
        have y4 : X4.cell? ⟨Bh, 4, none⟩ = some (.slice h.ev.1.A h.ev.1.n h.ev.1.c) := HH.out.blk.cell 4
        have y5 : X4.cell? ⟨Bh, 5, none⟩ = some (.slice h.od.1.A h.od.1.n h.od.1.c) := HH.out.blk.cell 5
        have y6 : X4.cell? ⟨Bh, 6, none⟩ = some (.slice h.ma.1.A h.ma.1.n h.ma.1.c) := HH.out.blk.cell 6
        have y7 : X4.cell? ⟨Bh, 7, none⟩ = some (.slice h.wa.1.A h.wa.1.n h.wa.1.c) := HH.out.blk.cell 7
        go_wp2_with fail
        refine (same11_any n h HSn.out HSh.out X4 HN.out.rd HH.out.rd).mono ?_
        rintro _ X5 ⟨rfl, bb⟩
        clear z0 z1 z2 z3 z4 z5 z6 z7
        clear y0 y1 y2 y3 y4 y5 y6 y7
        have HH := Lib.hid (HH.out.on bb)
        have HN := Lib.hid (HN.out.on bb)
        have BW := Lib.hid (BW.out.trans (bb.mono BW.out.size))
        clear bb
        rw [show decide (n.pl = h.pl) = true from decide_eq_true HNH.out]
        go_wp2_with fail
        go_meet
        exact ⟨rfl, HH, HN, BW⟩
    case rest =>
      clear HH HN HG BW
      obtain ⟨rfl, HH, HN, BW⟩ := hcut
      go_upto_region 10 with fail
      skip
      have z4 : wc.cell? ⟨Bh, 4, none⟩ = some (.slice h.ev.1.A h.ev.1.n h.ev.1.c) := HH.out.blk.cell 4
      obtain ⟨ne, hne⟩ : ∃ ne, h.ev.1.n = ne := ⟨_, rfl⟩
      have HNE2 := Lib.hid hne
      have hle : ne ≤ 80 := by have h1 := (pl_lens HH.out.rd).1.1; have h2 := HEV.out; omega
      go_wp2_with fail
      rename World => wst
      clear z4
      clear hne
      go_loopw [57] (fun v wr => ∃ i : Nat, i ≤ ne ∧ v = .int .i64 i ∧ Hid (HBx w wr Bh h) ∧ Hid (HBx w wr Bn n) ∧ Hid (Below w.heap.size w wr)) (fun v _ => ne - (intOf v).toNat)
      case atStart => exact ⟨0, Nat.zero_le _, rfl, HH, HN, BW⟩
      case round =>
        clear HH HN BW
        obtain ⟨i, hi0, rfl, HH, HN, BW⟩ := hrel
        by_cases hin : i < ne
        · have hlt : (i : Int) < (ne : Int) := by omega
          obtain ⟨e, he⟩ : ∃ e, h.pl.ev[i]? = some e := ⟨h.pl.ev[i]'(by rw [(pl_lens HH.out.rd).1.1, HNE2.out]; exact hin), List.getElem?_eq_getElem _⟩
          have hf : n.pl.ev[i]? = some (reE (anewI (refs h.pl)) e) := by rw [HPN.out]; show ((h.pl.ev.map _)[i]?) = _; rw [List.getElem?_map, he]; rfl
          obtain ⟨b, o, hd, hA, hbl, hs, hc, hsl⟩ := ev_at HH.out.rd he
          obtain ⟨b2, o2, hd2, hA2, hbl2, hs2, hc2, hsl2⟩ := ev_at HN.out.rd hf
          have hnl : (i : Int) < (n.ev.1.n : Int) := by have h1 := (List.getElem?_eq_some_iff.1 hf).1; rw [(pl_lens HN.out.rd).1.1] at h1; omega
          have hkd : (reE (anewI (refs h.pl)) e).kd = e.kd := reE_kd e
          have hlv : (reE (anewI (refs h.pl)) e).lev = e.lev := reE_lev e
          have hvk : (reE (anewI (refs h.pl)) e).vk = e.vk := reE_vk e
          have htt : (reE (anewI (refs h.pl)) e).t = anewI (refs h.pl) 0 e.t := reE_t e
          have hsn : hd2.n = hd.n := by rw [← hsl, ← hsl2, reE_scan]
          have HRD := Lib.hid (fun h3 : e.kd = 3 => reE_read (f := anewI (refs h.pl)) h3)
          obtain ⟨x, k, q, hk, hq, hx1, hx2⟩ := same_name HPN.out HSHP.out rfl (ref_t he)
          have HEI := Lib.hid he
          generalize reE (anewI (refs h.pl)) e = e2 at *
          rw [hq] at htt
          obtain ⟨bt, ot, hAt, hbt, hct⟩ := str_at HH.out.rd.tr hx1
          obtain ⟨bu, ou, hAu, hbu, hcu⟩ := str_at HN.out.rd.tr hx2
          have hkl : (k : Int) < (h.tr.1.n : Int) := by have h1 : k < h.tr.2.length := (List.getElem?_eq_some_iff.1 hx1).1; have h2 := strs_len HH.out.rd.tr; omega
          have hql : (q : Int) < (n.tr.1.n : Int) := by have h1 : q < n.tr.2.length := (List.getElem?_eq_some_iff.1 hx2).1; have h2 := strs_len HN.out.rd.tr; omega
          have c0 : wr.cell? ⟨b, o + i * 9, none⟩ = some (.int .i64 e.kd) := by have h9 := hc 0 _ rfl; exact h9
          have c1 : wr.cell? ⟨b, o + i * 9 + 1, none⟩ = some (.int .i64 (k : Int)) := by have h9 := hc 1 _ rfl; rw [hk] at h9; exact h9
          have c2 : wr.cell? ⟨b, o + i * 9 + 2, none⟩ = some (.int .i64 e.s) := by have h9 := hc 2 _ rfl; exact h9
          have c3 : wr.cell? ⟨b, o + i * 9 + 3, none⟩ = some (.int .i64 e.lev) := by have h9 := hc 3 _ rfl; exact h9
          have c4 : wr.cell? ⟨b, o + i * 9 + 4, none⟩ = some (.int .i64 e.o) := by have h9 := hc 4 _ rfl; exact h9
          have c5 : wr.cell? ⟨b, o + i * 9 + 5, none⟩ = some (.int .i64 e.vt) := by have h9 := hc 5 _ rfl; exact h9
          have c6 : wr.cell? ⟨b, o + i * 9 + 6, none⟩ = some (.int .i64 e.vk) := by have h9 := hc 6 _ rfl; exact h9
          have c7 : wr.cell? ⟨b, o + i * 9 + 7, none⟩ = some (.int .i64 e.p) := by have h9 := hc 7 _ rfl; exact h9
          have c8 : wr.cell? ⟨b, o + i * 9 + 8, none⟩ = some (.slice hd.A hd.n hd.c) := by have h9 := hc 8 _ rfl; exact h9
          have ha1 : Below wr.heap.size wr (wr.alloc (.cells #[.int .i64 e.kd, .int .i64 (k : Int), .int .i64 e.s, .int .i64 e.lev, .int .i64 e.o, .int .i64 e.vt, .int .i64 e.vk, .int .i64 e.p, .slice hd.A hd.n hd.c] 40)) := (Below.refl _ _).alloc (Nat.le_refl _) _
          have ha2 : Below (wr.alloc (.cells #[.int .i64 e.kd, .int .i64 (k : Int), .int .i64 e.s, .int .i64 e.lev, .int .i64 e.o, .int .i64 e.vt, .int .i64 e.vk, .int .i64 e.p, .slice hd.A hd.n hd.c] 40)).heap.size (wr.alloc (.cells #[.int .i64 e.kd, .int .i64 (k : Int), .int .i64 e.s, .int .i64 e.lev, .int .i64 e.o, .int .i64 e.vt, .int .i64 e.vk, .int .i64 e.p, .slice hd.A hd.n hd.c] 40)) ((wr.alloc (.cells #[.int .i64 e.kd, .int .i64 (k : Int), .int .i64 e.s, .int .i64 e.lev, .int .i64 e.o, .int .i64 e.vt, .int .i64 e.vk, .int .i64 e.p, .slice hd.A hd.n hd.c] 40)).alloc (.cells #[.int .i64 e.kd, .int .i64 (q : Int), .int .i64 e2.s, .int .i64 e.lev, .int .i64 e2.o, .int .i64 e2.vt, .int .i64 e.vk, .int .i64 e2.p, .slice hd2.A hd.n hd2.c] 40)) := (Below.refl _ _).alloc (Nat.le_refl _) _
          have d0 : (wr.alloc (.cells #[.int .i64 e.kd, .int .i64 (k : Int), .int .i64 e.s, .int .i64 e.lev, .int .i64 e.o, .int .i64 e.vt, .int .i64 e.vk, .int .i64 e.p, .slice hd.A hd.n hd.c] 40)).cell? ⟨b2, o2 + i * 9, none⟩ = some (.int .i64 e.kd) := (ha1.cell (p := ⟨b2, o2 + i * 9, none⟩) hbl2).trans (by have h9 := hc2 0 _ rfl; rw [hkd] at h9; exact h9)
          have d1 : (wr.alloc (.cells #[.int .i64 e.kd, .int .i64 (k : Int), .int .i64 e.s, .int .i64 e.lev, .int .i64 e.o, .int .i64 e.vt, .int .i64 e.vk, .int .i64 e.p, .slice hd.A hd.n hd.c] 40)).cell? ⟨b2, o2 + i * 9 + 1, none⟩ = some (.int .i64 (q : Int)) := (ha1.cell (p := ⟨b2, o2 + i * 9 + 1, none⟩) hbl2).trans (by have h9 := hc2 1 _ rfl; rw [htt] at h9; exact h9)
          have d2 : (wr.alloc (.cells #[.int .i64 e.kd, .int .i64 (k : Int), .int .i64 e.s, .int .i64 e.lev, .int .i64 e.o, .int .i64 e.vt, .int .i64 e.vk, .int .i64 e.p, .slice hd.A hd.n hd.c] 40)).cell? ⟨b2, o2 + i * 9 + 2, none⟩ = some (.int .i64 e2.s) := (ha1.cell (p := ⟨b2, o2 + i * 9 + 2, none⟩) hbl2).trans (by have h9 := hc2 2 _ rfl; exact h9)
          have d3 : (wr.alloc (.cells #[.int .i64 e.kd, .int .i64 (k : Int), .int .i64 e.s, .int .i64 e.lev, .int .i64 e.o, .int .i64 e.vt, .int .i64 e.vk, .int .i64 e.p, .slice hd.A hd.n hd.c] 40)).cell? ⟨b2, o2 + i * 9 + 3, none⟩ = some (.int .i64 e.lev) := (ha1.cell (p := ⟨b2, o2 + i * 9 + 3, none⟩) hbl2).trans (by have h9 := hc2 3 _ rfl; rw [hlv] at h9; exact h9)
          have d4 : (wr.alloc (.cells #[.int .i64 e.kd, .int .i64 (k : Int), .int .i64 e.s, .int .i64 e.lev, .int .i64 e.o, .int .i64 e.vt, .int .i64 e.vk, .int .i64 e.p, .slice hd.A hd.n hd.c] 40)).cell? ⟨b2, o2 + i * 9 + 4, none⟩ = some (.int .i64 e2.o) := (ha1.cell (p := ⟨b2, o2 + i * 9 + 4, none⟩) hbl2).trans (by have h9 := hc2 4 _ rfl; exact h9)
          have d5 : (wr.alloc (.cells #[.int .i64 e.kd, .int .i64 (k : Int), .int .i64 e.s, .int .i64 e.lev, .int .i64 e.o, .int .i64 e.vt, .int .i64 e.vk, .int .i64 e.p, .slice hd.A hd.n hd.c] 40)).cell? ⟨b2, o2 + i * 9 + 5, none⟩ = some (.int .i64 e2.vt) := (ha1.cell (p := ⟨b2, o2 + i * 9 + 5, none⟩) hbl2).trans (by have h9 := hc2 5 _ rfl; exact h9)
          have d6 : (wr.alloc (.cells #[.int .i64 e.kd, .int .i64 (k : Int), .int .i64 e.s, .int .i64 e.lev, .int .i64 e.o, .int .i64 e.vt, .int .i64 e.vk, .int .i64 e.p, .slice hd.A hd.n hd.c] 40)).cell? ⟨b2, o2 + i * 9 + 6, none⟩ = some (.int .i64 e.vk) := (ha1.cell (p := ⟨b2, o2 + i * 9 + 6, none⟩) hbl2).trans (by have h9 := hc2 6 _ rfl; rw [hvk] at h9; exact h9)
          have d7 : (wr.alloc (.cells #[.int .i64 e.kd, .int .i64 (k : Int), .int .i64 e.s, .int .i64 e.lev, .int .i64 e.o, .int .i64 e.vt, .int .i64 e.vk, .int .i64 e.p, .slice hd.A hd.n hd.c] 40)).cell? ⟨b2, o2 + i * 9 + 7, none⟩ = some (.int .i64 e2.p) := (ha1.cell (p := ⟨b2, o2 + i * 9 + 7, none⟩) hbl2).trans (by have h9 := hc2 7 _ rfl; exact h9)
          have d8 : (wr.alloc (.cells #[.int .i64 e.kd, .int .i64 (k : Int), .int .i64 e.s, .int .i64 e.lev, .int .i64 e.o, .int .i64 e.vt, .int .i64 e.vk, .int .i64 e.p, .slice hd.A hd.n hd.c] 40)).cell? ⟨b2, o2 + i * 9 + 8, none⟩ = some (.slice hd2.A hd.n hd2.c) := (ha1.cell (p := ⟨b2, o2 + i * 9 + 8, none⟩) hbl2).trans (by have h9 := hc2 8 _ rfl; rw [hsn] at h9; exact h9)
          have z4 : (wr.alloc (.cells #[.int .i64 e.kd, .int .i64 (k : Int), .int .i64 e.s, .int .i64 e.lev, .int .i64 e.o, .int .i64 e.vt, .int .i64 e.vk, .int .i64 e.p, .slice hd.A hd.n hd.c] 40)).cell? ⟨Bn, 4, none⟩ = some (.slice (some ⟨b2, o2, none⟩) n.ev.1.n n.ev.1.c) := by rw [← hA2]; exact (HN.out.on ha1).blk.cell 4
          have ha := ha1.trans (ha2.mono ha1.size)
          have HH2 := Lib.hid (HH.out.on ha)
          have HN2 := Lib.hid (HN.out.on ha)
          have BW2 := Lib.hid (BW.out.trans (ha.mono BW.out.size))
          have K1 : Hid (Blk ((wr.alloc (.cells #[.int .i64 e.kd, .int .i64 (k : Int), .int .i64 e.s, .int .i64 e.lev, .int .i64 e.o, .int .i64 e.vt, .int .i64 e.vk, .int .i64 e.p, .slice hd.A hd.n hd.c] 40)).alloc (.cells #[.int .i64 e.kd, .int .i64 (q : Int), .int .i64 e2.s, .int .i64 e.lev, .int .i64 e2.o, .int .i64 e2.vt, .int .i64 e.vk, .int .i64 e2.p, .slice hd2.A hd.n hd2.c] 40)) wr.heap.size 40 #[.int .i64 e.kd, .int .i64 (k : Int), .int .i64 e.s, .int .i64 e.lev, .int .i64 e.o, .int .i64 e.vt, .int .i64 e.vk, .int .i64 e.p, .slice hd.A hd.n hd.c]) := (Blk.new _ _ _).below ha2 (by simp)
          have K2 : Hid (Blk ((wr.alloc (.cells #[.int .i64 e.kd, .int .i64 (k : Int), .int .i64 e.s, .int .i64 e.lev, .int .i64 e.o, .int .i64 e.vt, .int .i64 e.vk, .int .i64 e.p, .slice hd.A hd.n hd.c] 40)).alloc (.cells #[.int .i64 e.kd, .int .i64 (q : Int), .int .i64 e2.s, .int .i64 e.lev, .int .i64 e2.o, .int .i64 e2.vt, .int .i64 e.vk, .int .i64 e2.p, .slice hd2.A hd.n hd2.c] 40)) (wr.heap.size + 1) 40 #[.int .i64 e.kd, .int .i64 (q : Int), .int .i64 e2.s, .int .i64 e.lev, .int .i64 e2.o, .int .i64 e2.vt, .int .i64 e.vk, .int .i64 e2.p, .slice hd2.A hd.n hd2.c]) := by have := Blk.new (wr.alloc (.cells #[.int .i64 e.kd, .int .i64 (k : Int), .int .i64 e.s, .int .i64 e.lev, .int .i64 e.o, .int .i64 e.vt, .int .i64 e.vk, .int .i64 e.p, .slice hd.A hd.n hd.c] 40)) 40 #[.int .i64 e.kd, .int .i64 (q : Int), .int .i64 e2.s, .int .i64 e.lev, .int .i64 e2.o, .int .i64 e2.vt, .int .i64 e.vk, .int .i64 e2.p, .slice hd2.A hd.n hd2.c]; rwa [World.size_alloc] at this
          have x1 : ((wr.alloc (.cells #[.int .i64 e.kd, .int .i64 (k : Int), .int .i64 e.s, .int .i64 e.lev, .int .i64 e.o, .int .i64 e.vt, .int .i64 e.vk, .int .i64 e.p, .slice hd.A hd.n hd.c] 40)).alloc (.cells #[.int .i64 e.kd, .int .i64 (q : Int), .int .i64 e2.s, .int .i64 e.lev, .int .i64 e2.o, .int .i64 e2.vt, .int .i64 e.vk, .int .i64 e2.p, .slice hd2.A hd.n hd2.c] 40)).cell? ⟨bt, ot + k, none⟩ = some (.string x) := (ha.cell (p := ⟨bt, ot + k, none⟩) hbt).trans hct
          have x2 : ((wr.alloc (.cells #[.int .i64 e.kd, .int .i64 (k : Int), .int .i64 e.s, .int .i64 e.lev, .int .i64 e.o, .int .i64 e.vt, .int .i64 e.vk, .int .i64 e.p, .slice hd.A hd.n hd.c] 40)).alloc (.cells #[.int .i64 e.kd, .int .i64 (q : Int), .int .i64 e2.s, .int .i64 e.lev, .int .i64 e2.o, .int .i64 e2.vt, .int .i64 e.vk, .int .i64 e2.p, .slice hd2.A hd.n hd2.c] 40)).cell? ⟨bu, ou + q, none⟩ = some (.string x) := (ha.cell (p := ⟨bu, ou + q, none⟩) hbu).trans hcu
          have HAt := Lib.hid hAt
          have HAu := Lib.hid hAu
          have HRH := Lib.hid HH.out.rd
          have HRN := Lib.hid HN.out.rd
          have HA0 := Lib.hid ha
          have HVK := Lib.hid hvk
          rw [hA]
          clear hA hA2 hs hs2 hc hc2 hsl hsl2 hkd hlv hvk htt hsn hbt hbu hct hcu hAt hAu hx1 hx2 hq hbl hbl2 hf he HH HN BW
          go_upto_region 14 with fail
          clear z4 ha1 ha2 ha c0 d0 c1 d1 c2 d2 c3 d3 c4 d4 c5 d5 c6 d6 c7 d7 c8 d8
          generalize ((wr.alloc (.cells #[.int .i64 e.kd, .int .i64 (k : Int), .int .i64 e.s, .int .i64 e.lev, .int .i64 e.o, .int .i64 e.vt, .int .i64 e.vk, .int .i64 e.p, .slice hd.A hd.n hd.c] 40)).alloc (.cells #[.int .i64 e.kd, .int .i64 (q : Int), .int .i64 e2.s, .int .i64 e.lev, .int .i64 e2.o, .int .i64 e2.vt, .int .i64 e.vk, .int .i64 e2.p, .slice hd2.A hd.n hd2.c] 40)) = X7 at *
          have c0 : X7.cell? ⟨wr.heap.size, 0, none⟩ = some (.int .i64 e.kd) := K1.out.cell 0
          have c1 : X7.cell? ⟨wr.heap.size, 1, none⟩ = some (.int .i64 (k : Int)) := K1.out.cell 1
          have c2 : X7.cell? ⟨wr.heap.size, 2, none⟩ = some (.int .i64 e.s) := K1.out.cell 2
          have c3 : X7.cell? ⟨wr.heap.size, 3, none⟩ = some (.int .i64 e.lev) := K1.out.cell 3
          have c4 : X7.cell? ⟨wr.heap.size, 4, none⟩ = some (.int .i64 e.o) := K1.out.cell 4
          have c5 : X7.cell? ⟨wr.heap.size, 5, none⟩ = some (.int .i64 e.vt) := K1.out.cell 5
          have c6 : X7.cell? ⟨wr.heap.size, 6, none⟩ = some (.int .i64 e.vk) := K1.out.cell 6
          have c7 : X7.cell? ⟨wr.heap.size, 7, none⟩ = some (.int .i64 e.p) := K1.out.cell 7
          have c8 : X7.cell? ⟨wr.heap.size, 8, none⟩ = some (.slice hd.A hd.n hd.c) := K1.out.cell 8
          have d0 : X7.cell? ⟨wr.heap.size + 1, 0, none⟩ = some (.int .i64 e.kd) := K2.out.cell 0
          have d1 : X7.cell? ⟨wr.heap.size + 1, 1, none⟩ = some (.int .i64 (q : Int)) := K2.out.cell 1
          have d2 : X7.cell? ⟨wr.heap.size + 1, 2, none⟩ = some (.int .i64 e2.s) := K2.out.cell 2
          have d3 : X7.cell? ⟨wr.heap.size + 1, 3, none⟩ = some (.int .i64 e.lev) := K2.out.cell 3
          have d4 : X7.cell? ⟨wr.heap.size + 1, 4, none⟩ = some (.int .i64 e2.o) := K2.out.cell 4
          have d5 : X7.cell? ⟨wr.heap.size + 1, 5, none⟩ = some (.int .i64 e2.vt) := K2.out.cell 5
          have d6 : X7.cell? ⟨wr.heap.size + 1, 6, none⟩ = some (.int .i64 e.vk) := K2.out.cell 6
          have d7 : X7.cell? ⟨wr.heap.size + 1, 7, none⟩ = some (.int .i64 e2.p) := K2.out.cell 7
          have d8 : X7.cell? ⟨wr.heap.size + 1, 8, none⟩ = some (.slice hd2.A hd.n hd2.c) := K2.out.cell 8
          have t0 : X7.cell? ⟨Bh, 0, none⟩ = some (.slice (some ⟨bt, ot, none⟩) h.tr.1.n h.tr.1.c) := by rw [← HAt.out]; exact HH2.out.blk.cell 0
          have t1 : X7.cell? ⟨Bn, 0, none⟩ = some (.slice (some ⟨bu, ou, none⟩) n.tr.1.n n.tr.1.c) := by rw [← HAu.out]; exact HN2.out.blk.cell 0
          go_quiet (fail)
          go_upto_region 16 with fail
          have hb8 := below_drewN (Below.refl X7.heap.size X7) nq
          have K1 := Lib.hid (K1.out.below hb8 K1.out.lt)
          have K2 := Lib.hid (K2.out.below hb8 K2.out.lt)
          have HH2 := Lib.hid (HH2.out.on hb8)
          have HN2 := Lib.hid (HN2.out.on hb8)
          have BW2 := Lib.hid (BW2.out.trans (hb8.mono BW2.out.size))
          have HA0 := Lib.hid (HA0.out.trans (hb8.mono HA0.out.size))
          clear hb8 t0 t1 x1 x2 c0 d0 c1 d1 c2 d2 c3 d3 c4 d4 c5 d5 c6 d6 c7 d7 c8 d8
          generalize X7.drewN nq = X8 at *
          have c0 : X8.cell? ⟨wr.heap.size, 0, none⟩ = some (.int .i64 e.kd) := K1.out.cell 0
          by_cases h3 : e.kd = 3
          · have hb3 : (e.kd == 3) = true := by rw [h3]; rfl
            obtain ⟨ho2, hv2, ht2⟩ := HRD.out h3
            obtain ⟨y, k2, q2, hk2, hq2, hy1, hy2⟩ := same_name (s := 2) (z := e.o) HPN.out HSHP.out rfl (ref_k HEI.out (by unfold refsK; simp [h3]))
            rw [hq2] at ho2
            obtain ⟨bJ, oJ, hAJ, hBJ, hCJ⟩ := str_at HRH.out.ob hy1
            obtain ⟨pJ, rJ, hPJ, hQJ, hRJ⟩ := str_at HRN.out.ob hy2
            have hlJ : (k2 : Int) < (h.ob.1.n : Int) := by have h1 : k2 < h.ob.2.length := (List.getElem?_eq_some_iff.1 hy1).1; have h2 := strs_len HRH.out.ob; omega
            have hmJ : (q2 : Int) < (n.ob.1.n : Int) := by have h1 : q2 < n.ob.2.length := (List.getElem?_eq_some_iff.1 hy2).1; have h2 := strs_len HRN.out.ob; omega
            have zJ : X8.cell? ⟨Bh, 2, none⟩ = some (.slice (some ⟨bJ, oJ, none⟩) h.ob.1.n h.ob.1.c) := by rw [← hAJ]; exact HH2.out.blk.cell 2
            have wJ : X8.cell? ⟨Bn, 2, none⟩ = some (.slice (some ⟨pJ, rJ, none⟩) n.ob.1.n n.ob.1.c) := by rw [← hPJ]; exact HN2.out.blk.cell 2
            have sJ : X8.cell? ⟨bJ, oJ + k2, none⟩ = some (.string y) := (HA0.out.cell (p := ⟨bJ, oJ + k2, none⟩) hBJ).trans hCJ
            have uJ : X8.cell? ⟨pJ, rJ + q2, none⟩ = some (.string y) := (HA0.out.cell (p := ⟨pJ, rJ + q2, none⟩) hQJ).trans hRJ
            clear hAJ hBJ hCJ hPJ hQJ hRJ hy1 hy2
            have c4 : X8.cell? ⟨wr.heap.size, 4, none⟩ = some (.int .i64 (k2 : Int)) := by rw [← hk2]; exact K1.out.cell 4
            have d4 : X8.cell? ⟨wr.heap.size + 1, 4, none⟩ = some (.int .i64 (q2 : Int)) := by rw [← ho2]; exact K2.out.cell 4
            have c6 : X8.cell? ⟨wr.heap.size, 6, none⟩ = some (.int .i64 e.vk) := K1.out.cell 6
            have d6 : X8.cell? ⟨wr.heap.size + 1, 6, none⟩ = some (.int .i64 e.vk) := K2.out.cell 6
            have HVT := Lib.hid ht2
            clear hv2 ht2 ho2 hk2 hq2
            by_cases hv : 0 < e.vk
            · have hvg : e.vk > 0 := hv
              obtain ⟨x3, k3, q3, hk3, hq3, hx3, hx4⟩ := same_name (s := 0) (z := e.vt) HPN.out HSHP.out rfl (ref_k HEI.out (by unfold refsK refsV; rw [if_neg (by omega), if_pos (Or.inr h3), if_neg (by omega)]; simp))
              have ht3 := HVT.out (by omega)
              rw [hq3] at ht3
              obtain ⟨bT, oT, hAT, hBT, hCT⟩ := str_at HRH.out.tr hx3
              obtain ⟨pT, rT, hPT, hQT, hRT⟩ := str_at HRN.out.tr hx4
              have hlT : (k3 : Int) < (h.tr.1.n : Int) := by have h1 : k3 < h.tr.2.length := (List.getElem?_eq_some_iff.1 hx3).1; have h2 := strs_len HRH.out.tr; omega
              have hmT : (q3 : Int) < (n.tr.1.n : Int) := by have h1 : q3 < n.tr.2.length := (List.getElem?_eq_some_iff.1 hx4).1; have h2 := strs_len HRN.out.tr; omega
              have zT : X8.cell? ⟨Bh, 0, none⟩ = some (.slice (some ⟨bT, oT, none⟩) h.tr.1.n h.tr.1.c) := by rw [← hAT]; exact HH2.out.blk.cell 0
              have wT : X8.cell? ⟨Bn, 0, none⟩ = some (.slice (some ⟨pT, rT, none⟩) n.tr.1.n n.tr.1.c) := by rw [← hPT]; exact HN2.out.blk.cell 0
              have sT : X8.cell? ⟨bT, oT + k3, none⟩ = some (.string x3) := (HA0.out.cell (p := ⟨bT, oT + k3, none⟩) hBT).trans hCT
              have uT : X8.cell? ⟨pT, rT + q3, none⟩ = some (.string x3) := (HA0.out.cell (p := ⟨pT, rT + q3, none⟩) hQT).trans hRT
              clear hAT hBT hCT hPT hQT hRT hx3 hx4
              have c5 : X8.cell? ⟨wr.heap.size, 5, none⟩ = some (.int .i64 (k3 : Int)) := by rw [← hk3]; exact K1.out.cell 5
              have d5 : X8.cell? ⟨wr.heap.size + 1, 5, none⟩ = some (.int .i64 (q3 : Int)) := by rw [← ht3]; exact K2.out.cell 5
              clear ht3 hk3 hq3 h3 hv
              go_quiet (fail)
              go_wp2_with fail
              go_roundw
              case rel => exact ⟨i + 1, hin, by go_num, HH2.out.on (below_drewN (Below.refl _ _) _), HN2.out.on (below_drewN (Below.refl _ _) _), below_drewN BW2.out _⟩
              case measure => simp [intOf]; omega
            · have hvg : ¬ e.vk > 0 := hv
              clear h3 hv
              go_quiet (fail)
              go_wp2_with fail
              go_roundw
              case rel => exact ⟨i + 1, hin, by go_num, HH2.out.on (below_drewN (Below.refl _ _) _), HN2.out.on (below_drewN (Below.refl _ _) _), below_drewN BW2.out _⟩
              case measure => simp [intOf]; omega
          · have hb3 : (e.kd == 3) = false := by simpa using h3
            clear h3
            go_quiet (fail)
            go_wp2_with fail
            go_roundw
            case rel => exact ⟨i + 1, hin, by go_num, HH2.out.on (below_drewN (Below.refl _ _) _), HN2.out.on (below_drewN (Below.refl _ _) _), below_drewN BW2.out _⟩
            case measure => simp [intOf]; omega
        · have hie : i = ne := by omega
          rw [hie]
          clear hie hin hi0
          have hl := pl_lens HH.out.rd
          have hm := pl_lens HN.out.rd
          have hp : n.pl.ev.length = h.pl.ev.length ∧ n.pl.od.length = h.pl.od.length ∧ n.pl.ma.length = h.pl.ma.length ∧ n.pl.wa.length = h.pl.wa.length := by rw [HPN.out]; exact ⟨List.length_map .., List.length_map .., List.length_map .., List.length_map ..⟩
          have q4 : n.ev.1.n = h.ev.1.n := by have := hl.1; have := hm.1; omega
          have z4 : wr.cell? ⟨Bh, 4, none⟩ = some (.slice h.ev.1.A h.ev.1.n h.ev.1.c) := HH.out.blk.cell 4
          have y4 : wr.cell? ⟨Bn, 4, none⟩ = some (.slice n.ev.1.A h.ev.1.n n.ev.1.c) := by rw [← q4]; exact HN.out.blk.cell 4
          have q5 : n.od.1.n = h.od.1.n := by have := hl.1; have := hm.1; omega
          have z5 : wr.cell? ⟨Bh, 5, none⟩ = some (.slice h.od.1.A h.od.1.n h.od.1.c) := HH.out.blk.cell 5
          have y5 : wr.cell? ⟨Bn, 5, none⟩ = some (.slice n.od.1.A h.od.1.n n.od.1.c) := by rw [← q5]; exact HN.out.blk.cell 5
          have q6 : n.ma.1.n = h.ma.1.n := by have := hl.1; have := hm.1; omega
          have z6 : wr.cell? ⟨Bh, 6, none⟩ = some (.slice h.ma.1.A h.ma.1.n h.ma.1.c) := HH.out.blk.cell 6
          have y6 : wr.cell? ⟨Bn, 6, none⟩ = some (.slice n.ma.1.A h.ma.1.n n.ma.1.c) := by rw [← q6]; exact HN.out.blk.cell 6
          have q7 : n.wa.1.n = h.wa.1.n := by have := hl.1; have := hm.1; omega
          have z7 : wr.cell? ⟨Bh, 7, none⟩ = some (.slice h.wa.1.A h.wa.1.n h.wa.1.c) := HH.out.blk.cell 7
          have y7 : wr.cell? ⟨Bn, 7, none⟩ = some (.slice n.wa.1.A h.wa.1.n n.wa.1.c) := by rw [← q7]; exact HN.out.blk.cell 7
          clear q4 q5 q6 q7 hl hm hp
          go_wp2_with fail
          go_ret
          exact ⟨rfl, BW.out⟩
end Go.Proofs.YtlnbmmaminflcaaDoor
