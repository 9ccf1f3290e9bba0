/- HistoryMay: the walk. -/
import Derived.Test.YtlnbmmaminflcaaGreatDoorM30
import Derived.Test.YtlnbmmaminflcaaGreatDoorM34
import Derived.Test.YtlnbmmaminflcaaGreatDoorM35
import Derived.Test.YtlnbmmaminflcaaGreatDoorM17
-- holds: YtlnbmmaminflcaaGreatDoorVJyd
namespace Go.Proofs.YtlnbmmaminflcaaGreatDoor
open Go.RowKit Go.Shelf

theorem cs8 {X : World} {g : Nat} {t : TypeId} {c0 c1 c2 c3 c4 c5 c6 c7 : Value} (h : Blk X g t #[c0, c1, c2, c3, c4, c5, c6, c7]) : X.cell? ⟨g, 0, none⟩ = some c0 ∧ X.cell? ⟨g, 1, none⟩ = some c1 ∧ X.cell? ⟨g, 2, none⟩ = some c2 ∧ X.cell? ⟨g, 3, none⟩ = some c3 ∧ X.cell? ⟨g, 4, none⟩ = some c4 ∧ X.cell? ⟨g, 5, none⟩ = some c5 ∧ X.cell? ⟨g, 6, none⟩ = some c6 ∧ X.cell? ⟨g, 7, none⟩ = some c7 := ⟨h.cell 0, h.cell 1, h.cell 2, h.cell 3, h.cell 4, h.cell 5, h.cell 6, h.cell 7⟩
theorem cs9 {X : World} {g : Nat} {t : TypeId} {c0 c1 c2 c3 c4 c5 c6 c7 c8 : Value} (h : Blk X g t #[c0, c1, c2, c3, c4, c5, c6, c7, c8]) : X.cell? ⟨g, 0, none⟩ = some c0 ∧ X.cell? ⟨g, 1, none⟩ = some c1 ∧ X.cell? ⟨g, 2, none⟩ = some c2 ∧ X.cell? ⟨g, 3, none⟩ = some c3 ∧ X.cell? ⟨g, 4, none⟩ = some c4 ∧ X.cell? ⟨g, 5, none⟩ = some c5 ∧ X.cell? ⟨g, 6, none⟩ = some c6 ∧ X.cell? ⟨g, 7, none⟩ = some c7 ∧ X.cell? ⟨g, 8, none⟩ = some c8 := ⟨h.cell 0, h.cell 1, h.cell 2, h.cell 3, h.cell 4, h.cell 5, h.cell 6, h.cell 7, h.cell 8⟩
def putH (X : World) (g : Nat) (m : HistM) : World := ((((((((X.setCell ⟨g, 0, none⟩ (.slice m.tr.1.A m.tr.1.n m.tr.1.c)).setCell ⟨g, 1, none⟩ (.slice m.se.1.A m.se.1.n m.se.1.c)).setCell ⟨g, 2, none⟩ (.slice m.ob.1.A m.ob.1.n m.ob.1.c)).setCell ⟨g, 3, none⟩ (.slice m.pr.1.A m.pr.1.n m.pr.1.c)).setCell ⟨g, 4, none⟩ (.slice m.ev.1.A m.ev.1.n m.ev.1.c)).setCell ⟨g, 5, none⟩ (.slice m.od.1.A m.od.1.n m.od.1.c)).setCell ⟨g, 6, none⟩ (.slice m.ma.1.A m.ma.1.n m.ma.1.c)).setCell ⟨g, 7, none⟩ (.slice m.wa.1.A m.wa.1.n m.wa.1.c))
theorem fillH {X : World} {g : Nat} {c0 c1 c2 c3 c4 c5 c6 c7 : Value} (hb : Blk X g 28 #[c0, c1, c2, c3, c4, c5, c6, c7]) (m : HistM) : Blk (putH X g m) g 28 m.cs ∧ Keep (fun j => j ≠ g) X (putH X g m) ∧ KeepT 28 X (putH X g m) ∧ ∀ w : World, Below w.heap.size w X → w.heap.size ≤ g → Below w.heap.size w (putH X g m) := by
 have h := fill8 hb (.slice m.tr.1.A m.tr.1.n m.tr.1.c) (.slice m.se.1.A m.se.1.n m.se.1.c) (.slice m.ob.1.A m.ob.1.n m.ob.1.c) (.slice m.pr.1.A m.pr.1.n m.pr.1.c) (.slice m.ev.1.A m.ev.1.n m.ev.1.c) (.slice m.od.1.A m.od.1.n m.od.1.c) (.slice m.ma.1.A m.ma.1.n m.ma.1.c) (.slice m.wa.1.A m.wa.1.n m.wa.1.c)
 exact ⟨h.1, h.2.1 _ (fun h => h rfl), h.2.1 _ (fun h => h _ hb), h.2.2⟩
theorem HOwn.box {B : Nat} {X Y : World} {m : HistM} (h : HOwn B X m) (hk : KeepT 28 X Y) : HOwn B Y m := h.keepT hk (by decide) (by decide) (by decide) (by decide) (by decide) (by decide) (by decide)
theorem r2h_0 (a b : HistM) (W : World) : (Instr.index 31 (.agg #[.slice a.tr.1.A a.tr.1.n a.tr.1.c, .slice a.se.1.A a.se.1.n a.se.1.c, .slice a.ob.1.A a.ob.1.n a.ob.1.c, .slice a.pr.1.A a.pr.1.n a.pr.1.c, .slice a.ev.1.A a.ev.1.n a.ev.1.c, .slice a.od.1.A a.od.1.n a.od.1.c, .slice a.ma.1.A a.ma.1.n a.ma.1.c, .slice a.wa.1.A a.wa.1.n a.wa.1.c, .slice b.tr.1.A b.tr.1.n b.tr.1.c, .slice b.se.1.A b.se.1.n b.se.1.c, .slice b.ob.1.A b.ob.1.n b.ob.1.c, .slice b.pr.1.A b.pr.1.n b.pr.1.c, .slice b.ev.1.A b.ev.1.n b.ev.1.c, .slice b.od.1.A b.od.1.n b.od.1.c, .slice b.ma.1.A b.ma.1.n b.ma.1.c, .slice b.wa.1.A b.wa.1.n b.wa.1.c]) (.int .i64 0)).run Tryz.prog W = .ok (.agg #[.slice a.tr.1.A a.tr.1.n a.tr.1.c, .slice a.se.1.A a.se.1.n a.se.1.c, .slice a.ob.1.A a.ob.1.n a.ob.1.c, .slice a.pr.1.A a.pr.1.n a.pr.1.c, .slice a.ev.1.A a.ev.1.n a.ev.1.c, .slice a.od.1.A a.od.1.n a.od.1.c, .slice a.ma.1.A a.ma.1.n a.ma.1.c, .slice a.wa.1.A a.wa.1.n a.wa.1.c]) W := by kernel_rfl
theorem r2h_1 (a b : HistM) (W : World) : (Instr.index 31 (.agg #[.slice a.tr.1.A a.tr.1.n a.tr.1.c, .slice a.se.1.A a.se.1.n a.se.1.c, .slice a.ob.1.A a.ob.1.n a.ob.1.c, .slice a.pr.1.A a.pr.1.n a.pr.1.c, .slice a.ev.1.A a.ev.1.n a.ev.1.c, .slice a.od.1.A a.od.1.n a.od.1.c, .slice a.ma.1.A a.ma.1.n a.ma.1.c, .slice a.wa.1.A a.wa.1.n a.wa.1.c, .slice b.tr.1.A b.tr.1.n b.tr.1.c, .slice b.se.1.A b.se.1.n b.se.1.c, .slice b.ob.1.A b.ob.1.n b.ob.1.c, .slice b.pr.1.A b.pr.1.n b.pr.1.c, .slice b.ev.1.A b.ev.1.n b.ev.1.c, .slice b.od.1.A b.od.1.n b.od.1.c, .slice b.ma.1.A b.ma.1.n b.ma.1.c, .slice b.wa.1.A b.wa.1.n b.wa.1.c]) (.int .i64 1)).run Tryz.prog W = .ok (.agg #[.slice b.tr.1.A b.tr.1.n b.tr.1.c, .slice b.se.1.A b.se.1.n b.se.1.c, .slice b.ob.1.A b.ob.1.n b.ob.1.c, .slice b.pr.1.A b.pr.1.n b.pr.1.c, .slice b.ev.1.A b.ev.1.n b.ev.1.c, .slice b.od.1.A b.od.1.n b.od.1.c, .slice b.ma.1.A b.ma.1.n b.ma.1.c, .slice b.wa.1.A b.wa.1.n b.wa.1.c]) W := by kernel_rfl

set_option maxRecDepth 100000 in
set_option maxHeartbeats 8000000 in
theorem may_core (x y : HistM) (w : World) (hT : Tabs w) (hax : HArg w x) (hay : HArg w y) : Calls Tryz.prog 3 #[.agg #[.slice x.tr.1.A x.tr.1.n x.tr.1.c, .slice x.se.1.A x.se.1.n x.se.1.c, .slice x.ob.1.A x.ob.1.n x.ob.1.c, .slice x.pr.1.A x.pr.1.n x.pr.1.c, .slice x.ev.1.A x.ev.1.n x.ev.1.c, .slice x.od.1.A x.od.1.n x.od.1.c, .slice x.ma.1.A x.ma.1.n x.ma.1.c, .slice x.wa.1.A x.wa.1.n x.wa.1.c], .agg #[.slice y.tr.1.A y.tr.1.n y.tr.1.c, .slice y.se.1.A y.se.1.n y.se.1.c, .slice y.ob.1.A y.ob.1.n y.ob.1.c, .slice y.pr.1.A y.pr.1.n y.pr.1.c, .slice y.ev.1.A y.ev.1.n y.ev.1.c, .slice y.od.1.A y.od.1.n y.od.1.c, .slice y.ma.1.A y.ma.1.n y.ma.1.c, .slice y.wa.1.A y.wa.1.n y.wa.1.c]] w fun e w' => e = .returned (.bool true) ∧ Below w.heap.size w w' := by
 obtain ⟨kx, ky, b0, hs0⟩ := itwo w #[.slice x.tr.1.A x.tr.1.n x.tr.1.c, .slice x.se.1.A x.se.1.n x.se.1.c, .slice x.ob.1.A x.ob.1.n x.ob.1.c, .slice x.pr.1.A x.pr.1.n x.pr.1.c, .slice x.ev.1.A x.ev.1.n x.ev.1.c, .slice x.od.1.A x.od.1.n x.od.1.c, .slice x.ma.1.A x.ma.1.n x.ma.1.c, .slice x.wa.1.A x.wa.1.n x.wa.1.c] #[.slice y.tr.1.A y.tr.1.n y.tr.1.c, .slice y.se.1.A y.se.1.n y.se.1.c, .slice y.ob.1.A y.ob.1.n y.ob.1.c, .slice y.pr.1.A y.pr.1.n y.pr.1.c, .slice y.ev.1.A y.ev.1.n y.ev.1.c, .slice y.od.1.A y.od.1.n y.od.1.c, .slice y.ma.1.A y.ma.1.n y.ma.1.c, .slice y.wa.1.A y.wa.1.n y.wa.1.c] 28 28
 obtain ⟨W0, hW0⟩ : ∃ W0, W0 = ((w.alloc (.cells #[.slice x.tr.1.A x.tr.1.n x.tr.1.c, .slice x.se.1.A x.se.1.n x.se.1.c, .slice x.ob.1.A x.ob.1.n x.ob.1.c, .slice x.pr.1.A x.pr.1.n x.pr.1.c, .slice x.ev.1.A x.ev.1.n x.ev.1.c, .slice x.od.1.A x.od.1.n x.od.1.c, .slice x.ma.1.A x.ma.1.n x.ma.1.c, .slice x.wa.1.A x.wa.1.n x.wa.1.c] 28)).alloc (.cells #[.slice y.tr.1.A y.tr.1.n y.tr.1.c, .slice y.se.1.A y.se.1.n y.se.1.c, .slice y.ob.1.A y.ob.1.n y.ob.1.c, .slice y.pr.1.A y.pr.1.n y.pr.1.c, .slice y.ev.1.A y.ev.1.n y.ev.1.c, .slice y.od.1.A y.od.1.n y.od.1.c, .slice y.ma.1.A y.ma.1.n y.ma.1.c, .slice y.wa.1.A y.wa.1.n y.wa.1.c] 28)) := ⟨_, rfl⟩
 obtain ⟨Bx, hBx⟩ : ∃ B, B = w.heap.size := ⟨_, rfl⟩
 obtain ⟨By, hBy⟩ : ∃ B, B = w.heap.size + 1 := ⟨_, rfl⟩
 rw [← hW0] at kx ky b0
 rw [← hBx] at kx
 rw [← hBy] at ky
 have KX : Hid (Blk W0 Bx 28 x.cs) := kx
 have KY : Hid (Blk W0 By 28 y.cs) := ky
 have BW := Lib.hid b0
 have HT := Lib.hid hT
 have HAX := Lib.hid hax
 have HAY := Lib.hid hay
 clear kx ky b0 hs0 hT hax hay
 go_enter Tryz.func3, Tryz.ntmps3
 go_upto_region 1 with fail
 rw [← hBy, ← hBx, ← hW0]
 clear hBy hBx hW0
 go_wp2_with fail
 refine (wakes11_any W0 (HT.out.on BW.out (Nat.le_refl _))).mono ?_
 rintro _ W1 ⟨rfl, bb⟩
 have KX := Lib.hid (KX.out.below bb KX.out.lt)
 have KY := Lib.hid (KY.out.below bb KY.out.lt)
 have BW := Lib.hid (BW.out.trans (bb.mono BW.out.size))
 clear bb
 go_upto_region 3 with fail
 go_cut [5, 6] (fun s5 s6 wx => ∃ (Ba Bb : Nat) (a b : HistM), s5 = .pointer (some ⟨Ba, 0, none⟩) ∧ s6 = .pointer (some ⟨Bb, 0, none⟩) ∧ Hid (a.pl = fewP x.pl ∧ b.pl = fewP y.pl) ∧ Hid (HBx w wx Ba a) ∧ Hid (HBx w wx Bb b) ∧ Hid (Blk wx Bx 28 x.cs) ∧ Hid (Below w.heap.size w wx))
 case first =>
  refine wp_region_noPanic ?_
  refine wp_region_held_drew (S := fun W' : World => Blk W' Bx 28 #[.slice x.tr.1.A x.tr.1.n x.tr.1.c, .slice x.se.1.A x.se.1.n x.se.1.c, .slice x.ob.1.A x.ob.1.n x.ob.1.c, .slice x.pr.1.A x.pr.1.n x.pr.1.c, .slice x.ev.1.A x.ev.1.n x.ev.1.c, .slice x.od.1.A x.od.1.n x.od.1.c, .slice x.ma.1.A x.ma.1.n x.ma.1.c, .slice x.wa.1.A x.wa.1.n x.wa.1.c] ∧ Blk W' By 28 #[.slice y.tr.1.A y.tr.1.n y.tr.1.c, .slice y.se.1.A y.se.1.n y.se.1.c, .slice y.ob.1.A y.ob.1.n y.ob.1.c, .slice y.pr.1.A y.pr.1.n y.pr.1.c, .slice y.ev.1.A y.ev.1.n y.ev.1.c, .slice y.od.1.A y.od.1.n y.od.1.c, .slice y.ma.1.A y.ma.1.n y.ma.1.c, .slice y.wa.1.A y.wa.1.n y.wa.1.c]) (by kernel_rfl) ⟨KX.out, KY.out⟩ (fun hHeld => ?_)
  have BW := Lib.hid BW.out.drew
  have KX : Hid (Blk W1.drew Bx 28 x.cs) := KX.out
  have KY : Hid (Blk W1.drew By 28 y.cs) := KY.out
  generalize W1.drew = wd at *
  refine tkv 0 (some 16) (.agg #[.slice x.tr.1.A x.tr.1.n x.tr.1.c, .slice x.se.1.A x.se.1.n x.se.1.c, .slice x.ob.1.A x.ob.1.n x.ob.1.c, .slice x.pr.1.A x.pr.1.n x.pr.1.c, .slice x.ev.1.A x.ev.1.n x.ev.1.c, .slice x.od.1.A x.od.1.n x.od.1.c, .slice x.ma.1.A x.ma.1.n x.ma.1.c, .slice x.wa.1.A x.wa.1.n x.wa.1.c]) rfl rfl (fun w' hSw => by (have h0 := cs8 hSw.1; have h1 := cs8 hSw.2; go_simp)) ?_
  try simp only [Act.put, sA, sB, sC]
  refine tkv 2 (some 18) (.agg #[.slice y.tr.1.A y.tr.1.n y.tr.1.c, .slice y.se.1.A y.se.1.n y.se.1.c, .slice y.ob.1.A y.ob.1.n y.ob.1.c, .slice y.pr.1.A y.pr.1.n y.pr.1.c, .slice y.ev.1.A y.ev.1.n y.ev.1.c, .slice y.od.1.A y.od.1.n y.od.1.c, .slice y.ma.1.A y.ma.1.n y.ma.1.c, .slice y.wa.1.A y.wa.1.n y.wa.1.c]) rfl rfl (fun w' hSw => by (have h0 := cs8 hSw.1; have h1 := cs8 hSw.2; go_simp)) ?_
  try simp only [Act.put, sA, sB, sC]
  refine rdH [1, 4, 5] ?_
  refine AllReadyH.cons rfl (fun K hK => ?_) ?_
  ·go_simp
   refine (few11_any x wd (HAX.out.on BW.out)).mono ?_
   rintro _ u1 ⟨a, rfl, ho, hp, bb⟩
   have o9 := ho.mono BW.out.size
   have KX := Lib.hid (KX.out.below bb KX.out.lt)
   have KY := Lib.hid (KY.out.below bb KY.out.lt)
   have BW := Lib.hid (BW.out.trans (bb.mono BW.out.size))
   have OA := Lib.hid o9
   have HPa := Lib.hid hp
   clear ho hp bb o9 hHeld
   go_simp
   refine hK.out _ _ ⟨KX.out, KY.out⟩ (fun hHeld => ?_)
   clear hK K
   try simp only [Act.put, sA, sB, sC]
   refine rdH [3, 4, 5] ?_
   refine AllReadyH.cons rfl (fun K hK => ?_) ?_
   ·go_simp
    refine (few11_any y u1 (HAY.out.on BW.out)).mono ?_
    rintro _ u3 ⟨b, rfl, ho, hp, bb⟩
    have o9 := ho.mono BW.out.size
    have KX := Lib.hid (KX.out.below bb KX.out.lt)
    have KY := Lib.hid (KY.out.below bb KY.out.lt)
    have OA := Lib.hid (OA.out.on bb)
    have BW := Lib.hid (BW.out.trans (bb.mono BW.out.size))
    have OB := Lib.hid o9
    have HPb := Lib.hid hp
    clear ho hp bb o9 hHeld
    go_simp
    refine hK.out _ _ ⟨KX.out, KY.out⟩ (fun hHeld => ?_)
    clear hK K
    try simp only [Act.put, sA, sB, sC]
    refine rdH [4, 5] ?_
    refine AllReadyH.cons rfl (fun K hK => ?_) ?_
    ·go_simp
     refine hK.out _ _ ⟨(KX.out.alloc _), (KY.out.alloc _)⟩ (fun hHeld => ?_)
     clear hK K
     try simp only [Act.put, sA, sB, sC]
     have hbx : Below u3.heap.size u3 (u3.alloc (.cells #[.slice none 0 0, .slice none 0 0, .slice none 0 0, .slice none 0 0, .slice none 0 0, .slice none 0 0, .slice none 0 0, .slice none 0 0] 28)) := (Below.refl _ _).alloc (Nat.le_refl _) _
     have HNA : Hid (Bx ≠ u3.heap.size ∧ By ≠ u3.heap.size) := ⟨Nat.ne_of_lt KX.out.lt, Nat.ne_of_lt KY.out.lt⟩
     have HGA : Hid (w.heap.size ≤ u3.heap.size) := BW.out.size
     have KX := Lib.hid (KX.out.below hbx KX.out.lt)
     have KY := Lib.hid (KY.out.below hbx KY.out.lt)
     have OA := Lib.hid (OA.out.on hbx)
     have OB := Lib.hid (OB.out.on hbx)
     have BW := Lib.hid (BW.out.trans (hbx.mono BW.out.size))
     have KA : Hid (Blk (u3.alloc (.cells #[.slice none 0 0, .slice none 0 0, .slice none 0 0, .slice none 0 0, .slice none 0 0, .slice none 0 0, .slice none 0 0, .slice none 0 0] 28)) u3.heap.size 28 #[.slice none 0 0, .slice none 0 0, .slice none 0 0, .slice none 0 0, .slice none 0 0, .slice none 0 0, .slice none 0 0, .slice none 0 0]) := Blk.new _ _ _
     clear hbx hHeld
     generalize (u3.alloc (.cells #[.slice none 0 0, .slice none 0 0, .slice none 0 0, .slice none 0 0, .slice none 0 0, .slice none 0 0, .slice none 0 0, .slice none 0 0] 28)) = ua at *
     generalize u3.heap.size = Ba at *
     refine rdH [5] ?_
     refine AllReadyH.cons rfl (fun K hK => ?_) ?_
     ·go_simp
      refine hK.out _ _ ⟨(KX.out.alloc _), (KY.out.alloc _)⟩ (fun hHeld => ?_)
      clear hK K
      try simp only [Act.put, sA, sB, sC]
      have hbx : Below ua.heap.size ua (ua.alloc (.cells #[.slice none 0 0, .slice none 0 0, .slice none 0 0, .slice none 0 0, .slice none 0 0, .slice none 0 0, .slice none 0 0, .slice none 0 0] 28)) := (Below.refl _ _).alloc (Nat.le_refl _) _
      have HNB : Hid (Bx ≠ ua.heap.size ∧ By ≠ ua.heap.size) := ⟨Nat.ne_of_lt KX.out.lt, Nat.ne_of_lt KY.out.lt⟩
      have HGB : Hid (w.heap.size ≤ ua.heap.size) := BW.out.size
      have HAB : Hid (Ba ≠ ua.heap.size) := Nat.ne_of_lt KA.out.lt
      have KX := Lib.hid (KX.out.below hbx KX.out.lt)
      have KY := Lib.hid (KY.out.below hbx KY.out.lt)
      have KA := Lib.hid (KA.out.below hbx KA.out.lt)
      have OA := Lib.hid (OA.out.on hbx)
      have OB := Lib.hid (OB.out.on hbx)
      have BW := Lib.hid (BW.out.trans (hbx.mono BW.out.size))
      have KB : Hid (Blk (ua.alloc (.cells #[.slice none 0 0, .slice none 0 0, .slice none 0 0, .slice none 0 0, .slice none 0 0, .slice none 0 0, .slice none 0 0, .slice none 0 0] 28)) ua.heap.size 28 #[.slice none 0 0, .slice none 0 0, .slice none 0 0, .slice none 0 0, .slice none 0 0, .slice none 0 0, .slice none 0 0, .slice none 0 0]) := Blk.new _ _ _
      clear hbx hHeld
      generalize (ua.alloc (.cells #[.slice none 0 0, .slice none 0 0, .slice none 0 0, .slice none 0 0, .slice none 0 0, .slice none 0 0, .slice none 0 0, .slice none 0 0] 28)) = ub at *
      generalize ua.heap.size = Bb at *
      refine rdH [6] ?_
      refine AllReadyH.cons (o := { dst := none, op := Op.store 28 (Operand.tmp 5) (Operand.tmp 17), type := 0, pos := "law.go:94", after := #[{ on := 4, ground := Ground.data }, { on := 1, ground := Ground.data }, { on := 3, ground := Ground.chain }, { on := 0, ground := Ground.phase }, { on := 1, ground := Ground.phase }, { on := 2, ground := Ground.textOnly Departure.lateStores }, { on := 3, ground := Ground.textOnly Departure.lateStoresUnsure }, { on := 4, ground := Ground.phase }, { on := 5, ground := Ground.phase }], guard := none }) rfl (fun K hK => ?_) ?_
      ·obtain ⟨y0, y1, y2, y3, y4, y5, y6, y7⟩ := cs8 KA.out
       have f0 := KA.out.frozen 0
       have f1 := KA.out.frozen 1
       have f2 := KA.out.frozen 2
       have f3 := KA.out.frozen 3
       have f4 := KA.out.frozen 4
       have f5 := KA.out.frozen 5
       have f6 := KA.out.frozen 6
       have f7 := KA.out.frozen 7
       go_simp
       try clear hHeld
       have FL := Lib.hid (fillH KA.out a)
       have HKX := FL.out.2.1.blk KX.out HNA.out.1
       have HKY := FL.out.2.1.blk KY.out HNA.out.2
       refine hK.out _ (putH ub Ba a) ⟨HKX, HKY⟩ (fun hHeld => ?_)
       clear hK K
       try simp only [Act.put, sA, sB, sC]
       try clear hHeld
       clear HKX HKY y0 f0 y1 f1 y2 f2 y3 f3 y4 f4 y5 f5 y6 f6 y7 f7
       have KX := Lib.hid (FL.out.2.1.blk KX.out HNA.out.1)
       have KY := Lib.hid (FL.out.2.1.blk KY.out HNA.out.2)
       have KB := Lib.hid (FL.out.2.1.blk KB.out (Ne.symm HAB.out))
       have OA := Lib.hid (OA.out.box FL.out.2.2.1)
       have OB := Lib.hid (OB.out.box FL.out.2.2.1)
       have BW := Lib.hid (FL.out.2.2.2 w BW.out HGA.out)
       have KA := Lib.hid FL.out.1
       clear FL
       generalize (putH ub Ba a) = sa at *
       refine rdH [7] ?_
       refine AllReadyH.cons (o := { dst := none, op := Op.store 28 (Operand.tmp 6) (Operand.tmp 19), type := 0, pos := "law.go:94", after := #[{ on := 5, ground := Ground.data }, { on := 3, ground := Ground.data }, { on := 6, ground := Ground.chain }, { on := 0, ground := Ground.phase }, { on := 1, ground := Ground.phase }, { on := 2, ground := Ground.phase }, { on := 3, ground := Ground.phase }, { on := 4, ground := Ground.phase }, { on := 5, ground := Ground.phase }, { on := 6, ground := Ground.phase }], guard := none }) rfl (fun K hK => ?_) ?_
       ·obtain ⟨y0, y1, y2, y3, y4, y5, y6, y7⟩ := cs8 KB.out
        have f0 := KB.out.frozen 0
        have f1 := KB.out.frozen 1
        have f2 := KB.out.frozen 2
        have f3 := KB.out.frozen 3
        have f4 := KB.out.frozen 4
        have f5 := KB.out.frozen 5
        have f6 := KB.out.frozen 6
        have f7 := KB.out.frozen 7
        go_simp
        try clear hHeld
        have FL := Lib.hid (fillH KB.out b)
        have HKX := FL.out.2.1.blk KX.out HNB.out.1
        have HKY := FL.out.2.1.blk KY.out HNB.out.2
        refine hK.out _ (putH sa Bb b) ⟨HKX, HKY⟩ (fun hHeld => ?_)
        clear hK K
        try simp only [Act.put, sA, sB, sC]
        try clear hHeld
        clear HKX HKY y0 f0 y1 f1 y2 f2 y3 f3 y4 f4 y5 f5 y6 f6 y7 f7
        have KX := Lib.hid (FL.out.2.1.blk KX.out HNB.out.1)
        have KY := Lib.hid (FL.out.2.1.blk KY.out HNB.out.2)
        have KA := Lib.hid (FL.out.2.1.blk KA.out HAB.out)
        have OA := Lib.hid (OA.out.box FL.out.2.2.1)
        have OB := Lib.hid (OB.out.box FL.out.2.2.1)
        have BW := Lib.hid (FL.out.2.2.2 w BW.out HGB.out)
        have KB := Lib.hid FL.out.1
        clear FL
        generalize (putH sa Bb b) = sb at *
        refine wpAnyH_done (by kernel_rfl) ?_ _
        refine NoPanic.normal ?_
        go_wp2_with fail
        go_meet
        exact ⟨Ba, Bb, a, b, rfl, rfl, ⟨HPa.out, HPb.out⟩, ⟨KA.out, OA.out⟩, ⟨KB.out, OB.out⟩, KX, BW⟩
       exact AllReadyH.nil
      exact AllReadyH.nil
     exact AllReadyH.nil
    refine AllReadyH.cons rfl (fun K hK => ?_) ?_
    ·go_simp
     refine hK.out _ _ ⟨(KX.out.alloc _), (KY.out.alloc _)⟩ (fun hHeld => ?_)
     clear hK K
     try simp only [Act.put, sA, sB, sC]
     have hbx : Below u3.heap.size u3 (u3.alloc (.cells #[.slice none 0 0, .slice none 0 0, .slice none 0 0, .slice none 0 0, .slice none 0 0, .slice none 0 0, .slice none 0 0, .slice none 0 0] 28)) := (Below.refl _ _).alloc (Nat.le_refl _) _
     have HNB : Hid (Bx ≠ u3.heap.size ∧ By ≠ u3.heap.size) := ⟨Nat.ne_of_lt KX.out.lt, Nat.ne_of_lt KY.out.lt⟩
     have HGB : Hid (w.heap.size ≤ u3.heap.size) := BW.out.size
     have KX := Lib.hid (KX.out.below hbx KX.out.lt)
     have KY := Lib.hid (KY.out.below hbx KY.out.lt)
     have OA := Lib.hid (OA.out.on hbx)
     have OB := Lib.hid (OB.out.on hbx)
     have BW := Lib.hid (BW.out.trans (hbx.mono BW.out.size))
     have KB : Hid (Blk (u3.alloc (.cells #[.slice none 0 0, .slice none 0 0, .slice none 0 0, .slice none 0 0, .slice none 0 0, .slice none 0 0, .slice none 0 0, .slice none 0 0] 28)) u3.heap.size 28 #[.slice none 0 0, .slice none 0 0, .slice none 0 0, .slice none 0 0, .slice none 0 0, .slice none 0 0, .slice none 0 0, .slice none 0 0]) := Blk.new _ _ _
     clear hbx hHeld
     generalize (u3.alloc (.cells #[.slice none 0 0, .slice none 0 0, .slice none 0 0, .slice none 0 0, .slice none 0 0, .slice none 0 0, .slice none 0 0, .slice none 0 0] 28)) = ub at *
     generalize u3.heap.size = Bb at *
     refine rdH [4] ?_
     refine AllReadyH.cons rfl (fun K hK => ?_) ?_
     ·go_simp
      refine hK.out _ _ ⟨(KX.out.alloc _), (KY.out.alloc _)⟩ (fun hHeld => ?_)
      clear hK K
      try simp only [Act.put, sA, sB, sC]
      have hbx : Below ub.heap.size ub (ub.alloc (.cells #[.slice none 0 0, .slice none 0 0, .slice none 0 0, .slice none 0 0, .slice none 0 0, .slice none 0 0, .slice none 0 0, .slice none 0 0] 28)) := (Below.refl _ _).alloc (Nat.le_refl _) _
      have HNA : Hid (Bx ≠ ub.heap.size ∧ By ≠ ub.heap.size) := ⟨Nat.ne_of_lt KX.out.lt, Nat.ne_of_lt KY.out.lt⟩
      have HGA : Hid (w.heap.size ≤ ub.heap.size) := BW.out.size
      have HAB : Hid (Bb ≠ ub.heap.size) := Nat.ne_of_lt KB.out.lt
      have KX := Lib.hid (KX.out.below hbx KX.out.lt)
      have KY := Lib.hid (KY.out.below hbx KY.out.lt)
      have OA := Lib.hid (OA.out.on hbx)
      have KB := Lib.hid (KB.out.below hbx KB.out.lt)
      have OB := Lib.hid (OB.out.on hbx)
      have BW := Lib.hid (BW.out.trans (hbx.mono BW.out.size))
      have KA : Hid (Blk (ub.alloc (.cells #[.slice none 0 0, .slice none 0 0, .slice none 0 0, .slice none 0 0, .slice none 0 0, .slice none 0 0, .slice none 0 0, .slice none 0 0] 28)) ub.heap.size 28 #[.slice none 0 0, .slice none 0 0, .slice none 0 0, .slice none 0 0, .slice none 0 0, .slice none 0 0, .slice none 0 0, .slice none 0 0]) := Blk.new _ _ _
      clear hbx hHeld
      generalize (ub.alloc (.cells #[.slice none 0 0, .slice none 0 0, .slice none 0 0, .slice none 0 0, .slice none 0 0, .slice none 0 0, .slice none 0 0, .slice none 0 0] 28)) = ua at *
      generalize ub.heap.size = Ba at *
      refine rdH [6] ?_
      refine AllReadyH.cons (o := { dst := none, op := Op.store 28 (Operand.tmp 5) (Operand.tmp 17), type := 0, pos := "law.go:94", after := #[{ on := 4, ground := Ground.data }, { on := 1, ground := Ground.data }, { on := 3, ground := Ground.chain }, { on := 0, ground := Ground.phase }, { on := 1, ground := Ground.phase }, { on := 2, ground := Ground.textOnly Departure.lateStores }, { on := 3, ground := Ground.textOnly Departure.lateStoresUnsure }, { on := 4, ground := Ground.phase }, { on := 5, ground := Ground.phase }], guard := none }) rfl (fun K hK => ?_) ?_
      ·obtain ⟨y0, y1, y2, y3, y4, y5, y6, y7⟩ := cs8 KA.out
       have f0 := KA.out.frozen 0
       have f1 := KA.out.frozen 1
       have f2 := KA.out.frozen 2
       have f3 := KA.out.frozen 3
       have f4 := KA.out.frozen 4
       have f5 := KA.out.frozen 5
       have f6 := KA.out.frozen 6
       have f7 := KA.out.frozen 7
       go_simp
       try clear hHeld
       have FL := Lib.hid (fillH KA.out a)
       have HKX := FL.out.2.1.blk KX.out HNA.out.1
       have HKY := FL.out.2.1.blk KY.out HNA.out.2
       refine hK.out _ (putH ua Ba a) ⟨HKX, HKY⟩ (fun hHeld => ?_)
       clear hK K
       try simp only [Act.put, sA, sB, sC]
       try clear hHeld
       clear HKX HKY y0 f0 y1 f1 y2 f2 y3 f3 y4 f4 y5 f5 y6 f6 y7 f7
       have KX := Lib.hid (FL.out.2.1.blk KX.out HNA.out.1)
       have KY := Lib.hid (FL.out.2.1.blk KY.out HNA.out.2)
       have KB := Lib.hid (FL.out.2.1.blk KB.out HAB.out)
       have OA := Lib.hid (OA.out.box FL.out.2.2.1)
       have OB := Lib.hid (OB.out.box FL.out.2.2.1)
       have BW := Lib.hid (FL.out.2.2.2 w BW.out HGA.out)
       have KA := Lib.hid FL.out.1
       clear FL
       generalize (putH ua Ba a) = sa at *
       refine rdH [7] ?_
       refine AllReadyH.cons (o := { dst := none, op := Op.store 28 (Operand.tmp 6) (Operand.tmp 19), type := 0, pos := "law.go:94", after := #[{ on := 5, ground := Ground.data }, { on := 3, ground := Ground.data }, { on := 6, ground := Ground.chain }, { on := 0, ground := Ground.phase }, { on := 1, ground := Ground.phase }, { on := 2, ground := Ground.phase }, { on := 3, ground := Ground.phase }, { on := 4, ground := Ground.phase }, { on := 5, ground := Ground.phase }, { on := 6, ground := Ground.phase }], guard := none }) rfl (fun K hK => ?_) ?_
       ·obtain ⟨y0, y1, y2, y3, y4, y5, y6, y7⟩ := cs8 KB.out
        have f0 := KB.out.frozen 0
        have f1 := KB.out.frozen 1
        have f2 := KB.out.frozen 2
        have f3 := KB.out.frozen 3
        have f4 := KB.out.frozen 4
        have f5 := KB.out.frozen 5
        have f6 := KB.out.frozen 6
        have f7 := KB.out.frozen 7
        go_simp
        try clear hHeld
        have FL := Lib.hid (fillH KB.out b)
        have HKX := FL.out.2.1.blk KX.out HNB.out.1
        have HKY := FL.out.2.1.blk KY.out HNB.out.2
        refine hK.out _ (putH sa Bb b) ⟨HKX, HKY⟩ (fun hHeld => ?_)
        clear hK K
        try simp only [Act.put, sA, sB, sC]
        try clear hHeld
        clear HKX HKY y0 f0 y1 f1 y2 f2 y3 f3 y4 f4 y5 f5 y6 f6 y7 f7
        have KX := Lib.hid (FL.out.2.1.blk KX.out HNB.out.1)
        have KY := Lib.hid (FL.out.2.1.blk KY.out HNB.out.2)
        have KA := Lib.hid (FL.out.2.1.blk KA.out (Ne.symm HAB.out))
        have OA := Lib.hid (OA.out.box FL.out.2.2.1)
        have OB := Lib.hid (OB.out.box FL.out.2.2.1)
        have BW := Lib.hid (FL.out.2.2.2 w BW.out HGB.out)
        have KB := Lib.hid FL.out.1
        clear FL
        generalize (putH sa Bb b) = sb at *
        refine wpAnyH_done (by kernel_rfl) ?_ _
        refine NoPanic.normal ?_
        go_wp2_with fail
        go_meet
        exact ⟨Ba, Bb, a, b, rfl, rfl, ⟨HPa.out, HPb.out⟩, ⟨KA.out, OA.out⟩, ⟨KB.out, OB.out⟩, KX, BW⟩
       exact AllReadyH.nil
      exact AllReadyH.nil
     exact AllReadyH.nil
    exact AllReadyH.nil
   refine AllReadyH.cons rfl (fun K hK => ?_) ?_
   ·go_simp
    refine hK.out _ _ ⟨(KX.out.alloc _), (KY.out.alloc _)⟩ (fun hHeld => ?_)
    clear hK K
    try simp only [Act.put, sA, sB, sC]
    have hbx : Below u1.heap.size u1 (u1.alloc (.cells #[.slice none 0 0, .slice none 0 0, .slice none 0 0, .slice none 0 0, .slice none 0 0, .slice none 0 0, .slice none 0 0, .slice none 0 0] 28)) := (Below.refl _ _).alloc (Nat.le_refl _) _
    have HNA : Hid (Bx ≠ u1.heap.size ∧ By ≠ u1.heap.size) := ⟨Nat.ne_of_lt KX.out.lt, Nat.ne_of_lt KY.out.lt⟩
    have HGA : Hid (w.heap.size ≤ u1.heap.size) := BW.out.size
    have KX := Lib.hid (KX.out.below hbx KX.out.lt)
    have KY := Lib.hid (KY.out.below hbx KY.out.lt)
    have OA := Lib.hid (OA.out.on hbx)
    have BW := Lib.hid (BW.out.trans (hbx.mono BW.out.size))
    have KA : Hid (Blk (u1.alloc (.cells #[.slice none 0 0, .slice none 0 0, .slice none 0 0, .slice none 0 0, .slice none 0 0, .slice none 0 0, .slice none 0 0, .slice none 0 0] 28)) u1.heap.size 28 #[.slice none 0 0, .slice none 0 0, .slice none 0 0, .slice none 0 0, .slice none 0 0, .slice none 0 0, .slice none 0 0, .slice none 0 0]) := Blk.new _ _ _
    clear hbx hHeld
    generalize (u1.alloc (.cells #[.slice none 0 0, .slice none 0 0, .slice none 0 0, .slice none 0 0, .slice none 0 0, .slice none 0 0, .slice none 0 0, .slice none 0 0] 28)) = ua at *
    generalize u1.heap.size = Ba at *
    refine rdH [3, 5] ?_
    refine AllReadyH.cons rfl (fun K hK => ?_) ?_
    ·go_simp
     refine (few11_any y ua (HAY.out.on BW.out)).mono ?_
     rintro _ u3 ⟨b, rfl, ho, hp, bb⟩
     have o9 := ho.mono BW.out.size
     have KX := Lib.hid (KX.out.below bb KX.out.lt)
     have KY := Lib.hid (KY.out.below bb KY.out.lt)
     have KA := Lib.hid (KA.out.below bb KA.out.lt)
     have OA := Lib.hid (OA.out.on bb)
     have BW := Lib.hid (BW.out.trans (bb.mono BW.out.size))
     have OB := Lib.hid o9
     have HPb := Lib.hid hp
     clear ho hp bb o9 hHeld
     go_simp
     refine hK.out _ _ ⟨KX.out, KY.out⟩ (fun hHeld => ?_)
     clear hK K
     try simp only [Act.put, sA, sB, sC]
     refine rdH [5] ?_
     refine AllReadyH.cons rfl (fun K hK => ?_) ?_
     ·go_simp
      refine hK.out _ _ ⟨(KX.out.alloc _), (KY.out.alloc _)⟩ (fun hHeld => ?_)
      clear hK K
      try simp only [Act.put, sA, sB, sC]
      have hbx : Below u3.heap.size u3 (u3.alloc (.cells #[.slice none 0 0, .slice none 0 0, .slice none 0 0, .slice none 0 0, .slice none 0 0, .slice none 0 0, .slice none 0 0, .slice none 0 0] 28)) := (Below.refl _ _).alloc (Nat.le_refl _) _
      have HNB : Hid (Bx ≠ u3.heap.size ∧ By ≠ u3.heap.size) := ⟨Nat.ne_of_lt KX.out.lt, Nat.ne_of_lt KY.out.lt⟩
      have HGB : Hid (w.heap.size ≤ u3.heap.size) := BW.out.size
      have HAB : Hid (Ba ≠ u3.heap.size) := Nat.ne_of_lt KA.out.lt
      have KX := Lib.hid (KX.out.below hbx KX.out.lt)
      have KY := Lib.hid (KY.out.below hbx KY.out.lt)
      have KA := Lib.hid (KA.out.below hbx KA.out.lt)
      have OA := Lib.hid (OA.out.on hbx)
      have OB := Lib.hid (OB.out.on hbx)
      have BW := Lib.hid (BW.out.trans (hbx.mono BW.out.size))
      have KB : Hid (Blk (u3.alloc (.cells #[.slice none 0 0, .slice none 0 0, .slice none 0 0, .slice none 0 0, .slice none 0 0, .slice none 0 0, .slice none 0 0, .slice none 0 0] 28)) u3.heap.size 28 #[.slice none 0 0, .slice none 0 0, .slice none 0 0, .slice none 0 0, .slice none 0 0, .slice none 0 0, .slice none 0 0, .slice none 0 0]) := Blk.new _ _ _
      clear hbx hHeld
      generalize (u3.alloc (.cells #[.slice none 0 0, .slice none 0 0, .slice none 0 0, .slice none 0 0, .slice none 0 0, .slice none 0 0, .slice none 0 0, .slice none 0 0] 28)) = ub at *
      generalize u3.heap.size = Bb at *
      refine rdH [6] ?_
      refine AllReadyH.cons (o := { dst := none, op := Op.store 28 (Operand.tmp 5) (Operand.tmp 17), type := 0, pos := "law.go:94", after := #[{ on := 4, ground := Ground.data }, { on := 1, ground := Ground.data }, { on := 3, ground := Ground.chain }, { on := 0, ground := Ground.phase }, { on := 1, ground := Ground.phase }, { on := 2, ground := Ground.textOnly Departure.lateStores }, { on := 3, ground := Ground.textOnly Departure.lateStoresUnsure }, { on := 4, ground := Ground.phase }, { on := 5, ground := Ground.phase }], guard := none }) rfl (fun K hK => ?_) ?_
      ·obtain ⟨y0, y1, y2, y3, y4, y5, y6, y7⟩ := cs8 KA.out
       have f0 := KA.out.frozen 0
       have f1 := KA.out.frozen 1
       have f2 := KA.out.frozen 2
       have f3 := KA.out.frozen 3
       have f4 := KA.out.frozen 4
       have f5 := KA.out.frozen 5
       have f6 := KA.out.frozen 6
       have f7 := KA.out.frozen 7
       go_simp
       try clear hHeld
       have FL := Lib.hid (fillH KA.out a)
       have HKX := FL.out.2.1.blk KX.out HNA.out.1
       have HKY := FL.out.2.1.blk KY.out HNA.out.2
       refine hK.out _ (putH ub Ba a) ⟨HKX, HKY⟩ (fun hHeld => ?_)
       clear hK K
       try simp only [Act.put, sA, sB, sC]
       try clear hHeld
       clear HKX HKY y0 f0 y1 f1 y2 f2 y3 f3 y4 f4 y5 f5 y6 f6 y7 f7
       have KX := Lib.hid (FL.out.2.1.blk KX.out HNA.out.1)
       have KY := Lib.hid (FL.out.2.1.blk KY.out HNA.out.2)
       have KB := Lib.hid (FL.out.2.1.blk KB.out (Ne.symm HAB.out))
       have OA := Lib.hid (OA.out.box FL.out.2.2.1)
       have OB := Lib.hid (OB.out.box FL.out.2.2.1)
       have BW := Lib.hid (FL.out.2.2.2 w BW.out HGA.out)
       have KA := Lib.hid FL.out.1
       clear FL
       generalize (putH ub Ba a) = sa at *
       refine rdH [7] ?_
       refine AllReadyH.cons (o := { dst := none, op := Op.store 28 (Operand.tmp 6) (Operand.tmp 19), type := 0, pos := "law.go:94", after := #[{ on := 5, ground := Ground.data }, { on := 3, ground := Ground.data }, { on := 6, ground := Ground.chain }, { on := 0, ground := Ground.phase }, { on := 1, ground := Ground.phase }, { on := 2, ground := Ground.phase }, { on := 3, ground := Ground.phase }, { on := 4, ground := Ground.phase }, { on := 5, ground := Ground.phase }, { on := 6, ground := Ground.phase }], guard := none }) rfl (fun K hK => ?_) ?_
       ·obtain ⟨y0, y1, y2, y3, y4, y5, y6, y7⟩ := cs8 KB.out
        have f0 := KB.out.frozen 0
        have f1 := KB.out.frozen 1
        have f2 := KB.out.frozen 2
        have f3 := KB.out.frozen 3
        have f4 := KB.out.frozen 4
        have f5 := KB.out.frozen 5
        have f6 := KB.out.frozen 6
        have f7 := KB.out.frozen 7
        go_simp
        try clear hHeld
        have FL := Lib.hid (fillH KB.out b)
        have HKX := FL.out.2.1.blk KX.out HNB.out.1
        have HKY := FL.out.2.1.blk KY.out HNB.out.2
        refine hK.out _ (putH sa Bb b) ⟨HKX, HKY⟩ (fun hHeld => ?_)
        clear hK K
        try simp only [Act.put, sA, sB, sC]
        try clear hHeld
        clear HKX HKY y0 f0 y1 f1 y2 f2 y3 f3 y4 f4 y5 f5 y6 f6 y7 f7
        have KX := Lib.hid (FL.out.2.1.blk KX.out HNB.out.1)
        have KY := Lib.hid (FL.out.2.1.blk KY.out HNB.out.2)
        have KA := Lib.hid (FL.out.2.1.blk KA.out HAB.out)
        have OA := Lib.hid (OA.out.box FL.out.2.2.1)
        have OB := Lib.hid (OB.out.box FL.out.2.2.1)
        have BW := Lib.hid (FL.out.2.2.2 w BW.out HGB.out)
        have KB := Lib.hid FL.out.1
        clear FL
        generalize (putH sa Bb b) = sb at *
        refine wpAnyH_done (by kernel_rfl) ?_ _
        refine NoPanic.normal ?_
        go_wp2_with fail
        go_meet
        exact ⟨Ba, Bb, a, b, rfl, rfl, ⟨HPa.out, HPb.out⟩, ⟨KA.out, OA.out⟩, ⟨KB.out, OB.out⟩, KX, BW⟩
       exact AllReadyH.nil
      exact AllReadyH.nil
     exact AllReadyH.nil
    refine AllReadyH.cons rfl (fun K hK => ?_) ?_
    ·go_simp
     refine hK.out _ _ ⟨(KX.out.alloc _), (KY.out.alloc _)⟩ (fun hHeld => ?_)
     clear hK K
     try simp only [Act.put, sA, sB, sC]
     have hbx : Below ua.heap.size ua (ua.alloc (.cells #[.slice none 0 0, .slice none 0 0, .slice none 0 0, .slice none 0 0, .slice none 0 0, .slice none 0 0, .slice none 0 0, .slice none 0 0] 28)) := (Below.refl _ _).alloc (Nat.le_refl _) _
     have HNB : Hid (Bx ≠ ua.heap.size ∧ By ≠ ua.heap.size) := ⟨Nat.ne_of_lt KX.out.lt, Nat.ne_of_lt KY.out.lt⟩
     have HGB : Hid (w.heap.size ≤ ua.heap.size) := BW.out.size
     have HAB : Hid (Ba ≠ ua.heap.size) := Nat.ne_of_lt KA.out.lt
     have KX := Lib.hid (KX.out.below hbx KX.out.lt)
     have KY := Lib.hid (KY.out.below hbx KY.out.lt)
     have KA := Lib.hid (KA.out.below hbx KA.out.lt)
     have OA := Lib.hid (OA.out.on hbx)
     have BW := Lib.hid (BW.out.trans (hbx.mono BW.out.size))
     have KB : Hid (Blk (ua.alloc (.cells #[.slice none 0 0, .slice none 0 0, .slice none 0 0, .slice none 0 0, .slice none 0 0, .slice none 0 0, .slice none 0 0, .slice none 0 0] 28)) ua.heap.size 28 #[.slice none 0 0, .slice none 0 0, .slice none 0 0, .slice none 0 0, .slice none 0 0, .slice none 0 0, .slice none 0 0, .slice none 0 0]) := Blk.new _ _ _
     clear hbx hHeld
     generalize (ua.alloc (.cells #[.slice none 0 0, .slice none 0 0, .slice none 0 0, .slice none 0 0, .slice none 0 0, .slice none 0 0, .slice none 0 0, .slice none 0 0] 28)) = ub at *
     generalize ua.heap.size = Bb at *
     refine rdH [3] ?_
     refine AllReadyH.cons rfl (fun K hK => ?_) ?_
     ·go_simp
      refine (few11_any y ub (HAY.out.on BW.out)).mono ?_
      rintro _ u3 ⟨b, rfl, ho, hp, bb⟩
      have o9 := ho.mono BW.out.size
      have KX := Lib.hid (KX.out.below bb KX.out.lt)
      have KY := Lib.hid (KY.out.below bb KY.out.lt)
      have KA := Lib.hid (KA.out.below bb KA.out.lt)
      have OA := Lib.hid (OA.out.on bb)
      have KB := Lib.hid (KB.out.below bb KB.out.lt)
      have BW := Lib.hid (BW.out.trans (bb.mono BW.out.size))
      have OB := Lib.hid o9
      have HPb := Lib.hid hp
      clear ho hp bb o9 hHeld
      go_simp
      refine hK.out _ _ ⟨KX.out, KY.out⟩ (fun hHeld => ?_)
      clear hK K
      try simp only [Act.put, sA, sB, sC]
      refine rdH [6] ?_
      refine AllReadyH.cons (o := { dst := none, op := Op.store 28 (Operand.tmp 5) (Operand.tmp 17), type := 0, pos := "law.go:94", after := #[{ on := 4, ground := Ground.data }, { on := 1, ground := Ground.data }, { on := 3, ground := Ground.chain }, { on := 0, ground := Ground.phase }, { on := 1, ground := Ground.phase }, { on := 2, ground := Ground.textOnly Departure.lateStores }, { on := 3, ground := Ground.textOnly Departure.lateStoresUnsure }, { on := 4, ground := Ground.phase }, { on := 5, ground := Ground.phase }], guard := none }) rfl (fun K hK => ?_) ?_
      ·obtain ⟨y0, y1, y2, y3, y4, y5, y6, y7⟩ := cs8 KA.out
       have f0 := KA.out.frozen 0
       have f1 := KA.out.frozen 1
       have f2 := KA.out.frozen 2
       have f3 := KA.out.frozen 3
       have f4 := KA.out.frozen 4
       have f5 := KA.out.frozen 5
       have f6 := KA.out.frozen 6
       have f7 := KA.out.frozen 7
       go_simp
       try clear hHeld
       have FL := Lib.hid (fillH KA.out a)
       have HKX := FL.out.2.1.blk KX.out HNA.out.1
       have HKY := FL.out.2.1.blk KY.out HNA.out.2
       refine hK.out _ (putH u3 Ba a) ⟨HKX, HKY⟩ (fun hHeld => ?_)
       clear hK K
       try simp only [Act.put, sA, sB, sC]
       try clear hHeld
       clear HKX HKY y0 f0 y1 f1 y2 f2 y3 f3 y4 f4 y5 f5 y6 f6 y7 f7
       have KX := Lib.hid (FL.out.2.1.blk KX.out HNA.out.1)
       have KY := Lib.hid (FL.out.2.1.blk KY.out HNA.out.2)
       have KB := Lib.hid (FL.out.2.1.blk KB.out (Ne.symm HAB.out))
       have OA := Lib.hid (OA.out.box FL.out.2.2.1)
       have OB := Lib.hid (OB.out.box FL.out.2.2.1)
       have BW := Lib.hid (FL.out.2.2.2 w BW.out HGA.out)
       have KA := Lib.hid FL.out.1
       clear FL
       generalize (putH u3 Ba a) = sa at *
       refine rdH [7] ?_
       refine AllReadyH.cons (o := { dst := none, op := Op.store 28 (Operand.tmp 6) (Operand.tmp 19), type := 0, pos := "law.go:94", after := #[{ on := 5, ground := Ground.data }, { on := 3, ground := Ground.data }, { on := 6, ground := Ground.chain }, { on := 0, ground := Ground.phase }, { on := 1, ground := Ground.phase }, { on := 2, ground := Ground.phase }, { on := 3, ground := Ground.phase }, { on := 4, ground := Ground.phase }, { on := 5, ground := Ground.phase }, { on := 6, ground := Ground.phase }], guard := none }) rfl (fun K hK => ?_) ?_
       ·obtain ⟨y0, y1, y2, y3, y4, y5, y6, y7⟩ := cs8 KB.out
        have f0 := KB.out.frozen 0
        have f1 := KB.out.frozen 1
        have f2 := KB.out.frozen 2
        have f3 := KB.out.frozen 3
        have f4 := KB.out.frozen 4
        have f5 := KB.out.frozen 5
        have f6 := KB.out.frozen 6
        have f7 := KB.out.frozen 7
        go_simp
        try clear hHeld
        have FL := Lib.hid (fillH KB.out b)
        have HKX := FL.out.2.1.blk KX.out HNB.out.1
        have HKY := FL.out.2.1.blk KY.out HNB.out.2
        refine hK.out _ (putH sa Bb b) ⟨HKX, HKY⟩ (fun hHeld => ?_)
        clear hK K
        try simp only [Act.put, sA, sB, sC]
        try clear hHeld
        clear HKX HKY y0 f0 y1 f1 y2 f2 y3 f3 y4 f4 y5 f5 y6 f6 y7 f7
        have KX := Lib.hid (FL.out.2.1.blk KX.out HNB.out.1)
        have KY := Lib.hid (FL.out.2.1.blk KY.out HNB.out.2)
        have KA := Lib.hid (FL.out.2.1.blk KA.out HAB.out)
        have OA := Lib.hid (OA.out.box FL.out.2.2.1)
        have OB := Lib.hid (OB.out.box FL.out.2.2.1)
        have BW := Lib.hid (FL.out.2.2.2 w BW.out HGB.out)
        have KB := Lib.hid FL.out.1
        clear FL
        generalize (putH sa Bb b) = sb at *
        refine wpAnyH_done (by kernel_rfl) ?_ _
        refine NoPanic.normal ?_
        go_wp2_with fail
        go_meet
        exact ⟨Ba, Bb, a, b, rfl, rfl, ⟨HPa.out, HPb.out⟩, ⟨KA.out, OA.out⟩, ⟨KB.out, OB.out⟩, KX, BW⟩
       exact AllReadyH.nil
      exact AllReadyH.nil
     exact AllReadyH.nil
    exact AllReadyH.nil
   refine AllReadyH.cons rfl (fun K hK => ?_) ?_
   ·go_simp
    refine hK.out _ _ ⟨(KX.out.alloc _), (KY.out.alloc _)⟩ (fun hHeld => ?_)
    clear hK K
    try simp only [Act.put, sA, sB, sC]
    have hbx : Below u1.heap.size u1 (u1.alloc (.cells #[.slice none 0 0, .slice none 0 0, .slice none 0 0, .slice none 0 0, .slice none 0 0, .slice none 0 0, .slice none 0 0, .slice none 0 0] 28)) := (Below.refl _ _).alloc (Nat.le_refl _) _
    have HNB : Hid (Bx ≠ u1.heap.size ∧ By ≠ u1.heap.size) := ⟨Nat.ne_of_lt KX.out.lt, Nat.ne_of_lt KY.out.lt⟩
    have HGB : Hid (w.heap.size ≤ u1.heap.size) := BW.out.size
    have KX := Lib.hid (KX.out.below hbx KX.out.lt)
    have KY := Lib.hid (KY.out.below hbx KY.out.lt)
    have OA := Lib.hid (OA.out.on hbx)
    have BW := Lib.hid (BW.out.trans (hbx.mono BW.out.size))
    have KB : Hid (Blk (u1.alloc (.cells #[.slice none 0 0, .slice none 0 0, .slice none 0 0, .slice none 0 0, .slice none 0 0, .slice none 0 0, .slice none 0 0, .slice none 0 0] 28)) u1.heap.size 28 #[.slice none 0 0, .slice none 0 0, .slice none 0 0, .slice none 0 0, .slice none 0 0, .slice none 0 0, .slice none 0 0, .slice none 0 0]) := Blk.new _ _ _
    clear hbx hHeld
    generalize (u1.alloc (.cells #[.slice none 0 0, .slice none 0 0, .slice none 0 0, .slice none 0 0, .slice none 0 0, .slice none 0 0, .slice none 0 0, .slice none 0 0] 28)) = ub at *
    generalize u1.heap.size = Bb at *
    refine rdH [3, 4] ?_
    refine AllReadyH.cons rfl (fun K hK => ?_) ?_
    ·go_simp
     refine (few11_any y ub (HAY.out.on BW.out)).mono ?_
     rintro _ u3 ⟨b, rfl, ho, hp, bb⟩
     have o9 := ho.mono BW.out.size
     have KX := Lib.hid (KX.out.below bb KX.out.lt)
     have KY := Lib.hid (KY.out.below bb KY.out.lt)
     have OA := Lib.hid (OA.out.on bb)
     have KB := Lib.hid (KB.out.below bb KB.out.lt)
     have BW := Lib.hid (BW.out.trans (bb.mono BW.out.size))
     have OB := Lib.hid o9
     have HPb := Lib.hid hp
     clear ho hp bb o9 hHeld
     go_simp
     refine hK.out _ _ ⟨KX.out, KY.out⟩ (fun hHeld => ?_)
     clear hK K
     try simp only [Act.put, sA, sB, sC]
     refine rdH [4] ?_
     refine AllReadyH.cons rfl (fun K hK => ?_) ?_
     ·go_simp
      refine hK.out _ _ ⟨(KX.out.alloc _), (KY.out.alloc _)⟩ (fun hHeld => ?_)
      clear hK K
      try simp only [Act.put, sA, sB, sC]
      have hbx : Below u3.heap.size u3 (u3.alloc (.cells #[.slice none 0 0, .slice none 0 0, .slice none 0 0, .slice none 0 0, .slice none 0 0, .slice none 0 0, .slice none 0 0, .slice none 0 0] 28)) := (Below.refl _ _).alloc (Nat.le_refl _) _
      have HNA : Hid (Bx ≠ u3.heap.size ∧ By ≠ u3.heap.size) := ⟨Nat.ne_of_lt KX.out.lt, Nat.ne_of_lt KY.out.lt⟩
      have HGA : Hid (w.heap.size ≤ u3.heap.size) := BW.out.size
      have HAB : Hid (Bb ≠ u3.heap.size) := Nat.ne_of_lt KB.out.lt
      have KX := Lib.hid (KX.out.below hbx KX.out.lt)
      have KY := Lib.hid (KY.out.below hbx KY.out.lt)
      have OA := Lib.hid (OA.out.on hbx)
      have KB := Lib.hid (KB.out.below hbx KB.out.lt)
      have OB := Lib.hid (OB.out.on hbx)
      have BW := Lib.hid (BW.out.trans (hbx.mono BW.out.size))
      have KA : Hid (Blk (u3.alloc (.cells #[.slice none 0 0, .slice none 0 0, .slice none 0 0, .slice none 0 0, .slice none 0 0, .slice none 0 0, .slice none 0 0, .slice none 0 0] 28)) u3.heap.size 28 #[.slice none 0 0, .slice none 0 0, .slice none 0 0, .slice none 0 0, .slice none 0 0, .slice none 0 0, .slice none 0 0, .slice none 0 0]) := Blk.new _ _ _
      clear hbx hHeld
      generalize (u3.alloc (.cells #[.slice none 0 0, .slice none 0 0, .slice none 0 0, .slice none 0 0, .slice none 0 0, .slice none 0 0, .slice none 0 0, .slice none 0 0] 28)) = ua at *
      generalize u3.heap.size = Ba at *
      refine rdH [6] ?_
      refine AllReadyH.cons (o := { dst := none, op := Op.store 28 (Operand.tmp 5) (Operand.tmp 17), type := 0, pos := "law.go:94", after := #[{ on := 4, ground := Ground.data }, { on := 1, ground := Ground.data }, { on := 3, ground := Ground.chain }, { on := 0, ground := Ground.phase }, { on := 1, ground := Ground.phase }, { on := 2, ground := Ground.textOnly Departure.lateStores }, { on := 3, ground := Ground.textOnly Departure.lateStoresUnsure }, { on := 4, ground := Ground.phase }, { on := 5, ground := Ground.phase }], guard := none }) rfl (fun K hK => ?_) ?_
      ·obtain ⟨y0, y1, y2, y3, y4, y5, y6, y7⟩ := cs8 KA.out
       have f0 := KA.out.frozen 0
       have f1 := KA.out.frozen 1
       have f2 := KA.out.frozen 2
       have f3 := KA.out.frozen 3
       have f4 := KA.out.frozen 4
       have f5 := KA.out.frozen 5
       have f6 := KA.out.frozen 6
       have f7 := KA.out.frozen 7
       go_simp
       try clear hHeld
       have FL := Lib.hid (fillH KA.out a)
       have HKX := FL.out.2.1.blk KX.out HNA.out.1
       have HKY := FL.out.2.1.blk KY.out HNA.out.2
       refine hK.out _ (putH ua Ba a) ⟨HKX, HKY⟩ (fun hHeld => ?_)
       clear hK K
       try simp only [Act.put, sA, sB, sC]
       try clear hHeld
       clear HKX HKY y0 f0 y1 f1 y2 f2 y3 f3 y4 f4 y5 f5 y6 f6 y7 f7
       have KX := Lib.hid (FL.out.2.1.blk KX.out HNA.out.1)
       have KY := Lib.hid (FL.out.2.1.blk KY.out HNA.out.2)
       have KB := Lib.hid (FL.out.2.1.blk KB.out HAB.out)
       have OA := Lib.hid (OA.out.box FL.out.2.2.1)
       have OB := Lib.hid (OB.out.box FL.out.2.2.1)
       have BW := Lib.hid (FL.out.2.2.2 w BW.out HGA.out)
       have KA := Lib.hid FL.out.1
       clear FL
       generalize (putH ua Ba a) = sa at *
       refine rdH [7] ?_
       refine AllReadyH.cons (o := { dst := none, op := Op.store 28 (Operand.tmp 6) (Operand.tmp 19), type := 0, pos := "law.go:94", after := #[{ on := 5, ground := Ground.data }, { on := 3, ground := Ground.data }, { on := 6, ground := Ground.chain }, { on := 0, ground := Ground.phase }, { on := 1, ground := Ground.phase }, { on := 2, ground := Ground.phase }, { on := 3, ground := Ground.phase }, { on := 4, ground := Ground.phase }, { on := 5, ground := Ground.phase }, { on := 6, ground := Ground.phase }], guard := none }) rfl (fun K hK => ?_) ?_
       ·obtain ⟨y0, y1, y2, y3, y4, y5, y6, y7⟩ := cs8 KB.out
        have f0 := KB.out.frozen 0
        have f1 := KB.out.frozen 1
        have f2 := KB.out.frozen 2
        have f3 := KB.out.frozen 3
        have f4 := KB.out.frozen 4
        have f5 := KB.out.frozen 5
        have f6 := KB.out.frozen 6
        have f7 := KB.out.frozen 7
        go_simp
        try clear hHeld
        have FL := Lib.hid (fillH KB.out b)
        have HKX := FL.out.2.1.blk KX.out HNB.out.1
        have HKY := FL.out.2.1.blk KY.out HNB.out.2
        refine hK.out _ (putH sa Bb b) ⟨HKX, HKY⟩ (fun hHeld => ?_)
        clear hK K
        try simp only [Act.put, sA, sB, sC]
        try clear hHeld
        clear HKX HKY y0 f0 y1 f1 y2 f2 y3 f3 y4 f4 y5 f5 y6 f6 y7 f7
        have KX := Lib.hid (FL.out.2.1.blk KX.out HNB.out.1)
        have KY := Lib.hid (FL.out.2.1.blk KY.out HNB.out.2)
        have KA := Lib.hid (FL.out.2.1.blk KA.out (Ne.symm HAB.out))
        have OA := Lib.hid (OA.out.box FL.out.2.2.1)
        have OB := Lib.hid (OB.out.box FL.out.2.2.1)
        have BW := Lib.hid (FL.out.2.2.2 w BW.out HGB.out)
        have KB := Lib.hid FL.out.1
        clear FL
        generalize (putH sa Bb b) = sb at *
        refine wpAnyH_done (by kernel_rfl) ?_ _
        refine NoPanic.normal ?_
        go_wp2_with fail
        go_meet
        exact ⟨Ba, Bb, a, b, rfl, rfl, ⟨HPa.out, HPb.out⟩, ⟨KA.out, OA.out⟩, ⟨KB.out, OB.out⟩, KX, BW⟩
       exact AllReadyH.nil
      exact AllReadyH.nil
     exact AllReadyH.nil
    refine AllReadyH.cons rfl (fun K hK => ?_) ?_
    ·go_simp
     refine hK.out _ _ ⟨(KX.out.alloc _), (KY.out.alloc _)⟩ (fun hHeld => ?_)
     clear hK K
     try simp only [Act.put, sA, sB, sC]
     have hbx : Below ub.heap.size ub (ub.alloc (.cells #[.slice none 0 0, .slice none 0 0, .slice none 0 0, .slice none 0 0, .slice none 0 0, .slice none 0 0, .slice none 0 0, .slice none 0 0] 28)) := (Below.refl _ _).alloc (Nat.le_refl _) _
     have HNA : Hid (Bx ≠ ub.heap.size ∧ By ≠ ub.heap.size) := ⟨Nat.ne_of_lt KX.out.lt, Nat.ne_of_lt KY.out.lt⟩
     have HGA : Hid (w.heap.size ≤ ub.heap.size) := BW.out.size
     have HAB : Hid (Bb ≠ ub.heap.size) := Nat.ne_of_lt KB.out.lt
     have KX := Lib.hid (KX.out.below hbx KX.out.lt)
     have KY := Lib.hid (KY.out.below hbx KY.out.lt)
     have OA := Lib.hid (OA.out.on hbx)
     have KB := Lib.hid (KB.out.below hbx KB.out.lt)
     have BW := Lib.hid (BW.out.trans (hbx.mono BW.out.size))
     have KA : Hid (Blk (ub.alloc (.cells #[.slice none 0 0, .slice none 0 0, .slice none 0 0, .slice none 0 0, .slice none 0 0, .slice none 0 0, .slice none 0 0, .slice none 0 0] 28)) ub.heap.size 28 #[.slice none 0 0, .slice none 0 0, .slice none 0 0, .slice none 0 0, .slice none 0 0, .slice none 0 0, .slice none 0 0, .slice none 0 0]) := Blk.new _ _ _
     clear hbx hHeld
     generalize (ub.alloc (.cells #[.slice none 0 0, .slice none 0 0, .slice none 0 0, .slice none 0 0, .slice none 0 0, .slice none 0 0, .slice none 0 0, .slice none 0 0] 28)) = ua at *
     generalize ub.heap.size = Ba at *
     refine rdH [3] ?_
     refine AllReadyH.cons rfl (fun K hK => ?_) ?_
     ·go_simp
      refine (few11_any y ua (HAY.out.on BW.out)).mono ?_
      rintro _ u3 ⟨b, rfl, ho, hp, bb⟩
      have o9 := ho.mono BW.out.size
      have KX := Lib.hid (KX.out.below bb KX.out.lt)
      have KY := Lib.hid (KY.out.below bb KY.out.lt)
      have KA := Lib.hid (KA.out.below bb KA.out.lt)
      have OA := Lib.hid (OA.out.on bb)
      have KB := Lib.hid (KB.out.below bb KB.out.lt)
      have BW := Lib.hid (BW.out.trans (bb.mono BW.out.size))
      have OB := Lib.hid o9
      have HPb := Lib.hid hp
      clear ho hp bb o9 hHeld
      go_simp
      refine hK.out _ _ ⟨KX.out, KY.out⟩ (fun hHeld => ?_)
      clear hK K
      try simp only [Act.put, sA, sB, sC]
      refine rdH [6] ?_
      refine AllReadyH.cons (o := { dst := none, op := Op.store 28 (Operand.tmp 5) (Operand.tmp 17), type := 0, pos := "law.go:94", after := #[{ on := 4, ground := Ground.data }, { on := 1, ground := Ground.data }, { on := 3, ground := Ground.chain }, { on := 0, ground := Ground.phase }, { on := 1, ground := Ground.phase }, { on := 2, ground := Ground.textOnly Departure.lateStores }, { on := 3, ground := Ground.textOnly Departure.lateStoresUnsure }, { on := 4, ground := Ground.phase }, { on := 5, ground := Ground.phase }], guard := none }) rfl (fun K hK => ?_) ?_
      ·obtain ⟨y0, y1, y2, y3, y4, y5, y6, y7⟩ := cs8 KA.out
       have f0 := KA.out.frozen 0
       have f1 := KA.out.frozen 1
       have f2 := KA.out.frozen 2
       have f3 := KA.out.frozen 3
       have f4 := KA.out.frozen 4
       have f5 := KA.out.frozen 5
       have f6 := KA.out.frozen 6
       have f7 := KA.out.frozen 7
       go_simp
       try clear hHeld
       have FL := Lib.hid (fillH KA.out a)
       have HKX := FL.out.2.1.blk KX.out HNA.out.1
       have HKY := FL.out.2.1.blk KY.out HNA.out.2
       refine hK.out _ (putH u3 Ba a) ⟨HKX, HKY⟩ (fun hHeld => ?_)
       clear hK K
       try simp only [Act.put, sA, sB, sC]
       try clear hHeld
       clear HKX HKY y0 f0 y1 f1 y2 f2 y3 f3 y4 f4 y5 f5 y6 f6 y7 f7
       have KX := Lib.hid (FL.out.2.1.blk KX.out HNA.out.1)
       have KY := Lib.hid (FL.out.2.1.blk KY.out HNA.out.2)
       have KB := Lib.hid (FL.out.2.1.blk KB.out HAB.out)
       have OA := Lib.hid (OA.out.box FL.out.2.2.1)
       have OB := Lib.hid (OB.out.box FL.out.2.2.1)
       have BW := Lib.hid (FL.out.2.2.2 w BW.out HGA.out)
       have KA := Lib.hid FL.out.1
       clear FL
       generalize (putH u3 Ba a) = sa at *
       refine rdH [7] ?_
       refine AllReadyH.cons (o := { dst := none, op := Op.store 28 (Operand.tmp 6) (Operand.tmp 19), type := 0, pos := "law.go:94", after := #[{ on := 5, ground := Ground.data }, { on := 3, ground := Ground.data }, { on := 6, ground := Ground.chain }, { on := 0, ground := Ground.phase }, { on := 1, ground := Ground.phase }, { on := 2, ground := Ground.phase }, { on := 3, ground := Ground.phase }, { on := 4, ground := Ground.phase }, { on := 5, ground := Ground.phase }, { on := 6, ground := Ground.phase }], guard := none }) rfl (fun K hK => ?_) ?_
       ·obtain ⟨y0, y1, y2, y3, y4, y5, y6, y7⟩ := cs8 KB.out
        have f0 := KB.out.frozen 0
        have f1 := KB.out.frozen 1
        have f2 := KB.out.frozen 2
        have f3 := KB.out.frozen 3
        have f4 := KB.out.frozen 4
        have f5 := KB.out.frozen 5
        have f6 := KB.out.frozen 6
        have f7 := KB.out.frozen 7
        go_simp
        try clear hHeld
        have FL := Lib.hid (fillH KB.out b)
        have HKX := FL.out.2.1.blk KX.out HNB.out.1
        have HKY := FL.out.2.1.blk KY.out HNB.out.2
        refine hK.out _ (putH sa Bb b) ⟨HKX, HKY⟩ (fun hHeld => ?_)
        clear hK K
        try simp only [Act.put, sA, sB, sC]
        try clear hHeld
        clear HKX HKY y0 f0 y1 f1 y2 f2 y3 f3 y4 f4 y5 f5 y6 f6 y7 f7
        have KX := Lib.hid (FL.out.2.1.blk KX.out HNB.out.1)
        have KY := Lib.hid (FL.out.2.1.blk KY.out HNB.out.2)
        have KA := Lib.hid (FL.out.2.1.blk KA.out (Ne.symm HAB.out))
        have OA := Lib.hid (OA.out.box FL.out.2.2.1)
        have OB := Lib.hid (OB.out.box FL.out.2.2.1)
        have BW := Lib.hid (FL.out.2.2.2 w BW.out HGB.out)
        have KB := Lib.hid FL.out.1
        clear FL
        generalize (putH sa Bb b) = sb at *
        refine wpAnyH_done (by kernel_rfl) ?_ _
        refine NoPanic.normal ?_
        go_wp2_with fail
        go_meet
        exact ⟨Ba, Bb, a, b, rfl, rfl, ⟨HPa.out, HPb.out⟩, ⟨KA.out, OA.out⟩, ⟨KB.out, OB.out⟩, KX, BW⟩
       exact AllReadyH.nil
      exact AllReadyH.nil
     exact AllReadyH.nil
    exact AllReadyH.nil
   exact AllReadyH.nil
  refine AllReadyH.cons rfl (fun K hK => ?_) ?_
  ·go_simp
   refine hK.out _ _ ⟨(KX.out.alloc _), (KY.out.alloc _)⟩ (fun hHeld => ?_)
   clear hK K
   try simp only [Act.put, sA, sB, sC]
   have hbx : Below wd.heap.size wd (wd.alloc (.cells #[.slice none 0 0, .slice none 0 0, .slice none 0 0, .slice none 0 0, .slice none 0 0, .slice none 0 0, .slice none 0 0, .slice none 0 0] 28)) := (Below.refl _ _).alloc (Nat.le_refl _) _
   have HNA : Hid (Bx ≠ wd.heap.size ∧ By ≠ wd.heap.size) := ⟨Nat.ne_of_lt KX.out.lt, Nat.ne_of_lt KY.out.lt⟩
   have HGA : Hid (w.heap.size ≤ wd.heap.size) := BW.out.size
   have KX := Lib.hid (KX.out.below hbx KX.out.lt)
   have KY := Lib.hid (KY.out.below hbx KY.out.lt)
   have BW := Lib.hid (BW.out.trans (hbx.mono BW.out.size))
   have KA : Hid (Blk (wd.alloc (.cells #[.slice none 0 0, .slice none 0 0, .slice none 0 0, .slice none 0 0, .slice none 0 0, .slice none 0 0, .slice none 0 0, .slice none 0 0] 28)) wd.heap.size 28 #[.slice none 0 0, .slice none 0 0, .slice none 0 0, .slice none 0 0, .slice none 0 0, .slice none 0 0, .slice none 0 0, .slice none 0 0]) := Blk.new _ _ _
   clear hbx hHeld
   generalize (wd.alloc (.cells #[.slice none 0 0, .slice none 0 0, .slice none 0 0, .slice none 0 0, .slice none 0 0, .slice none 0 0, .slice none 0 0, .slice none 0 0] 28)) = ua at *
   generalize wd.heap.size = Ba at *
   refine rdH [1, 5] ?_
   refine AllReadyH.cons rfl (fun K hK => ?_) ?_
   ·go_simp
    refine (few11_any x ua (HAX.out.on BW.out)).mono ?_
    rintro _ u1 ⟨a, rfl, ho, hp, bb⟩
    have o9 := ho.mono BW.out.size
    have KX := Lib.hid (KX.out.below bb KX.out.lt)
    have KY := Lib.hid (KY.out.below bb KY.out.lt)
    have KA := Lib.hid (KA.out.below bb KA.out.lt)
    have BW := Lib.hid (BW.out.trans (bb.mono BW.out.size))
    have OA := Lib.hid o9
    have HPa := Lib.hid hp
    clear ho hp bb o9 hHeld
    go_simp
    refine hK.out _ _ ⟨KX.out, KY.out⟩ (fun hHeld => ?_)
    clear hK K
    try simp only [Act.put, sA, sB, sC]
    refine rdH [3, 5] ?_
    refine AllReadyH.cons rfl (fun K hK => ?_) ?_
    ·go_simp
     refine (few11_any y u1 (HAY.out.on BW.out)).mono ?_
     rintro _ u3 ⟨b, rfl, ho, hp, bb⟩
     have o9 := ho.mono BW.out.size
     have KX := Lib.hid (KX.out.below bb KX.out.lt)
     have KY := Lib.hid (KY.out.below bb KY.out.lt)
     have KA := Lib.hid (KA.out.below bb KA.out.lt)
     have OA := Lib.hid (OA.out.on bb)
     have BW := Lib.hid (BW.out.trans (bb.mono BW.out.size))
     have OB := Lib.hid o9
     have HPb := Lib.hid hp
     clear ho hp bb o9 hHeld
     go_simp
     refine hK.out _ _ ⟨KX.out, KY.out⟩ (fun hHeld => ?_)
     clear hK K
     try simp only [Act.put, sA, sB, sC]
     refine rdH [5] ?_
     refine AllReadyH.cons rfl (fun K hK => ?_) ?_
     ·go_simp
      refine hK.out _ _ ⟨(KX.out.alloc _), (KY.out.alloc _)⟩ (fun hHeld => ?_)
      clear hK K
      try simp only [Act.put, sA, sB, sC]
      have hbx : Below u3.heap.size u3 (u3.alloc (.cells #[.slice none 0 0, .slice none 0 0, .slice none 0 0, .slice none 0 0, .slice none 0 0, .slice none 0 0, .slice none 0 0, .slice none 0 0] 28)) := (Below.refl _ _).alloc (Nat.le_refl _) _
      have HNB : Hid (Bx ≠ u3.heap.size ∧ By ≠ u3.heap.size) := ⟨Nat.ne_of_lt KX.out.lt, Nat.ne_of_lt KY.out.lt⟩
      have HGB : Hid (w.heap.size ≤ u3.heap.size) := BW.out.size
      have HAB : Hid (Ba ≠ u3.heap.size) := Nat.ne_of_lt KA.out.lt
      have KX := Lib.hid (KX.out.below hbx KX.out.lt)
      have KY := Lib.hid (KY.out.below hbx KY.out.lt)
      have KA := Lib.hid (KA.out.below hbx KA.out.lt)
      have OA := Lib.hid (OA.out.on hbx)
      have OB := Lib.hid (OB.out.on hbx)
      have BW := Lib.hid (BW.out.trans (hbx.mono BW.out.size))
      have KB : Hid (Blk (u3.alloc (.cells #[.slice none 0 0, .slice none 0 0, .slice none 0 0, .slice none 0 0, .slice none 0 0, .slice none 0 0, .slice none 0 0, .slice none 0 0] 28)) u3.heap.size 28 #[.slice none 0 0, .slice none 0 0, .slice none 0 0, .slice none 0 0, .slice none 0 0, .slice none 0 0, .slice none 0 0, .slice none 0 0]) := Blk.new _ _ _
      clear hbx hHeld
      generalize (u3.alloc (.cells #[.slice none 0 0, .slice none 0 0, .slice none 0 0, .slice none 0 0, .slice none 0 0, .slice none 0 0, .slice none 0 0, .slice none 0 0] 28)) = ub at *
      generalize u3.heap.size = Bb at *
      refine rdH [6] ?_
      refine AllReadyH.cons (o := { dst := none, op := Op.store 28 (Operand.tmp 5) (Operand.tmp 17), type := 0, pos := "law.go:94", after := #[{ on := 4, ground := Ground.data }, { on := 1, ground := Ground.data }, { on := 3, ground := Ground.chain }, { on := 0, ground := Ground.phase }, { on := 1, ground := Ground.phase }, { on := 2, ground := Ground.textOnly Departure.lateStores }, { on := 3, ground := Ground.textOnly Departure.lateStoresUnsure }, { on := 4, ground := Ground.phase }, { on := 5, ground := Ground.phase }], guard := none }) rfl (fun K hK => ?_) ?_
      ·obtain ⟨y0, y1, y2, y3, y4, y5, y6, y7⟩ := cs8 KA.out
       have f0 := KA.out.frozen 0
       have f1 := KA.out.frozen 1
       have f2 := KA.out.frozen 2
       have f3 := KA.out.frozen 3
       have f4 := KA.out.frozen 4
       have f5 := KA.out.frozen 5
       have f6 := KA.out.frozen 6
       have f7 := KA.out.frozen 7
       go_simp
       try clear hHeld
       have FL := Lib.hid (fillH KA.out a)
       have HKX := FL.out.2.1.blk KX.out HNA.out.1
       have HKY := FL.out.2.1.blk KY.out HNA.out.2
       refine hK.out _ (putH ub Ba a) ⟨HKX, HKY⟩ (fun hHeld => ?_)
       clear hK K
       try simp only [Act.put, sA, sB, sC]
       try clear hHeld
       clear HKX HKY y0 f0 y1 f1 y2 f2 y3 f3 y4 f4 y5 f5 y6 f6 y7 f7
       have KX := Lib.hid (FL.out.2.1.blk KX.out HNA.out.1)
       have KY := Lib.hid (FL.out.2.1.blk KY.out HNA.out.2)
       have KB := Lib.hid (FL.out.2.1.blk KB.out (Ne.symm HAB.out))
       have OA := Lib.hid (OA.out.box FL.out.2.2.1)
       have OB := Lib.hid (OB.out.box FL.out.2.2.1)
       have BW := Lib.hid (FL.out.2.2.2 w BW.out HGA.out)
       have KA := Lib.hid FL.out.1
       clear FL
       generalize (putH ub Ba a) = sa at *
       refine rdH [7] ?_
       refine AllReadyH.cons (o := { dst := none, op := Op.store 28 (Operand.tmp 6) (Operand.tmp 19), type := 0, pos := "law.go:94", after := #[{ on := 5, ground := Ground.data }, { on := 3, ground := Ground.data }, { on := 6, ground := Ground.chain }, { on := 0, ground := Ground.phase }, { on := 1, ground := Ground.phase }, { on := 2, ground := Ground.phase }, { on := 3, ground := Ground.phase }, { on := 4, ground := Ground.phase }, { on := 5, ground := Ground.phase }, { on := 6, ground := Ground.phase }], guard := none }) rfl (fun K hK => ?_) ?_
       ·obtain ⟨y0, y1, y2, y3, y4, y5, y6, y7⟩ := cs8 KB.out
        have f0 := KB.out.frozen 0
        have f1 := KB.out.frozen 1
        have f2 := KB.out.frozen 2
        have f3 := KB.out.frozen 3
        have f4 := KB.out.frozen 4
        have f5 := KB.out.frozen 5
        have f6 := KB.out.frozen 6
        have f7 := KB.out.frozen 7
        go_simp
        try clear hHeld
        have FL := Lib.hid (fillH KB.out b)
        have HKX := FL.out.2.1.blk KX.out HNB.out.1
        have HKY := FL.out.2.1.blk KY.out HNB.out.2
        refine hK.out _ (putH sa Bb b) ⟨HKX, HKY⟩ (fun hHeld => ?_)
        clear hK K
        try simp only [Act.put, sA, sB, sC]
        try clear hHeld
        clear HKX HKY y0 f0 y1 f1 y2 f2 y3 f3 y4 f4 y5 f5 y6 f6 y7 f7
        have KX := Lib.hid (FL.out.2.1.blk KX.out HNB.out.1)
        have KY := Lib.hid (FL.out.2.1.blk KY.out HNB.out.2)
        have KA := Lib.hid (FL.out.2.1.blk KA.out HAB.out)
        have OA := Lib.hid (OA.out.box FL.out.2.2.1)
        have OB := Lib.hid (OB.out.box FL.out.2.2.1)
        have BW := Lib.hid (FL.out.2.2.2 w BW.out HGB.out)
        have KB := Lib.hid FL.out.1
        clear FL
        generalize (putH sa Bb b) = sb at *
        refine wpAnyH_done (by kernel_rfl) ?_ _
        refine NoPanic.normal ?_
        go_wp2_with fail
        go_meet
        exact ⟨Ba, Bb, a, b, rfl, rfl, ⟨HPa.out, HPb.out⟩, ⟨KA.out, OA.out⟩, ⟨KB.out, OB.out⟩, KX, BW⟩
       exact AllReadyH.nil
      exact AllReadyH.nil
     exact AllReadyH.nil
    refine AllReadyH.cons rfl (fun K hK => ?_) ?_
    ·go_simp
     refine hK.out _ _ ⟨(KX.out.alloc _), (KY.out.alloc _)⟩ (fun hHeld => ?_)
     clear hK K
     try simp only [Act.put, sA, sB, sC]
     have hbx : Below u1.heap.size u1 (u1.alloc (.cells #[.slice none 0 0, .slice none 0 0, .slice none 0 0, .slice none 0 0, .slice none 0 0, .slice none 0 0, .slice none 0 0, .slice none 0 0] 28)) := (Below.refl _ _).alloc (Nat.le_refl _) _
     have HNB : Hid (Bx ≠ u1.heap.size ∧ By ≠ u1.heap.size) := ⟨Nat.ne_of_lt KX.out.lt, Nat.ne_of_lt KY.out.lt⟩
     have HGB : Hid (w.heap.size ≤ u1.heap.size) := BW.out.size
     have HAB : Hid (Ba ≠ u1.heap.size) := Nat.ne_of_lt KA.out.lt
     have KX := Lib.hid (KX.out.below hbx KX.out.lt)
     have KY := Lib.hid (KY.out.below hbx KY.out.lt)
     have KA := Lib.hid (KA.out.below hbx KA.out.lt)
     have OA := Lib.hid (OA.out.on hbx)
     have BW := Lib.hid (BW.out.trans (hbx.mono BW.out.size))
     have KB : Hid (Blk (u1.alloc (.cells #[.slice none 0 0, .slice none 0 0, .slice none 0 0, .slice none 0 0, .slice none 0 0, .slice none 0 0, .slice none 0 0, .slice none 0 0] 28)) u1.heap.size 28 #[.slice none 0 0, .slice none 0 0, .slice none 0 0, .slice none 0 0, .slice none 0 0, .slice none 0 0, .slice none 0 0, .slice none 0 0]) := Blk.new _ _ _
     clear hbx hHeld
     generalize (u1.alloc (.cells #[.slice none 0 0, .slice none 0 0, .slice none 0 0, .slice none 0 0, .slice none 0 0, .slice none 0 0, .slice none 0 0, .slice none 0 0] 28)) = ub at *
     generalize u1.heap.size = Bb at *
     refine rdH [3] ?_
     refine AllReadyH.cons rfl (fun K hK => ?_) ?_
     ·go_simp
      refine (few11_any y ub (HAY.out.on BW.out)).mono ?_
      rintro _ u3 ⟨b, rfl, ho, hp, bb⟩
      have o9 := ho.mono BW.out.size
      have KX := Lib.hid (KX.out.below bb KX.out.lt)
      have KY := Lib.hid (KY.out.below bb KY.out.lt)
      have KA := Lib.hid (KA.out.below bb KA.out.lt)
      have OA := Lib.hid (OA.out.on bb)
      have KB := Lib.hid (KB.out.below bb KB.out.lt)
      have BW := Lib.hid (BW.out.trans (bb.mono BW.out.size))
      have OB := Lib.hid o9
      have HPb := Lib.hid hp
      clear ho hp bb o9 hHeld
      go_simp
      refine hK.out _ _ ⟨KX.out, KY.out⟩ (fun hHeld => ?_)
      clear hK K
      try simp only [Act.put, sA, sB, sC]
      refine rdH [6] ?_
      refine AllReadyH.cons (o := { dst := none, op := Op.store 28 (Operand.tmp 5) (Operand.tmp 17), type := 0, pos := "law.go:94", after := #[{ on := 4, ground := Ground.data }, { on := 1, ground := Ground.data }, { on := 3, ground := Ground.chain }, { on := 0, ground := Ground.phase }, { on := 1, ground := Ground.phase }, { on := 2, ground := Ground.textOnly Departure.lateStores }, { on := 3, ground := Ground.textOnly Departure.lateStoresUnsure }, { on := 4, ground := Ground.phase }, { on := 5, ground := Ground.phase }], guard := none }) rfl (fun K hK => ?_) ?_
      ·obtain ⟨y0, y1, y2, y3, y4, y5, y6, y7⟩ := cs8 KA.out
       have f0 := KA.out.frozen 0
       have f1 := KA.out.frozen 1
       have f2 := KA.out.frozen 2
       have f3 := KA.out.frozen 3
       have f4 := KA.out.frozen 4
       have f5 := KA.out.frozen 5
       have f6 := KA.out.frozen 6
       have f7 := KA.out.frozen 7
       go_simp
       try clear hHeld
       have FL := Lib.hid (fillH KA.out a)
       have HKX := FL.out.2.1.blk KX.out HNA.out.1
       have HKY := FL.out.2.1.blk KY.out HNA.out.2
       refine hK.out _ (putH u3 Ba a) ⟨HKX, HKY⟩ (fun hHeld => ?_)
       clear hK K
       try simp only [Act.put, sA, sB, sC]
       try clear hHeld
       clear HKX HKY y0 f0 y1 f1 y2 f2 y3 f3 y4 f4 y5 f5 y6 f6 y7 f7
       have KX := Lib.hid (FL.out.2.1.blk KX.out HNA.out.1)
       have KY := Lib.hid (FL.out.2.1.blk KY.out HNA.out.2)
       have KB := Lib.hid (FL.out.2.1.blk KB.out (Ne.symm HAB.out))
       have OA := Lib.hid (OA.out.box FL.out.2.2.1)
       have OB := Lib.hid (OB.out.box FL.out.2.2.1)
       have BW := Lib.hid (FL.out.2.2.2 w BW.out HGA.out)
       have KA := Lib.hid FL.out.1
       clear FL
       generalize (putH u3 Ba a) = sa at *
       refine rdH [7] ?_
       refine AllReadyH.cons (o := { dst := none, op := Op.store 28 (Operand.tmp 6) (Operand.tmp 19), type := 0, pos := "law.go:94", after := #[{ on := 5, ground := Ground.data }, { on := 3, ground := Ground.data }, { on := 6, ground := Ground.chain }, { on := 0, ground := Ground.phase }, { on := 1, ground := Ground.phase }, { on := 2, ground := Ground.phase }, { on := 3, ground := Ground.phase }, { on := 4, ground := Ground.phase }, { on := 5, ground := Ground.phase }, { on := 6, ground := Ground.phase }], guard := none }) rfl (fun K hK => ?_) ?_
       ·obtain ⟨y0, y1, y2, y3, y4, y5, y6, y7⟩ := cs8 KB.out
        have f0 := KB.out.frozen 0
        have f1 := KB.out.frozen 1
        have f2 := KB.out.frozen 2
        have f3 := KB.out.frozen 3
        have f4 := KB.out.frozen 4
        have f5 := KB.out.frozen 5
        have f6 := KB.out.frozen 6
        have f7 := KB.out.frozen 7
        go_simp
        try clear hHeld
        have FL := Lib.hid (fillH KB.out b)
        have HKX := FL.out.2.1.blk KX.out HNB.out.1
        have HKY := FL.out.2.1.blk KY.out HNB.out.2
        refine hK.out _ (putH sa Bb b) ⟨HKX, HKY⟩ (fun hHeld => ?_)
        clear hK K
        try simp only [Act.put, sA, sB, sC]
        try clear hHeld
        clear HKX HKY y0 f0 y1 f1 y2 f2 y3 f3 y4 f4 y5 f5 y6 f6 y7 f7
        have KX := Lib.hid (FL.out.2.1.blk KX.out HNB.out.1)
        have KY := Lib.hid (FL.out.2.1.blk KY.out HNB.out.2)
        have KA := Lib.hid (FL.out.2.1.blk KA.out HAB.out)
        have OA := Lib.hid (OA.out.box FL.out.2.2.1)
        have OB := Lib.hid (OB.out.box FL.out.2.2.1)
        have BW := Lib.hid (FL.out.2.2.2 w BW.out HGB.out)
        have KB := Lib.hid FL.out.1
        clear FL
        generalize (putH sa Bb b) = sb at *
        refine wpAnyH_done (by kernel_rfl) ?_ _
        refine NoPanic.normal ?_
        go_wp2_with fail
        go_meet
        exact ⟨Ba, Bb, a, b, rfl, rfl, ⟨HPa.out, HPb.out⟩, ⟨KA.out, OA.out⟩, ⟨KB.out, OB.out⟩, KX, BW⟩
       exact AllReadyH.nil
      exact AllReadyH.nil
     exact AllReadyH.nil
    exact AllReadyH.nil
   refine AllReadyH.cons rfl (fun K hK => ?_) ?_
   ·go_simp
    refine hK.out _ _ ⟨(KX.out.alloc _), (KY.out.alloc _)⟩ (fun hHeld => ?_)
    clear hK K
    try simp only [Act.put, sA, sB, sC]
    have hbx : Below ua.heap.size ua (ua.alloc (.cells #[.slice none 0 0, .slice none 0 0, .slice none 0 0, .slice none 0 0, .slice none 0 0, .slice none 0 0, .slice none 0 0, .slice none 0 0] 28)) := (Below.refl _ _).alloc (Nat.le_refl _) _
    have HNB : Hid (Bx ≠ ua.heap.size ∧ By ≠ ua.heap.size) := ⟨Nat.ne_of_lt KX.out.lt, Nat.ne_of_lt KY.out.lt⟩
    have HGB : Hid (w.heap.size ≤ ua.heap.size) := BW.out.size
    have HAB : Hid (Ba ≠ ua.heap.size) := Nat.ne_of_lt KA.out.lt
    have KX := Lib.hid (KX.out.below hbx KX.out.lt)
    have KY := Lib.hid (KY.out.below hbx KY.out.lt)
    have KA := Lib.hid (KA.out.below hbx KA.out.lt)
    have BW := Lib.hid (BW.out.trans (hbx.mono BW.out.size))
    have KB : Hid (Blk (ua.alloc (.cells #[.slice none 0 0, .slice none 0 0, .slice none 0 0, .slice none 0 0, .slice none 0 0, .slice none 0 0, .slice none 0 0, .slice none 0 0] 28)) ua.heap.size 28 #[.slice none 0 0, .slice none 0 0, .slice none 0 0, .slice none 0 0, .slice none 0 0, .slice none 0 0, .slice none 0 0, .slice none 0 0]) := Blk.new _ _ _
    clear hbx hHeld
    generalize (ua.alloc (.cells #[.slice none 0 0, .slice none 0 0, .slice none 0 0, .slice none 0 0, .slice none 0 0, .slice none 0 0, .slice none 0 0, .slice none 0 0] 28)) = ub at *
    generalize ua.heap.size = Bb at *
    refine rdH [1] ?_
    refine AllReadyH.cons rfl (fun K hK => ?_) ?_
    ·go_simp
     refine (few11_any x ub (HAX.out.on BW.out)).mono ?_
     rintro _ u1 ⟨a, rfl, ho, hp, bb⟩
     have o9 := ho.mono BW.out.size
     have KX := Lib.hid (KX.out.below bb KX.out.lt)
     have KY := Lib.hid (KY.out.below bb KY.out.lt)
     have KA := Lib.hid (KA.out.below bb KA.out.lt)
     have KB := Lib.hid (KB.out.below bb KB.out.lt)
     have BW := Lib.hid (BW.out.trans (bb.mono BW.out.size))
     have OA := Lib.hid o9
     have HPa := Lib.hid hp
     clear ho hp bb o9 hHeld
     go_simp
     refine hK.out _ _ ⟨KX.out, KY.out⟩ (fun hHeld => ?_)
     clear hK K
     try simp only [Act.put, sA, sB, sC]
     refine rdH [3] ?_
     refine AllReadyH.cons rfl (fun K hK => ?_) ?_
     ·go_simp
      refine (few11_any y u1 (HAY.out.on BW.out)).mono ?_
      rintro _ u3 ⟨b, rfl, ho, hp, bb⟩
      have o9 := ho.mono BW.out.size
      have KX := Lib.hid (KX.out.below bb KX.out.lt)
      have KY := Lib.hid (KY.out.below bb KY.out.lt)
      have KA := Lib.hid (KA.out.below bb KA.out.lt)
      have OA := Lib.hid (OA.out.on bb)
      have KB := Lib.hid (KB.out.below bb KB.out.lt)
      have BW := Lib.hid (BW.out.trans (bb.mono BW.out.size))
      have OB := Lib.hid o9
      have HPb := Lib.hid hp
      clear ho hp bb o9 hHeld
      go_simp
      refine hK.out _ _ ⟨KX.out, KY.out⟩ (fun hHeld => ?_)
      clear hK K
      try simp only [Act.put, sA, sB, sC]
      refine rdH [6] ?_
      refine AllReadyH.cons (o := { dst := none, op := Op.store 28 (Operand.tmp 5) (Operand.tmp 17), type := 0, pos := "law.go:94", after := #[{ on := 4, ground := Ground.data }, { on := 1, ground := Ground.data }, { on := 3, ground := Ground.chain }, { on := 0, ground := Ground.phase }, { on := 1, ground := Ground.phase }, { on := 2, ground := Ground.textOnly Departure.lateStores }, { on := 3, ground := Ground.textOnly Departure.lateStoresUnsure }, { on := 4, ground := Ground.phase }, { on := 5, ground := Ground.phase }], guard := none }) rfl (fun K hK => ?_) ?_
      ·obtain ⟨y0, y1, y2, y3, y4, y5, y6, y7⟩ := cs8 KA.out
       have f0 := KA.out.frozen 0
       have f1 := KA.out.frozen 1
       have f2 := KA.out.frozen 2
       have f3 := KA.out.frozen 3
       have f4 := KA.out.frozen 4
       have f5 := KA.out.frozen 5
       have f6 := KA.out.frozen 6
       have f7 := KA.out.frozen 7
       go_simp
       try clear hHeld
       have FL := Lib.hid (fillH KA.out a)
       have HKX := FL.out.2.1.blk KX.out HNA.out.1
       have HKY := FL.out.2.1.blk KY.out HNA.out.2
       refine hK.out _ (putH u3 Ba a) ⟨HKX, HKY⟩ (fun hHeld => ?_)
       clear hK K
       try simp only [Act.put, sA, sB, sC]
       try clear hHeld
       clear HKX HKY y0 f0 y1 f1 y2 f2 y3 f3 y4 f4 y5 f5 y6 f6 y7 f7
       have KX := Lib.hid (FL.out.2.1.blk KX.out HNA.out.1)
       have KY := Lib.hid (FL.out.2.1.blk KY.out HNA.out.2)
       have KB := Lib.hid (FL.out.2.1.blk KB.out (Ne.symm HAB.out))
       have OA := Lib.hid (OA.out.box FL.out.2.2.1)
       have OB := Lib.hid (OB.out.box FL.out.2.2.1)
       have BW := Lib.hid (FL.out.2.2.2 w BW.out HGA.out)
       have KA := Lib.hid FL.out.1
       clear FL
       generalize (putH u3 Ba a) = sa at *
       refine rdH [7] ?_
       refine AllReadyH.cons (o := { dst := none, op := Op.store 28 (Operand.tmp 6) (Operand.tmp 19), type := 0, pos := "law.go:94", after := #[{ on := 5, ground := Ground.data }, { on := 3, ground := Ground.data }, { on := 6, ground := Ground.chain }, { on := 0, ground := Ground.phase }, { on := 1, ground := Ground.phase }, { on := 2, ground := Ground.phase }, { on := 3, ground := Ground.phase }, { on := 4, ground := Ground.phase }, { on := 5, ground := Ground.phase }, { on := 6, ground := Ground.phase }], guard := none }) rfl (fun K hK => ?_) ?_
       ·obtain ⟨y0, y1, y2, y3, y4, y5, y6, y7⟩ := cs8 KB.out
        have f0 := KB.out.frozen 0
        have f1 := KB.out.frozen 1
        have f2 := KB.out.frozen 2
        have f3 := KB.out.frozen 3
        have f4 := KB.out.frozen 4
        have f5 := KB.out.frozen 5
        have f6 := KB.out.frozen 6
        have f7 := KB.out.frozen 7
        go_simp
        try clear hHeld
        have FL := Lib.hid (fillH KB.out b)
        have HKX := FL.out.2.1.blk KX.out HNB.out.1
        have HKY := FL.out.2.1.blk KY.out HNB.out.2
        refine hK.out _ (putH sa Bb b) ⟨HKX, HKY⟩ (fun hHeld => ?_)
        clear hK K
        try simp only [Act.put, sA, sB, sC]
        try clear hHeld
        clear HKX HKY y0 f0 y1 f1 y2 f2 y3 f3 y4 f4 y5 f5 y6 f6 y7 f7
        have KX := Lib.hid (FL.out.2.1.blk KX.out HNB.out.1)
        have KY := Lib.hid (FL.out.2.1.blk KY.out HNB.out.2)
        have KA := Lib.hid (FL.out.2.1.blk KA.out HAB.out)
        have OA := Lib.hid (OA.out.box FL.out.2.2.1)
        have OB := Lib.hid (OB.out.box FL.out.2.2.1)
        have BW := Lib.hid (FL.out.2.2.2 w BW.out HGB.out)
        have KB := Lib.hid FL.out.1
        clear FL
        generalize (putH sa Bb b) = sb at *
        refine wpAnyH_done (by kernel_rfl) ?_ _
        refine NoPanic.normal ?_
        go_wp2_with fail
        go_meet
        exact ⟨Ba, Bb, a, b, rfl, rfl, ⟨HPa.out, HPb.out⟩, ⟨KA.out, OA.out⟩, ⟨KB.out, OB.out⟩, KX, BW⟩
       exact AllReadyH.nil
      exact AllReadyH.nil
     exact AllReadyH.nil
    exact AllReadyH.nil
   exact AllReadyH.nil
  refine AllReadyH.cons rfl (fun K hK => ?_) ?_
  ·go_simp
   refine hK.out _ _ ⟨(KX.out.alloc _), (KY.out.alloc _)⟩ (fun hHeld => ?_)
   clear hK K
   try simp only [Act.put, sA, sB, sC]
   have hbx : Below wd.heap.size wd (wd.alloc (.cells #[.slice none 0 0, .slice none 0 0, .slice none 0 0, .slice none 0 0, .slice none 0 0, .slice none 0 0, .slice none 0 0, .slice none 0 0] 28)) := (Below.refl _ _).alloc (Nat.le_refl _) _
   have HNB : Hid (Bx ≠ wd.heap.size ∧ By ≠ wd.heap.size) := ⟨Nat.ne_of_lt KX.out.lt, Nat.ne_of_lt KY.out.lt⟩
   have HGB : Hid (w.heap.size ≤ wd.heap.size) := BW.out.size
   have KX := Lib.hid (KX.out.below hbx KX.out.lt)
   have KY := Lib.hid (KY.out.below hbx KY.out.lt)
   have BW := Lib.hid (BW.out.trans (hbx.mono BW.out.size))
   have KB : Hid (Blk (wd.alloc (.cells #[.slice none 0 0, .slice none 0 0, .slice none 0 0, .slice none 0 0, .slice none 0 0, .slice none 0 0, .slice none 0 0, .slice none 0 0] 28)) wd.heap.size 28 #[.slice none 0 0, .slice none 0 0, .slice none 0 0, .slice none 0 0, .slice none 0 0, .slice none 0 0, .slice none 0 0, .slice none 0 0]) := Blk.new _ _ _
   clear hbx hHeld
   generalize (wd.alloc (.cells #[.slice none 0 0, .slice none 0 0, .slice none 0 0, .slice none 0 0, .slice none 0 0, .slice none 0 0, .slice none 0 0, .slice none 0 0] 28)) = ub at *
   generalize wd.heap.size = Bb at *
   refine rdH [1, 4] ?_
   refine AllReadyH.cons rfl (fun K hK => ?_) ?_
   ·go_simp
    refine (few11_any x ub (HAX.out.on BW.out)).mono ?_
    rintro _ u1 ⟨a, rfl, ho, hp, bb⟩
    have o9 := ho.mono BW.out.size
    have KX := Lib.hid (KX.out.below bb KX.out.lt)
    have KY := Lib.hid (KY.out.below bb KY.out.lt)
    have KB := Lib.hid (KB.out.below bb KB.out.lt)
    have BW := Lib.hid (BW.out.trans (bb.mono BW.out.size))
    have OA := Lib.hid o9
    have HPa := Lib.hid hp
    clear ho hp bb o9 hHeld
    go_simp
    refine hK.out _ _ ⟨KX.out, KY.out⟩ (fun hHeld => ?_)
    clear hK K
    try simp only [Act.put, sA, sB, sC]
    refine rdH [3, 4] ?_
    refine AllReadyH.cons rfl (fun K hK => ?_) ?_
    ·go_simp
     refine (few11_any y u1 (HAY.out.on BW.out)).mono ?_
     rintro _ u3 ⟨b, rfl, ho, hp, bb⟩
     have o9 := ho.mono BW.out.size
     have KX := Lib.hid (KX.out.below bb KX.out.lt)
     have KY := Lib.hid (KY.out.below bb KY.out.lt)
     have OA := Lib.hid (OA.out.on bb)
     have KB := Lib.hid (KB.out.below bb KB.out.lt)
     have BW := Lib.hid (BW.out.trans (bb.mono BW.out.size))
     have OB := Lib.hid o9
     have HPb := Lib.hid hp
     clear ho hp bb o9 hHeld
     go_simp
     refine hK.out _ _ ⟨KX.out, KY.out⟩ (fun hHeld => ?_)
     clear hK K
     try simp only [Act.put, sA, sB, sC]
     refine rdH [4] ?_
     refine AllReadyH.cons rfl (fun K hK => ?_) ?_
     ·go_simp
      refine hK.out _ _ ⟨(KX.out.alloc _), (KY.out.alloc _)⟩ (fun hHeld => ?_)
      clear hK K
      try simp only [Act.put, sA, sB, sC]
      have hbx : Below u3.heap.size u3 (u3.alloc (.cells #[.slice none 0 0, .slice none 0 0, .slice none 0 0, .slice none 0 0, .slice none 0 0, .slice none 0 0, .slice none 0 0, .slice none 0 0] 28)) := (Below.refl _ _).alloc (Nat.le_refl _) _
      have HNA : Hid (Bx ≠ u3.heap.size ∧ By ≠ u3.heap.size) := ⟨Nat.ne_of_lt KX.out.lt, Nat.ne_of_lt KY.out.lt⟩
      have HGA : Hid (w.heap.size ≤ u3.heap.size) := BW.out.size
      have HAB : Hid (Bb ≠ u3.heap.size) := Nat.ne_of_lt KB.out.lt
      have KX := Lib.hid (KX.out.below hbx KX.out.lt)
      have KY := Lib.hid (KY.out.below hbx KY.out.lt)
      have OA := Lib.hid (OA.out.on hbx)
      have KB := Lib.hid (KB.out.below hbx KB.out.lt)
      have OB := Lib.hid (OB.out.on hbx)
      have BW := Lib.hid (BW.out.trans (hbx.mono BW.out.size))
      have KA : Hid (Blk (u3.alloc (.cells #[.slice none 0 0, .slice none 0 0, .slice none 0 0, .slice none 0 0, .slice none 0 0, .slice none 0 0, .slice none 0 0, .slice none 0 0] 28)) u3.heap.size 28 #[.slice none 0 0, .slice none 0 0, .slice none 0 0, .slice none 0 0, .slice none 0 0, .slice none 0 0, .slice none 0 0, .slice none 0 0]) := Blk.new _ _ _
      clear hbx hHeld
      generalize (u3.alloc (.cells #[.slice none 0 0, .slice none 0 0, .slice none 0 0, .slice none 0 0, .slice none 0 0, .slice none 0 0, .slice none 0 0, .slice none 0 0] 28)) = ua at *
      generalize u3.heap.size = Ba at *
      refine rdH [6] ?_
      refine AllReadyH.cons (o := { dst := none, op := Op.store 28 (Operand.tmp 5) (Operand.tmp 17), type := 0, pos := "law.go:94", after := #[{ on := 4, ground := Ground.data }, { on := 1, ground := Ground.data }, { on := 3, ground := Ground.chain }, { on := 0, ground := Ground.phase }, { on := 1, ground := Ground.phase }, { on := 2, ground := Ground.textOnly Departure.lateStores }, { on := 3, ground := Ground.textOnly Departure.lateStoresUnsure }, { on := 4, ground := Ground.phase }, { on := 5, ground := Ground.phase }], guard := none }) rfl (fun K hK => ?_) ?_
      ·obtain ⟨y0, y1, y2, y3, y4, y5, y6, y7⟩ := cs8 KA.out
       have f0 := KA.out.frozen 0
       have f1 := KA.out.frozen 1
       have f2 := KA.out.frozen 2
       have f3 := KA.out.frozen 3
       have f4 := KA.out.frozen 4
       have f5 := KA.out.frozen 5
       have f6 := KA.out.frozen 6
       have f7 := KA.out.frozen 7
       go_simp
       try clear hHeld
       have FL := Lib.hid (fillH KA.out a)
       have HKX := FL.out.2.1.blk KX.out HNA.out.1
       have HKY := FL.out.2.1.blk KY.out HNA.out.2
       refine hK.out _ (putH ua Ba a) ⟨HKX, HKY⟩ (fun hHeld => ?_)
       clear hK K
       try simp only [Act.put, sA, sB, sC]
       try clear hHeld
       clear HKX HKY y0 f0 y1 f1 y2 f2 y3 f3 y4 f4 y5 f5 y6 f6 y7 f7
       have KX := Lib.hid (FL.out.2.1.blk KX.out HNA.out.1)
       have KY := Lib.hid (FL.out.2.1.blk KY.out HNA.out.2)
       have KB := Lib.hid (FL.out.2.1.blk KB.out HAB.out)
       have OA := Lib.hid (OA.out.box FL.out.2.2.1)
       have OB := Lib.hid (OB.out.box FL.out.2.2.1)
       have BW := Lib.hid (FL.out.2.2.2 w BW.out HGA.out)
       have KA := Lib.hid FL.out.1
       clear FL
       generalize (putH ua Ba a) = sa at *
       refine rdH [7] ?_
       refine AllReadyH.cons (o := { dst := none, op := Op.store 28 (Operand.tmp 6) (Operand.tmp 19), type := 0, pos := "law.go:94", after := #[{ on := 5, ground := Ground.data }, { on := 3, ground := Ground.data }, { on := 6, ground := Ground.chain }, { on := 0, ground := Ground.phase }, { on := 1, ground := Ground.phase }, { on := 2, ground := Ground.phase }, { on := 3, ground := Ground.phase }, { on := 4, ground := Ground.phase }, { on := 5, ground := Ground.phase }, { on := 6, ground := Ground.phase }], guard := none }) rfl (fun K hK => ?_) ?_
       ·obtain ⟨y0, y1, y2, y3, y4, y5, y6, y7⟩ := cs8 KB.out
        have f0 := KB.out.frozen 0
        have f1 := KB.out.frozen 1
        have f2 := KB.out.frozen 2
        have f3 := KB.out.frozen 3
        have f4 := KB.out.frozen 4
        have f5 := KB.out.frozen 5
        have f6 := KB.out.frozen 6
        have f7 := KB.out.frozen 7
        go_simp
        try clear hHeld
        have FL := Lib.hid (fillH KB.out b)
        have HKX := FL.out.2.1.blk KX.out HNB.out.1
        have HKY := FL.out.2.1.blk KY.out HNB.out.2
        refine hK.out _ (putH sa Bb b) ⟨HKX, HKY⟩ (fun hHeld => ?_)
        clear hK K
        try simp only [Act.put, sA, sB, sC]
        try clear hHeld
        clear HKX HKY y0 f0 y1 f1 y2 f2 y3 f3 y4 f4 y5 f5 y6 f6 y7 f7
        have KX := Lib.hid (FL.out.2.1.blk KX.out HNB.out.1)
        have KY := Lib.hid (FL.out.2.1.blk KY.out HNB.out.2)
        have KA := Lib.hid (FL.out.2.1.blk KA.out (Ne.symm HAB.out))
        have OA := Lib.hid (OA.out.box FL.out.2.2.1)
        have OB := Lib.hid (OB.out.box FL.out.2.2.1)
        have BW := Lib.hid (FL.out.2.2.2 w BW.out HGB.out)
        have KB := Lib.hid FL.out.1
        clear FL
        generalize (putH sa Bb b) = sb at *
        refine wpAnyH_done (by kernel_rfl) ?_ _
        refine NoPanic.normal ?_
        go_wp2_with fail
        go_meet
        exact ⟨Ba, Bb, a, b, rfl, rfl, ⟨HPa.out, HPb.out⟩, ⟨KA.out, OA.out⟩, ⟨KB.out, OB.out⟩, KX, BW⟩
       exact AllReadyH.nil
      exact AllReadyH.nil
     exact AllReadyH.nil
    refine AllReadyH.cons rfl (fun K hK => ?_) ?_
    ·go_simp
     refine hK.out _ _ ⟨(KX.out.alloc _), (KY.out.alloc _)⟩ (fun hHeld => ?_)
     clear hK K
     try simp only [Act.put, sA, sB, sC]
     have hbx : Below u1.heap.size u1 (u1.alloc (.cells #[.slice none 0 0, .slice none 0 0, .slice none 0 0, .slice none 0 0, .slice none 0 0, .slice none 0 0, .slice none 0 0, .slice none 0 0] 28)) := (Below.refl _ _).alloc (Nat.le_refl _) _
     have HNA : Hid (Bx ≠ u1.heap.size ∧ By ≠ u1.heap.size) := ⟨Nat.ne_of_lt KX.out.lt, Nat.ne_of_lt KY.out.lt⟩
     have HGA : Hid (w.heap.size ≤ u1.heap.size) := BW.out.size
     have HAB : Hid (Bb ≠ u1.heap.size) := Nat.ne_of_lt KB.out.lt
     have KX := Lib.hid (KX.out.below hbx KX.out.lt)
     have KY := Lib.hid (KY.out.below hbx KY.out.lt)
     have OA := Lib.hid (OA.out.on hbx)
     have KB := Lib.hid (KB.out.below hbx KB.out.lt)
     have BW := Lib.hid (BW.out.trans (hbx.mono BW.out.size))
     have KA : Hid (Blk (u1.alloc (.cells #[.slice none 0 0, .slice none 0 0, .slice none 0 0, .slice none 0 0, .slice none 0 0, .slice none 0 0, .slice none 0 0, .slice none 0 0] 28)) u1.heap.size 28 #[.slice none 0 0, .slice none 0 0, .slice none 0 0, .slice none 0 0, .slice none 0 0, .slice none 0 0, .slice none 0 0, .slice none 0 0]) := Blk.new _ _ _
     clear hbx hHeld
     generalize (u1.alloc (.cells #[.slice none 0 0, .slice none 0 0, .slice none 0 0, .slice none 0 0, .slice none 0 0, .slice none 0 0, .slice none 0 0, .slice none 0 0] 28)) = ua at *
     generalize u1.heap.size = Ba at *
     refine rdH [3] ?_
     refine AllReadyH.cons rfl (fun K hK => ?_) ?_
     ·go_simp
      refine (few11_any y ua (HAY.out.on BW.out)).mono ?_
      rintro _ u3 ⟨b, rfl, ho, hp, bb⟩
      have o9 := ho.mono BW.out.size
      have KX := Lib.hid (KX.out.below bb KX.out.lt)
      have KY := Lib.hid (KY.out.below bb KY.out.lt)
      have KA := Lib.hid (KA.out.below bb KA.out.lt)
      have OA := Lib.hid (OA.out.on bb)
      have KB := Lib.hid (KB.out.below bb KB.out.lt)
      have BW := Lib.hid (BW.out.trans (bb.mono BW.out.size))
      have OB := Lib.hid o9
      have HPb := Lib.hid hp
      clear ho hp bb o9 hHeld
      go_simp
      refine hK.out _ _ ⟨KX.out, KY.out⟩ (fun hHeld => ?_)
      clear hK K
      try simp only [Act.put, sA, sB, sC]
      refine rdH [6] ?_
      refine AllReadyH.cons (o := { dst := none, op := Op.store 28 (Operand.tmp 5) (Operand.tmp 17), type := 0, pos := "law.go:94", after := #[{ on := 4, ground := Ground.data }, { on := 1, ground := Ground.data }, { on := 3, ground := Ground.chain }, { on := 0, ground := Ground.phase }, { on := 1, ground := Ground.phase }, { on := 2, ground := Ground.textOnly Departure.lateStores }, { on := 3, ground := Ground.textOnly Departure.lateStoresUnsure }, { on := 4, ground := Ground.phase }, { on := 5, ground := Ground.phase }], guard := none }) rfl (fun K hK => ?_) ?_
      ·obtain ⟨y0, y1, y2, y3, y4, y5, y6, y7⟩ := cs8 KA.out
       have f0 := KA.out.frozen 0
       have f1 := KA.out.frozen 1
       have f2 := KA.out.frozen 2
       have f3 := KA.out.frozen 3
       have f4 := KA.out.frozen 4
       have f5 := KA.out.frozen 5
       have f6 := KA.out.frozen 6
       have f7 := KA.out.frozen 7
       go_simp
       try clear hHeld
       have FL := Lib.hid (fillH KA.out a)
       have HKX := FL.out.2.1.blk KX.out HNA.out.1
       have HKY := FL.out.2.1.blk KY.out HNA.out.2
       refine hK.out _ (putH u3 Ba a) ⟨HKX, HKY⟩ (fun hHeld => ?_)
       clear hK K
       try simp only [Act.put, sA, sB, sC]
       try clear hHeld
       clear HKX HKY y0 f0 y1 f1 y2 f2 y3 f3 y4 f4 y5 f5 y6 f6 y7 f7
       have KX := Lib.hid (FL.out.2.1.blk KX.out HNA.out.1)
       have KY := Lib.hid (FL.out.2.1.blk KY.out HNA.out.2)
       have KB := Lib.hid (FL.out.2.1.blk KB.out HAB.out)
       have OA := Lib.hid (OA.out.box FL.out.2.2.1)
       have OB := Lib.hid (OB.out.box FL.out.2.2.1)
       have BW := Lib.hid (FL.out.2.2.2 w BW.out HGA.out)
       have KA := Lib.hid FL.out.1
       clear FL
       generalize (putH u3 Ba a) = sa at *
       refine rdH [7] ?_
       refine AllReadyH.cons (o := { dst := none, op := Op.store 28 (Operand.tmp 6) (Operand.tmp 19), type := 0, pos := "law.go:94", after := #[{ on := 5, ground := Ground.data }, { on := 3, ground := Ground.data }, { on := 6, ground := Ground.chain }, { on := 0, ground := Ground.phase }, { on := 1, ground := Ground.phase }, { on := 2, ground := Ground.phase }, { on := 3, ground := Ground.phase }, { on := 4, ground := Ground.phase }, { on := 5, ground := Ground.phase }, { on := 6, ground := Ground.phase }], guard := none }) rfl (fun K hK => ?_) ?_
       ·obtain ⟨y0, y1, y2, y3, y4, y5, y6, y7⟩ := cs8 KB.out
        have f0 := KB.out.frozen 0
        have f1 := KB.out.frozen 1
        have f2 := KB.out.frozen 2
        have f3 := KB.out.frozen 3
        have f4 := KB.out.frozen 4
        have f5 := KB.out.frozen 5
        have f6 := KB.out.frozen 6
        have f7 := KB.out.frozen 7
        go_simp
        try clear hHeld
        have FL := Lib.hid (fillH KB.out b)
        have HKX := FL.out.2.1.blk KX.out HNB.out.1
        have HKY := FL.out.2.1.blk KY.out HNB.out.2
        refine hK.out _ (putH sa Bb b) ⟨HKX, HKY⟩ (fun hHeld => ?_)
        clear hK K
        try simp only [Act.put, sA, sB, sC]
        try clear hHeld
        clear HKX HKY y0 f0 y1 f1 y2 f2 y3 f3 y4 f4 y5 f5 y6 f6 y7 f7
        have KX := Lib.hid (FL.out.2.1.blk KX.out HNB.out.1)
        have KY := Lib.hid (FL.out.2.1.blk KY.out HNB.out.2)
        have KA := Lib.hid (FL.out.2.1.blk KA.out (Ne.symm HAB.out))
        have OA := Lib.hid (OA.out.box FL.out.2.2.1)
        have OB := Lib.hid (OB.out.box FL.out.2.2.1)
        have BW := Lib.hid (FL.out.2.2.2 w BW.out HGB.out)
        have KB := Lib.hid FL.out.1
        clear FL
        generalize (putH sa Bb b) = sb at *
        refine wpAnyH_done (by kernel_rfl) ?_ _
        refine NoPanic.normal ?_
        go_wp2_with fail
        go_meet
        exact ⟨Ba, Bb, a, b, rfl, rfl, ⟨HPa.out, HPb.out⟩, ⟨KA.out, OA.out⟩, ⟨KB.out, OB.out⟩, KX, BW⟩
       exact AllReadyH.nil
      exact AllReadyH.nil
     exact AllReadyH.nil
    exact AllReadyH.nil
   refine AllReadyH.cons rfl (fun K hK => ?_) ?_
   ·go_simp
    refine hK.out _ _ ⟨(KX.out.alloc _), (KY.out.alloc _)⟩ (fun hHeld => ?_)
    clear hK K
    try simp only [Act.put, sA, sB, sC]
    have hbx : Below ub.heap.size ub (ub.alloc (.cells #[.slice none 0 0, .slice none 0 0, .slice none 0 0, .slice none 0 0, .slice none 0 0, .slice none 0 0, .slice none 0 0, .slice none 0 0] 28)) := (Below.refl _ _).alloc (Nat.le_refl _) _
    have HNA : Hid (Bx ≠ ub.heap.size ∧ By ≠ ub.heap.size) := ⟨Nat.ne_of_lt KX.out.lt, Nat.ne_of_lt KY.out.lt⟩
    have HGA : Hid (w.heap.size ≤ ub.heap.size) := BW.out.size
    have HAB : Hid (Bb ≠ ub.heap.size) := Nat.ne_of_lt KB.out.lt
    have KX := Lib.hid (KX.out.below hbx KX.out.lt)
    have KY := Lib.hid (KY.out.below hbx KY.out.lt)
    have KB := Lib.hid (KB.out.below hbx KB.out.lt)
    have BW := Lib.hid (BW.out.trans (hbx.mono BW.out.size))
    have KA : Hid (Blk (ub.alloc (.cells #[.slice none 0 0, .slice none 0 0, .slice none 0 0, .slice none 0 0, .slice none 0 0, .slice none 0 0, .slice none 0 0, .slice none 0 0] 28)) ub.heap.size 28 #[.slice none 0 0, .slice none 0 0, .slice none 0 0, .slice none 0 0, .slice none 0 0, .slice none 0 0, .slice none 0 0, .slice none 0 0]) := Blk.new _ _ _
    clear hbx hHeld
    generalize (ub.alloc (.cells #[.slice none 0 0, .slice none 0 0, .slice none 0 0, .slice none 0 0, .slice none 0 0, .slice none 0 0, .slice none 0 0, .slice none 0 0] 28)) = ua at *
    generalize ub.heap.size = Ba at *
    refine rdH [1] ?_
    refine AllReadyH.cons rfl (fun K hK => ?_) ?_
    ·go_simp
     refine (few11_any x ua (HAX.out.on BW.out)).mono ?_
     rintro _ u1 ⟨a, rfl, ho, hp, bb⟩
     have o9 := ho.mono BW.out.size
     have KX := Lib.hid (KX.out.below bb KX.out.lt)
     have KY := Lib.hid (KY.out.below bb KY.out.lt)
     have KA := Lib.hid (KA.out.below bb KA.out.lt)
     have KB := Lib.hid (KB.out.below bb KB.out.lt)
     have BW := Lib.hid (BW.out.trans (bb.mono BW.out.size))
     have OA := Lib.hid o9
     have HPa := Lib.hid hp
     clear ho hp bb o9 hHeld
     go_simp
     refine hK.out _ _ ⟨KX.out, KY.out⟩ (fun hHeld => ?_)
     clear hK K
     try simp only [Act.put, sA, sB, sC]
     refine rdH [3] ?_
     refine AllReadyH.cons rfl (fun K hK => ?_) ?_
     ·go_simp
      refine (few11_any y u1 (HAY.out.on BW.out)).mono ?_
      rintro _ u3 ⟨b, rfl, ho, hp, bb⟩
      have o9 := ho.mono BW.out.size
      have KX := Lib.hid (KX.out.below bb KX.out.lt)
      have KY := Lib.hid (KY.out.below bb KY.out.lt)
      have KA := Lib.hid (KA.out.below bb KA.out.lt)
      have OA := Lib.hid (OA.out.on bb)
      have KB := Lib.hid (KB.out.below bb KB.out.lt)
      have BW := Lib.hid (BW.out.trans (bb.mono BW.out.size))
      have OB := Lib.hid o9
      have HPb := Lib.hid hp
      clear ho hp bb o9 hHeld
      go_simp
      refine hK.out _ _ ⟨KX.out, KY.out⟩ (fun hHeld => ?_)
      clear hK K
      try simp only [Act.put, sA, sB, sC]
      refine rdH [6] ?_
      refine AllReadyH.cons (o := { dst := none, op := Op.store 28 (Operand.tmp 5) (Operand.tmp 17), type := 0, pos := "law.go:94", after := #[{ on := 4, ground := Ground.data }, { on := 1, ground := Ground.data }, { on := 3, ground := Ground.chain }, { on := 0, ground := Ground.phase }, { on := 1, ground := Ground.phase }, { on := 2, ground := Ground.textOnly Departure.lateStores }, { on := 3, ground := Ground.textOnly Departure.lateStoresUnsure }, { on := 4, ground := Ground.phase }, { on := 5, ground := Ground.phase }], guard := none }) rfl (fun K hK => ?_) ?_
      ·obtain ⟨y0, y1, y2, y3, y4, y5, y6, y7⟩ := cs8 KA.out
       have f0 := KA.out.frozen 0
       have f1 := KA.out.frozen 1
       have f2 := KA.out.frozen 2
       have f3 := KA.out.frozen 3
       have f4 := KA.out.frozen 4
       have f5 := KA.out.frozen 5
       have f6 := KA.out.frozen 6
       have f7 := KA.out.frozen 7
       go_simp
       try clear hHeld
       have FL := Lib.hid (fillH KA.out a)
       have HKX := FL.out.2.1.blk KX.out HNA.out.1
       have HKY := FL.out.2.1.blk KY.out HNA.out.2
       refine hK.out _ (putH u3 Ba a) ⟨HKX, HKY⟩ (fun hHeld => ?_)
       clear hK K
       try simp only [Act.put, sA, sB, sC]
       try clear hHeld
       clear HKX HKY y0 f0 y1 f1 y2 f2 y3 f3 y4 f4 y5 f5 y6 f6 y7 f7
       have KX := Lib.hid (FL.out.2.1.blk KX.out HNA.out.1)
       have KY := Lib.hid (FL.out.2.1.blk KY.out HNA.out.2)
       have KB := Lib.hid (FL.out.2.1.blk KB.out HAB.out)
       have OA := Lib.hid (OA.out.box FL.out.2.2.1)
       have OB := Lib.hid (OB.out.box FL.out.2.2.1)
       have BW := Lib.hid (FL.out.2.2.2 w BW.out HGA.out)
       have KA := Lib.hid FL.out.1
       clear FL
       generalize (putH u3 Ba a) = sa at *
       refine rdH [7] ?_
       refine AllReadyH.cons (o := { dst := none, op := Op.store 28 (Operand.tmp 6) (Operand.tmp 19), type := 0, pos := "law.go:94", after := #[{ on := 5, ground := Ground.data }, { on := 3, ground := Ground.data }, { on := 6, ground := Ground.chain }, { on := 0, ground := Ground.phase }, { on := 1, ground := Ground.phase }, { on := 2, ground := Ground.phase }, { on := 3, ground := Ground.phase }, { on := 4, ground := Ground.phase }, { on := 5, ground := Ground.phase }, { on := 6, ground := Ground.phase }], guard := none }) rfl (fun K hK => ?_) ?_
       ·obtain ⟨y0, y1, y2, y3, y4, y5, y6, y7⟩ := cs8 KB.out
        have f0 := KB.out.frozen 0
        have f1 := KB.out.frozen 1
        have f2 := KB.out.frozen 2
        have f3 := KB.out.frozen 3
        have f4 := KB.out.frozen 4
        have f5 := KB.out.frozen 5
        have f6 := KB.out.frozen 6
        have f7 := KB.out.frozen 7
        go_simp
        try clear hHeld
        have FL := Lib.hid (fillH KB.out b)
        have HKX := FL.out.2.1.blk KX.out HNB.out.1
        have HKY := FL.out.2.1.blk KY.out HNB.out.2
        refine hK.out _ (putH sa Bb b) ⟨HKX, HKY⟩ (fun hHeld => ?_)
        clear hK K
        try simp only [Act.put, sA, sB, sC]
        try clear hHeld
        clear HKX HKY y0 f0 y1 f1 y2 f2 y3 f3 y4 f4 y5 f5 y6 f6 y7 f7
        have KX := Lib.hid (FL.out.2.1.blk KX.out HNB.out.1)
        have KY := Lib.hid (FL.out.2.1.blk KY.out HNB.out.2)
        have KA := Lib.hid (FL.out.2.1.blk KA.out (Ne.symm HAB.out))
        have OA := Lib.hid (OA.out.box FL.out.2.2.1)
        have OB := Lib.hid (OB.out.box FL.out.2.2.1)
        have BW := Lib.hid (FL.out.2.2.2 w BW.out HGB.out)
        have KB := Lib.hid FL.out.1
        clear FL
        generalize (putH sa Bb b) = sb at *
        refine wpAnyH_done (by kernel_rfl) ?_ _
        refine NoPanic.normal ?_
        go_wp2_with fail
        go_meet
        exact ⟨Ba, Bb, a, b, rfl, rfl, ⟨HPa.out, HPb.out⟩, ⟨KA.out, OA.out⟩, ⟨KB.out, OB.out⟩, KX, BW⟩
       exact AllReadyH.nil
      exact AllReadyH.nil
     exact AllReadyH.nil
    exact AllReadyH.nil
   exact AllReadyH.nil
  exact AllReadyH.nil
 case rest =>
  clear KX KY BW
  obtain ⟨Ba, Bb, a, b, rfl, rfl, HP, HA, HB, KX, BW⟩ := hcut
  have HSa : Hid (Small a.pl) := by show Small a.pl; rw [HP.out.1]; exact few_small _
  have HSb : Hid (Small b.pl) := by show Small b.pl; rw [HP.out.2]; exact few_small _
  have LA : Hid (a.pl.ev.length = a.ev.1.n) := (pl_lens HA.out.rd).1.1
  have LB : Hid (b.pl.ev.length = b.ev.1.n) := (pl_lens HB.out.rd).1.1
  have NA : Hid (a.ev.1.n ≤ 200) := by have := HSa.out.ev; have := LA.out; show _ ≤ _; omega
  have NB : Hid (b.ev.1.n ≤ 200) := by have := HSb.out.ev; have := LB.out; show _ ≤ _; omega
  obtain ⟨z0, z1, z2, z3, z4, z5, z6, z7⟩ := c8 HA.out.blk
  obtain ⟨y0, y1, y2, y3, y4, y5, y6, y7⟩ := c8 HB.out.blk
  go_wp2_with fail
  clear z0 z1 z2 z3 z4 z5 z6 z7
  clear y0 y1 y2 y3 y4 y5 y6 y7
  go_loopw [23] (fun v wr => ∃ k : Nat, k ≤ 2 ∧ v = .int .i64 k ∧ Hid (HBx w wr Ba a) ∧ Hid (HBx w wr Bb b) ∧ Hid (Blk wr Bx 28 x.cs) ∧ Hid (Below w.heap.size w wr)) (fun v _ => 2 - (intOf v).toNat)
  case atStart => exact ⟨0, by omega, rfl, HA, HB, KX, BW⟩
  case round =>
   clear HA HB KX BW
   obtain ⟨k, hk, rfl, HA, HB, KX, BW⟩ := hrel
   have h3 : k = 0 ∨ k = 1 ∨ k = 2 := by omega
   clear hk
   rcases h3 with rfl | rfl | rfl
   ·have hix := r2h_0 a b wr
    simp only [show ((0 : Nat) : Int) = 0 from rfl]
    go_upto_region 7 with fail
    have ha : Below wr.heap.size wr (wr.alloc (.cells #[.slice a.tr.1.A a.tr.1.n a.tr.1.c, .slice a.se.1.A a.se.1.n a.se.1.c, .slice a.ob.1.A a.ob.1.n a.ob.1.c, .slice a.pr.1.A a.pr.1.n a.pr.1.c, .slice a.ev.1.A a.ev.1.n a.ev.1.c, .slice a.od.1.A a.od.1.n a.od.1.c, .slice a.ma.1.A a.ma.1.n a.ma.1.c, .slice a.wa.1.A a.wa.1.n a.wa.1.c] 28)) := (Below.refl _ _).alloc (Nat.le_refl _) _
    have K8 : Hid (Blk (wr.alloc (.cells #[.slice a.tr.1.A a.tr.1.n a.tr.1.c, .slice a.se.1.A a.se.1.n a.se.1.c, .slice a.ob.1.A a.ob.1.n a.ob.1.c, .slice a.pr.1.A a.pr.1.n a.pr.1.c, .slice a.ev.1.A a.ev.1.n a.ev.1.c, .slice a.od.1.A a.od.1.n a.od.1.c, .slice a.ma.1.A a.ma.1.n a.ma.1.c, .slice a.wa.1.A a.wa.1.n a.wa.1.c] 28)) wr.heap.size 28 #[.slice a.tr.1.A a.tr.1.n a.tr.1.c, .slice a.se.1.A a.se.1.n a.se.1.c, .slice a.ob.1.A a.ob.1.n a.ob.1.c, .slice a.pr.1.A a.pr.1.n a.pr.1.c, .slice a.ev.1.A a.ev.1.n a.ev.1.c, .slice a.od.1.A a.od.1.n a.od.1.c, .slice a.ma.1.A a.ma.1.n a.ma.1.c, .slice a.wa.1.A a.wa.1.n a.wa.1.c]) := Blk.new _ _ _
    have HA := Lib.hid (HA.out.on ha)
    have HB := Lib.hid (HB.out.on ha)
    have KX := Lib.hid (KX.out.below ha KX.out.lt)
    have BW := Lib.hid (BW.out.trans (ha.mono BW.out.size))
    clear ha hix
    generalize (wr.alloc (.cells #[.slice a.tr.1.A a.tr.1.n a.tr.1.c, .slice a.se.1.A a.se.1.n a.se.1.c, .slice a.ob.1.A a.ob.1.n a.ob.1.c, .slice a.pr.1.A a.pr.1.n a.pr.1.c, .slice a.ev.1.A a.ev.1.n a.ev.1.c, .slice a.od.1.A a.od.1.n a.od.1.c, .slice a.ma.1.A a.ma.1.n a.ma.1.c, .slice a.wa.1.A a.wa.1.n a.wa.1.c] 28)) = X1 at *
    generalize wr.heap.size = B8 at *
    obtain ⟨z0, z1, z2, z3, z4, z5, z6, z7⟩ := c8 K8.out
    go_wp2_with fail
    refine (check11_any a HSa.out X1 (HT.out.on BW.out (Nat.le_refl _)) HA.out.rd).mono ?_
    rintro _ X2 ⟨rfl, bb⟩
    clear z0 z1 z2 z3 z4 z5 z6 z7
    have HA := Lib.hid (HA.out.on bb)
    have HB := Lib.hid (HB.out.on bb)
    have KX := Lib.hid (KX.out.below bb KX.out.lt)
    have K8 := Lib.hid (K8.out.below bb K8.out.lt)
    have BW := Lib.hid (BW.out.trans (bb.mono BW.out.size))
    clear bb
    obtain ⟨z0, z1, z2, z3, z4, z5, z6, z7⟩ := c8 K8.out
    cases hr : rightB a.pl
    ·rw [checkE_no hr]
     go_wp2_with fail
     refine (rright11_any a HSa.out HA.out.own.caps X2 HA.out.rd).mono ?_
     rintro _ X3 ⟨rfl, bb⟩
     rw [hr]
     clear z0 z1 z2 z3 z4 z5 z6 z7 hr
     have HA := Lib.hid (HA.out.on bb)
     have HB := Lib.hid (HB.out.on bb)
     have KX := Lib.hid (KX.out.below bb KX.out.lt)
     have BW := Lib.hid (BW.out.trans (bb.mono BW.out.size))
     clear bb
     go_wp2_with fail
     go_roundw
     case rel => exact ⟨1, by omega, rfl, HA, HB, KX, BW⟩
     case measure => simp [intOf]
    ·rw [checkE_ok hr]
     go_wp2_with fail
     refine (rright11_any a HSa.out HA.out.own.caps X2 HA.out.rd).mono ?_
     rintro _ X3 ⟨rfl, bb⟩
     rw [hr]
     clear z0 z1 z2 z3 z4 z5 z6 z7 hr
     have HA := Lib.hid (HA.out.on bb)
     have HB := Lib.hid (HB.out.on bb)
     have KX := Lib.hid (KX.out.below bb KX.out.lt)
     have BW := Lib.hid (BW.out.trans (bb.mono BW.out.size))
     clear bb
     go_wp2_with fail
     go_roundw
     case rel => exact ⟨1, by omega, rfl, HA, HB, KX, BW⟩
     case measure => simp [intOf]
   ·have hix := r2h_1 a b wr
    simp only [show ((1 : Nat) : Int) = 1 from rfl]
    go_upto_region 7 with fail
    have ha : Below wr.heap.size wr (wr.alloc (.cells #[.slice b.tr.1.A b.tr.1.n b.tr.1.c, .slice b.se.1.A b.se.1.n b.se.1.c, .slice b.ob.1.A b.ob.1.n b.ob.1.c, .slice b.pr.1.A b.pr.1.n b.pr.1.c, .slice b.ev.1.A b.ev.1.n b.ev.1.c, .slice b.od.1.A b.od.1.n b.od.1.c, .slice b.ma.1.A b.ma.1.n b.ma.1.c, .slice b.wa.1.A b.wa.1.n b.wa.1.c] 28)) := (Below.refl _ _).alloc (Nat.le_refl _) _
    have K8 : Hid (Blk (wr.alloc (.cells #[.slice b.tr.1.A b.tr.1.n b.tr.1.c, .slice b.se.1.A b.se.1.n b.se.1.c, .slice b.ob.1.A b.ob.1.n b.ob.1.c, .slice b.pr.1.A b.pr.1.n b.pr.1.c, .slice b.ev.1.A b.ev.1.n b.ev.1.c, .slice b.od.1.A b.od.1.n b.od.1.c, .slice b.ma.1.A b.ma.1.n b.ma.1.c, .slice b.wa.1.A b.wa.1.n b.wa.1.c] 28)) wr.heap.size 28 #[.slice b.tr.1.A b.tr.1.n b.tr.1.c, .slice b.se.1.A b.se.1.n b.se.1.c, .slice b.ob.1.A b.ob.1.n b.ob.1.c, .slice b.pr.1.A b.pr.1.n b.pr.1.c, .slice b.ev.1.A b.ev.1.n b.ev.1.c, .slice b.od.1.A b.od.1.n b.od.1.c, .slice b.ma.1.A b.ma.1.n b.ma.1.c, .slice b.wa.1.A b.wa.1.n b.wa.1.c]) := Blk.new _ _ _
    have HA := Lib.hid (HA.out.on ha)
    have HB := Lib.hid (HB.out.on ha)
    have KX := Lib.hid (KX.out.below ha KX.out.lt)
    have BW := Lib.hid (BW.out.trans (ha.mono BW.out.size))
    clear ha hix
    generalize (wr.alloc (.cells #[.slice b.tr.1.A b.tr.1.n b.tr.1.c, .slice b.se.1.A b.se.1.n b.se.1.c, .slice b.ob.1.A b.ob.1.n b.ob.1.c, .slice b.pr.1.A b.pr.1.n b.pr.1.c, .slice b.ev.1.A b.ev.1.n b.ev.1.c, .slice b.od.1.A b.od.1.n b.od.1.c, .slice b.ma.1.A b.ma.1.n b.ma.1.c, .slice b.wa.1.A b.wa.1.n b.wa.1.c] 28)) = X1 at *
    generalize wr.heap.size = B8 at *
    obtain ⟨z0, z1, z2, z3, z4, z5, z6, z7⟩ := c8 K8.out
    go_wp2_with fail
    refine (check11_any b HSb.out X1 (HT.out.on BW.out (Nat.le_refl _)) HB.out.rd).mono ?_
    rintro _ X2 ⟨rfl, bb⟩
    clear z0 z1 z2 z3 z4 z5 z6 z7
    have HA := Lib.hid (HA.out.on bb)
    have HB := Lib.hid (HB.out.on bb)
    have KX := Lib.hid (KX.out.below bb KX.out.lt)
    have K8 := Lib.hid (K8.out.below bb K8.out.lt)
    have BW := Lib.hid (BW.out.trans (bb.mono BW.out.size))
    clear bb
    obtain ⟨z0, z1, z2, z3, z4, z5, z6, z7⟩ := c8 K8.out
    cases hr : rightB b.pl
    ·rw [checkE_no hr]
     go_wp2_with fail
     refine (rright11_any b HSb.out HB.out.own.caps X2 HB.out.rd).mono ?_
     rintro _ X3 ⟨rfl, bb⟩
     rw [hr]
     clear z0 z1 z2 z3 z4 z5 z6 z7 hr
     have HA := Lib.hid (HA.out.on bb)
     have HB := Lib.hid (HB.out.on bb)
     have KX := Lib.hid (KX.out.below bb KX.out.lt)
     have BW := Lib.hid (BW.out.trans (bb.mono BW.out.size))
     clear bb
     go_wp2_with fail
     go_roundw
     case rel => exact ⟨2, by omega, rfl, HA, HB, KX, BW⟩
     case measure => simp [intOf]
    ·rw [checkE_ok hr]
     go_wp2_with fail
     refine (rright11_any b HSb.out HB.out.own.caps X2 HB.out.rd).mono ?_
     rintro _ X3 ⟨rfl, bb⟩
     rw [hr]
     clear z0 z1 z2 z3 z4 z5 z6 z7 hr
     have HA := Lib.hid (HA.out.on bb)
     have HB := Lib.hid (HB.out.on bb)
     have KX := Lib.hid (KX.out.below bb KX.out.lt)
     have BW := Lib.hid (BW.out.trans (bb.mono BW.out.size))
     clear bb
     go_wp2_with fail
     go_roundw
     case rel => exact ⟨2, by omega, rfl, HA, HB, KX, BW⟩
     case measure => simp [intOf]
   ·have z4 : wr.cell? ⟨Ba, 4, none⟩ = some (.slice a.ev.1.A a.ev.1.n a.ev.1.c) := HA.out.blk.cell 4
    go_wp2_with fail
    clear z4
    go_loopw [45] (fun v wr => ∃ i : Nat, i ≤ a.ev.1.n ∧ v = .int .i64 i ∧ Hid (HBx w wr Ba a) ∧ Hid (HBx w wr Bb b) ∧ Hid (Blk wr Bx 28 x.cs) ∧ Hid (Below w.heap.size w wr)) (fun v _ => a.ev.1.n - (intOf v).toNat)
    case atStart => exact ⟨0, Nat.zero_le _, rfl, HA, HB, KX, BW⟩
    case round =>
     clear HA HB KX BW
     obtain ⟨i, hi0, rfl, HA, HB, KX, BW⟩ := hrel
     have hna := NA.out
     by_cases hin : i < a.ev.1.n
     ·have hlt : (i : Int) < (a.ev.1.n : Int) := by omega
      obtain ⟨e, he⟩ : ∃ e, a.pl.ev[i]? = some e := ⟨a.pl.ev[i]'(by rw [LA.out]; exact hin), List.getElem?_eq_getElem _⟩
      obtain ⟨b1, o1, hd, hA1, hbl, hs, hc, hsl⟩ := ev_at HA.out.rd he
      have c0 : wr.cell? ⟨b1, o1 + i * 9, none⟩ = some (.int .i64 e.kd) := hc 0 _ rfl
      have c1 : wr.cell? ⟨b1, o1 + i * 9 + 1, none⟩ = some (.int .i64 e.t) := hc 1 _ rfl
      have c2 : wr.cell? ⟨b1, o1 + i * 9 + 2, none⟩ = some (.int .i64 e.s) := hc 2 _ rfl
      have c3 : wr.cell? ⟨b1, o1 + i * 9 + 3, none⟩ = some (.int .i64 e.lev) := hc 3 _ rfl
      have c4 : wr.cell? ⟨b1, o1 + i * 9 + 4, none⟩ = some (.int .i64 e.o) := hc 4 _ rfl
      have c5 : wr.cell? ⟨b1, o1 + i * 9 + 5, none⟩ = some (.int .i64 e.vt) := hc 5 _ rfl
      have c6 : wr.cell? ⟨b1, o1 + i * 9 + 6, none⟩ = some (.int .i64 e.vk) := hc 6 _ rfl
      have c7 : wr.cell? ⟨b1, o1 + i * 9 + 7, none⟩ = some (.int .i64 e.p) := hc 7 _ rfl
      have c8 : wr.cell? ⟨b1, o1 + i * 9 + 8, none⟩ = some (.slice hd.A hd.n hd.c) := hc 8 _ rfl
      have ha : Below wr.heap.size wr (wr.alloc (.cells #[.int .i64 e.kd, .int .i64 e.t, .int .i64 e.s, .int .i64 e.lev, .int .i64 e.o, .int .i64 e.vt, .int .i64 e.vk, .int .i64 e.p, .slice hd.A hd.n hd.c] 39)) := (Below.refl _ _).alloc (Nat.le_refl _) _
      have KE : Hid (Blk (wr.alloc (.cells #[.int .i64 e.kd, .int .i64 e.t, .int .i64 e.s, .int .i64 e.lev, .int .i64 e.o, .int .i64 e.vt, .int .i64 e.vk, .int .i64 e.p, .slice hd.A hd.n hd.c] 39)) wr.heap.size 39 #[.int .i64 e.kd, .int .i64 e.t, .int .i64 e.s, .int .i64 e.lev, .int .i64 e.o, .int .i64 e.vt, .int .i64 e.vk, .int .i64 e.p, .slice hd.A hd.n hd.c]) := Blk.new _ _ _
      have HM1 := Lib.hid (List.mem_of_getElem? hs)
      have HSL : Hid (hd.n ≤ 1000000) := by have h1 := HSa.out.sc e (List.mem_of_getElem? he); show hd.n ≤ _; omega
      rw [hA1]
      clear hA1 hs hc hsl hbl he
      have HA := Lib.hid (HA.out.on ha)
      have HB := Lib.hid (HB.out.on ha)
      have KX := Lib.hid (KX.out.below ha KX.out.lt)
      have BW := Lib.hid (BW.out.trans (ha.mono BW.out.size))
      have y4 : (wr.alloc (.cells #[.int .i64 e.kd, .int .i64 e.t, .int .i64 e.s, .int .i64 e.lev, .int .i64 e.o, .int .i64 e.vt, .int .i64 e.vk, .int .i64 e.p, .slice hd.A hd.n hd.c] 39)).cell? ⟨Bb, 4, none⟩ = some (.slice b.ev.1.A b.ev.1.n b.ev.1.c) := HB.out.blk.cell 4
      go_wp2_with fail
      clear ha y4 c0 c1 c2 c3 c4 c5 c6 c7 c8
      generalize (wr.alloc (.cells #[.int .i64 e.kd, .int .i64 e.t, .int .i64 e.s, .int .i64 e.lev, .int .i64 e.o, .int .i64 e.vt, .int .i64 e.vk, .int .i64 e.p, .slice hd.A hd.n hd.c] 39)) = X7 at *
      generalize wr.heap.size = KB7 at *
      go_loopw [53] (fun v wr => ∃ k : Nat, k ≤ b.ev.1.n ∧ v = .int .i64 k ∧ Hid (HBx w wr Ba a) ∧ Hid (HBx w wr Bb b) ∧ Hid (Blk wr Bx 28 x.cs) ∧ Hid (Blk wr KB7 39 #[.int .i64 e.kd, .int .i64 e.t, .int .i64 e.s, .int .i64 e.lev, .int .i64 e.o, .int .i64 e.vt, .int .i64 e.vk, .int .i64 e.p, .slice hd.A hd.n hd.c]) ∧ Hid (Below w.heap.size w wr)) (fun v _ => b.ev.1.n - (intOf v).toNat)
      case atStart => exact ⟨0, Nat.zero_le _, rfl, HA, HB, KX, KE, BW⟩
      case round =>
       clear HA HB KX KE BW
       obtain ⟨k, hk0, rfl, HA, HB, KX, KE, BW⟩ := hrel
       have hnb := NB.out
       by_cases hkn : k < b.ev.1.n
       ·have hlt2 : (k : Int) < (b.ev.1.n : Int) := by omega
        obtain ⟨g, hg⟩ : ∃ g, b.pl.ev[k]? = some g := ⟨b.pl.ev[k]'(by rw [LB.out]; exact hkn), List.getElem?_eq_getElem _⟩
        obtain ⟨b2, o2, hd2, hA2, hbl2, hs2, hc2, hsl2⟩ := ev_at HB.out.rd hg
        have d0 : wr.cell? ⟨b2, o2 + k * 9, none⟩ = some (.int .i64 g.kd) := hc2 0 _ rfl
        have d1 : wr.cell? ⟨b2, o2 + k * 9 + 1, none⟩ = some (.int .i64 g.t) := hc2 1 _ rfl
        have d2 : wr.cell? ⟨b2, o2 + k * 9 + 2, none⟩ = some (.int .i64 g.s) := hc2 2 _ rfl
        have d3 : wr.cell? ⟨b2, o2 + k * 9 + 3, none⟩ = some (.int .i64 g.lev) := hc2 3 _ rfl
        have d4 : wr.cell? ⟨b2, o2 + k * 9 + 4, none⟩ = some (.int .i64 g.o) := hc2 4 _ rfl
        have d5 : wr.cell? ⟨b2, o2 + k * 9 + 5, none⟩ = some (.int .i64 g.vt) := hc2 5 _ rfl
        have d6 : wr.cell? ⟨b2, o2 + k * 9 + 6, none⟩ = some (.int .i64 g.vk) := hc2 6 _ rfl
        have d7 : wr.cell? ⟨b2, o2 + k * 9 + 7, none⟩ = some (.int .i64 g.p) := hc2 7 _ rfl
        have d8 : wr.cell? ⟨b2, o2 + k * 9 + 8, none⟩ = some (.slice hd2.A hd2.n hd2.c) := hc2 8 _ rfl
        have hb : Below wr.heap.size wr (wr.alloc (.cells #[.int .i64 g.kd, .int .i64 g.t, .int .i64 g.s, .int .i64 g.lev, .int .i64 g.o, .int .i64 g.vt, .int .i64 g.vk, .int .i64 g.p, .slice hd2.A hd2.n hd2.c] 39)) := (Below.refl _ _).alloc (Nat.le_refl _) _
        have KF : Hid (Blk (wr.alloc (.cells #[.int .i64 g.kd, .int .i64 g.t, .int .i64 g.s, .int .i64 g.lev, .int .i64 g.o, .int .i64 g.vt, .int .i64 g.vk, .int .i64 g.p, .slice hd2.A hd2.n hd2.c] 39)) wr.heap.size 39 #[.int .i64 g.kd, .int .i64 g.t, .int .i64 g.s, .int .i64 g.lev, .int .i64 g.o, .int .i64 g.vt, .int .i64 g.vk, .int .i64 g.p, .slice hd2.A hd2.n hd2.c]) := Blk.new _ _ _
        have HM2 := Lib.hid (List.mem_of_getElem? hs2)
        have HSL2 : Hid (hd2.n ≤ 1000000) := by have h1 := HSb.out.sc g (List.mem_of_getElem? hg); show hd2.n ≤ _; omega
        rw [hA2]
        clear hA2 hs2 hc2 hsl2 hbl2 hg
        have HA := Lib.hid (HA.out.on hb)
        have HB := Lib.hid (HB.out.on hb)
        have KX := Lib.hid (KX.out.below hb KX.out.lt)
        have KE := Lib.hid (KE.out.below hb KE.out.lt)
        have BW := Lib.hid (BW.out.trans (hb.mono BW.out.size))
        go_upto_region 17 with fail
        clear hb d0 d1 d2 d3 d4 d5 d6 d7 d8
        generalize (wr.alloc (.cells #[.int .i64 g.kd, .int .i64 g.t, .int .i64 g.s, .int .i64 g.lev, .int .i64 g.o, .int .i64 g.vt, .int .i64 g.vk, .int .i64 g.p, .slice hd2.A hd2.n hd2.c] 39)) = X8 at *
        generalize wr.heap.size = KB8 at *
        go_cut [72] (fun s72 wx => s72 = .bool false ∧ Hid (HBx w wx Ba a) ∧ Hid (HBx w wx Bb b) ∧ Hid (Blk wx Bx 28 x.cs) ∧ Hid (Blk wx KB7 39 #[.int .i64 e.kd, .int .i64 e.t, .int .i64 e.s, .int .i64 e.lev, .int .i64 e.o, .int .i64 e.vt, .int .i64 e.vk, .int .i64 e.p, .slice hd.A hd.n hd.c]) ∧ Hid (Below w.heap.size w wx))
        case first =>
         by_cases hi12 : i < 12
         ·have hi12b : (i : Int) < 12 := by omega
          by_cases hk12 : k < 12
          ·have hk12b : (k : Int) < 12 := by omega
           refine wp_region_noPanic ?_
           refine wp_region_held_drew (S := fun W' : World => Blk W' KB7 39 #[.int .i64 e.kd, .int .i64 e.t, .int .i64 e.s, .int .i64 e.lev, .int .i64 e.o, .int .i64 e.vt, .int .i64 e.vk, .int .i64 e.p, .slice hd.A hd.n hd.c] ∧ Blk W' KB8 39 #[.int .i64 g.kd, .int .i64 g.t, .int .i64 g.s, .int .i64 g.lev, .int .i64 g.o, .int .i64 g.vt, .int .i64 g.vk, .int .i64 g.p, .slice hd2.A hd2.n hd2.c]) (by kernel_rfl) ⟨KE.out, KF.out⟩ (fun hHeld => ?_)
           have HA : Hid (HBx w X8.drew Ba a) := HA.out.on (Below.refl _ X8).drew
           have HB : Hid (HBx w X8.drew Bb b) := HB.out.on (Below.refl _ X8).drew
           have KX : Hid (Blk X8.drew Bx 28 x.cs) := KX.out
           have KE : Hid (Blk X8.drew KB7 39 #[.int .i64 e.kd, .int .i64 e.t, .int .i64 e.s, .int .i64 e.lev, .int .i64 e.o, .int .i64 e.vt, .int .i64 e.vk, .int .i64 e.p, .slice hd.A hd.n hd.c]) := KE.out
           have KF : Hid (Blk X8.drew KB8 39 #[.int .i64 g.kd, .int .i64 g.t, .int .i64 g.s, .int .i64 g.lev, .int .i64 g.o, .int .i64 g.vt, .int .i64 g.vk, .int .i64 g.p, .slice hd2.A hd2.n hd2.c]) := KF.out
           have BW := Lib.hid BW.out.drew
           generalize X8.drew = wd at *
           refine tkv 0 (some 58) (.int .i64 i) rfl rfl (fun w' hSw => by (try dsimp only at hSw); go_simp) ?_
           try simp only [Act.put, sA, sB, sC]
           refine tkv 1 (some 59) (.bool true) rfl rfl (fun w' hSw => by (try dsimp only at hSw); go_simp) ?_
           try simp only [Act.put, sA, sB, sC]
           refine tkv 2 (some 60) (.bool true) rfl rfl (fun w' hSw => by (try dsimp only at hSw); go_simp) ?_
           try simp only [Act.put, sA, sB, sC]
           refine tkv 3 (some 61) (.int .i64 k) rfl rfl (fun w' hSw => by (try dsimp only at hSw); go_simp) ?_
           try simp only [Act.put, sA, sB, sC]
           refine tkv 4 (some 62) (.bool true) rfl rfl (fun w' hSw => by (try dsimp only at hSw); go_simp) ?_
           try simp only [Act.put, sA, sB, sC]
           refine tkv 5 (some 63) (.bool true) rfl rfl (fun w' hSw => by (try dsimp only at hSw); go_simp) ?_
           try simp only [Act.put, sA, sB, sC]
           refine tkv 6 (some 64) (.bool true) rfl rfl (fun w' hSw => by (try dsimp only at hSw); go_simp) ?_
           try simp only [Act.put, sA, sB, sC]
           refine tkv 7 (some 65) (.agg #[.int .i64 e.kd, .int .i64 e.t, .int .i64 e.s, .int .i64 e.lev, .int .i64 e.o, .int .i64 e.vt, .int .i64 e.vk, .int .i64 e.p, .slice hd.A hd.n hd.c]) rfl rfl (fun w' hSw => by (have h0 := cs9 hSw.1; have h1 := cs9 hSw.2; go_simp)) ?_
           try simp only [Act.put, sA, sB, sC]
           refine tkv 8 (some 66) (.agg #[.int .i64 g.kd, .int .i64 g.t, .int .i64 g.s, .int .i64 g.lev, .int .i64 g.o, .int .i64 g.vt, .int .i64 g.vk, .int .i64 g.p, .slice hd2.A hd2.n hd2.c]) rfl rfl (fun w' hSw => by (have h0 := cs9 hSw.1; have h1 := cs9 hSw.2; go_simp)) ?_
           try simp only [Act.put, sA, sB, sC]
           refine tkv 10 (some 68) (.agg #[.int .i64 e.kd, .int .i64 e.t, .int .i64 e.s, .int .i64 e.lev, .int .i64 e.o, .int .i64 e.vt, .int .i64 e.vk, .int .i64 e.p, .slice hd.A hd.n hd.c]) rfl rfl (fun w' hSw => by (have h0 := cs9 hSw.1; have h1 := cs9 hSw.2; go_simp)) ?_
           try simp only [Act.put, sA, sB, sC]
           refine tkv 11 (some 69) (.agg #[.int .i64 g.kd, .int .i64 g.t, .int .i64 g.s, .int .i64 g.lev, .int .i64 g.o, .int .i64 g.vt, .int .i64 g.vk, .int .i64 g.p, .slice hd2.A hd2.n hd2.c]) rfl rfl (fun w' hSw => by (have h0 := cs9 hSw.1; have h1 := cs9 hSw.2; go_simp)) ?_
           try simp only [Act.put, sA, sB, sC]
           refine rdH [9] ?_
           refine AllReadyH.cons rfl (fun K hK => ?_) ?_
           ·go_simp
            refine (sameEvent_any (e, hd) (g, hd2) HSL.out HSL2.out wd ((HA.out.rd.sc _ HM1.out)) ((HB.out.rd.sc _ HM2.out))).mono ?_
            rintro e9 u5 ⟨he9, bb⟩
            obtain rfl : e9 = .returned (.bool (decide (e = g))) := he9
            clear hHeld
            have HA := Lib.hid (HA.out.on bb)
            have HB := Lib.hid (HB.out.on bb)
            have KX := Lib.hid (KX.out.below bb KX.out.lt)
            have KE := Lib.hid (KE.out.below bb KE.out.lt)
            have KF := Lib.hid (KF.out.below bb KF.out.lt)
            have BW := Lib.hid (BW.out.trans (bb.mono BW.out.size))
            clear bb
            go_simp
            refine hK.out _ _ ⟨KE.out, KF.out⟩ (fun hHeld => ?_)
            clear hK K
            try simp only [Act.put, sA, sB, sC]
            refine rdH [12] ?_
            refine AllReadyH.cons rfl (fun K hK => ?_) ?_
            ·go_simp
             refine (rsameEvent_any (e, hd) (g, hd2) HSL.out HSL2.out u5 ((HA.out.rd.sc _ HM1.out)) ((HB.out.rd.sc _ HM2.out))).mono ?_
             rintro e9 u6 ⟨he9, bb⟩
             obtain rfl : e9 = .returned (.bool (decide (e = g))) := he9
             clear hHeld
             have HA := Lib.hid (HA.out.on bb)
             have HB := Lib.hid (HB.out.on bb)
             have KX := Lib.hid (KX.out.below bb KX.out.lt)
             have KE := Lib.hid (KE.out.below bb KE.out.lt)
             have KF := Lib.hid (KF.out.below bb KF.out.lt)
             have BW := Lib.hid (BW.out.trans (bb.mono BW.out.size))
             clear bb
             go_simp
             refine hK.out _ _ ⟨KE.out, KF.out⟩ (fun hHeld => ?_)
             clear hK K
             try simp only [Act.put, sA, sB, sC]
             refine tkv 13 (some 71) (.bool false) rfl rfl (fun w' hSw => by (try dsimp only at hSw); go_simp) ?_
             try simp only [Act.put, sA, sB, sC]
             refine tkv 14 (some 72) (.bool false) rfl rfl (fun w' hSw => by (try dsimp only at hSw); go_simp) ?_
             try simp only [Act.put, sA, sB, sC]
             refine wpAnyH_done (by kernel_rfl) ?_ _
             refine NoPanic.normal ?_
             go_wp2_with fail
             go_meet
             exact ⟨rfl, HA, HB, KX, KE, BW⟩
            exact AllReadyH.nil
           exact AllReadyH.nil
          ·have hk12b : ¬ ((k : Int) < 12) := by omega
           refine wp_region_noPanic ?_
           refine wp_region_held_drew (S := fun W' : World => Blk W' KB7 39 #[.int .i64 e.kd, .int .i64 e.t, .int .i64 e.s, .int .i64 e.lev, .int .i64 e.o, .int .i64 e.vt, .int .i64 e.vk, .int .i64 e.p, .slice hd.A hd.n hd.c] ∧ Blk W' KB8 39 #[.int .i64 g.kd, .int .i64 g.t, .int .i64 g.s, .int .i64 g.lev, .int .i64 g.o, .int .i64 g.vt, .int .i64 g.vk, .int .i64 g.p, .slice hd2.A hd2.n hd2.c]) (by kernel_rfl) ⟨KE.out, KF.out⟩ (fun hHeld => ?_)
           have HA : Hid (HBx w X8.drew Ba a) := HA.out.on (Below.refl _ X8).drew
           have HB : Hid (HBx w X8.drew Bb b) := HB.out.on (Below.refl _ X8).drew
           have KX : Hid (Blk X8.drew Bx 28 x.cs) := KX.out
           have KE : Hid (Blk X8.drew KB7 39 #[.int .i64 e.kd, .int .i64 e.t, .int .i64 e.s, .int .i64 e.lev, .int .i64 e.o, .int .i64 e.vt, .int .i64 e.vk, .int .i64 e.p, .slice hd.A hd.n hd.c]) := KE.out
           have KF : Hid (Blk X8.drew KB8 39 #[.int .i64 g.kd, .int .i64 g.t, .int .i64 g.s, .int .i64 g.lev, .int .i64 g.o, .int .i64 g.vt, .int .i64 g.vk, .int .i64 g.p, .slice hd2.A hd2.n hd2.c]) := KF.out
           have BW := Lib.hid BW.out.drew
           generalize X8.drew = wd at *
           refine tkv 0 (some 58) (.int .i64 i) rfl rfl (fun w' hSw => by (try dsimp only at hSw); go_simp) ?_
           try simp only [Act.put, sA, sB, sC]
           refine tkv 1 (some 59) (.bool true) rfl rfl (fun w' hSw => by (try dsimp only at hSw); go_simp) ?_
           try simp only [Act.put, sA, sB, sC]
           refine tkv 2 (some 60) (.bool true) rfl rfl (fun w' hSw => by (try dsimp only at hSw); go_simp) ?_
           try simp only [Act.put, sA, sB, sC]
           refine tkv 3 (some 61) (.int .i64 k) rfl rfl (fun w' hSw => by (try dsimp only at hSw); go_simp) ?_
           try simp only [Act.put, sA, sB, sC]
           refine tkv 4 (some 62) (.bool false) rfl rfl (fun w' hSw => by (try dsimp only at hSw); go_simp) ?_
           try simp only [Act.put, sA, sB, sC]
           refine tkv 5 (some 63) (.bool false) rfl rfl (fun w' hSw => by (try dsimp only at hSw); go_simp) ?_
           try simp only [Act.put, sA, sB, sC]
           refine tkv 6 (some 64) (.bool false) rfl rfl (fun w' hSw => by (try dsimp only at hSw); go_simp) ?_
           try simp only [Act.put, sA, sB, sC]
           refine tku 7 (some 65) rfl rfl ?_
           refine tku 8 (some 66) rfl rfl ?_
           refine tku 9 (some 67) rfl rfl ?_
           refine tku 10 (some 68) rfl rfl ?_
           refine tku 11 (some 69) rfl rfl ?_
           refine tku 12 (some 70) rfl rfl ?_
           refine tku 13 (some 71) rfl rfl ?_
           try simp only [Act.put, sA, sB, sC]
           refine tkv 14 (some 72) (.bool false) rfl rfl (fun w' hSw => by (try dsimp only at hSw); go_simp) ?_
           try simp only [Act.put, sA, sB, sC]
           refine wpAnyH_done (by kernel_rfl) ?_ _
           refine NoPanic.normal ?_
           go_wp2_with fail
           go_meet
           exact ⟨rfl, HA, HB, KX, KE, BW⟩
         ·have hi12b : ¬ ((i : Int) < 12) := by omega
          refine wp_region_noPanic ?_
          refine wp_region_held_drew (S := fun W' : World => Blk W' KB7 39 #[.int .i64 e.kd, .int .i64 e.t, .int .i64 e.s, .int .i64 e.lev, .int .i64 e.o, .int .i64 e.vt, .int .i64 e.vk, .int .i64 e.p, .slice hd.A hd.n hd.c] ∧ Blk W' KB8 39 #[.int .i64 g.kd, .int .i64 g.t, .int .i64 g.s, .int .i64 g.lev, .int .i64 g.o, .int .i64 g.vt, .int .i64 g.vk, .int .i64 g.p, .slice hd2.A hd2.n hd2.c]) (by kernel_rfl) ⟨KE.out, KF.out⟩ (fun hHeld => ?_)
          have HA : Hid (HBx w X8.drew Ba a) := HA.out.on (Below.refl _ X8).drew
          have HB : Hid (HBx w X8.drew Bb b) := HB.out.on (Below.refl _ X8).drew
          have KX : Hid (Blk X8.drew Bx 28 x.cs) := KX.out
          have KE : Hid (Blk X8.drew KB7 39 #[.int .i64 e.kd, .int .i64 e.t, .int .i64 e.s, .int .i64 e.lev, .int .i64 e.o, .int .i64 e.vt, .int .i64 e.vk, .int .i64 e.p, .slice hd.A hd.n hd.c]) := KE.out
          have KF : Hid (Blk X8.drew KB8 39 #[.int .i64 g.kd, .int .i64 g.t, .int .i64 g.s, .int .i64 g.lev, .int .i64 g.o, .int .i64 g.vt, .int .i64 g.vk, .int .i64 g.p, .slice hd2.A hd2.n hd2.c]) := KF.out
          have BW := Lib.hid BW.out.drew
          generalize X8.drew = wd at *
          refine tkv 0 (some 58) (.int .i64 i) rfl rfl (fun w' hSw => by (try dsimp only at hSw); go_simp) ?_
          try simp only [Act.put, sA, sB, sC]
          refine tkv 1 (some 59) (.bool false) rfl rfl (fun w' hSw => by (try dsimp only at hSw); go_simp) ?_
          try simp only [Act.put, sA, sB, sC]
          refine tkv 2 (some 60) (.bool false) rfl rfl (fun w' hSw => by (try dsimp only at hSw); go_simp) ?_
          try simp only [Act.put, sA, sB, sC]
          refine tku 3 (some 61) rfl rfl ?_
          refine tku 4 (some 62) rfl rfl ?_
          try simp only [Act.put, sA, sB, sC]
          refine tkv 5 (some 63) (.bool false) rfl rfl (fun w' hSw => by (try dsimp only at hSw); go_simp) ?_
          try simp only [Act.put, sA, sB, sC]
          refine tkv 6 (some 64) (.bool false) rfl rfl (fun w' hSw => by (try dsimp only at hSw); go_simp) ?_
          try simp only [Act.put, sA, sB, sC]
          refine tku 7 (some 65) rfl rfl ?_
          refine tku 8 (some 66) rfl rfl ?_
          refine tku 9 (some 67) rfl rfl ?_
          refine tku 10 (some 68) rfl rfl ?_
          refine tku 11 (some 69) rfl rfl ?_
          refine tku 12 (some 70) rfl rfl ?_
          refine tku 13 (some 71) rfl rfl ?_
          try simp only [Act.put, sA, sB, sC]
          refine tkv 14 (some 72) (.bool false) rfl rfl (fun w' hSw => by (try dsimp only at hSw); go_simp) ?_
          try simp only [Act.put, sA, sB, sC]
          refine wpAnyH_done (by kernel_rfl) ?_ _
          refine NoPanic.normal ?_
          go_wp2_with fail
          go_meet
          exact ⟨rfl, HA, HB, KX, KE, BW⟩
        case rest =>
         clear HA HB KX KE KF BW
         obtain ⟨rfl, HA, HB, KX, KE, BW⟩ := hcut
         go_wp2_with fail
         go_roundw
         case rel => exact ⟨k + 1, hkn, by go_num, HA, HB, KX, KE, BW⟩
         case measure => simp [intOf]; omega
       ·have hke : k = b.ev.1.n := by omega
        rw [hke]
        clear hke hkn hk0
        have hnl : ¬ ((b.ev.1.n : Int) < (b.ev.1.n : Int)) := by omega
        go_wp2_with fail
        go_roundw
        case rel => exact ⟨i + 1, hin, by go_num, HA, HB, KX, BW⟩
        case measure => simp [intOf]; omega
     ·have hie : i = a.ev.1.n := by omega
      rw [hie]
      clear hie hin hi0
      have hnl : ¬ ((a.ev.1.n : Int) < (a.ev.1.n : Int)) := by omega
      go_upto_region 21 with fail
      clear hnl hna
      refine wp_region_noPanic ?_
      refine wp_region_held_drew (S := fun W' : World => Blk W' Ba 28 #[.slice a.tr.1.A a.tr.1.n a.tr.1.c, .slice a.se.1.A a.se.1.n a.se.1.c, .slice a.ob.1.A a.ob.1.n a.ob.1.c, .slice a.pr.1.A a.pr.1.n a.pr.1.c, .slice a.ev.1.A a.ev.1.n a.ev.1.c, .slice a.od.1.A a.od.1.n a.od.1.c, .slice a.ma.1.A a.ma.1.n a.ma.1.c, .slice a.wa.1.A a.wa.1.n a.wa.1.c] ∧ Blk W' Bb 28 #[.slice b.tr.1.A b.tr.1.n b.tr.1.c, .slice b.se.1.A b.se.1.n b.se.1.c, .slice b.ob.1.A b.ob.1.n b.ob.1.c, .slice b.pr.1.A b.pr.1.n b.pr.1.c, .slice b.ev.1.A b.ev.1.n b.ev.1.c, .slice b.od.1.A b.od.1.n b.od.1.c, .slice b.ma.1.A b.ma.1.n b.ma.1.c, .slice b.wa.1.A b.wa.1.n b.wa.1.c] ∧ Blk W' Bx 28 #[.slice x.tr.1.A x.tr.1.n x.tr.1.c, .slice x.se.1.A x.se.1.n x.se.1.c, .slice x.ob.1.A x.ob.1.n x.ob.1.c, .slice x.pr.1.A x.pr.1.n x.pr.1.c, .slice x.ev.1.A x.ev.1.n x.ev.1.c, .slice x.od.1.A x.od.1.n x.od.1.c, .slice x.ma.1.A x.ma.1.n x.ma.1.c, .slice x.wa.1.A x.wa.1.n x.wa.1.c]) (by kernel_rfl) ⟨HA.out.blk, HB.out.blk, KX.out⟩ (fun hHeld => ?_)
      have HA : Hid (HBx w wr.drew Ba a) := HA.out.on (Below.refl _ wr).drew
      have HB : Hid (HBx w wr.drew Bb b) := HB.out.on (Below.refl _ wr).drew
      have KX : Hid (Blk wr.drew Bx 28 x.cs) := KX.out
      have BW := Lib.hid BW.out.drew
      generalize wr.drew = wd at *
      refine tkv 0 (some 75) (.agg #[.slice a.tr.1.A a.tr.1.n a.tr.1.c, .slice a.se.1.A a.se.1.n a.se.1.c, .slice a.ob.1.A a.ob.1.n a.ob.1.c, .slice a.pr.1.A a.pr.1.n a.pr.1.c, .slice a.ev.1.A a.ev.1.n a.ev.1.c, .slice a.od.1.A a.od.1.n a.od.1.c, .slice a.ma.1.A a.ma.1.n a.ma.1.c, .slice a.wa.1.A a.wa.1.n a.wa.1.c]) rfl rfl (fun w' hSw => by (have h0 := cs8 hSw.1; have h1 := cs8 hSw.2.1; have h2 := cs8 hSw.2.2; go_simp)) ?_
      try simp only [Act.put, sA, sB, sC]
      refine tkv 1 (some 76) (.agg #[.slice b.tr.1.A b.tr.1.n b.tr.1.c, .slice b.se.1.A b.se.1.n b.se.1.c, .slice b.ob.1.A b.ob.1.n b.ob.1.c, .slice b.pr.1.A b.pr.1.n b.pr.1.c, .slice b.ev.1.A b.ev.1.n b.ev.1.c, .slice b.od.1.A b.od.1.n b.od.1.c, .slice b.ma.1.A b.ma.1.n b.ma.1.c, .slice b.wa.1.A b.wa.1.n b.wa.1.c]) rfl rfl (fun w' hSw => by (have h0 := cs8 hSw.1; have h1 := cs8 hSw.2.1; have h2 := cs8 hSw.2.2; go_simp)) ?_
      try simp only [Act.put, sA, sB, sC]
      refine tkv 3 (some 78) (.agg #[.slice a.tr.1.A a.tr.1.n a.tr.1.c, .slice a.se.1.A a.se.1.n a.se.1.c, .slice a.ob.1.A a.ob.1.n a.ob.1.c, .slice a.pr.1.A a.pr.1.n a.pr.1.c, .slice a.ev.1.A a.ev.1.n a.ev.1.c, .slice a.od.1.A a.od.1.n a.od.1.c, .slice a.ma.1.A a.ma.1.n a.ma.1.c, .slice a.wa.1.A a.wa.1.n a.wa.1.c]) rfl rfl (fun w' hSw => by (have h0 := cs8 hSw.1; have h1 := cs8 hSw.2.1; have h2 := cs8 hSw.2.2; go_simp)) ?_
      try simp only [Act.put, sA, sB, sC]
      refine tkv 4 (some 79) (.agg #[.slice b.tr.1.A b.tr.1.n b.tr.1.c, .slice b.se.1.A b.se.1.n b.se.1.c, .slice b.ob.1.A b.ob.1.n b.ob.1.c, .slice b.pr.1.A b.pr.1.n b.pr.1.c, .slice b.ev.1.A b.ev.1.n b.ev.1.c, .slice b.od.1.A b.od.1.n b.od.1.c, .slice b.ma.1.A b.ma.1.n b.ma.1.c, .slice b.wa.1.A b.wa.1.n b.wa.1.c]) rfl rfl (fun w' hSw => by (have h0 := cs8 hSw.1; have h1 := cs8 hSw.2.1; have h2 := cs8 hSw.2.2; go_simp)) ?_
      try simp only [Act.put, sA, sB, sC]
      refine rdH [2] ?_
      refine AllReadyH.cons rfl (fun K hK => ?_) ?_
      ·go_simp
       refine (same11_any a b HSa.out HSb.out wd HA.out.rd HB.out.rd).mono ?_
       rintro _ u2 ⟨rfl, bb⟩
       clear hHeld
       have HA := Lib.hid (HA.out.on bb)
       have HB := Lib.hid (HB.out.on bb)
       have KX := Lib.hid (KX.out.below bb KX.out.lt)
       have BW := Lib.hid (BW.out.trans (bb.mono BW.out.size))
       clear bb
       go_simp
       refine hK.out _ _ ⟨HA.out.blk, HB.out.blk, KX.out⟩ (fun hHeld => ?_)
       clear hK K
       try simp only [Act.put, sA, sB, sC]
       refine rdH [5] ?_
       refine AllReadyH.cons rfl (fun K hK => ?_) ?_
       ·go_simp
        refine (rsame11_any a b HSa.out HSb.out u2 HA.out.rd HB.out.rd).mono ?_
        rintro _ u5 ⟨rfl, bb⟩
        clear hHeld
        have HA := Lib.hid (HA.out.on bb)
        have HB := Lib.hid (HB.out.on bb)
        have KX := Lib.hid (KX.out.below bb KX.out.lt)
        have BW := Lib.hid (BW.out.trans (bb.mono BW.out.size))
        clear bb
        go_simp
        refine hK.out _ _ ⟨HA.out.blk, HB.out.blk, KX.out⟩ (fun hHeld => ?_)
        clear hK K
        try simp only [Act.put, sA, sB, sC]
        refine tkv 6 (some 81) (.bool true) rfl rfl (fun w' hSw => by (try dsimp only at hSw); go_simp) ?_
        try simp only [Act.put, sA, sB, sC]
        refine tkv 7 (some 82) (.bool true) rfl rfl (fun w' hSw => by (try dsimp only at hSw); go_simp) ?_
        try simp only [Act.put, sA, sB, sC]
        refine tkv 8 (some 83) (.agg #[.slice a.tr.1.A a.tr.1.n a.tr.1.c, .slice a.se.1.A a.se.1.n a.se.1.c, .slice a.ob.1.A a.ob.1.n a.ob.1.c, .slice a.pr.1.A a.pr.1.n a.pr.1.c, .slice a.ev.1.A a.ev.1.n a.ev.1.c, .slice a.od.1.A a.od.1.n a.od.1.c, .slice a.ma.1.A a.ma.1.n a.ma.1.c, .slice a.wa.1.A a.wa.1.n a.wa.1.c]) rfl rfl (fun w' hSw => by (have h0 := cs8 hSw.1; have h1 := cs8 hSw.2.1; have h2 := cs8 hSw.2.2; go_simp)) ?_
        try simp only [Act.put, sA, sB, sC]
        refine tkv 9 (some 84) (.agg #[.slice x.tr.1.A x.tr.1.n x.tr.1.c, .slice x.se.1.A x.se.1.n x.se.1.c, .slice x.ob.1.A x.ob.1.n x.ob.1.c, .slice x.pr.1.A x.pr.1.n x.pr.1.c, .slice x.ev.1.A x.ev.1.n x.ev.1.c, .slice x.od.1.A x.od.1.n x.od.1.c, .slice x.ma.1.A x.ma.1.n x.ma.1.c, .slice x.wa.1.A x.wa.1.n x.wa.1.c]) rfl rfl (fun w' hSw => by (have h0 := cs8 hSw.1; have h1 := cs8 hSw.2.1; have h2 := cs8 hSw.2.2; go_simp)) ?_
        try simp only [Act.put, sA, sB, sC]
        refine rdH [10] ?_
        refine AllReadyH.cons rfl (fun K hK => ?_) ?_
        ·go_simp
         refine (few11_any x u5 (HAX.out.on BW.out)).mono ?_
         rintro _ u10 ⟨a2, rfl, ho2, hp2, bb⟩
         have OA2 := Lib.hid ho2
         have HP2 := Lib.hid hp2
         clear ho2 hp2
         clear hHeld
         have HA := Lib.hid (HA.out.on bb)
         have HB := Lib.hid (HB.out.on bb)
         have KX := Lib.hid (KX.out.below bb KX.out.lt)
         have BW := Lib.hid (BW.out.trans (bb.mono BW.out.size))
         clear bb
         go_simp
         refine hK.out _ _ ⟨HA.out.blk, HB.out.blk, KX.out⟩ (fun hHeld => ?_)
         clear hK K
         try simp only [Act.put, sA, sB, sC]
         refine rdH [11] ?_
         refine AllReadyH.cons rfl (fun K hK => ?_) ?_
         ·go_simp
          refine (same11_any a a2 HSa.out (by rw [HP2.out]; exact few_small _) u10 HA.out.rd OA2.out.rd).mono ?_
          rintro e9 u11 ⟨he9, bb⟩
          obtain rfl : e9 = .returned (.bool true) := by rw [he9, show decide (a.pl = a2.pl) = true from decide_eq_true (HP.out.1.trans HP2.out.symm)]
          clear he9
          clear hHeld
          have HA := Lib.hid (HA.out.on bb)
          have HB := Lib.hid (HB.out.on bb)
          have KX := Lib.hid (KX.out.below bb KX.out.lt)
          have BW := Lib.hid (BW.out.trans (bb.mono BW.out.size))
          clear bb
          go_simp
          refine hK.out _ _ ⟨HA.out.blk, HB.out.blk, KX.out⟩ (fun hHeld => ?_)
          clear hK K
          try simp only [Act.put, sA, sB, sC]
          refine tkv 12 (some 87) (.bool true) rfl rfl (fun w' hSw => by (try dsimp only at hSw); go_simp) ?_
          try simp only [Act.put, sA, sB, sC]
          refine tkv 13 (some 4) (.bool true) rfl rfl (fun w' hSw => by (try dsimp only at hSw); go_simp) ?_
          try simp only [Act.put, sA, sB, sC]
          refine wpAnyH_done (by kernel_rfl) ?_ _
          refine NoPanic.normal ?_
          go_wp2_with fail
          go_ret
          exact ⟨rfl, BW.out⟩
         exact AllReadyH.nil
        exact AllReadyH.nil
       exact AllReadyH.nil
      exact AllReadyH.nil
end Go.Proofs.YtlnbmmaminflcaaGreatDoor
