/- The laws of layer history: histories that stand by in boxes: lemmas on the model alone; plain facts on events by other numbers. -/
import Derived.Test.YtlnbmmaminflcaaGreatDoorM27
import Derived.Test.YtlnbmmaminflcaaGreatDoorM29
import Derived.Test.YtlnbmmaminflcaaGreatDoorM17
import Derived.Deep.CutRange
import Derived.Deep.DeepCutAuto
-- holds: YtlnbmmaminflcaaGreatDoorVJp YtlnbmmaminflcaaGreatDoorVJxa
namespace Go.Proofs.YtlnbmmaminflcaaGreatDoor
open Go.RowKit Go.Shelf

def openH : Hist := ⟨[tx], [sx], [ox], [], [e1S, e2S], [], [], []⟩
def e2T : EvP := ⟨2, 0, 0, 0, 1, 0, 1, 0, []⟩
def turnH : Hist := ⟨[tx], [sx], [oy, ox], [], [e1S, e2T, e3S], [], [], []⟩
theorem open_right : rightB openH = true := by decide +kernel
theorem open_com : comP openH = ⟨[tx], [sx], [ox], [], [e1S, e2S, abortE 0], [], [], []⟩ := by decide +kernel
theorem small_right : rightB smallH = true := by decide +kernel
theorem small_of : ofP smallH 0 = [0, 1, 2] := by decide +kernel
theorem turn_shaped : shapedB turnH = true := by decide +kernel
theorem turn_wrong : rightB turnH = false := by decide +kernel
theorem turn_num : numP turnH = smallH := by decide +kernel
theorem lit_small {H : Hist} (h : (decide (H.tr.length ≤ 60) && decide (H.se.length ≤ 60) && decide (H.ob.length ≤ 60) && decide (H.pr.length ≤ 60) && decide (H.ev.length ≤ 200) && decide (H.od = []) && decide (H.ma = []) && decide (H.wa = []) && H.ev.all (fun e => decide (e.scan = [])) && (H.tr ++ H.se ++ H.ob ++ H.pr).all fun b => decide (b.size ≤ 100)) = true) : Small H := by
 simp only [Bool.and_eq_true, decide_eq_true_eq, List.all_eq_true, List.mem_append] at h
 obtain ⟨⟨⟨⟨⟨⟨⟨⟨⟨h0, h1⟩, h2⟩, h3⟩, h4⟩, h5⟩, h6⟩, h7⟩, h8⟩, h9⟩ := h
 refine ⟨h0, h1, h2, h3, h4, by rw [h5]; simp, by rw [h6]; simp, by rw [h7]; simp, fun e he => by rw [h8 e he]; simp, fun r hr => by rw [h5] at hr; simp at hr, fun r hr => by rw [h6] at hr; simp at hr, fun s hs b hb => h9 b ?_⟩
 have : s = 0 ∨ s = 1 ∨ s = 2 ∨ s = 3 := by omega
 rcases this with rfl | rfl | rfl | rfl
 ·exact .inl (.inl (.inl hb))
 ·exact .inl (.inl (.inr hb))
 ·exact .inl (.inr hb)
 ·exact .inr hb
theorem small_small : Small smallH := lit_small (by decide +kernel)
theorem open_small : Small openH := lit_small (by decide +kernel)
theorem turn_small : Small turnH := lit_small (by decide +kernel)
def openM (g : Nat) : HistM := ⟨(⟨some ⟨g, 0, none⟩, 1, 1⟩, [tx]), (⟨some ⟨g + 1, 0, none⟩, 1, 1⟩, [sx]), (⟨some ⟨g + 2, 0, none⟩, 1, 1⟩, [ox]), nilS, (⟨some ⟨g + 3, 0, none⟩, 2, 3⟩, [(e1S, nilH), (e2S, nilH)]), (⟨none, 0, 0⟩, []), (⟨none, 0, 0⟩, []), (⟨none, 0, 0⟩, [])⟩
def turnM (g q : Nat) : HistM := ⟨(⟨some ⟨g, 0, none⟩, 1, 1⟩, [tx]), (⟨some ⟨g + 1, 0, none⟩, 1, 1⟩, [sx]), (⟨some ⟨q, 0, none⟩, 2, 2⟩, [oy, ox]), nilS, (⟨some ⟨g + 3, 0, none⟩, 3, 3⟩, [(e1S, nilH), (e2T, nilH), (e3S, nilH)]), (⟨none, 0, 0⟩, []), (⟨none, 0, 0⟩, []), (⟨none, 0, 0⟩, [])⟩
theorem open_rd {B C g : Nat} {X : World} (h : HOwn B X (smallM g)) (hC : X.heap.size ≤ C) : HRd X C (openM g) := by
 have r := h.rd.more hC
 have e : Reads X C 9 (some ⟨g + 3, 0, none⟩) 2 ((evS.take 2).flatMap evCs) := reads_cut_s evCs_len r.ev (by show 2 ≤ 3; omega)
 exact ⟨r.tr, r.se, r.ob, r.pr, e, Reads.none_, Reads.none_, Reads.none_, fun p hp => r.sc p (List.mem_of_mem_take (i := 2) hp), fun p hp => by simp [openM] at hp, fun p hp => by simp [openM] at hp⟩
theorem turn_rd {B q g : Nat} {X : World} (h : HOwn B X (smallM g)) (ho : X.ownsRow B 9 1 (.slice (some ⟨q, 0, none⟩) 2 2) 2 (strs [oy, ox])) : HRd (X.setCell ⟨g + 3, 13, none⟩ (.int .i64 1)) (X.setCell ⟨g + 3, 13, none⟩ (.int .i64 1)).heap.size (turnM g q) := by
 have k2 := keep_own h.ev 13 (.int .i64 1)
 have st := (h.ev.stored 13 (.int .i64 1)).1
 have e : (evS.flatMap evCs).set 13 (.int .i64 1) = [(e1S, nilH), (e2T, nilH), (e3S, nilH)].flatMap evCs := rfl
 have st2 : (X.setCell ⟨g + 3, 13, none⟩ (.int .i64 1)).ownsRow B 39 9 (.slice (some ⟨g + 3, 0, none⟩) 3 3) 3 ([(e1S, nilH), (e2T, nilH), (e3S, nilH)].flatMap evCs) := by rw [← e]; exact st
 have nm := h.nm.keepT k2 (by decide)
 refine ⟨Reads.of_own (nm.own 0 _ rfl), Reads.of_own (nm.own 1 _ rfl), Reads.of_own (k2.own ho (by decide)), Reads.none_, Reads.of_own st2, Reads.none_, Reads.none_, Reads.none_, fun p hp => ?_, fun p hp => by simp [turnM] at hp, fun p hp => by simp [turnM] at hp⟩
 simp [turnM] at hp
 rcases hp with rfl | rfl | rfl <;> exact Reads.none_
theorem elem_ev (W : World) : (sizeOf (Tryz.prog.elem 23)).run Tryz.prog W = .ok 9 W := by kernel_rfl
theorem cut_ev (A : Option Addr) (len cap h : Nat) (hh : h ≤ cap) (W : World) :
 (Instr.slice 23 (.slice A len cap) none (some (.int .i64 (h : Int))) none).run Tryz.prog W = .ok (.slice A h cap) W := by
 have e0 : Value.slice (if cap = 0 then A else A.map (·.add (0 * 9))) (h - 0) (cap - 0) = .slice A h cap := by
  have : (if cap = 0 then A else A.map (·.add (0 * 9))) = A := by
   split
   ·rfl
   ·cases A <;> simp [Addr.add]
  rw [this, Nat.sub_zero, Nat.sub_zero]
 rw [run_slice_h W 23 A len cap (show Tryz.prog.underlying 23 = some (.slice (Tryz.prog.elem 23)) by kernel_rfl) .i64 h (by omega) (by omega), elem_ev]
 exact congrArg (fun v => Result.ok v W) e0
set_option maxRecDepth 100000 in
set_option maxHeartbeats 4000000 in
theorem wakes11_any (w : World) (hT : Tabs w) : Calls Tryz.prog 7 #[] w fun e w' => e = .returned (.bool true) ∧ Below w.heap.size w w' := by
 have HT := Lib.hid hT
 clear hT
 skip
 go_enter Tryz.func7, Tryz.ntmps7
 go_wp2_with fail
 refine (small11_any w).mono ?_
 rintro _ w1 ⟨g, rfl, ho, bb⟩
 have bb0 := bb.size
 obtain ⟨k1, b1_, -⟩ := ibox w1 #[.slice (some ⟨g, 0, none⟩) 1 1, .slice (some ⟨g + 1, 0, none⟩) 1 1, .slice (some ⟨g + 2, 0, none⟩) 1 1, .slice none 0 0, .slice (some ⟨g + 3, 0, none⟩) 3 3, .slice none 0 0, .slice none 0 0, .slice none 0 0] 28
 have HBW := Lib.hid (bb.trans (b1_.mono bb.size))
 have HO := Lib.hid (ho.on b1_)
 have KB1 := Lib.hid k1
 clear ho bb b1_ k1
 go_upto_region 2 with fail
 have HGE1 : Hid (w.heap.size ≤ w1.heap.size) := bb0
 clear bb0
 generalize w1.alloc (.cells #[.slice (some ⟨g, 0, none⟩) 1 1, .slice (some ⟨g + 1, 0, none⟩) 1 1, .slice (some ⟨g + 2, 0, none⟩) 1 1, .slice none 0 0, .slice (some ⟨g + 3, 0, none⟩) 3 3, .slice none 0 0, .slice none 0 0, .slice none 0 0] 28) = w2 at *
 generalize w1.heap.size = b1 at *
 go_wp2_with fail
 refine (small11_any w2).mono ?_
 rintro _ w3 ⟨g2, rfl, ho2, bb⟩
 have HBW := Lib.hid (HBW.out.trans (bb.mono HBW.out.size))
 have HO := Lib.hid (HO.out.on bb)
 have KB1 := Lib.hid (KB1.out.below bb KB1.out.lt)
 have HO2 := Lib.hid ho2
 clear ho2 bb
 have hcut := fun W => cut_ev (some ⟨g2 + 3, 0, none⟩) 3 3 2 (by omega) W
 go_upto_region 4 with fail
 obtain ⟨k2, bb, -⟩ := ibox w3 #[.slice (some ⟨g2, 0, none⟩) 1 1, .slice (some ⟨g2 + 1, 0, none⟩) 1 1, .slice (some ⟨g2 + 2, 0, none⟩) 1 1, .slice none 0 0, .slice (some ⟨g2 + 3, 0, none⟩) 2 3, .slice none 0 0, .slice none 0 0, .slice none 0 0] 28
 have HBW := Lib.hid (HBW.out.trans (bb.mono HBW.out.size))
 have HO := Lib.hid (HO.out.on bb)
 have KB1 := Lib.hid (KB1.out.below bb KB1.out.lt)
 have HO2 := Lib.hid (HO2.out.on bb)
 have KB2 := Lib.hid k2
 clear k2 bb hcut
 generalize w3.alloc (.cells #[.slice (some ⟨g2, 0, none⟩) 1 1, .slice (some ⟨g2 + 1, 0, none⟩) 1 1, .slice (some ⟨g2 + 2, 0, none⟩) 1 1, .slice none 0 0, .slice (some ⟨g2 + 3, 0, none⟩) 2 3, .slice none 0 0, .slice none 0 0, .slice none 0 0] 28) = w4 at *
 generalize w3.heap.size = b2 at *
 obtain ⟨z0, z1, z2, z3, z4, z5, z6, z7⟩ := c8 KB2.out
 go_wp2_with fail
 refine (complete_any (openM g2) open_small w4 (HT.out.on HBW.out (Nat.le_refl _)) (open_rd HO2.out (Nat.le_refl _))).mono ?_
 rintro _ w5 ⟨n3, rfl, ho3, hp3, bb⟩
 clear z0 z1 z2 z3 z4 z5 z6 z7
 rw [show (openM g2).pl = openH from rfl, open_right, if_pos rfl, open_com] at hp3
 rw [show checkE (openM g2).pl = 0 from checkE_ok open_right]
 have hl3 : n3.ev.1.n = 3 := by rw [← ho3.rd.fit.ev.1]; have := congrArg (fun H => H.ev.length) hp3; unfold HistM.pl at this; simpa using this
 obtain ⟨gb, hgb⟩ := own_pos ho3.ev (by omega)
 obtain ⟨cc, hcc⟩ : ∃ cc, n3.ev.1.c = cc := ⟨_, rfl⟩
 have hk6 : w5.cell? ⟨gb, 18, none⟩ = some (.int .i64 6) := by
  have he : (n3.ev.2.map (·.1))[2]? = some (abortE 0) := by have := congrArg Hist.ev hp3; rw [show n3.ev.2.map (·.1) = _ from this]; rfl
  rw [List.getElem?_map] at he
  obtain ⟨p, hp, hpe⟩ := Option.map_eq_some_iff.1 he
  obtain ⟨b, o, hA, _, hc⟩ := row_cells evCs_len (by omega) ho3.rd.ev hp
  rw [hgb] at hA
  obtain ⟨rfl, rfl⟩ : gb = b ∧ 0 = o := by simpa using hA
  have := hc 0 _ rfl
  rw [hpe] at this
  simpa [abortE] using this
 have hgl : gb < w5.heap.size := by have h9 := own_in_block (g := gb) ho3.ev (by rw [hgb]; rfl); exact h9.2
 have hgw : w4.heap.size ≤ gb := by have h9 := own_in_block (g := gb) ho3.ev (by rw [hgb]; rfl); exact h9.1
 rw [hgb, hl3, hcc]
 have HCC := Lib.hid hcc
 have HGB0 := Lib.hid hgb
 have HL3 := Lib.hid hl3
 have HK6 := Lib.hid hk6
 have HGB := Lib.hid hgl
 have HGW := Lib.hid hgw
 have HN1g : Hid (b1 ≠ gb) := by have := KB1.out.lt; have := HGW.out; show b1 ≠ gb; omega
 have HLG : Hid (g + 3 < w4.heap.size) := (own_in_block (g := g + 3) HO.out.ev rfl).2
 have HBW := Lib.hid (HBW.out.trans (bb.mono HBW.out.size))
 have HO := Lib.hid (HO.out.on bb)
 have KB1 := Lib.hid (KB1.out.below bb KB1.out.lt)
 clear ho3 hp3 bb hcc hgb hl3 hk6 hgl hgw HO2 KB2
 go_upto_region 5 with fail
 have HN13 : Hid (b1 ≠ w5.heap.size) := Nat.ne_of_lt KB1.out.lt
 have HNg : Hid (g + 3 ≠ gb) := by have := HLG.out; have := HGW.out; show g + 3 ≠ gb; omega
 obtain ⟨k3, bb, -⟩ := ibox w5 #[.slice n3.tr.1.A n3.tr.1.n n3.tr.1.c, .slice n3.se.1.A n3.se.1.n n3.se.1.c, .slice n3.ob.1.A n3.ob.1.n n3.ob.1.c, .slice n3.pr.1.A n3.pr.1.n n3.pr.1.c, .slice (some ⟨gb, 0, none⟩) 3 cc, .slice n3.od.1.A n3.od.1.n n3.od.1.c, .slice n3.ma.1.A n3.ma.1.n n3.ma.1.c, .slice n3.wa.1.A n3.wa.1.n n3.wa.1.c] 28
 have HBW := Lib.hid (HBW.out.trans (bb.mono HBW.out.size))
 have HO := Lib.hid (HO.out.on bb)
 have KB1 := Lib.hid (KB1.out.below bb KB1.out.lt)
 have KB3 := Lib.hid k3
 replace HK6 : Hid ((w5.alloc (.cells #[.slice n3.tr.1.A n3.tr.1.n n3.tr.1.c, .slice n3.se.1.A n3.se.1.n n3.se.1.c, .slice n3.ob.1.A n3.ob.1.n n3.ob.1.c, .slice n3.pr.1.A n3.pr.1.n n3.pr.1.c, .slice (some ⟨gb, 0, none⟩) 3 cc, .slice n3.od.1.A n3.od.1.n n3.od.1.c, .slice n3.ma.1.A n3.ma.1.n n3.ma.1.c, .slice n3.wa.1.A n3.wa.1.n n3.wa.1.c] 28)).cell? ⟨gb, 18, none⟩ = some (.int .i64 6)) := (bb.cell (p := ⟨gb, 18, none⟩) HGB.out).trans HK6.out
 replace HGB : Hid (gb < (w5.alloc (.cells #[.slice n3.tr.1.A n3.tr.1.n n3.tr.1.c, .slice n3.se.1.A n3.se.1.n n3.se.1.c, .slice n3.ob.1.A n3.ob.1.n n3.ob.1.c, .slice n3.pr.1.A n3.pr.1.n n3.pr.1.c, .slice (some ⟨gb, 0, none⟩) 3 cc, .slice n3.od.1.A n3.od.1.n n3.od.1.c, .slice n3.ma.1.A n3.ma.1.n n3.ma.1.c, .slice n3.wa.1.A n3.wa.1.n n3.wa.1.c] 28)).heap.size) := Nat.lt_of_lt_of_le HGB.out bb.size
 clear k3 bb
 generalize w5.alloc (.cells #[.slice n3.tr.1.A n3.tr.1.n n3.tr.1.c, .slice n3.se.1.A n3.se.1.n n3.se.1.c, .slice n3.ob.1.A n3.ob.1.n n3.ob.1.c, .slice n3.pr.1.A n3.pr.1.n n3.pr.1.c, .slice (some ⟨gb, 0, none⟩) 3 cc, .slice n3.od.1.A n3.od.1.n n3.od.1.c, .slice n3.ma.1.A n3.ma.1.n n3.ma.1.c, .slice n3.wa.1.A n3.wa.1.n n3.wa.1.c] 28) = w6 at *
 generalize w5.heap.size = b3 at *
 obtain ⟨z0, z1, z2, z3, z4, z5, z6, z7⟩ := c8 KB1.out
 go_wp2_with fail
 refine (of11_any (smallM g) 0 small_small w6 (HT.out.on HBW.out (Nat.le_refl _)) HO.out.rd).mono ?_
 rintro _ w7 ⟨A5, c5, xs, rfl, ho5, bb, hxs⟩
 clear z0 z1 z2 z3 z4 z5 z6 z7
 rw [show (smallM g).pl = smallH from rfl, small_right, if_pos rfl, small_of] at hxs
 subst hxs
 rw [show checkE (smallM g).pl = 0 from checkE_ok small_right]
 have HO5 : Hid (w7.ownsRow w.heap.size 3 1 (.slice A5 3 c5) 3 (ints [0, 1, 2])) := own_mono ho5 HBW.out.size
 simp only [show ([0, 1, 2] : List Int).length = 3 from rfl]
 have HBW := Lib.hid (HBW.out.trans (bb.mono HBW.out.size))
 have HO := Lib.hid (HO.out.on bb)
 have KB1 := Lib.hid (KB1.out.below bb KB1.out.lt)
 have KB3 := Lib.hid (KB3.out.below bb KB3.out.lt)
 have HK6 := Lib.hid ((bb.cell (p := ⟨gb, 18, none⟩) HGB.out).trans HK6.out)
 replace HGB := Lib.hid (Nat.lt_of_lt_of_le HGB.out bb.size)
 clear ho5 bb
 go_upto_region 6 with fail
 have oo := own_lit w7 9 1 2 (strs [oy, ox]) #[.string ⟨#[121]⟩, .string ⟨#[120]⟩] rfl rfl (by omega)
 have bb : Below w7.heap.size w7 (w7.alloc (.cells #[.string ⟨#[121]⟩, .string ⟨#[120]⟩] 9)) := (Below.refl _ _).alloc (Nat.le_refl _) _
 have HOO := Lib.hid (own_mono oo HBW.out.size)
 have HBW := Lib.hid (HBW.out.trans (bb.mono HBW.out.size))
 have HO := Lib.hid (HO.out.on bb)
 have KB1 := Lib.hid (KB1.out.below bb KB1.out.lt)
 have KB3 := Lib.hid (KB3.out.below bb KB3.out.lt)
 have HK6 := Lib.hid ((bb.cell (p := ⟨gb, 18, none⟩) HGB.out).trans HK6.out)
 replace HGB := Lib.hid (Nat.lt_of_lt_of_le HGB.out bb.size)
 replace HO5 := Lib.hid (own_on HO5.out bb)
 clear oo bb
 have y2 := KB1.out.cell 2
 have f2 := KB1.out.frozen 2
 go_upto_region 7 with fail
 generalize w7.alloc (.cells #[.string ⟨#[121]⟩, .string ⟨#[120]⟩] 9) = w8 at *
 generalize w7.heap.size = q at *
 clear y2 f2
 have k1 := KB1.out.set_ 2 (.slice (some ⟨q, 0, none⟩) 2 2)
 simp at k1
 have kt : KeepT 28 w8 (w8.setCell ⟨b1, 2, none⟩ (.slice (some ⟨q, 0, none⟩) 2 2)) := box_turn KB1.out 2 _
 have HO := Lib.hid (HO.out.keepT kt (by decide) (by decide) (by decide) (by decide) (by decide) (by decide) (by decide))
 have HOO := Lib.hid (kt.own HOO.out (by decide))
 have KB1 : Hid (Blk (w8.setCell ⟨b1, 2, none⟩ (.slice (some ⟨q, 0, none⟩) 2 2)) b1 28 #[.slice (some ⟨g, 0, none⟩) 1 1, .slice (some ⟨g + 1, 0, none⟩) 1 1, .slice (some ⟨q, 0, none⟩) 2 2, .slice none 0 0, .slice (some ⟨g + 3, 0, none⟩) 3 3, .slice none 0 0, .slice none 0 0, .slice none 0 0]) := k1
 have KB3 := Lib.hid (KB3.out.far (p := ⟨b1, 2, none⟩) (Ne.symm HN13.out) (.slice (some ⟨q, 0, none⟩) 2 2))
 have HO5 := Lib.hid (kt.own HO5.out (by decide))
 have HK6 := Lib.hid ((World.cell?_setCell_far w8 ⟨b1, 2, none⟩ ⟨gb, 18, none⟩ (.slice (some ⟨q, 0, none⟩) 2 2) HN1g.out).trans HK6.out)
 have HBW := Lib.hid (HBW.out.setCell (p := ⟨b1, 2, none⟩) HGE1.out (.slice (some ⟨q, 0, none⟩) 2 2))
 clear k1 kt
 have HGB : Hid (gb < (w8.setCell ⟨b1, 2, none⟩ (.slice (some ⟨q, 0, none⟩) 2 2)).heap.size) := by show gb < _; simp; exact HGB.out
 generalize (w8.setCell ⟨b1, 2, none⟩ (.slice (some ⟨q, 0, none⟩) 2 2)) = w9 at *
 have y4 := KB1.out.cell 4
 have y13 : w9.cell? ⟨g + 3, 13, none⟩ = some (.int .i64 0) := (HO.out.ev.cellAt 13 (by show 13 < 3 * 9; omega)).trans rfl
 have f13 : w9.frozen? ⟨g + 3, 13, none⟩ = false := HO.out.ev.frozenAt 13
 go_upto_region 8 with fail
 clear y4 y13 f13
 have kt := keep_own HO.out.ev 13 (.int .i64 1)
 have hge : w.heap.size ≤ g + 3 := (own_in_block (g := g + 3) HO.out.ev rfl).1
 have HTR := Lib.hid (turn_rd HO.out HOO.out)
 have KB1 : Hid (Blk (w9.setCell ⟨g + 3, 13, none⟩ (.int .i64 1)) b1 28 #[.slice (some ⟨g, 0, none⟩) 1 1, .slice (some ⟨g + 1, 0, none⟩) 1 1, .slice (some ⟨q, 0, none⟩) 2 2, .slice none 0 0, .slice (some ⟨g + 3, 0, none⟩) 3 3, .slice none 0 0, .slice none 0 0, .slice none 0 0]) := kt.blk KB1.out (by decide)
 have KB3 : Hid (Blk (w9.setCell ⟨g + 3, 13, none⟩ (.int .i64 1)) b3 28 #[.slice n3.tr.1.A n3.tr.1.n n3.tr.1.c, .slice n3.se.1.A n3.se.1.n n3.se.1.c, .slice n3.ob.1.A n3.ob.1.n n3.ob.1.c, .slice n3.pr.1.A n3.pr.1.n n3.pr.1.c, .slice (some ⟨gb, 0, none⟩) 3 cc, .slice n3.od.1.A n3.od.1.n n3.od.1.c, .slice n3.ma.1.A n3.ma.1.n n3.ma.1.c, .slice n3.wa.1.A n3.wa.1.n n3.wa.1.c]) := kt.blk KB3.out (by decide)
 have HO5 : Hid ((w9.setCell ⟨g + 3, 13, none⟩ (.int .i64 1)).ownsRow w.heap.size 3 1 (.slice A5 3 c5) 3 (ints [0, 1, 2])) := kt.own HO5.out (by decide)
 have HK6 : Hid ((w9.setCell ⟨g + 3, 13, none⟩ (.int .i64 1)).cell? ⟨gb, 18, none⟩ = some (.int .i64 6)) := (World.cell?_setCell_far w9 ⟨g + 3, 13, none⟩ ⟨gb, 18, none⟩ (.int .i64 1) HNg.out).trans HK6.out
 have HBW : Hid (Below w.heap.size w (w9.setCell ⟨g + 3, 13, none⟩ (.int .i64 1))) := HBW.out.setCell (p := ⟨g + 3, 13, none⟩) hge (.int .i64 1)
 have HGB : Hid (gb < (w9.setCell ⟨g + 3, 13, none⟩ (.int .i64 1)).heap.size) := by show gb < _; simp; exact HGB.out
 clear kt hge HO HOO
 generalize (w9.setCell ⟨g + 3, 13, none⟩ (.int .i64 1)) = w10 at *
 obtain ⟨z0, z1, z2, z3, z4, z5, z6, z7⟩ := c8 KB1.out
 go_wp2_with fail
 refine (number11_any (turnM g q) turn_small w10 (HT.out.on HBW.out (Nat.le_refl _)) HTR.out).mono ?_
 rintro _ w11 ⟨n7, rfl, ho7, hp7, bb⟩
 clear z0 z1 z2 z3 z4 z5 z6 z7
 rw [show (turnM g q).pl = turnH from rfl, turn_shaped, if_pos rfl, turn_num] at hp7
 rw [show numE (turnM g q).pl = 0 from by unfold numE; rw [show (turnM g q).pl = turnH from rfl, turn_shaped, if_pos rfl]]
 have HP7 := Lib.hid hp7
 go_upto_region 9 with fail
 obtain ⟨k7, b7_, -⟩ := ibox w11 #[.slice n7.tr.1.A n7.tr.1.n n7.tr.1.c, .slice n7.se.1.A n7.se.1.n n7.se.1.c, .slice n7.ob.1.A n7.ob.1.n n7.ob.1.c, .slice n7.pr.1.A n7.pr.1.n n7.pr.1.c, .slice n7.ev.1.A n7.ev.1.n n7.ev.1.c, .slice n7.od.1.A n7.od.1.n n7.od.1.c, .slice n7.ma.1.A n7.ma.1.n n7.ma.1.c, .slice n7.wa.1.A n7.wa.1.n n7.wa.1.c] 28
 have bb := bb.trans (b7_.mono bb.size)
 have HTR := Lib.hid (HTR.out.on_ bb)
 have HR7 := Lib.hid ((ho7.on b7_).rd)
 have KB1 : Hid (Blk (w11.alloc (.cells #[.slice n7.tr.1.A n7.tr.1.n n7.tr.1.c, .slice n7.se.1.A n7.se.1.n n7.se.1.c, .slice n7.ob.1.A n7.ob.1.n n7.ob.1.c, .slice n7.pr.1.A n7.pr.1.n n7.pr.1.c, .slice n7.ev.1.A n7.ev.1.n n7.ev.1.c, .slice n7.od.1.A n7.od.1.n n7.od.1.c, .slice n7.ma.1.A n7.ma.1.n n7.ma.1.c, .slice n7.wa.1.A n7.wa.1.n n7.wa.1.c] 28)) b1 28 #[.slice (some ⟨g, 0, none⟩) 1 1, .slice (some ⟨g + 1, 0, none⟩) 1 1, .slice (some ⟨q, 0, none⟩) 2 2, .slice none 0 0, .slice (some ⟨g + 3, 0, none⟩) 3 3, .slice none 0 0, .slice none 0 0, .slice none 0 0]) := KB1.out.below bb KB1.out.lt
 have KB3 : Hid (Blk (w11.alloc (.cells #[.slice n7.tr.1.A n7.tr.1.n n7.tr.1.c, .slice n7.se.1.A n7.se.1.n n7.se.1.c, .slice n7.ob.1.A n7.ob.1.n n7.ob.1.c, .slice n7.pr.1.A n7.pr.1.n n7.pr.1.c, .slice n7.ev.1.A n7.ev.1.n n7.ev.1.c, .slice n7.od.1.A n7.od.1.n n7.od.1.c, .slice n7.ma.1.A n7.ma.1.n n7.ma.1.c, .slice n7.wa.1.A n7.wa.1.n n7.wa.1.c] 28)) b3 28 #[.slice n3.tr.1.A n3.tr.1.n n3.tr.1.c, .slice n3.se.1.A n3.se.1.n n3.se.1.c, .slice n3.ob.1.A n3.ob.1.n n3.ob.1.c, .slice n3.pr.1.A n3.pr.1.n n3.pr.1.c, .slice (some ⟨gb, 0, none⟩) 3 cc, .slice n3.od.1.A n3.od.1.n n3.od.1.c, .slice n3.ma.1.A n3.ma.1.n n3.ma.1.c, .slice n3.wa.1.A n3.wa.1.n n3.wa.1.c]) := KB3.out.below bb KB3.out.lt
 have KB7 := Lib.hid k7
 have HO5 := Lib.hid (own_on HO5.out bb)
 have HK6 := Lib.hid ((bb.cell (p := ⟨gb, 18, none⟩) HGB.out).trans HK6.out)
 have HBW := Lib.hid (HBW.out.trans (bb.mono HBW.out.size))
 replace HGB := Lib.hid (Nat.lt_of_lt_of_le HGB.out bb.size)
 clear bb b7_ k7 ho7 hp7
 generalize w11.alloc (.cells #[.slice n7.tr.1.A n7.tr.1.n n7.tr.1.c, .slice n7.se.1.A n7.se.1.n n7.se.1.c, .slice n7.ob.1.A n7.ob.1.n n7.ob.1.c, .slice n7.pr.1.A n7.pr.1.n n7.pr.1.c, .slice n7.ev.1.A n7.ev.1.n n7.ev.1.c, .slice n7.od.1.A n7.od.1.n n7.od.1.c, .slice n7.ma.1.A n7.ma.1.n n7.ma.1.c, .slice n7.wa.1.A n7.wa.1.n n7.wa.1.c] 28) = X0 at *
 generalize w11.heap.size = b7 at *
 have HT := Lib.hid (HT.out.on HBW.out (Nat.le_refl _))
 have HO5 : Hid (Reads X0 X0.heap.size 1 A5 3 (ints [0, 1, 2])) := Reads.of_own HO5.out
 refine wp_region_noPanic ?_
 refine wp_region_held_drew (S := fun W => Below X0.heap.size X0 W) (by kernel_rfl) (Below.refl _ _).drew (fun hHeld => ?_)
 have HDR : Hid (Below X0.heap.size X0 X0.drew) := (Below.refl _ _).drew
 generalize X0.drew = wd at *
 refine tkv 0 (some 36) (.int .i64 0) rfl rfl (fun w' hSw => by (try dsimp only at hSw); go_simp) ?_
 try simp only [Act.put, sA, sB, sC]
 refine tkv 1 (some 37) (.bool true) rfl rfl (fun w' hSw => by (try dsimp only at hSw); go_simp) ?_
 try simp only [Act.put, sA, sB, sC]
 refine tkv 2 (some 38) (.bool true) rfl rfl (fun w' hSw => by (try dsimp only at hSw); go_simp) ?_
 try simp only [Act.put, sA, sB, sC]
 refine tkv 3 (some 39) (.int .i64 0) rfl rfl (fun w' hSw => by (try dsimp only at hSw); go_simp) ?_
 try simp only [Act.put, sA, sB, sC]
 refine tkv 4 (some 40) (.bool true) rfl rfl (fun w' hSw => by (try dsimp only at hSw); go_simp) ?_
 try simp only [Act.put, sA, sB, sC]
 refine tkv 5 (some 41) (.bool true) rfl rfl (fun w' hSw => by (try dsimp only at hSw); go_simp) ?_
 try simp only [Act.put, sA, sB, sC]
 refine tkv 6 (some 42) (.bool true) rfl rfl (fun w' hSw => by (try dsimp only at hSw); go_simp) ?_
 try simp only [Act.put, sA, sB, sC]
 refine tkv 7 (some 43) (.int .i64 0) rfl rfl (fun w' hSw => by (try dsimp only at hSw); go_simp) ?_
 try simp only [Act.put, sA, sB, sC]
 refine tkv 8 (some 44) (.bool true) rfl rfl (fun w' hSw => by (try dsimp only at hSw); go_simp) ?_
 try simp only [Act.put, sA, sB, sC]
 refine tkv 9 (some 45) (.bool true) rfl rfl (fun w' hSw => by (try dsimp only at hSw); go_simp) ?_
 try simp only [Act.put, sA, sB, sC]
 refine tkv 10 (some 46) (.bool true) rfl rfl (fun w' hSw => by (try dsimp only at hSw); go_simp) ?_
 try simp only [Act.put, sA, sB, sC]
 refine tkv 11 (some 47) (.agg #[.slice (some ⟨g, 0, none⟩) 1 1, .slice (some ⟨g + 1, 0, none⟩) 1 1, .slice (some ⟨q, 0, none⟩) 2 2, .slice none 0 0, .slice (some ⟨g + 3, 0, none⟩) 3 3, .slice none 0 0, .slice none 0 0, .slice none 0 0]) rfl rfl (fun w' hSw => by ((try dsimp only at hSw); have c90 : w'.cell? ⟨b1, 0, none⟩ = some (.slice (some ⟨g, 0, none⟩) 1 1) := (KB1.out.below hSw KB1.out.lt).cell 0; have c91 : w'.cell? ⟨b1, 1, none⟩ = some (.slice (some ⟨g + 1, 0, none⟩) 1 1) := (KB1.out.below hSw KB1.out.lt).cell 1; have c92 : w'.cell? ⟨b1, 2, none⟩ = some (.slice (some ⟨q, 0, none⟩) 2 2) := (KB1.out.below hSw KB1.out.lt).cell 2; have c93 : w'.cell? ⟨b1, 3, none⟩ = some (.slice none 0 0) := (KB1.out.below hSw KB1.out.lt).cell 3; have c94 : w'.cell? ⟨b1, 4, none⟩ = some (.slice (some ⟨g + 3, 0, none⟩) 3 3) := (KB1.out.below hSw KB1.out.lt).cell 4; have c95 : w'.cell? ⟨b1, 5, none⟩ = some (.slice none 0 0) := (KB1.out.below hSw KB1.out.lt).cell 5; have c96 : w'.cell? ⟨b1, 6, none⟩ = some (.slice none 0 0) := (KB1.out.below hSw KB1.out.lt).cell 6; have c97 : w'.cell? ⟨b1, 7, none⟩ = some (.slice none 0 0) := (KB1.out.below hSw KB1.out.lt).cell 7; go_simp)) ?_
 try simp only [Act.put, sA, sB, sC]
 refine rdH [12] ?_
 refine AllReadyH.cons rfl (fun K hK => ?_) ?_
 ·go_simp
  refine (check11_any (turnM g q) turn_small _ (HT.out.on hHeld (Nat.le_refl _)) ((HTR.out.on hHeld).more hHeld.size)).mono ?_
  rintro _ w12 ⟨rfl, b12⟩
  rw [show checkE (turnM g q).pl = 210 from checkE_no turn_wrong]
  have BX := Lib.hid (hHeld.trans (b12.mono hHeld.size))
  clear hHeld b12
  skip
  refine hK.out _ _ BX.out (fun hHeld => ?_)
  clear hK K
  try simp only [Act.put, sA, sB, sC]
  refine tkv 13 (some 49) (.bool true) rfl rfl (fun w' hSw => by (try dsimp only at hSw); go_simp) ?_
  try simp only [Act.put, sA, sB, sC]
  refine tkv 14 (some 50) (.bool true) rfl rfl (fun w' hSw => by (try dsimp only at hSw); go_simp) ?_
  try simp only [Act.put, sA, sB, sC]
  refine tkv 15 (some 51) (.bool true) rfl rfl (fun w' hSw => by (try dsimp only at hSw); go_simp) ?_
  try simp only [Act.put, sA, sB, sC]
  refine tkv 16 (some 52) (.pointer (some ⟨b3, 4, none⟩)) rfl rfl (fun w' hSw => by (try dsimp only at hSw); go_simp) ?_
  try simp only [Act.put, sA, sB, sC]
  refine tkv 17 (some 53) (.slice (some ⟨gb, 0, none⟩) 3 cc) rfl rfl (fun w' hSw => by ((try dsimp only at hSw); have c9 : w'.cell? ⟨b3, 4, none⟩ = some (.slice (some ⟨gb, 0, none⟩) 3 cc) := (KB3.out.below hSw KB3.out.lt).cell 4; go_simp)) ?_
  try simp only [Act.put, sA, sB, sC]
  refine tkv 18 (some 54) (.int .i64 3) rfl rfl (fun w' hSw => by (try dsimp only at hSw); go_simp) ?_
  try simp only [Act.put, sA, sB, sC]
  refine tkv 19 (some 55) (.bool true) rfl rfl (fun w' hSw => by (try dsimp only at hSw); go_simp) ?_
  try simp only [Act.put, sA, sB, sC]
  refine tkv 20 (some 56) (.bool true) rfl rfl (fun w' hSw => by (try dsimp only at hSw); go_simp) ?_
  try simp only [Act.put, sA, sB, sC]
  refine tkv 21 (some 57) (.bool true) rfl rfl (fun w' hSw => by (try dsimp only at hSw); go_simp) ?_
  try simp only [Act.put, sA, sB, sC]
  refine tkv 22 (some 58) (.pointer (some ⟨b3, 4, none⟩)) rfl rfl (fun w' hSw => by (try dsimp only at hSw); go_simp) ?_
  try simp only [Act.put, sA, sB, sC]
  refine tkv 23 (some 59) (.slice (some ⟨gb, 0, none⟩) 3 cc) rfl rfl (fun w' hSw => by ((try dsimp only at hSw); have c9 : w'.cell? ⟨b3, 4, none⟩ = some (.slice (some ⟨gb, 0, none⟩) 3 cc) := (KB3.out.below hSw KB3.out.lt).cell 4; go_simp)) ?_
  try simp only [Act.put, sA, sB, sC]
  refine tkv 24 (some 60) (.pointer (some ⟨gb, 18, none⟩)) rfl rfl (fun w' hSw => by (try dsimp only at hSw); go_simp) ?_
  try simp only [Act.put, sA, sB, sC]
  refine tkv 25 (some 61) (.pointer (some ⟨gb, 18, none⟩)) rfl rfl (fun w' hSw => by (try dsimp only at hSw); go_simp) ?_
  try simp only [Act.put, sA, sB, sC]
  refine tkv 26 (some 62) (.int .i64 6) rfl rfl (fun w' hSw => by ((try dsimp only at hSw); have c9 : w'.cell? ⟨gb, 18, none⟩ = some (.int .i64 6) := (hSw.cell (p := ⟨gb, 18, none⟩) HGB.out).trans HK6.out; go_simp)) ?_
  try simp only [Act.put, sA, sB, sC]
  refine tkv 27 (some 63) (.bool true) rfl rfl (fun w' hSw => by (try dsimp only at hSw); go_simp) ?_
  try simp only [Act.put, sA, sB, sC]
  refine tkv 28 (some 64) (.bool true) rfl rfl (fun w' hSw => by (try dsimp only at hSw); go_simp) ?_
  try simp only [Act.put, sA, sB, sC]
  refine tkv 29 (some 65) (.bool true) rfl rfl (fun w' hSw => by (try dsimp only at hSw); go_simp) ?_
  try simp only [Act.put, sA, sB, sC]
  refine tkv 30 (some 66) (.slice A5 3 c5) rfl rfl (fun w' hSw => by (try dsimp only at hSw); go_simp) ?_
  try simp only [Act.put, sA, sB, sC]
  refine rdH [31] ?_
  refine AllReadyH.cons rfl (fun K hK => ?_) ?_
  ·go_simp
   have hal : Below w12.heap.size w12 (w12.alloc (.cells #[.int .i64 0, .int .i64 1, .int .i64 2] 3)) := (Below.refl _ _).alloc (Nat.le_refl _) _
   have LT := Lib.hid (int_lit w12 [0, 1, 2] 3 #[.int .i64 0, .int .i64 1, .int .i64 2] rfl)
   have BX := Lib.hid (BX.out.trans (hal.mono BX.out.size))
   clear hal hHeld
   refine hK.out _ _ BX.out (fun hHeld => ?_)
   clear hK K
   try simp only [Act.put, sA, sB, sC]
   generalize w12.alloc (.cells #[.int .i64 0, .int .i64 1, .int .i64 2] 3) = w31 at *
   generalize w12.heap.size = gl at *
   refine rdH [32] ?_
   refine AllReadyH.cons rfl (fun K hK => ?_) ?_
   ·go_simp
    refine (eqi11_any A5 (some ⟨gl, 0, none⟩) 3 3 c5 3 [0, 1, 2] [0, 1, 2] (by omega) (by omega) w31 ((HO5.out.below BX.out).more BX.out.size) LT.out).mono ?_
    rintro _ w32 ⟨rfl, b32⟩
    rw [show decide (([0, 1, 2] : List Int) = [0, 1, 2]) = true from rfl]
    have BX := Lib.hid (BX.out.trans (b32.mono BX.out.size))
    clear hHeld b32
    refine hK.out _ _ BX.out (fun hHeld => ?_)
    clear hK K
    try simp only [Act.put, sA, sB, sC]
    refine tkv 33 (some 69) (.bool true) rfl rfl (fun w' hSw => by (try dsimp only at hSw); go_simp) ?_
    try simp only [Act.put, sA, sB, sC]
    refine tkv 34 (some 70) (.bool true) rfl rfl (fun w' hSw => by (try dsimp only at hSw); go_simp) ?_
    try simp only [Act.put, sA, sB, sC]
    refine tkv 35 (some 71) (.agg #[.slice n7.tr.1.A n7.tr.1.n n7.tr.1.c, .slice n7.se.1.A n7.se.1.n n7.se.1.c, .slice n7.ob.1.A n7.ob.1.n n7.ob.1.c, .slice n7.pr.1.A n7.pr.1.n n7.pr.1.c, .slice n7.ev.1.A n7.ev.1.n n7.ev.1.c, .slice n7.od.1.A n7.od.1.n n7.od.1.c, .slice n7.ma.1.A n7.ma.1.n n7.ma.1.c, .slice n7.wa.1.A n7.wa.1.n n7.wa.1.c]) rfl rfl (fun w' hSw => by ((try dsimp only at hSw); have c90 : w'.cell? ⟨b7, 0, none⟩ = some (.slice n7.tr.1.A n7.tr.1.n n7.tr.1.c) := (KB7.out.below hSw KB7.out.lt).cell 0; have c91 : w'.cell? ⟨b7, 1, none⟩ = some (.slice n7.se.1.A n7.se.1.n n7.se.1.c) := (KB7.out.below hSw KB7.out.lt).cell 1; have c92 : w'.cell? ⟨b7, 2, none⟩ = some (.slice n7.ob.1.A n7.ob.1.n n7.ob.1.c) := (KB7.out.below hSw KB7.out.lt).cell 2; have c93 : w'.cell? ⟨b7, 3, none⟩ = some (.slice n7.pr.1.A n7.pr.1.n n7.pr.1.c) := (KB7.out.below hSw KB7.out.lt).cell 3; have c94 : w'.cell? ⟨b7, 4, none⟩ = some (.slice n7.ev.1.A n7.ev.1.n n7.ev.1.c) := (KB7.out.below hSw KB7.out.lt).cell 4; have c95 : w'.cell? ⟨b7, 5, none⟩ = some (.slice n7.od.1.A n7.od.1.n n7.od.1.c) := (KB7.out.below hSw KB7.out.lt).cell 5; have c96 : w'.cell? ⟨b7, 6, none⟩ = some (.slice n7.ma.1.A n7.ma.1.n n7.ma.1.c) := (KB7.out.below hSw KB7.out.lt).cell 6; have c97 : w'.cell? ⟨b7, 7, none⟩ = some (.slice n7.wa.1.A n7.wa.1.n n7.wa.1.c) := (KB7.out.below hSw KB7.out.lt).cell 7; go_simp)) ?_
    try simp only [Act.put, sA, sB, sC]
    refine rdH [36] ?_
    refine AllReadyH.cons rfl (fun K hK => ?_) ?_
    ·go_simp
     refine (small11_any w32).mono ?_
     rintro _ w36 ⟨g6, rfl, ho6, b36⟩
     have HO6 := Lib.hid ho6
     have BX := Lib.hid (BX.out.trans (b36.mono BX.out.size))
     clear hHeld b36 ho6
     refine hK.out _ _ BX.out (fun hHeld => ?_)
     clear hK K
     try simp only [Act.put, sA, sB, sC]
     refine rdH [37] ?_
     refine AllReadyH.cons rfl (fun K hK => ?_) ?_
     ·go_simp
      refine (same11_any n7 (smallM g6) (by rw [HP7.out]; exact small_small) small_small w36 ((HR7.out.on BX.out).more BX.out.size) HO6.out.rd).mono ?_
      rintro _ w37 ⟨rfl, b37⟩
      rw [show decide (n7.pl = (smallM g6).pl) = true from decide_eq_true HP7.out]
      have BX := Lib.hid (BX.out.trans (b37.mono BX.out.size))
      clear hHeld b37
      refine hK.out _ _ BX.out (fun hHeld => ?_)
      clear hK K
      try simp only [Act.put, sA, sB, sC]
      refine tkv 38 (some 74) (.bool true) rfl rfl (fun w' hSw => by (try dsimp only at hSw); go_simp) ?_
      try simp only [Act.put, sA, sB, sC]
      refine tkv 39 (some 0) (.bool true) rfl rfl (fun w' hSw => by (try dsimp only at hSw); go_simp) ?_
      try simp only [Act.put, List.setIfInBounds_toArray, List.set_cons_zero]
      refine wpAnyH_done (by kernel_rfl) ?_ _
      refine NoPanic.normal ?_
      go_wp2_with fail
      go_ret
      exact ⟨rfl, HBW.out.trans (BX.out.mono HBW.out.size)⟩
     exact AllReadyH.nil
    exact AllReadyH.nil
   exact AllReadyH.nil
  exact AllReadyH.nil
 exact AllReadyH.nil
end Go.Proofs.YtlnbmmaminflcaaGreatDoor
namespace Go.Proofs.YtlnbmmaminflcaaGreatDoor
open Go.RowKit Go.Shelf

structure HBx (w X : World) (Bx : Nat) (h : HistM) : Prop where
 blk : Blk X Bx 28 h.cs
 own : HOwn w.heap.size X h
section
variable {w X Y : World} {Bx B : Nat} {h m : HistM} {H : Hist} {e : EvP}
theorem HBx.on (c : HBx w X Bx h) (hb : Below X.heap.size X Y) : HBx w Y Bx h := ⟨c.blk.below hb c.blk.lt, c.own.on hb⟩
theorem HBx.rd (c : HBx w X Bx h) : HRd X X.heap.size h := c.own.rd
theorem HBx.new (ho : HOwn B X h) (hB : w.heap.size ≤ B) (cs : Array Value) (hc : cs = h.cs) : HBx w (X.alloc (.cells cs 28)) X.heap.size h := by
 subst hc
 exact ⟨Blk.new _ _ _, (ho.on ((Below.refl _ _).alloc (Nat.le_refl _) _)).mono hB⟩
theorem HArg.on (a : HArg w m) (hb : Below w.heap.size w X) : HArg X m := ⟨a.rd.on_ hb, a.tr, a.se, a.ob, a.pr, a.ev, a.od, a.ma, a.wa, a.sc, a.ot, a.mt, a.z0, a.z1, a.z2, a.z3⟩
theorem HOwn.caps (ho : HOwn B X h) : (h.tr.1.n ≤ h.tr.1.c) ∧ (h.se.1.n ≤ h.se.1.c) ∧ (h.ob.1.n ≤ h.ob.1.c) ∧ h.pr.1.n ≤ h.pr.1.c := by
 have key : ∀ (k : Nat) (p : List Value × SH), (h.nms)[k]? = some p → p.2.n ≤ p.2.c := fun k p hp => by
  obtain ⟨A, c, e, h1, _⟩ := own_form2 (ho.nm.own k p hp)
  injection e with _ _ e3
  rw [e3]
  exact h1
 exact ⟨key 0 _ rfl, key 1 _ rfl, key 2 _ rfl, key 3 _ rfl⟩
theorem pl_lens (r : HRd X B h) : (h.pl.ev.length = h.ev.1.n ∧ h.pl.od.length = h.od.1.n ∧ h.pl.ma.length = h.ma.1.n ∧ h.pl.wa.length = h.wa.1.n) ∧ h.pl.tr.length = h.tr.1.n :=
 ⟨⟨(List.length_map ..).trans r.fit.ev.1, (List.length_map ..).trans r.fit.od.1, (List.length_map ..).trans r.fit.ma.1, r.fit.wa.1⟩, strs_len r.tr⟩
theorem ev_at (r : HRd X B h) {i : Nat} (he : h.pl.ev[i]? = some e) : ∃ (b o : Nat) (hd : SH), h.ev.1.A = some ⟨b, o, none⟩ ∧ b < B ∧ h.ev.2[i]? = some (e, hd) ∧ (∀ j u, (evCs (e, hd))[j]? = some u → X.cell? ⟨b, o + i * 9 + j, none⟩ = some u) ∧ e.scan.length = hd.n := by
 have he2 : (h.ev.2.map (·.1))[i]? = some e := he
 rw [List.getElem?_map] at he2
 obtain ⟨p, hp, hpe⟩ := Option.map_eq_some_iff.1 he2
 obtain ⟨b, o, hA, hb, hc⟩ := row_cells evCs_len (by omega) r.ev hp
 obtain ⟨p1, p2⟩ := p
 simp only at hpe
 subst hpe
 exact ⟨b, o, p2, hA, hb, hp, fun j u hu => by rw [Nat.add_assoc]; exact hc j u hu, (r.fit.sc _ (List.mem_of_getElem? hp)).1⟩
end
end Go.Proofs.YtlnbmmaminflcaaGreatDoor
