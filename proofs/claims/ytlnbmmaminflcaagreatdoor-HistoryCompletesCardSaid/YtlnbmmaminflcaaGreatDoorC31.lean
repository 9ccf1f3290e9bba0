/- Layer history: a history copied into memory of its own (copied): contract. -/
import Derived.Deep.CutRange
import Derived.Deep.DeepCutAuto
import Derived.Lib.AppendIntMem
import Derived.Maps.AppendAt
import Derived.Test.YtlnbmmaminflcaaGreatDoorC30
import Derived.Test.YtlnbmmaminflcaaGreatDoorC14
import Derived.Test.YtlnbmmaminflcaaGreatDoorC13
-- holds: YtlnbmmaminflcaaGreatDoorSIw
namespace Go.Proofs.YtlnbmmaminflcaaGreatDoor
open Go.RowKit Go.Shelf

def RestEq (h m : HistM) : Prop := h.ev.2 = m.ev.2 ∧ h.od.2 = m.od.2 ∧ h.ma.2 = m.ma.2 ∧ h.wa.2 = m.wa.2
def nilS : SH × List ByteArray := (⟨none, 0, 0⟩, [])
def PhA (m h : HistM) (k : Nat) : Prop := (∀ s, s < k → s < 4 → (h.sort s).2 = (m.sort s).2) ∧ (∀ s, k ≤ s → s < 4 → h.sort s = nilS) ∧ RestEq h m
def PhB (m h : HistM) (k j : Nat) : Prop := (∀ s, s < k → s < 4 → (h.sort s).2 = (m.sort s).2) ∧ ((h.sort k).2 = (m.sort k).2.take j ∧ (h.sort k).1.n = j) ∧ (∀ s, k < s → s < 4 → h.sort s = nilS) ∧ RestEq h m
def NamesEq (h m : HistM) : Prop := ∀ s, s < 4 → (h.sort s).2 = (m.sort s).2
section
variable {m h : HistM} {k j : Nat}
theorem PhA.start (hp : PhA m h k) (hk : k < 4) : PhB m h k 0 := ⟨hp.1, by rw [hp.2.1 k (Nat.le_refl _) hk]; exact ⟨by simp [nilS], rfl⟩, fun s hs h4 => hp.2.1 s (by omega) h4, hp.2.2⟩
theorem PhB.next (hp : PhB m h k j) (hk : k < 4) {s : ByteArray} (hs : (m.sort k).2[j]? = some s) {A : Option Addr} {c : Nat} : PhB m (setSort h k (⟨A, (h.sort k).1.n + [s].length, c⟩, (h.sort k).2 ++ [s])) k (j + 1) := by
 obtain ⟨e1, e2, e3, e4⟩ := set_rest (h := h) (x := ((⟨A, (h.sort k).1.n + [s].length, c⟩ : SH), (h.sort k).2 ++ [s])) hk
 refine ⟨fun q hq h4 => by rw [set_other hk h4 (by omega)]; exact hp.1 q hq h4, ?_, fun q hq h4 => by rw [set_other hk h4 (by omega)]; exact hp.2.2.1 q hq h4, ?_⟩
 ·rw [set_sort hk]
  refine ⟨?_, by simp [hp.2.1.2]⟩
  show (h.sort k).2 ++ [s] = _
  rw [hp.2.1.1, List.take_add_one, hs]
  rfl
 ·unfold RestEq
  rw [e1, e2, e3, e4]
  exact hp.2.2.2
theorem PhB.all (hp : PhB m h k j) (hk : k < 4) (hj : (m.sort k).2.length = j) : PhA m h (k + 1) := by
 refine ⟨fun q hq h4 => ?_, fun q hq h4 => hp.2.2.1 q (by omega) h4, hp.2.2.2⟩
 rcases Nat.lt_or_ge q k with h1 | h1
 ·exact hp.1 q h1 h4
 ·obtain rfl : q = k := by omega
  rw [hp.2.1.1, List.take_of_length_le (by omega)]
end
theorem nil_names {X : World} (B : Nat) : RG 9 1 B X [(strs [], ⟨none, 0, 0⟩), (strs [], ⟨none, 0, 0⟩), (strs [], ⟨none, 0, 0⟩), (strs [], ⟨none, 0, 0⟩)] := by
 have all : ∀ (i : Nat) (p : List Value × SH), [(strs [], (⟨none, 0, 0⟩ : SH)), (strs [], ⟨none, 0, 0⟩), (strs [], ⟨none, 0, 0⟩), (strs [], ⟨none, 0, 0⟩)][i]? = some p → p = (strs [], ⟨none, 0, 0⟩) := by
  intro i p hp
  have := List.mem_of_getElem? hp
  simpa using this
 exact ⟨fun i p hp => by rw [all i p hp]; exact World.ownsRow_nil _ _ _ _, fun i j p q hp hq hij g hg => by rw [all i p hp] at hg; cases hg⟩
theorem own_step {B R : Nat} {X : World} {h : HistM} {cs : Array Value} (ho : HOwn B X h) (hb : Blk X R 28 cs) (j : Nat) (u : Value) : HOwn B (X.setCell ⟨R, j, none⟩ u) h ∧ Blk (X.setCell ⟨R, j, none⟩ u) R 28 (cs.setIfInBounds j u) :=
 ⟨ho.keepT (box_turn hb j u) (by decide) (by decide) (by decide) (by decide) (by decide) (by decide) (by decide), hb.set_ j u⟩
theorem pl_all {m h : HistM} (hn : NamesEq h m) (hr : RestEq h m) (hl : h.ev.1.n = m.ev.1.n ∧ h.od.1.n = m.od.1.n ∧ h.ma.1.n = m.ma.1.n ∧ h.wa.1.n = m.wa.1.n) : PlL m h := by
 have h0 : h.tr.2 = m.tr.2 := hn 0 (by omega)
 have h1 : h.se.2 = m.se.2 := hn 1 (by omega)
 have h2 : h.ob.2 = m.ob.2 := hn 2 (by omega)
 have h3 : h.pr.2 = m.pr.2 := hn 3 (by omega)
 obtain ⟨r1, r2, r3, r4⟩ := hr
 refine ⟨?_, hl⟩
 unfold HistM.pl
 rw [h0, h1, h2, h3, r1, r2, r3, r4]
theorem nil_sort {s : Nat} (hs : s < 4) {a : SH × List (EvP × SH)} {b : SH × List (OrdP × SH)} {c : SH × List (MatP × SH)} {d : SH × List WantP} : HistM.sort ⟨nilS, nilS, nilS, nilS, a, b, c, d⟩ s = nilS := by
 have : s = 0 ∨ s = 1 ∨ s = 2 ∨ s = 3 := by omega
 rcases this with rfl | rfl | rfl | rfl <;> rfl
set_option maxRecDepth 100000 in
set_option maxHeartbeats 16000000 in
theorem copied_any (m : HistM) (hS : Small m.pl) (w : World) (hm : HRd w w.heap.size m) : Calls Tryz.prog 46 #[.agg #[.slice m.tr.1.A m.tr.1.n m.tr.1.c, .slice m.se.1.A m.se.1.n m.se.1.c, .slice m.ob.1.A m.ob.1.n m.ob.1.c, .slice m.pr.1.A m.pr.1.n m.pr.1.c, .slice m.ev.1.A m.ev.1.n m.ev.1.c, .slice m.od.1.A m.od.1.n m.od.1.c, .slice m.ma.1.A m.ma.1.n m.ma.1.c, .slice m.wa.1.A m.wa.1.n m.wa.1.c]] w fun e w' => ∃ n : HistM, e = .returned (.agg #[.slice n.tr.1.A n.tr.1.n n.tr.1.c, .slice n.se.1.A n.se.1.n n.se.1.c, .slice n.ob.1.A n.ob.1.n n.ob.1.c, .slice n.pr.1.A n.pr.1.n n.pr.1.c, .slice n.ev.1.A n.ev.1.n n.ev.1.c, .slice n.od.1.A n.od.1.n n.od.1.c, .slice n.ma.1.A n.ma.1.n n.ma.1.c, .slice n.wa.1.A n.wa.1.n n.wa.1.c]) ∧ HOwn w.heap.size w' n ∧ n.pl = m.pl ∧ Below w.heap.size w w' := by
 obtain ⟨i0, hi, hz0, hz1, hz2⟩ := info_parts str_info
 obtain ⟨kh, kr, b0, hs0⟩ := itwo w #[.slice m.tr.1.A m.tr.1.n m.tr.1.c, .slice m.se.1.A m.se.1.n m.se.1.c, .slice m.ob.1.A m.ob.1.n m.ob.1.c, .slice m.pr.1.A m.pr.1.n m.pr.1.c, .slice m.ev.1.A m.ev.1.n m.ev.1.c, .slice m.od.1.A m.od.1.n m.od.1.c, .slice m.ma.1.A m.ma.1.n m.ma.1.c, .slice m.wa.1.A m.wa.1.n m.wa.1.c] #[.slice none 0 0, .slice none 0 0, .slice none 0 0, .slice none 0 0, .slice none 0 0, .slice none 0 0, .slice none 0 0, .slice none 0 0] 28 28
 have KH := Lib.hid kh.drew
 have KR := Lib.hid kr.drew
 have BB := Lib.hid b0.drew
 have HLW := Lib.hid (hm.fit.low hS)
 clear kh kr b0 hs0
 go_enter Tryz.func46, Tryz.ntmps46
 go_upto_region 1 with fail
 obtain ⟨Bh, hBh⟩ : ∃ Bh, Bh = w.heap.size := ⟨_, rfl⟩
 have HBH : Hid (w.heap.size ≤ Bh) := by show _ ≤ _; omega
 have KH : Hid (Blk ((w.alloc (.cells #[.slice m.tr.1.A m.tr.1.n m.tr.1.c, .slice m.se.1.A m.se.1.n m.se.1.c, .slice m.ob.1.A m.ob.1.n m.ob.1.c, .slice m.pr.1.A m.pr.1.n m.pr.1.c, .slice m.ev.1.A m.ev.1.n m.ev.1.c, .slice m.od.1.A m.od.1.n m.od.1.c, .slice m.ma.1.A m.ma.1.n m.ma.1.c, .slice m.wa.1.A m.wa.1.n m.wa.1.c] 28)).alloc (.cells #[.slice none 0 0, .slice none 0 0, .slice none 0 0, .slice none 0 0, .slice none 0 0, .slice none 0 0, .slice none 0 0, .slice none 0 0] 28)).drew Bh 28 m.cs) := by rw [hBh]; exact KH.out
 have KR : Hid (Blk ((w.alloc (.cells #[.slice m.tr.1.A m.tr.1.n m.tr.1.c, .slice m.se.1.A m.se.1.n m.se.1.c, .slice m.ob.1.A m.ob.1.n m.ob.1.c, .slice m.pr.1.A m.pr.1.n m.pr.1.c, .slice m.ev.1.A m.ev.1.n m.ev.1.c, .slice m.od.1.A m.od.1.n m.od.1.c, .slice m.ma.1.A m.ma.1.n m.ma.1.c, .slice m.wa.1.A m.wa.1.n m.wa.1.c] 28)).alloc (.cells #[.slice none 0 0, .slice none 0 0, .slice none 0 0, .slice none 0 0, .slice none 0 0, .slice none 0 0, .slice none 0 0, .slice none 0 0] 28)).drew (Bh + 1) 28 zeroH) := by rw [hBh]; exact KR.out
 rw [← hBh]
 clear hBh
 go_cut [3] (fun s3 wx => ∃ (B3 : Nat) (h : HistM), s3 = .pointer (some ⟨B3, 0, none⟩) ∧ Hid (CpI Bh B3 w wx h [] []) ∧ Hid (Blk wx Bh 28 m.cs) ∧ Hid (PhA m h 0) ∧ Hid (h.ev.1.n = m.ev.1.n ∧ h.od.1.n = m.od.1.n ∧ h.ma.1.n = m.ma.1.n ∧ h.wa.1.n = m.wa.1.n))
 case first =>
  refine wp_region_noPanic ?_
  refine wp_region_held_drew (S := fun W => Blk W Bh 28 m.cs) (by kernel_rfl) KH.out (fun hHeld => ?_)
  generalize ((w.alloc (.cells #[.slice m.tr.1.A m.tr.1.n m.tr.1.c, .slice m.se.1.A m.se.1.n m.se.1.c, .slice m.ob.1.A m.ob.1.n m.ob.1.c, .slice m.pr.1.A m.pr.1.n m.pr.1.c, .slice m.ev.1.A m.ev.1.n m.ev.1.c, .slice m.od.1.A m.od.1.n m.od.1.c, .slice m.ma.1.A m.ma.1.n m.ma.1.c, .slice m.wa.1.A m.wa.1.n m.wa.1.c] 28)).alloc (.cells #[.slice none 0 0, .slice none 0 0, .slice none 0 0, .slice none 0 0, .slice none 0 0, .slice none 0 0, .slice none 0 0, .slice none 0 0] 28)).drew = wd at *
  refine tkv 0 (some 12) (.pointer (some ⟨Bh, 4, none⟩)) rfl rfl (fun w' hSw => by (try dsimp only at hSw); go_simp) ?_
  try simp only [Act.put, sA, sB, sC]
  refine tkv 1 (some 13) (.slice m.ev.1.A m.ev.1.n m.ev.1.c) rfl rfl (fun w' hSw => by (have c9 : w'.cell? ⟨Bh, 4, none⟩ = some (.slice m.ev.1.A m.ev.1.n m.ev.1.c) := Blk.cell (w := w') hSw 4; go_simp)) ?_
  try simp only [Act.put, sA, sB, sC]
  refine tkv 3 (some 15) (.pointer (some ⟨Bh, 5, none⟩)) rfl rfl (fun w' hSw => by (try dsimp only at hSw); go_simp) ?_
  try simp only [Act.put, sA, sB, sC]
  refine tkv 4 (some 16) (.slice m.od.1.A m.od.1.n m.od.1.c) rfl rfl (fun w' hSw => by (have c9 : w'.cell? ⟨Bh, 5, none⟩ = some (.slice m.od.1.A m.od.1.n m.od.1.c) := Blk.cell (w := w') hSw 5; go_simp)) ?_
  try simp only [Act.put, sA, sB, sC]
  refine tkv 6 (some 18) (.pointer (some ⟨Bh, 6, none⟩)) rfl rfl (fun w' hSw => by (try dsimp only at hSw); go_simp) ?_
  try simp only [Act.put, sA, sB, sC]
  refine tkv 7 (some 19) (.slice m.ma.1.A m.ma.1.n m.ma.1.c) rfl rfl (fun w' hSw => by (have c9 : w'.cell? ⟨Bh, 6, none⟩ = some (.slice m.ma.1.A m.ma.1.n m.ma.1.c) := Blk.cell (w := w') hSw 6; go_simp)) ?_
  try simp only [Act.put, sA, sB, sC]
  refine tkv 9 (some 21) (.pointer (some ⟨Bh, 7, none⟩)) rfl rfl (fun w' hSw => by (try dsimp only at hSw); go_simp) ?_
  try simp only [Act.put, sA, sB, sC]
  refine tkv 10 (some 22) (.slice m.wa.1.A m.wa.1.n m.wa.1.c) rfl rfl (fun w' hSw => by (have c9 : w'.cell? ⟨Bh, 7, none⟩ = some (.slice m.wa.1.A m.wa.1.n m.wa.1.c) := Blk.cell (w := w') hSw 7; go_simp)) ?_
  try simp only [Act.put, sA, sB, sC]
  refine wpAnyH_ready (rs := [2, 13]) (by kernel_rfl) (by simp) ?_
  refine AllReadyH.cons rfl (fun K hK => ?_) ?_
  ·skip
   go_simp
   refine (clone_ev m.ev.1.A m.ev.1.n m.ev.1.c m.ev.2 (by have := HLW.out.ev; omega) wd ((hm.ev.below BB.out).more BB.out.size)).mono ?_
   rintro e u4 ⟨A4, c4, rfl, ho, hb⟩
   have KH := Lib.hid (KH.out.below hb KH.out.lt)
   have KR := Lib.hid (KR.out.below hb KR.out.lt)
   have O4 := Lib.hid (own_mono ho BB.out.size)
   have BB := Lib.hid (BB.out.trans (hb.mono BB.out.size))
   clear ho hb hHeld
   go_simp
   refine hK.out _ _ KH.out (fun hHeld => ?_)
   clear hK K
   try simp only [Act.put, sA, sB, sC]
   refine wpAnyH_ready (rs := [5, 13]) (by kernel_rfl) (by simp) ?_
   refine AllReadyH.cons rfl (fun K hK => ?_) ?_
   ·skip
    go_simp
    refine (clone_od m.od.1.A m.od.1.n m.od.1.c m.od.2 (by have := HLW.out.od; omega) u4 ((hm.od.below BB.out).more BB.out.size)).mono ?_
    rintro e u5 ⟨A5, c5, rfl, ho, hb⟩
    have KH := Lib.hid (KH.out.below hb KH.out.lt)
    have KR := Lib.hid (KR.out.below hb KR.out.lt)
    have O4 := Lib.hid (own_on O4.out hb)
    have O5 := Lib.hid (own_mono ho BB.out.size)
    have BB := Lib.hid (BB.out.trans (hb.mono BB.out.size))
    clear ho hb hHeld
    go_simp
    refine hK.out _ _ KH.out (fun hHeld => ?_)
    clear hK K
    try simp only [Act.put, sA, sB, sC]
    refine wpAnyH_ready (rs := [8, 13]) (by kernel_rfl) (by simp) ?_
    refine AllReadyH.cons rfl (fun K hK => ?_) ?_
    ·skip
     go_simp
     refine (clone_ma m.ma.1.A m.ma.1.n m.ma.1.c m.ma.2 (by have := HLW.out.ma; omega) u5 ((hm.ma.below BB.out).more BB.out.size)).mono ?_
     rintro e u6 ⟨A6, c6, rfl, ho, hb⟩
     have KH := Lib.hid (KH.out.below hb KH.out.lt)
     have KR := Lib.hid (KR.out.below hb KR.out.lt)
     have O4 := Lib.hid (own_on O4.out hb)
     have O5 := Lib.hid (own_on O5.out hb)
     have O6 := Lib.hid (own_mono ho BB.out.size)
     have BB := Lib.hid (BB.out.trans (hb.mono BB.out.size))
     clear ho hb hHeld
     go_simp
     refine hK.out _ _ KH.out (fun hHeld => ?_)
     clear hK K
     try simp only [Act.put, sA, sB, sC]
     refine wpAnyH_ready (rs := [11, 13]) (by kernel_rfl) (by simp) ?_
     refine AllReadyH.cons rfl (fun K hK => ?_) ?_
     ·skip
      go_simp
      refine (clone_wa m.wa.1.A m.wa.1.n m.wa.1.c m.wa.2 (by have := HLW.out.wa; omega) u6 ((hm.wa.below BB.out).more BB.out.size)).mono ?_
      rintro e u7 ⟨A7, c7, rfl, ho, hb⟩
      have KH := Lib.hid (KH.out.below hb KH.out.lt)
      have KR := Lib.hid (KR.out.below hb KR.out.lt)
      have O4 := Lib.hid (own_on O4.out hb)
      have O5 := Lib.hid (own_on O5.out hb)
      have O6 := Lib.hid (own_on O6.out hb)
      have O7 := Lib.hid (own_mono ho BB.out.size)
      have BB := Lib.hid (BB.out.trans (hb.mono BB.out.size))
      clear ho hb hHeld
      go_simp
      refine hK.out _ _ KH.out (fun hHeld => ?_)
      clear hK K
      try simp only [Act.put, sA, sB, sC]
      refine tkv 12 (some 24) (.agg #[.slice none 0 0, .slice none 0 0, .slice none 0 0, .slice none 0 0, .slice A4 m.ev.1.n c4, .slice A5 m.od.1.n c5, .slice A6 m.ma.1.n c6, .slice A7 m.wa.1.n c7]) rfl rfl (fun w' hSw => by (try dsimp only at hSw); go_simp) ?_
      try simp only [Act.put, sA, sB, sC]
      refine wpAnyH_ready (rs := [13]) (by kernel_rfl) (by simp) ?_
      refine AllReadyH.cons rfl (fun K hK => ?_) ?_
      ·skip
       go_simp
       refine hK.out _ _ (KH.out.alloc _) (fun hHeld => ?_)
       clear hK K
       try simp only [Act.put, sA, sB, sC]
       have KHLT := KH.out.lt
       have KRLT := KR.out.lt
       have hbx : Below u7.heap.size u7 (u7.alloc (.cells #[.slice none 0 0, .slice none 0 0, .slice none 0 0, .slice none 0 0, .slice none 0 0, .slice none 0 0, .slice none 0 0, .slice none 0 0] 28)) := (Below.refl _ _).alloc (Nat.le_refl _) _
       have KH := Lib.hid (KH.out.below hbx KH.out.lt)
       have KR := Lib.hid (KR.out.below hbx KR.out.lt)
       have O4 := Lib.hid (own_on O4.out hbx)
       have O5 := Lib.hid (own_on O5.out hbx)
       have O6 := Lib.hid (own_on O6.out hbx)
       have O7 := Lib.hid (own_on O7.out hbx)
       have KG : Hid (Blk (u7.alloc (.cells #[.slice none 0 0, .slice none 0 0, .slice none 0 0, .slice none 0 0, .slice none 0 0, .slice none 0 0, .slice none 0 0, .slice none 0 0] 28)) u7.heap.size 28 #[.slice none 0 0, .slice none 0 0, .slice none 0 0, .slice none 0 0, .slice none 0 0, .slice none 0 0, .slice none 0 0, .slice none 0 0]) := Blk.new _ _ _
       have HGE : Hid (w.heap.size ≤ u7.heap.size) := BB.out.size
       have BB := Lib.hid (BB.out.trans (hbx.mono BB.out.size))
       clear hbx hHeld
       generalize u7.alloc (.cells #[.slice none 0 0, .slice none 0 0, .slice none 0 0, .slice none 0 0, .slice none 0 0, .slice none 0 0, .slice none 0 0, .slice none 0 0] 28) = ua at *
       generalize u7.heap.size = g at *
       have HGN : Hid (g ≠ Bh ∧ g ≠ Bh + 1) := ⟨Ne.symm (Nat.ne_of_lt KHLT), Ne.symm (Nat.ne_of_lt KRLT)⟩
       clear KHLT KRLT
       have hHeld := KH.out
       refine wpAnyH_ready (rs := [14]) (by kernel_rfl) (by simp) ?_
       refine AllReadyH.cons (o := { dst := none, op := Op.store 28 (Operand.tmp 3) (Operand.tmp 24), type := 0, pos := "rows.go:125", after := #[{ on := 13, ground := Ground.data }, { on := 12, ground := Ground.data }, { on := 11, ground := Ground.chain }, { on := 0, ground := Ground.phase }, { on := 1, ground := Ground.phase }, { on := 2, ground := Ground.phase }, { on := 3, ground := Ground.phase }, { on := 4, ground := Ground.phase }, { on := 5, ground := Ground.phase }, { on := 6, ground := Ground.phase }, { on := 7, ground := Ground.phase }, { on := 8, ground := Ground.phase }, { on := 9, ground := Ground.phase }, { on := 10, ground := Ground.phase }, { on := 11, ground := Ground.phase }, { on := 12, ground := Ground.phase }, { on := 13, ground := Ground.phase }], guard := none }) rfl (fun K hK => ?_) ?_
       ·skip
        have y0 := KG.out.cell 0
        have f0 := KG.out.frozen 0
        have y1 := KG.out.cell 1
        have f1 := KG.out.frozen 1
        have y2 := KG.out.cell 2
        have f2 := KG.out.frozen 2
        have y3 := KG.out.cell 3
        have f3 := KG.out.frozen 3
        have y4 := KG.out.cell 4
        have f4 := KG.out.frozen 4
        have y5 := KG.out.cell 5
        have f5 := KG.out.frozen 5
        have y6 := KG.out.cell 6
        have f6 := KG.out.frozen 6
        have y7 := KG.out.cell 7
        have f7 := KG.out.frozen 7
        go_simp
        clear hHeld
        refine hK.out _ _ (Keep.blk (((((((((Keep.refl (fun j => j ≠ g) ua).set (.inr fun h => h rfl) 0 (.slice none 0 0)).set (.inr fun h => h rfl) 1 (.slice none 0 0)).set (.inr fun h => h rfl) 2 (.slice none 0 0)).set (.inr fun h => h rfl) 3 (.slice none 0 0)).set (.inr fun h => h rfl) 4 (.slice A4 m.ev.1.n c4)).set (.inr fun h => h rfl) 5 (.slice A5 m.od.1.n c5)).set (.inr fun h => h rfl) 6 (.slice A6 m.ma.1.n c6)).set (.inr fun h => h rfl) 7 (.slice A7 m.wa.1.n c7)) KH.out (Ne.symm HGN.out.1)) (fun hHeld => ?_)
        clear hK K
        try simp only [Act.put, sA, sB, sC]
        have HKP := Lib.hid (((((((((Keep.refl (fun j => j ≠ g) ua).set (.inr fun h => h rfl) 0 (.slice none 0 0)).set (.inr fun h => h rfl) 1 (.slice none 0 0)).set (.inr fun h => h rfl) 2 (.slice none 0 0)).set (.inr fun h => h rfl) 3 (.slice none 0 0)).set (.inr fun h => h rfl) 4 (.slice A4 m.ev.1.n c4)).set (.inr fun h => h rfl) 5 (.slice A5 m.od.1.n c5)).set (.inr fun h => h rfl) 6 (.slice A6 m.ma.1.n c6)).set (.inr fun h => h rfl) 7 (.slice A7 m.wa.1.n c7))
        have BB := Lib.hid ((((((((((((((((BB.out).setCell (p := ⟨g, 0, none⟩) HGE.out (.slice none 0 0))).setCell (p := ⟨g, 1, none⟩) HGE.out (.slice none 0 0))).setCell (p := ⟨g, 2, none⟩) HGE.out (.slice none 0 0))).setCell (p := ⟨g, 3, none⟩) HGE.out (.slice none 0 0))).setCell (p := ⟨g, 4, none⟩) HGE.out (.slice A4 m.ev.1.n c4))).setCell (p := ⟨g, 5, none⟩) HGE.out (.slice A5 m.od.1.n c5))).setCell (p := ⟨g, 6, none⟩) HGE.out (.slice A6 m.ma.1.n c6))).setCell (p := ⟨g, 7, none⟩) HGE.out (.slice A7 m.wa.1.n c7))
        have kf := (((((((KG.out.set_ 0 (.slice none 0 0)).set_ 1 (.slice none 0 0)).set_ 2 (.slice none 0 0)).set_ 3 (.slice none 0 0)).set_ 4 (.slice A4 m.ev.1.n c4)).set_ 5 (.slice A5 m.od.1.n c5)).set_ 6 (.slice A6 m.ma.1.n c6)).set_ 7 (.slice A7 m.wa.1.n c7)
        simp at kf
        have KF := Lib.hid kf
        clear kf hHeld y0 f0 y1 f1 y2 f2 y3 f3 y4 f4 y5 f5 y6 f6 y7 f7
        generalize ((((((((ua.setCell ⟨g, 0, none⟩ (.slice none 0 0)).setCell ⟨g, 1, none⟩ (.slice none 0 0)).setCell ⟨g, 2, none⟩ (.slice none 0 0)).setCell ⟨g, 3, none⟩ (.slice none 0 0)).setCell ⟨g, 4, none⟩ (.slice A4 m.ev.1.n c4)).setCell ⟨g, 5, none⟩ (.slice A5 m.od.1.n c5)).setCell ⟨g, 6, none⟩ (.slice A6 m.ma.1.n c6)).setCell ⟨g, 7, none⟩ (.slice A7 m.wa.1.n c7)) = uF at *
        have O4 := Lib.hid (HKP.out.own O4.out fun q hq e => own_blk_ne O4.out KG.out (by decide) (by rw [hq, e]))
        have O5 := Lib.hid (HKP.out.own O5.out fun q hq e => own_blk_ne O5.out KG.out (by decide) (by rw [hq, e]))
        have O6 := Lib.hid (HKP.out.own O6.out fun q hq e => own_blk_ne O6.out KG.out (by decide) (by rw [hq, e]))
        have O7 := Lib.hid (HKP.out.own O7.out fun q hq e => own_blk_ne O7.out KG.out (by decide) (by rw [hq, e]))
        have KH := Lib.hid (HKP.out.blk KH.out (Ne.symm HGN.out.1))
        have KR := Lib.hid (HKP.out.blk KR.out (Ne.symm HGN.out.2))
        refine wpAnyH_done (by kernel_rfl) ?_ _
        refine NoPanic.normal ?_
        go_wp2_with fail
        go_meet
        exact ⟨g, ⟨nilS, nilS, nilS, nilS, (⟨A4, m.ev.1.n, c4⟩, m.ev.2), (⟨A5, m.od.1.n, c5⟩, m.od.2), (⟨A6, m.ma.1.n, c6⟩, m.ma.2), (⟨A7, m.wa.1.n, c7⟩, m.wa.2)⟩, rfl, ⟨BB.out, KF.out, KR.out, ⟨HGN.out.1, HGN.out.2, HGE.out, HBH.out⟩, nil_names _, O4.out, O5.out, O6.out, O7.out, RG.nil, RG.nil⟩, KH.out, ⟨fun s hs => absurd hs (Nat.not_lt_zero _), fun s _ h4 => nil_sort h4, rfl, rfl, rfl, rfl⟩, ⟨rfl, rfl, rfl, rfl⟩⟩
       exact AllReadyH.nil
      exact AllReadyH.nil
     refine AllReadyH.cons rfl (fun K hK => ?_) ?_
     ·skip
      go_simp
      refine hK.out _ _ (KH.out.alloc _) (fun hHeld => ?_)
      clear hK K
      try simp only [Act.put, sA, sB, sC]
      have KHLT := KH.out.lt
      have KRLT := KR.out.lt
      have hbx : Below u6.heap.size u6 (u6.alloc (.cells #[.slice none 0 0, .slice none 0 0, .slice none 0 0, .slice none 0 0, .slice none 0 0, .slice none 0 0, .slice none 0 0, .slice none 0 0] 28)) := (Below.refl _ _).alloc (Nat.le_refl _) _
      have KH := Lib.hid (KH.out.below hbx KH.out.lt)
      have KR := Lib.hid (KR.out.below hbx KR.out.lt)
      have O4 := Lib.hid (own_on O4.out hbx)
      have O5 := Lib.hid (own_on O5.out hbx)
      have O6 := Lib.hid (own_on O6.out hbx)
      have KG : Hid (Blk (u6.alloc (.cells #[.slice none 0 0, .slice none 0 0, .slice none 0 0, .slice none 0 0, .slice none 0 0, .slice none 0 0, .slice none 0 0, .slice none 0 0] 28)) u6.heap.size 28 #[.slice none 0 0, .slice none 0 0, .slice none 0 0, .slice none 0 0, .slice none 0 0, .slice none 0 0, .slice none 0 0, .slice none 0 0]) := Blk.new _ _ _
      have HGE : Hid (w.heap.size ≤ u6.heap.size) := BB.out.size
      have BB := Lib.hid (BB.out.trans (hbx.mono BB.out.size))
      clear hbx hHeld
      generalize u6.alloc (.cells #[.slice none 0 0, .slice none 0 0, .slice none 0 0, .slice none 0 0, .slice none 0 0, .slice none 0 0, .slice none 0 0, .slice none 0 0] 28) = ua at *
      generalize u6.heap.size = g at *
      have HGN : Hid (g ≠ Bh ∧ g ≠ Bh + 1) := ⟨Ne.symm (Nat.ne_of_lt KHLT), Ne.symm (Nat.ne_of_lt KRLT)⟩
      clear KHLT KRLT
      have hHeld := KH.out
      refine wpAnyH_ready (rs := [11]) (by kernel_rfl) (by simp) ?_
      refine AllReadyH.cons rfl (fun K hK => ?_) ?_
      ·skip
       go_simp
       refine (clone_wa m.wa.1.A m.wa.1.n m.wa.1.c m.wa.2 (by have := HLW.out.wa; omega) ua ((hm.wa.below BB.out).more BB.out.size)).mono ?_
       rintro e u7 ⟨A7, c7, rfl, ho, hb⟩
       have KH := Lib.hid (KH.out.below hb KH.out.lt)
       have KR := Lib.hid (KR.out.below hb KR.out.lt)
       have O4 := Lib.hid (own_on O4.out hb)
       have O5 := Lib.hid (own_on O5.out hb)
       have O6 := Lib.hid (own_on O6.out hb)
       have KG := Lib.hid (KG.out.below hb KG.out.lt)
       have O7 := Lib.hid (own_mono ho BB.out.size)
       have BB := Lib.hid (BB.out.trans (hb.mono BB.out.size))
       clear ho hb hHeld
       go_simp
       refine hK.out _ _ KH.out (fun hHeld => ?_)
       clear hK K
       try simp only [Act.put, sA, sB, sC]
       refine tkv 12 (some 24) (.agg #[.slice none 0 0, .slice none 0 0, .slice none 0 0, .slice none 0 0, .slice A4 m.ev.1.n c4, .slice A5 m.od.1.n c5, .slice A6 m.ma.1.n c6, .slice A7 m.wa.1.n c7]) rfl rfl (fun w' hSw => by (try dsimp only at hSw); go_simp) ?_
       try simp only [Act.put, sA, sB, sC]
       refine wpAnyH_ready (rs := [14]) (by kernel_rfl) (by simp) ?_
       refine AllReadyH.cons (o := { dst := none, op := Op.store 28 (Operand.tmp 3) (Operand.tmp 24), type := 0, pos := "rows.go:125", after := #[{ on := 13, ground := Ground.data }, { on := 12, ground := Ground.data }, { on := 11, ground := Ground.chain }, { on := 0, ground := Ground.phase }, { on := 1, ground := Ground.phase }, { on := 2, ground := Ground.phase }, { on := 3, ground := Ground.phase }, { on := 4, ground := Ground.phase }, { on := 5, ground := Ground.phase }, { on := 6, ground := Ground.phase }, { on := 7, ground := Ground.phase }, { on := 8, ground := Ground.phase }, { on := 9, ground := Ground.phase }, { on := 10, ground := Ground.phase }, { on := 11, ground := Ground.phase }, { on := 12, ground := Ground.phase }, { on := 13, ground := Ground.phase }], guard := none }) rfl (fun K hK => ?_) ?_
       ·skip
        have y0 := KG.out.cell 0
        have f0 := KG.out.frozen 0
        have y1 := KG.out.cell 1
        have f1 := KG.out.frozen 1
        have y2 := KG.out.cell 2
        have f2 := KG.out.frozen 2
        have y3 := KG.out.cell 3
        have f3 := KG.out.frozen 3
        have y4 := KG.out.cell 4
        have f4 := KG.out.frozen 4
        have y5 := KG.out.cell 5
        have f5 := KG.out.frozen 5
        have y6 := KG.out.cell 6
        have f6 := KG.out.frozen 6
        have y7 := KG.out.cell 7
        have f7 := KG.out.frozen 7
        go_simp
        clear hHeld
        refine hK.out _ _ (Keep.blk (((((((((Keep.refl (fun j => j ≠ g) u7).set (.inr fun h => h rfl) 0 (.slice none 0 0)).set (.inr fun h => h rfl) 1 (.slice none 0 0)).set (.inr fun h => h rfl) 2 (.slice none 0 0)).set (.inr fun h => h rfl) 3 (.slice none 0 0)).set (.inr fun h => h rfl) 4 (.slice A4 m.ev.1.n c4)).set (.inr fun h => h rfl) 5 (.slice A5 m.od.1.n c5)).set (.inr fun h => h rfl) 6 (.slice A6 m.ma.1.n c6)).set (.inr fun h => h rfl) 7 (.slice A7 m.wa.1.n c7)) KH.out (Ne.symm HGN.out.1)) (fun hHeld => ?_)
        clear hK K
        try simp only [Act.put, sA, sB, sC]
        have HKP := Lib.hid (((((((((Keep.refl (fun j => j ≠ g) u7).set (.inr fun h => h rfl) 0 (.slice none 0 0)).set (.inr fun h => h rfl) 1 (.slice none 0 0)).set (.inr fun h => h rfl) 2 (.slice none 0 0)).set (.inr fun h => h rfl) 3 (.slice none 0 0)).set (.inr fun h => h rfl) 4 (.slice A4 m.ev.1.n c4)).set (.inr fun h => h rfl) 5 (.slice A5 m.od.1.n c5)).set (.inr fun h => h rfl) 6 (.slice A6 m.ma.1.n c6)).set (.inr fun h => h rfl) 7 (.slice A7 m.wa.1.n c7))
        have BB := Lib.hid ((((((((((((((((BB.out).setCell (p := ⟨g, 0, none⟩) HGE.out (.slice none 0 0))).setCell (p := ⟨g, 1, none⟩) HGE.out (.slice none 0 0))).setCell (p := ⟨g, 2, none⟩) HGE.out (.slice none 0 0))).setCell (p := ⟨g, 3, none⟩) HGE.out (.slice none 0 0))).setCell (p := ⟨g, 4, none⟩) HGE.out (.slice A4 m.ev.1.n c4))).setCell (p := ⟨g, 5, none⟩) HGE.out (.slice A5 m.od.1.n c5))).setCell (p := ⟨g, 6, none⟩) HGE.out (.slice A6 m.ma.1.n c6))).setCell (p := ⟨g, 7, none⟩) HGE.out (.slice A7 m.wa.1.n c7))
        have kf := (((((((KG.out.set_ 0 (.slice none 0 0)).set_ 1 (.slice none 0 0)).set_ 2 (.slice none 0 0)).set_ 3 (.slice none 0 0)).set_ 4 (.slice A4 m.ev.1.n c4)).set_ 5 (.slice A5 m.od.1.n c5)).set_ 6 (.slice A6 m.ma.1.n c6)).set_ 7 (.slice A7 m.wa.1.n c7)
        simp at kf
        have KF := Lib.hid kf
        clear kf hHeld y0 f0 y1 f1 y2 f2 y3 f3 y4 f4 y5 f5 y6 f6 y7 f7
        generalize ((((((((u7.setCell ⟨g, 0, none⟩ (.slice none 0 0)).setCell ⟨g, 1, none⟩ (.slice none 0 0)).setCell ⟨g, 2, none⟩ (.slice none 0 0)).setCell ⟨g, 3, none⟩ (.slice none 0 0)).setCell ⟨g, 4, none⟩ (.slice A4 m.ev.1.n c4)).setCell ⟨g, 5, none⟩ (.slice A5 m.od.1.n c5)).setCell ⟨g, 6, none⟩ (.slice A6 m.ma.1.n c6)).setCell ⟨g, 7, none⟩ (.slice A7 m.wa.1.n c7)) = uF at *
        have O4 := Lib.hid (HKP.out.own O4.out fun q hq e => own_blk_ne O4.out KG.out (by decide) (by rw [hq, e]))
        have O5 := Lib.hid (HKP.out.own O5.out fun q hq e => own_blk_ne O5.out KG.out (by decide) (by rw [hq, e]))
        have O6 := Lib.hid (HKP.out.own O6.out fun q hq e => own_blk_ne O6.out KG.out (by decide) (by rw [hq, e]))
        have O7 := Lib.hid (HKP.out.own O7.out fun q hq e => own_blk_ne O7.out KG.out (by decide) (by rw [hq, e]))
        have KH := Lib.hid (HKP.out.blk KH.out (Ne.symm HGN.out.1))
        have KR := Lib.hid (HKP.out.blk KR.out (Ne.symm HGN.out.2))
        refine wpAnyH_done (by kernel_rfl) ?_ _
        refine NoPanic.normal ?_
        go_wp2_with fail
        go_meet
        exact ⟨g, ⟨nilS, nilS, nilS, nilS, (⟨A4, m.ev.1.n, c4⟩, m.ev.2), (⟨A5, m.od.1.n, c5⟩, m.od.2), (⟨A6, m.ma.1.n, c6⟩, m.ma.2), (⟨A7, m.wa.1.n, c7⟩, m.wa.2)⟩, rfl, ⟨BB.out, KF.out, KR.out, ⟨HGN.out.1, HGN.out.2, HGE.out, HBH.out⟩, nil_names _, O4.out, O5.out, O6.out, O7.out, RG.nil, RG.nil⟩, KH.out, ⟨fun s hs => absurd hs (Nat.not_lt_zero _), fun s _ h4 => nil_sort h4, rfl, rfl, rfl, rfl⟩, ⟨rfl, rfl, rfl, rfl⟩⟩
       exact AllReadyH.nil
      exact AllReadyH.nil
     exact AllReadyH.nil
    refine AllReadyH.cons rfl (fun K hK => ?_) ?_
    ·skip
     go_simp
     refine hK.out _ _ (KH.out.alloc _) (fun hHeld => ?_)
     clear hK K
     try simp only [Act.put, sA, sB, sC]
     have KHLT := KH.out.lt
     have KRLT := KR.out.lt
     have hbx : Below u5.heap.size u5 (u5.alloc (.cells #[.slice none 0 0, .slice none 0 0, .slice none 0 0, .slice none 0 0, .slice none 0 0, .slice none 0 0, .slice none 0 0, .slice none 0 0] 28)) := (Below.refl _ _).alloc (Nat.le_refl _) _
     have KH := Lib.hid (KH.out.below hbx KH.out.lt)
     have KR := Lib.hid (KR.out.below hbx KR.out.lt)
     have O4 := Lib.hid (own_on O4.out hbx)
     have O5 := Lib.hid (own_on O5.out hbx)
     have KG : Hid (Blk (u5.alloc (.cells #[.slice none 0 0, .slice none 0 0, .slice none 0 0, .slice none 0 0, .slice none 0 0, .slice none 0 0, .slice none 0 0, .slice none 0 0] 28)) u5.heap.size 28 #[.slice none 0 0, .slice none 0 0, .slice none 0 0, .slice none 0 0, .slice none 0 0, .slice none 0 0, .slice none 0 0, .slice none 0 0]) := Blk.new _ _ _
     have HGE : Hid (w.heap.size ≤ u5.heap.size) := BB.out.size
     have BB := Lib.hid (BB.out.trans (hbx.mono BB.out.size))
     clear hbx hHeld
     generalize u5.alloc (.cells #[.slice none 0 0, .slice none 0 0, .slice none 0 0, .slice none 0 0, .slice none 0 0, .slice none 0 0, .slice none 0 0, .slice none 0 0] 28) = ua at *
     generalize u5.heap.size = g at *
     have HGN : Hid (g ≠ Bh ∧ g ≠ Bh + 1) := ⟨Ne.symm (Nat.ne_of_lt KHLT), Ne.symm (Nat.ne_of_lt KRLT)⟩
     clear KHLT KRLT
     have hHeld := KH.out
     refine wpAnyH_ready (rs := [8]) (by kernel_rfl) (by simp) ?_
     refine AllReadyH.cons rfl (fun K hK => ?_) ?_
     ·skip
      go_simp
      refine (clone_ma m.ma.1.A m.ma.1.n m.ma.1.c m.ma.2 (by have := HLW.out.ma; omega) ua ((hm.ma.below BB.out).more BB.out.size)).mono ?_
      rintro e u6 ⟨A6, c6, rfl, ho, hb⟩
      have KH := Lib.hid (KH.out.below hb KH.out.lt)
      have KR := Lib.hid (KR.out.below hb KR.out.lt)
      have O4 := Lib.hid (own_on O4.out hb)
      have O5 := Lib.hid (own_on O5.out hb)
      have KG := Lib.hid (KG.out.below hb KG.out.lt)
      have O6 := Lib.hid (own_mono ho BB.out.size)
      have BB := Lib.hid (BB.out.trans (hb.mono BB.out.size))
      clear ho hb hHeld
      go_simp
      refine hK.out _ _ KH.out (fun hHeld => ?_)
      clear hK K
      try simp only [Act.put, sA, sB, sC]
      refine wpAnyH_ready (rs := [11]) (by kernel_rfl) (by simp) ?_
      refine AllReadyH.cons rfl (fun K hK => ?_) ?_
      ·skip
       go_simp
       refine (clone_wa m.wa.1.A m.wa.1.n m.wa.1.c m.wa.2 (by have := HLW.out.wa; omega) u6 ((hm.wa.below BB.out).more BB.out.size)).mono ?_
       rintro e u7 ⟨A7, c7, rfl, ho, hb⟩
       have KH := Lib.hid (KH.out.below hb KH.out.lt)
       have KR := Lib.hid (KR.out.below hb KR.out.lt)
       have O4 := Lib.hid (own_on O4.out hb)
       have O5 := Lib.hid (own_on O5.out hb)
       have O6 := Lib.hid (own_on O6.out hb)
       have KG := Lib.hid (KG.out.below hb KG.out.lt)
       have O7 := Lib.hid (own_mono ho BB.out.size)
       have BB := Lib.hid (BB.out.trans (hb.mono BB.out.size))
       clear ho hb hHeld
       go_simp
       refine hK.out _ _ KH.out (fun hHeld => ?_)
       clear hK K
       try simp only [Act.put, sA, sB, sC]
       refine tkv 12 (some 24) (.agg #[.slice none 0 0, .slice none 0 0, .slice none 0 0, .slice none 0 0, .slice A4 m.ev.1.n c4, .slice A5 m.od.1.n c5, .slice A6 m.ma.1.n c6, .slice A7 m.wa.1.n c7]) rfl rfl (fun w' hSw => by (try dsimp only at hSw); go_simp) ?_
       try simp only [Act.put, sA, sB, sC]
       refine wpAnyH_ready (rs := [14]) (by kernel_rfl) (by simp) ?_
       refine AllReadyH.cons (o := { dst := none, op := Op.store 28 (Operand.tmp 3) (Operand.tmp 24), type := 0, pos := "rows.go:125", after := #[{ on := 13, ground := Ground.data }, { on := 12, ground := Ground.data }, { on := 11, ground := Ground.chain }, { on := 0, ground := Ground.phase }, { on := 1, ground := Ground.phase }, { on := 2, ground := Ground.phase }, { on := 3, ground := Ground.phase }, { on := 4, ground := Ground.phase }, { on := 5, ground := Ground.phase }, { on := 6, ground := Ground.phase }, { on := 7, ground := Ground.phase }, { on := 8, ground := Ground.phase }, { on := 9, ground := Ground.phase }, { on := 10, ground := Ground.phase }, { on := 11, ground := Ground.phase }, { on := 12, ground := Ground.phase }, { on := 13, ground := Ground.phase }], guard := none }) rfl (fun K hK => ?_) ?_
       ·skip
        have y0 := KG.out.cell 0
        have f0 := KG.out.frozen 0
        have y1 := KG.out.cell 1
        have f1 := KG.out.frozen 1
        have y2 := KG.out.cell 2
        have f2 := KG.out.frozen 2
        have y3 := KG.out.cell 3
        have f3 := KG.out.frozen 3
        have y4 := KG.out.cell 4
        have f4 := KG.out.frozen 4
        have y5 := KG.out.cell 5
        have f5 := KG.out.frozen 5
        have y6 := KG.out.cell 6
        have f6 := KG.out.frozen 6
        have y7 := KG.out.cell 7
        have f7 := KG.out.frozen 7
        go_simp
        clear hHeld
        refine hK.out _ _ (Keep.blk (((((((((Keep.refl (fun j => j ≠ g) u7).set (.inr fun h => h rfl) 0 (.slice none 0 0)).set (.inr fun h => h rfl) 1 (.slice none 0 0)).set (.inr fun h => h rfl) 2 (.slice none 0 0)).set (.inr fun h => h rfl) 3 (.slice none 0 0)).set (.inr fun h => h rfl) 4 (.slice A4 m.ev.1.n c4)).set (.inr fun h => h rfl) 5 (.slice A5 m.od.1.n c5)).set (.inr fun h => h rfl) 6 (.slice A6 m.ma.1.n c6)).set (.inr fun h => h rfl) 7 (.slice A7 m.wa.1.n c7)) KH.out (Ne.symm HGN.out.1)) (fun hHeld => ?_)
        clear hK K
        try simp only [Act.put, sA, sB, sC]
        have HKP := Lib.hid (((((((((Keep.refl (fun j => j ≠ g) u7).set (.inr fun h => h rfl) 0 (.slice none 0 0)).set (.inr fun h => h rfl) 1 (.slice none 0 0)).set (.inr fun h => h rfl) 2 (.slice none 0 0)).set (.inr fun h => h rfl) 3 (.slice none 0 0)).set (.inr fun h => h rfl) 4 (.slice A4 m.ev.1.n c4)).set (.inr fun h => h rfl) 5 (.slice A5 m.od.1.n c5)).set (.inr fun h => h rfl) 6 (.slice A6 m.ma.1.n c6)).set (.inr fun h => h rfl) 7 (.slice A7 m.wa.1.n c7))
        have BB := Lib.hid ((((((((((((((((BB.out).setCell (p := ⟨g, 0, none⟩) HGE.out (.slice none 0 0))).setCell (p := ⟨g, 1, none⟩) HGE.out (.slice none 0 0))).setCell (p := ⟨g, 2, none⟩) HGE.out (.slice none 0 0))).setCell (p := ⟨g, 3, none⟩) HGE.out (.slice none 0 0))).setCell (p := ⟨g, 4, none⟩) HGE.out (.slice A4 m.ev.1.n c4))).setCell (p := ⟨g, 5, none⟩) HGE.out (.slice A5 m.od.1.n c5))).setCell (p := ⟨g, 6, none⟩) HGE.out (.slice A6 m.ma.1.n c6))).setCell (p := ⟨g, 7, none⟩) HGE.out (.slice A7 m.wa.1.n c7))
        have kf := (((((((KG.out.set_ 0 (.slice none 0 0)).set_ 1 (.slice none 0 0)).set_ 2 (.slice none 0 0)).set_ 3 (.slice none 0 0)).set_ 4 (.slice A4 m.ev.1.n c4)).set_ 5 (.slice A5 m.od.1.n c5)).set_ 6 (.slice A6 m.ma.1.n c6)).set_ 7 (.slice A7 m.wa.1.n c7)
        simp at kf
        have KF := Lib.hid kf
        clear kf hHeld y0 f0 y1 f1 y2 f2 y3 f3 y4 f4 y5 f5 y6 f6 y7 f7
        generalize ((((((((u7.setCell ⟨g, 0, none⟩ (.slice none 0 0)).setCell ⟨g, 1, none⟩ (.slice none 0 0)).setCell ⟨g, 2, none⟩ (.slice none 0 0)).setCell ⟨g, 3, none⟩ (.slice none 0 0)).setCell ⟨g, 4, none⟩ (.slice A4 m.ev.1.n c4)).setCell ⟨g, 5, none⟩ (.slice A5 m.od.1.n c5)).setCell ⟨g, 6, none⟩ (.slice A6 m.ma.1.n c6)).setCell ⟨g, 7, none⟩ (.slice A7 m.wa.1.n c7)) = uF at *
        have O4 := Lib.hid (HKP.out.own O4.out fun q hq e => own_blk_ne O4.out KG.out (by decide) (by rw [hq, e]))
        have O5 := Lib.hid (HKP.out.own O5.out fun q hq e => own_blk_ne O5.out KG.out (by decide) (by rw [hq, e]))
        have O6 := Lib.hid (HKP.out.own O6.out fun q hq e => own_blk_ne O6.out KG.out (by decide) (by rw [hq, e]))
        have O7 := Lib.hid (HKP.out.own O7.out fun q hq e => own_blk_ne O7.out KG.out (by decide) (by rw [hq, e]))
        have KH := Lib.hid (HKP.out.blk KH.out (Ne.symm HGN.out.1))
        have KR := Lib.hid (HKP.out.blk KR.out (Ne.symm HGN.out.2))
        refine wpAnyH_done (by kernel_rfl) ?_ _
        refine NoPanic.normal ?_
        go_wp2_with fail
        go_meet
        exact ⟨g, ⟨nilS, nilS, nilS, nilS, (⟨A4, m.ev.1.n, c4⟩, m.ev.2), (⟨A5, m.od.1.n, c5⟩, m.od.2), (⟨A6, m.ma.1.n, c6⟩, m.ma.2), (⟨A7, m.wa.1.n, c7⟩, m.wa.2)⟩, rfl, ⟨BB.out, KF.out, KR.out, ⟨HGN.out.1, HGN.out.2, HGE.out, HBH.out⟩, nil_names _, O4.out, O5.out, O6.out, O7.out, RG.nil, RG.nil⟩, KH.out, ⟨fun s hs => absurd hs (Nat.not_lt_zero _), fun s _ h4 => nil_sort h4, rfl, rfl, rfl, rfl⟩, ⟨rfl, rfl, rfl, rfl⟩⟩
       exact AllReadyH.nil
      exact AllReadyH.nil
     exact AllReadyH.nil
    exact AllReadyH.nil
   refine AllReadyH.cons rfl (fun K hK => ?_) ?_
   ·skip
    go_simp
    refine hK.out _ _ (KH.out.alloc _) (fun hHeld => ?_)
    clear hK K
    try simp only [Act.put, sA, sB, sC]
    have KHLT := KH.out.lt
    have KRLT := KR.out.lt
    have hbx : Below u4.heap.size u4 (u4.alloc (.cells #[.slice none 0 0, .slice none 0 0, .slice none 0 0, .slice none 0 0, .slice none 0 0, .slice none 0 0, .slice none 0 0, .slice none 0 0] 28)) := (Below.refl _ _).alloc (Nat.le_refl _) _
    have KH := Lib.hid (KH.out.below hbx KH.out.lt)
    have KR := Lib.hid (KR.out.below hbx KR.out.lt)
    have O4 := Lib.hid (own_on O4.out hbx)
    have KG : Hid (Blk (u4.alloc (.cells #[.slice none 0 0, .slice none 0 0, .slice none 0 0, .slice none 0 0, .slice none 0 0, .slice none 0 0, .slice none 0 0, .slice none 0 0] 28)) u4.heap.size 28 #[.slice none 0 0, .slice none 0 0, .slice none 0 0, .slice none 0 0, .slice none 0 0, .slice none 0 0, .slice none 0 0, .slice none 0 0]) := Blk.new _ _ _
    have HGE : Hid (w.heap.size ≤ u4.heap.size) := BB.out.size
    have BB := Lib.hid (BB.out.trans (hbx.mono BB.out.size))
    clear hbx hHeld
    generalize u4.alloc (.cells #[.slice none 0 0, .slice none 0 0, .slice none 0 0, .slice none 0 0, .slice none 0 0, .slice none 0 0, .slice none 0 0, .slice none 0 0] 28) = ua at *
    generalize u4.heap.size = g at *
    have HGN : Hid (g ≠ Bh ∧ g ≠ Bh + 1) := ⟨Ne.symm (Nat.ne_of_lt KHLT), Ne.symm (Nat.ne_of_lt KRLT)⟩
    clear KHLT KRLT
    have hHeld := KH.out
    refine wpAnyH_ready (rs := [5]) (by kernel_rfl) (by simp) ?_
    refine AllReadyH.cons rfl (fun K hK => ?_) ?_
    ·skip
     go_simp
     refine (clone_od m.od.1.A m.od.1.n m.od.1.c m.od.2 (by have := HLW.out.od; omega) ua ((hm.od.below BB.out).more BB.out.size)).mono ?_
     rintro e u5 ⟨A5, c5, rfl, ho, hb⟩
     have KH := Lib.hid (KH.out.below hb KH.out.lt)
     have KR := Lib.hid (KR.out.below hb KR.out.lt)
     have O4 := Lib.hid (own_on O4.out hb)
     have KG := Lib.hid (KG.out.below hb KG.out.lt)
     have O5 := Lib.hid (own_mono ho BB.out.size)
     have BB := Lib.hid (BB.out.trans (hb.mono BB.out.size))
     clear ho hb hHeld
     go_simp
     refine hK.out _ _ KH.out (fun hHeld => ?_)
     clear hK K
     try simp only [Act.put, sA, sB, sC]
     refine wpAnyH_ready (rs := [8]) (by kernel_rfl) (by simp) ?_
     refine AllReadyH.cons rfl (fun K hK => ?_) ?_
     ·skip
      go_simp
      refine (clone_ma m.ma.1.A m.ma.1.n m.ma.1.c m.ma.2 (by have := HLW.out.ma; omega) u5 ((hm.ma.below BB.out).more BB.out.size)).mono ?_
      rintro e u6 ⟨A6, c6, rfl, ho, hb⟩
      have KH := Lib.hid (KH.out.below hb KH.out.lt)
      have KR := Lib.hid (KR.out.below hb KR.out.lt)
      have O4 := Lib.hid (own_on O4.out hb)
      have O5 := Lib.hid (own_on O5.out hb)
      have KG := Lib.hid (KG.out.below hb KG.out.lt)
      have O6 := Lib.hid (own_mono ho BB.out.size)
      have BB := Lib.hid (BB.out.trans (hb.mono BB.out.size))
      clear ho hb hHeld
      go_simp
      refine hK.out _ _ KH.out (fun hHeld => ?_)
      clear hK K
      try simp only [Act.put, sA, sB, sC]
      refine wpAnyH_ready (rs := [11]) (by kernel_rfl) (by simp) ?_
      refine AllReadyH.cons rfl (fun K hK => ?_) ?_
      ·skip
       go_simp
       refine (clone_wa m.wa.1.A m.wa.1.n m.wa.1.c m.wa.2 (by have := HLW.out.wa; omega) u6 ((hm.wa.below BB.out).more BB.out.size)).mono ?_
       rintro e u7 ⟨A7, c7, rfl, ho, hb⟩
       have KH := Lib.hid (KH.out.below hb KH.out.lt)
       have KR := Lib.hid (KR.out.below hb KR.out.lt)
       have O4 := Lib.hid (own_on O4.out hb)
       have O5 := Lib.hid (own_on O5.out hb)
       have O6 := Lib.hid (own_on O6.out hb)
       have KG := Lib.hid (KG.out.below hb KG.out.lt)
       have O7 := Lib.hid (own_mono ho BB.out.size)
       have BB := Lib.hid (BB.out.trans (hb.mono BB.out.size))
       clear ho hb hHeld
       go_simp
       refine hK.out _ _ KH.out (fun hHeld => ?_)
       clear hK K
       try simp only [Act.put, sA, sB, sC]
       refine tkv 12 (some 24) (.agg #[.slice none 0 0, .slice none 0 0, .slice none 0 0, .slice none 0 0, .slice A4 m.ev.1.n c4, .slice A5 m.od.1.n c5, .slice A6 m.ma.1.n c6, .slice A7 m.wa.1.n c7]) rfl rfl (fun w' hSw => by (try dsimp only at hSw); go_simp) ?_
       try simp only [Act.put, sA, sB, sC]
       refine wpAnyH_ready (rs := [14]) (by kernel_rfl) (by simp) ?_
       refine AllReadyH.cons (o := { dst := none, op := Op.store 28 (Operand.tmp 3) (Operand.tmp 24), type := 0, pos := "rows.go:125", after := #[{ on := 13, ground := Ground.data }, { on := 12, ground := Ground.data }, { on := 11, ground := Ground.chain }, { on := 0, ground := Ground.phase }, { on := 1, ground := Ground.phase }, { on := 2, ground := Ground.phase }, { on := 3, ground := Ground.phase }, { on := 4, ground := Ground.phase }, { on := 5, ground := Ground.phase }, { on := 6, ground := Ground.phase }, { on := 7, ground := Ground.phase }, { on := 8, ground := Ground.phase }, { on := 9, ground := Ground.phase }, { on := 10, ground := Ground.phase }, { on := 11, ground := Ground.phase }, { on := 12, ground := Ground.phase }, { on := 13, ground := Ground.phase }], guard := none }) rfl (fun K hK => ?_) ?_
       ·skip
        have y0 := KG.out.cell 0
        have f0 := KG.out.frozen 0
        have y1 := KG.out.cell 1
        have f1 := KG.out.frozen 1
        have y2 := KG.out.cell 2
        have f2 := KG.out.frozen 2
        have y3 := KG.out.cell 3
        have f3 := KG.out.frozen 3
        have y4 := KG.out.cell 4
        have f4 := KG.out.frozen 4
        have y5 := KG.out.cell 5
        have f5 := KG.out.frozen 5
        have y6 := KG.out.cell 6
        have f6 := KG.out.frozen 6
        have y7 := KG.out.cell 7
        have f7 := KG.out.frozen 7
        go_simp
        clear hHeld
        refine hK.out _ _ (Keep.blk (((((((((Keep.refl (fun j => j ≠ g) u7).set (.inr fun h => h rfl) 0 (.slice none 0 0)).set (.inr fun h => h rfl) 1 (.slice none 0 0)).set (.inr fun h => h rfl) 2 (.slice none 0 0)).set (.inr fun h => h rfl) 3 (.slice none 0 0)).set (.inr fun h => h rfl) 4 (.slice A4 m.ev.1.n c4)).set (.inr fun h => h rfl) 5 (.slice A5 m.od.1.n c5)).set (.inr fun h => h rfl) 6 (.slice A6 m.ma.1.n c6)).set (.inr fun h => h rfl) 7 (.slice A7 m.wa.1.n c7)) KH.out (Ne.symm HGN.out.1)) (fun hHeld => ?_)
        clear hK K
        try simp only [Act.put, sA, sB, sC]
        have HKP := Lib.hid (((((((((Keep.refl (fun j => j ≠ g) u7).set (.inr fun h => h rfl) 0 (.slice none 0 0)).set (.inr fun h => h rfl) 1 (.slice none 0 0)).set (.inr fun h => h rfl) 2 (.slice none 0 0)).set (.inr fun h => h rfl) 3 (.slice none 0 0)).set (.inr fun h => h rfl) 4 (.slice A4 m.ev.1.n c4)).set (.inr fun h => h rfl) 5 (.slice A5 m.od.1.n c5)).set (.inr fun h => h rfl) 6 (.slice A6 m.ma.1.n c6)).set (.inr fun h => h rfl) 7 (.slice A7 m.wa.1.n c7))
        have BB := Lib.hid ((((((((((((((((BB.out).setCell (p := ⟨g, 0, none⟩) HGE.out (.slice none 0 0))).setCell (p := ⟨g, 1, none⟩) HGE.out (.slice none 0 0))).setCell (p := ⟨g, 2, none⟩) HGE.out (.slice none 0 0))).setCell (p := ⟨g, 3, none⟩) HGE.out (.slice none 0 0))).setCell (p := ⟨g, 4, none⟩) HGE.out (.slice A4 m.ev.1.n c4))).setCell (p := ⟨g, 5, none⟩) HGE.out (.slice A5 m.od.1.n c5))).setCell (p := ⟨g, 6, none⟩) HGE.out (.slice A6 m.ma.1.n c6))).setCell (p := ⟨g, 7, none⟩) HGE.out (.slice A7 m.wa.1.n c7))
        have kf := (((((((KG.out.set_ 0 (.slice none 0 0)).set_ 1 (.slice none 0 0)).set_ 2 (.slice none 0 0)).set_ 3 (.slice none 0 0)).set_ 4 (.slice A4 m.ev.1.n c4)).set_ 5 (.slice A5 m.od.1.n c5)).set_ 6 (.slice A6 m.ma.1.n c6)).set_ 7 (.slice A7 m.wa.1.n c7)
        simp at kf
        have KF := Lib.hid kf
        clear kf hHeld y0 f0 y1 f1 y2 f2 y3 f3 y4 f4 y5 f5 y6 f6 y7 f7
        generalize ((((((((u7.setCell ⟨g, 0, none⟩ (.slice none 0 0)).setCell ⟨g, 1, none⟩ (.slice none 0 0)).setCell ⟨g, 2, none⟩ (.slice none 0 0)).setCell ⟨g, 3, none⟩ (.slice none 0 0)).setCell ⟨g, 4, none⟩ (.slice A4 m.ev.1.n c4)).setCell ⟨g, 5, none⟩ (.slice A5 m.od.1.n c5)).setCell ⟨g, 6, none⟩ (.slice A6 m.ma.1.n c6)).setCell ⟨g, 7, none⟩ (.slice A7 m.wa.1.n c7)) = uF at *
        have O4 := Lib.hid (HKP.out.own O4.out fun q hq e => own_blk_ne O4.out KG.out (by decide) (by rw [hq, e]))
        have O5 := Lib.hid (HKP.out.own O5.out fun q hq e => own_blk_ne O5.out KG.out (by decide) (by rw [hq, e]))
        have O6 := Lib.hid (HKP.out.own O6.out fun q hq e => own_blk_ne O6.out KG.out (by decide) (by rw [hq, e]))
        have O7 := Lib.hid (HKP.out.own O7.out fun q hq e => own_blk_ne O7.out KG.out (by decide) (by rw [hq, e]))
        have KH := Lib.hid (HKP.out.blk KH.out (Ne.symm HGN.out.1))
        have KR := Lib.hid (HKP.out.blk KR.out (Ne.symm HGN.out.2))
        refine wpAnyH_done (by kernel_rfl) ?_ _
        refine NoPanic.normal ?_
        go_wp2_with fail
        go_meet
        exact ⟨g, ⟨nilS, nilS, nilS, nilS, (⟨A4, m.ev.1.n, c4⟩, m.ev.2), (⟨A5, m.od.1.n, c5⟩, m.od.2), (⟨A6, m.ma.1.n, c6⟩, m.ma.2), (⟨A7, m.wa.1.n, c7⟩, m.wa.2)⟩, rfl, ⟨BB.out, KF.out, KR.out, ⟨HGN.out.1, HGN.out.2, HGE.out, HBH.out⟩, nil_names _, O4.out, O5.out, O6.out, O7.out, RG.nil, RG.nil⟩, KH.out, ⟨fun s hs => absurd hs (Nat.not_lt_zero _), fun s _ h4 => nil_sort h4, rfl, rfl, rfl, rfl⟩, ⟨rfl, rfl, rfl, rfl⟩⟩
       exact AllReadyH.nil
      exact AllReadyH.nil
     exact AllReadyH.nil
    exact AllReadyH.nil
   exact AllReadyH.nil
  refine AllReadyH.cons rfl (fun K hK => ?_) ?_
  ·skip
   go_simp
   refine hK.out _ _ (KH.out.alloc _) (fun hHeld => ?_)
   clear hK K
   try simp only [Act.put, sA, sB, sC]
   have KHLT := KH.out.lt
   have KRLT := KR.out.lt
   have hbx : Below wd.heap.size wd (wd.alloc (.cells #[.slice none 0 0, .slice none 0 0, .slice none 0 0, .slice none 0 0, .slice none 0 0, .slice none 0 0, .slice none 0 0, .slice none 0 0] 28)) := (Below.refl _ _).alloc (Nat.le_refl _) _
   have KH := Lib.hid (KH.out.below hbx KH.out.lt)
   have KR := Lib.hid (KR.out.below hbx KR.out.lt)
   have KG : Hid (Blk (wd.alloc (.cells #[.slice none 0 0, .slice none 0 0, .slice none 0 0, .slice none 0 0, .slice none 0 0, .slice none 0 0, .slice none 0 0, .slice none 0 0] 28)) wd.heap.size 28 #[.slice none 0 0, .slice none 0 0, .slice none 0 0, .slice none 0 0, .slice none 0 0, .slice none 0 0, .slice none 0 0, .slice none 0 0]) := Blk.new _ _ _
   have HGE : Hid (w.heap.size ≤ wd.heap.size) := BB.out.size
   have BB := Lib.hid (BB.out.trans (hbx.mono BB.out.size))
   clear hbx hHeld
   generalize wd.alloc (.cells #[.slice none 0 0, .slice none 0 0, .slice none 0 0, .slice none 0 0, .slice none 0 0, .slice none 0 0, .slice none 0 0, .slice none 0 0] 28) = ua at *
   generalize wd.heap.size = g at *
   have HGN : Hid (g ≠ Bh ∧ g ≠ Bh + 1) := ⟨Ne.symm (Nat.ne_of_lt KHLT), Ne.symm (Nat.ne_of_lt KRLT)⟩
   clear KHLT KRLT
   have hHeld := KH.out
   refine wpAnyH_ready (rs := [2]) (by kernel_rfl) (by simp) ?_
   refine AllReadyH.cons rfl (fun K hK => ?_) ?_
   ·skip
    go_simp
    refine (clone_ev m.ev.1.A m.ev.1.n m.ev.1.c m.ev.2 (by have := HLW.out.ev; omega) ua ((hm.ev.below BB.out).more BB.out.size)).mono ?_
    rintro e u4 ⟨A4, c4, rfl, ho, hb⟩
    have KH := Lib.hid (KH.out.below hb KH.out.lt)
    have KR := Lib.hid (KR.out.below hb KR.out.lt)
    have KG := Lib.hid (KG.out.below hb KG.out.lt)
    have O4 := Lib.hid (own_mono ho BB.out.size)
    have BB := Lib.hid (BB.out.trans (hb.mono BB.out.size))
    clear ho hb hHeld
    go_simp
    refine hK.out _ _ KH.out (fun hHeld => ?_)
    clear hK K
    try simp only [Act.put, sA, sB, sC]
    refine wpAnyH_ready (rs := [5]) (by kernel_rfl) (by simp) ?_
    refine AllReadyH.cons rfl (fun K hK => ?_) ?_
    ·skip
     go_simp
     refine (clone_od m.od.1.A m.od.1.n m.od.1.c m.od.2 (by have := HLW.out.od; omega) u4 ((hm.od.below BB.out).more BB.out.size)).mono ?_
     rintro e u5 ⟨A5, c5, rfl, ho, hb⟩
     have KH := Lib.hid (KH.out.below hb KH.out.lt)
     have KR := Lib.hid (KR.out.below hb KR.out.lt)
     have O4 := Lib.hid (own_on O4.out hb)
     have KG := Lib.hid (KG.out.below hb KG.out.lt)
     have O5 := Lib.hid (own_mono ho BB.out.size)
     have BB := Lib.hid (BB.out.trans (hb.mono BB.out.size))
     clear ho hb hHeld
     go_simp
     refine hK.out _ _ KH.out (fun hHeld => ?_)
     clear hK K
     try simp only [Act.put, sA, sB, sC]
     refine wpAnyH_ready (rs := [8]) (by kernel_rfl) (by simp) ?_
     refine AllReadyH.cons rfl (fun K hK => ?_) ?_
     ·skip
      go_simp
      refine (clone_ma m.ma.1.A m.ma.1.n m.ma.1.c m.ma.2 (by have := HLW.out.ma; omega) u5 ((hm.ma.below BB.out).more BB.out.size)).mono ?_
      rintro e u6 ⟨A6, c6, rfl, ho, hb⟩
      have KH := Lib.hid (KH.out.below hb KH.out.lt)
      have KR := Lib.hid (KR.out.below hb KR.out.lt)
      have O4 := Lib.hid (own_on O4.out hb)
      have O5 := Lib.hid (own_on O5.out hb)
      have KG := Lib.hid (KG.out.below hb KG.out.lt)
      have O6 := Lib.hid (own_mono ho BB.out.size)
      have BB := Lib.hid (BB.out.trans (hb.mono BB.out.size))
      clear ho hb hHeld
      go_simp
      refine hK.out _ _ KH.out (fun hHeld => ?_)
      clear hK K
      try simp only [Act.put, sA, sB, sC]
      refine wpAnyH_ready (rs := [11]) (by kernel_rfl) (by simp) ?_
      refine AllReadyH.cons rfl (fun K hK => ?_) ?_
      ·skip
       go_simp
       refine (clone_wa m.wa.1.A m.wa.1.n m.wa.1.c m.wa.2 (by have := HLW.out.wa; omega) u6 ((hm.wa.below BB.out).more BB.out.size)).mono ?_
       rintro e u7 ⟨A7, c7, rfl, ho, hb⟩
       have KH := Lib.hid (KH.out.below hb KH.out.lt)
       have KR := Lib.hid (KR.out.below hb KR.out.lt)
       have O4 := Lib.hid (own_on O4.out hb)
       have O5 := Lib.hid (own_on O5.out hb)
       have O6 := Lib.hid (own_on O6.out hb)
       have KG := Lib.hid (KG.out.below hb KG.out.lt)
       have O7 := Lib.hid (own_mono ho BB.out.size)
       have BB := Lib.hid (BB.out.trans (hb.mono BB.out.size))
       clear ho hb hHeld
       go_simp
       refine hK.out _ _ KH.out (fun hHeld => ?_)
       clear hK K
       try simp only [Act.put, sA, sB, sC]
       refine tkv 12 (some 24) (.agg #[.slice none 0 0, .slice none 0 0, .slice none 0 0, .slice none 0 0, .slice A4 m.ev.1.n c4, .slice A5 m.od.1.n c5, .slice A6 m.ma.1.n c6, .slice A7 m.wa.1.n c7]) rfl rfl (fun w' hSw => by (try dsimp only at hSw); go_simp) ?_
       try simp only [Act.put, sA, sB, sC]
       refine wpAnyH_ready (rs := [14]) (by kernel_rfl) (by simp) ?_
       refine AllReadyH.cons (o := { dst := none, op := Op.store 28 (Operand.tmp 3) (Operand.tmp 24), type := 0, pos := "rows.go:125", after := #[{ on := 13, ground := Ground.data }, { on := 12, ground := Ground.data }, { on := 11, ground := Ground.chain }, { on := 0, ground := Ground.phase }, { on := 1, ground := Ground.phase }, { on := 2, ground := Ground.phase }, { on := 3, ground := Ground.phase }, { on := 4, ground := Ground.phase }, { on := 5, ground := Ground.phase }, { on := 6, ground := Ground.phase }, { on := 7, ground := Ground.phase }, { on := 8, ground := Ground.phase }, { on := 9, ground := Ground.phase }, { on := 10, ground := Ground.phase }, { on := 11, ground := Ground.phase }, { on := 12, ground := Ground.phase }, { on := 13, ground := Ground.phase }], guard := none }) rfl (fun K hK => ?_) ?_
       ·skip
        have y0 := KG.out.cell 0
        have f0 := KG.out.frozen 0
        have y1 := KG.out.cell 1
        have f1 := KG.out.frozen 1
        have y2 := KG.out.cell 2
        have f2 := KG.out.frozen 2
        have y3 := KG.out.cell 3
        have f3 := KG.out.frozen 3
        have y4 := KG.out.cell 4
        have f4 := KG.out.frozen 4
        have y5 := KG.out.cell 5
        have f5 := KG.out.frozen 5
        have y6 := KG.out.cell 6
        have f6 := KG.out.frozen 6
        have y7 := KG.out.cell 7
        have f7 := KG.out.frozen 7
        go_simp
        clear hHeld
        refine hK.out _ _ (Keep.blk (((((((((Keep.refl (fun j => j ≠ g) u7).set (.inr fun h => h rfl) 0 (.slice none 0 0)).set (.inr fun h => h rfl) 1 (.slice none 0 0)).set (.inr fun h => h rfl) 2 (.slice none 0 0)).set (.inr fun h => h rfl) 3 (.slice none 0 0)).set (.inr fun h => h rfl) 4 (.slice A4 m.ev.1.n c4)).set (.inr fun h => h rfl) 5 (.slice A5 m.od.1.n c5)).set (.inr fun h => h rfl) 6 (.slice A6 m.ma.1.n c6)).set (.inr fun h => h rfl) 7 (.slice A7 m.wa.1.n c7)) KH.out (Ne.symm HGN.out.1)) (fun hHeld => ?_)
        clear hK K
        try simp only [Act.put, sA, sB, sC]
        have HKP := Lib.hid (((((((((Keep.refl (fun j => j ≠ g) u7).set (.inr fun h => h rfl) 0 (.slice none 0 0)).set (.inr fun h => h rfl) 1 (.slice none 0 0)).set (.inr fun h => h rfl) 2 (.slice none 0 0)).set (.inr fun h => h rfl) 3 (.slice none 0 0)).set (.inr fun h => h rfl) 4 (.slice A4 m.ev.1.n c4)).set (.inr fun h => h rfl) 5 (.slice A5 m.od.1.n c5)).set (.inr fun h => h rfl) 6 (.slice A6 m.ma.1.n c6)).set (.inr fun h => h rfl) 7 (.slice A7 m.wa.1.n c7))
        have BB := Lib.hid ((((((((((((((((BB.out).setCell (p := ⟨g, 0, none⟩) HGE.out (.slice none 0 0))).setCell (p := ⟨g, 1, none⟩) HGE.out (.slice none 0 0))).setCell (p := ⟨g, 2, none⟩) HGE.out (.slice none 0 0))).setCell (p := ⟨g, 3, none⟩) HGE.out (.slice none 0 0))).setCell (p := ⟨g, 4, none⟩) HGE.out (.slice A4 m.ev.1.n c4))).setCell (p := ⟨g, 5, none⟩) HGE.out (.slice A5 m.od.1.n c5))).setCell (p := ⟨g, 6, none⟩) HGE.out (.slice A6 m.ma.1.n c6))).setCell (p := ⟨g, 7, none⟩) HGE.out (.slice A7 m.wa.1.n c7))
        have kf := (((((((KG.out.set_ 0 (.slice none 0 0)).set_ 1 (.slice none 0 0)).set_ 2 (.slice none 0 0)).set_ 3 (.slice none 0 0)).set_ 4 (.slice A4 m.ev.1.n c4)).set_ 5 (.slice A5 m.od.1.n c5)).set_ 6 (.slice A6 m.ma.1.n c6)).set_ 7 (.slice A7 m.wa.1.n c7)
        simp at kf
        have KF := Lib.hid kf
        clear kf hHeld y0 f0 y1 f1 y2 f2 y3 f3 y4 f4 y5 f5 y6 f6 y7 f7
        generalize ((((((((u7.setCell ⟨g, 0, none⟩ (.slice none 0 0)).setCell ⟨g, 1, none⟩ (.slice none 0 0)).setCell ⟨g, 2, none⟩ (.slice none 0 0)).setCell ⟨g, 3, none⟩ (.slice none 0 0)).setCell ⟨g, 4, none⟩ (.slice A4 m.ev.1.n c4)).setCell ⟨g, 5, none⟩ (.slice A5 m.od.1.n c5)).setCell ⟨g, 6, none⟩ (.slice A6 m.ma.1.n c6)).setCell ⟨g, 7, none⟩ (.slice A7 m.wa.1.n c7)) = uF at *
        have O4 := Lib.hid (HKP.out.own O4.out fun q hq e => own_blk_ne O4.out KG.out (by decide) (by rw [hq, e]))
        have O5 := Lib.hid (HKP.out.own O5.out fun q hq e => own_blk_ne O5.out KG.out (by decide) (by rw [hq, e]))
        have O6 := Lib.hid (HKP.out.own O6.out fun q hq e => own_blk_ne O6.out KG.out (by decide) (by rw [hq, e]))
        have O7 := Lib.hid (HKP.out.own O7.out fun q hq e => own_blk_ne O7.out KG.out (by decide) (by rw [hq, e]))
        have KH := Lib.hid (HKP.out.blk KH.out (Ne.symm HGN.out.1))
        have KR := Lib.hid (HKP.out.blk KR.out (Ne.symm HGN.out.2))
        refine wpAnyH_done (by kernel_rfl) ?_ _
        refine NoPanic.normal ?_
        go_wp2_with fail
        go_meet
        exact ⟨g, ⟨nilS, nilS, nilS, nilS, (⟨A4, m.ev.1.n, c4⟩, m.ev.2), (⟨A5, m.od.1.n, c5⟩, m.od.2), (⟨A6, m.ma.1.n, c6⟩, m.ma.2), (⟨A7, m.wa.1.n, c7⟩, m.wa.2)⟩, rfl, ⟨BB.out, KF.out, KR.out, ⟨HGN.out.1, HGN.out.2, HGE.out, HBH.out⟩, nil_names _, O4.out, O5.out, O6.out, O7.out, RG.nil, RG.nil⟩, KH.out, ⟨fun s hs => absurd hs (Nat.not_lt_zero _), fun s _ h4 => nil_sort h4, rfl, rfl, rfl, rfl⟩, ⟨rfl, rfl, rfl, rfl⟩⟩
       exact AllReadyH.nil
      exact AllReadyH.nil
     exact AllReadyH.nil
    exact AllReadyH.nil
   exact AllReadyH.nil
  exact AllReadyH.nil
 case rest =>
  clear KH KR BB
  obtain ⟨B3, h, rfl, HC, KH, HP, HNS⟩ := hcut
  go_wp2_with fail
  refine (names_any B3 wc).mono ?_
  rintro e w1 ⟨rfl, b1⟩
  obtain ⟨k4, b4, hs4⟩ := ibox w1 #[.pointer (some ⟨B3, 0, none⟩), .pointer (some ⟨B3, 1, none⟩), .pointer (some ⟨B3, 2, none⟩), .pointer (some ⟨B3, 3, none⟩)] 75
  have bb := b1.trans (b4.mono b1.size)
  have HC := Lib.hid (HC.out.on bb)
  have HX : Hid (BoxC m Bh B3 w1.heap.size (w1.alloc (.cells #[.pointer (some ⟨B3, 0, none⟩), .pointer (some ⟨B3, 1, none⟩), .pointer (some ⟨B3, 2, none⟩), .pointer (some ⟨B3, 3, none⟩)] 75))) := ⟨KH.out.below bb KH.out.lt, k4⟩
  clear b1 k4 b4 hs4 bb KH
  go_wp2_with fail
  generalize w1.alloc (.cells #[.pointer (some ⟨B3, 0, none⟩), .pointer (some ⟨B3, 1, none⟩), .pointer (some ⟨B3, 2, none⟩), .pointer (some ⟨B3, 3, none⟩)] 75) = W1 at *
  generalize w1.heap.size = B4 at *
  refine (names_any Bh W1).mono ?_
  rintro e w2 ⟨rfl, b2⟩
  have HC := Lib.hid (HC.out.on b2)
  have HX := Lib.hid (HX.out.on b2)
  clear b2
  go_wp2_with fail
  go_loopw [27] (fun v wr => ∃ (k : Nat) (h : HistM), k ≤ 4 ∧ v = .int .i64 k ∧ Hid (CpI Bh B3 w wr h [] []) ∧ Hid (PhA m h k) ∧ Hid (BoxC m Bh B3 B4 wr) ∧ Hid (h.ev.1.n = m.ev.1.n ∧ h.od.1.n = m.od.1.n ∧ h.ma.1.n = m.ma.1.n ∧ h.wa.1.n = m.wa.1.n)) (fun v _ => 4 - (intOf v).toNat)
  case atStart => exact ⟨0, h, by omega, rfl, HC, HP, HX, HNS⟩
  case round =>
   clear HC HP HX HNS
   obtain ⟨k, h, hk, rfl, HC, HP, HX, HNS⟩ := hrel
   have h5 : k = 0 ∨ k = 1 ∨ k = 2 ∨ k = 3 ∨ k = 4 := by omega
   clear hk
   rcases h5 with rfl | rfl | rfl | rfl | rfl
   ·have z1 : wr.cell? ⟨Bh, 0, none⟩ = some (.slice (m.sort 0).1.A (m.sort 0).1.n (m.sort 0).1.c) := (HX.out.1.cell 0).trans (cs_sort m 0 (by omega))
    simp only [show ((0 : Nat) : Int) = 0 from rfl]
    have hix := idx4_0 Bh wr
    have hr := Lib.hid (hm.sort 0)
    have hl := Lib.hid (strs_len (hm.sort 0))
    have h60 := hS.sort 0
    have hnm : (m.sort 0).1.n ≤ 60 := by have := hl.out; omega
    clear h60
    obtain ⟨sA, hsA⟩ : ∃ sA, (m.sort 0).1 = sA := ⟨_, rfl⟩
    rw [hsA] at z1 hr hl hnm
    obtain ⟨A0, n, c0⟩ := sA
    simp only at z1 hr hl hnm
    clear hsA
    go_wp2_with fail
    rename World => wo
    clear z1 hix
    go_loopw [35] (fun v wr => ∃ (j : Nat) (h : HistM), j ≤ n ∧ v = .int .i64 j ∧ Hid (CpI Bh B3 w wr h [] []) ∧ Hid (PhB m h 0 j) ∧ Hid (BoxC m Bh B3 B4 wr) ∧ Hid (h.ev.1.n = m.ev.1.n ∧ h.od.1.n = m.od.1.n ∧ h.ma.1.n = m.ma.1.n ∧ h.wa.1.n = m.wa.1.n)) (fun v _ => n - (intOf v).toNat)
    case atStart => exact ⟨0, h, Nat.zero_le _, rfl, HC, HP.out.start (by omega), HX, HNS⟩
    case round =>
     clear HC HP HX HNS
     obtain ⟨j, h, hj, rfl, HC, HP, HX, HNS⟩ := hrel
     by_cases hjn : j < n
     ·have hlt : (j : Int) < (n : Int) := by omega
      obtain ⟨s, hs⟩ : ∃ s, (m.sort 0).2[j]? = some s := ⟨(m.sort 0).2[j]'(by rw [hl.out]; exact hjn), List.getElem?_eq_getElem _⟩
      obtain ⟨b, o, rfl, hbb, g0⟩ := str_at (hr.out.below HC.out.below) hs
      have hsz := hS.sizes (k := 0) (by omega) s (List.mem_of_getElem? hs)
      have HCL := Lib.hid (fun W => sclone_any s (by omega) W)
      have HSJ := Lib.hid hs
      have HJJ := Lib.hid HP.out.2.1.2
      clear hs hsz hbb
      go_wp2_with fail
      refine wp_region_noPanic ?_
      refine wp_region_held_drew (S := fun W => Blk W B4 75 #[.pointer (some ⟨B3, 0, none⟩), .pointer (some ⟨B3, 1, none⟩), .pointer (some ⟨B3, 2, none⟩), .pointer (some ⟨B3, 3, none⟩)]) (by kernel_rfl) HX.out.2 (fun hHeld => ?_)
      have HC := Lib.hid (HC.out.on ((Below.refl _ _).drew))
      have HX := Lib.hid (HX.out.on ((Below.refl _ _).drew))
      generalize wr.drew = wd at *
      refine tkv 0 (some 39) (.int .i64 0) rfl rfl (fun w' hSw => by (try dsimp only at hSw); go_simp) ?_
      try simp only [Act.put, sA, sB, sC]
      refine tkv 1 (some 40) (.pointer (some ⟨B4, 0, none⟩)) rfl rfl (fun w' hSw => by (try dsimp only at hSw); go_simp) ?_
      try simp only [Act.put, sA, sB, sC]
      refine tkv 2 (some 41) (.pointer (some ⟨B3, 0, none⟩)) rfl rfl (fun w' hSw => by (have c9 : w'.cell? ⟨B4, 0, none⟩ = some (.pointer (some ⟨B3, 0, none⟩)) := Blk.cell (w := w') hSw 0; go_simp)) ?_
      try simp only [Act.put, sA, sB, sC]
      refine tkv 3 (some 42) (.int .i64 0) rfl rfl (fun w' hSw => by (try dsimp only at hSw); go_simp) ?_
      try simp only [Act.put, sA, sB, sC]
      refine tkv 4 (some 43) (.pointer (some ⟨B4, 0, none⟩)) rfl rfl (fun w' hSw => by (try dsimp only at hSw); go_simp) ?_
      try simp only [Act.put, sA, sB, sC]
      refine tkv 5 (some 44) (.pointer (some ⟨B3, 0, none⟩)) rfl rfl (fun w' hSw => by (have c9 : w'.cell? ⟨B4, 0, none⟩ = some (.pointer (some ⟨B3, 0, none⟩)) := Blk.cell (w := w') hSw 0; go_simp)) ?_
      try simp only [Act.put, sA, sB, sC]
      refine tkv 6 (some 45) (.pointer (some ⟨B3, 0, none⟩)) rfl rfl (fun w' hSw => by (try dsimp only at hSw); go_simp) ?_
      try simp only [Act.put, sA, sB, sC]
      refine tkv 8 (some 47) (.string s) rfl rfl (fun w' hSw => by (try dsimp only at hSw); go_simp) ?_
      try simp only [Act.put, sA, sB, sC]
      refine wpAnyH_ready (rs := [7, 9]) (by kernel_rfl) (by simp) ?_
      refine AllReadyH.cons rfl (fun K hK => ?_) ?_
      ·skip
       have z3 := (HC.out.b3.cell 0).trans (cs_sort h 0 (by omega))
       go_simp
       clear hHeld z3
       refine hK.out _ _ HX.out.2 (fun hHeld => ?_)
       clear hK K
       try simp only [Act.put, sA, sB, sC]
       refine wpAnyH_ready (rs := [9]) (by kernel_rfl) (by simp) ?_
       refine AllReadyH.cons rfl (fun K hK => ?_) ?_
       ·skip
        go_simp
        refine (HCL.out _).mono ?_
        rintro e w5 ⟨rfl, b5⟩
        have HC := Lib.hid (HC.out.on b5)
        have HX := Lib.hid (HX.out.on b5)
        clear b5 hHeld
        go_simp
        refine hK.out _ _ HX.out.2 (fun hHeld => ?_)
        clear hK K
        try simp only [Act.put, sA, sB, sC]
        refine wpAnyH_ready (rs := [10]) (by kernel_rfl) (by simp) ?_
        refine AllReadyH.cons rfl (fun K hK => ?_) ?_
        ·skip
         go_simp
         have hal : Below w5.heap.size w5 (w5.alloc (.cells #[.string s] 9)) := (Below.refl _ _).alloc (Nat.le_refl _) _
         have HC := Lib.hid (HC.out.on hal)
         have HX := Lib.hid (HX.out.on hal)
         have SL := Lib.hid (str_lit w5 [s] 9 #[.string s] rfl)
         clear hal hHeld
         refine hK.out _ _ HX.out.2 (fun hHeld => ?_)
         clear hK K
         try simp only [Act.put, sA, sB, sC]
         generalize w5.alloc (.cells #[.string s] 9) = ua at *
         generalize w5.heap.size = XS at *
         refine wpAnyH_ready (rs := [11]) (by kernel_rfl) (by simp) ?_
         refine AllReadyH.cons (o := { dst := some 50, op := Op.call { callee := Callee.builtin Builtin.append, args := #[Operand.tmp 46, Operand.tmp 49], argTypes := #[22, 22] }, type := 22, pos := "rows.go:134", after := #[{ on := 7, ground := Ground.data }, { on := 10, ground := Ground.data }, { on := 9, ground := Ground.chain }], guard := none }) rfl (fun K hK => ?_) ?_
         ·skip
          have OWN := Lib.hid (HC.out.nm.own 0 _ (nms_at (by omega)))
          have hn3 : (h.sort 0).1.n ≤ 60 := by have := HJJ.out; omega
          refine step_append_any _ rfl (.tmp 46) (.tmp 49) 22 rfl w.heap.size 9 i0 _ 1 16 Tryz.underlying22 hi hz0 hz1 hz2 rfl (by decide) (.slice (h.sort 0).1.A (h.sort 0).1.n (h.sort 0).1.c) (h.sort 0).1.n _ rfl OWN.out _ (some ⟨XS, 0, none⟩) 1 _ (strs [s]) rfl SL.out (strs_one _) (by unfold maxLen; omega) (by omega) HC.out.below.size ?_
          intro v' w6 hown6 hgrow6 hat6; obtain ⟨A6, c6, rfl, -, -⟩ := own_form2 hown6
          have HX6 := Lib.hid (HX.out.keepT (KeepT.grown OWN.out hgrow6) (by decide) (by decide))
          have KB6 := Lib.hid ((KeepT.grown OWN.out hgrow6).blk HC.out.b3 (by decide))
          have HO6 := Lib.hid hown6
          have HG6 := Lib.hid hgrow6
          have HA6 := Lib.hid hat6
          clear hown6 hgrow6 hat6 hHeld
          refine hK.out _ _ HX6.out.2 (fun hHeld => ?_)
          clear hK K
          try simp only [Act.put, sA, sB, sC]
          refine tkv 12 (some 51) (.pointer (some ⟨B3, 0, none⟩)) rfl rfl (fun w' hSw => by (try dsimp only at hSw); go_simp) ?_
          try simp only [Act.put, sA, sB, sC]
          refine wpAnyH_ready (rs := [13]) (by kernel_rfl) (by simp) ?_
          refine AllReadyH.cons (o := { dst := none, op := Op.store 22 (Operand.tmp 51) (Operand.tmp 50), type := 0, pos := "rows.go:134", after := #[{ on := 12, ground := Ground.data }, { on := 11, ground := Ground.data }, { on := 11, ground := Ground.chain }, { on := 0, ground := Ground.phase }, { on := 1, ground := Ground.phase }, { on := 2, ground := Ground.phase }, { on := 3, ground := Ground.phase }, { on := 4, ground := Ground.phase }, { on := 5, ground := Ground.phase }, { on := 6, ground := Ground.phase }, { on := 7, ground := Ground.phase }, { on := 8, ground := Ground.phase }, { on := 9, ground := Ground.phase }, { on := 10, ground := Ground.phase }, { on := 11, ground := Ground.phase }], guard := none }) rfl (fun K hK => ?_) ?_
          ·skip
           have y3 := KB6.out.cell 0
           have f3 := KB6.out.frozen 0
           go_simp
           have HX := Lib.hid (HX6.out.far KB6.out HC.out.ne.1 0 (.slice A6 ((h.sort 0).1.n + 1) c6))
           have HC := Lib.hid (HC.out.text (k := 0) (us := [s]) (by omega) HO6.out HG6.out HA6.out)
           have HP := Lib.hid (HP.out.next (A := A6) (c := c6) (by omega) HSJ.out)
           have HNS : Hid ((setSort h 0 (⟨A6, (h.sort 0).1.n + [s].length, c6⟩, (h.sort 0).2 ++ [s])).ev.1.n = m.ev.1.n ∧ (setSort h 0 (⟨A6, (h.sort 0).1.n + [s].length, c6⟩, (h.sort 0).2 ++ [s])).od.1.n = m.od.1.n ∧ (setSort h 0 (⟨A6, (h.sort 0).1.n + [s].length, c6⟩, (h.sort 0).2 ++ [s])).ma.1.n = m.ma.1.n ∧ (setSort h 0 (⟨A6, (h.sort 0).1.n + [s].length, c6⟩, (h.sort 0).2 ++ [s])).wa.1.n = m.wa.1.n) := HNS.out
           clear HX6 KB6 HO6 HG6 HA6 OWN SL hn3 y3 f3 hHeld HJJ
           refine hK.out _ _ HX.out.2 (fun hHeld => ?_)
           clear hK K
           simp only [Act.put]
           refine wpAnyH_done (by kernel_rfl) ?_ _
           refine NoPanic.normal ?_
           go_wp2_with fail
           go_roundw
           case rel => exact ⟨j + 1, _, hjn, by go_num, HC, HP, HX, HNS⟩
           case measure => simp [intOf]; omega
          exact AllReadyH.nil
         exact AllReadyH.nil
        exact AllReadyH.nil
       exact AllReadyH.nil
      refine AllReadyH.cons rfl (fun K hK => ?_) ?_
      ·skip
       go_simp
       refine (HCL.out _).mono ?_
       rintro e w5 ⟨rfl, b5⟩
       have HC := Lib.hid (HC.out.on b5)
       have HX := Lib.hid (HX.out.on b5)
       clear b5 hHeld
       go_simp
       refine hK.out _ _ HX.out.2 (fun hHeld => ?_)
       clear hK K
       try simp only [Act.put, sA, sB, sC]
       refine wpAnyH_ready (rs := [7, 10]) (by kernel_rfl) (by simp) ?_
       refine AllReadyH.cons rfl (fun K hK => ?_) ?_
       ·skip
        have z3 := (HC.out.b3.cell 0).trans (cs_sort h 0 (by omega))
        go_simp
        clear hHeld z3
        refine hK.out _ _ HX.out.2 (fun hHeld => ?_)
        clear hK K
        try simp only [Act.put, sA, sB, sC]
        refine wpAnyH_ready (rs := [10]) (by kernel_rfl) (by simp) ?_
        refine AllReadyH.cons rfl (fun K hK => ?_) ?_
        ·skip
         go_simp
         have hal : Below w5.heap.size w5 (w5.alloc (.cells #[.string s] 9)) := (Below.refl _ _).alloc (Nat.le_refl _) _
         have HC := Lib.hid (HC.out.on hal)
         have HX := Lib.hid (HX.out.on hal)
         have SL := Lib.hid (str_lit w5 [s] 9 #[.string s] rfl)
         clear hal hHeld
         refine hK.out _ _ HX.out.2 (fun hHeld => ?_)
         clear hK K
         try simp only [Act.put, sA, sB, sC]
         generalize w5.alloc (.cells #[.string s] 9) = ua at *
         generalize w5.heap.size = XS at *
         refine wpAnyH_ready (rs := [11]) (by kernel_rfl) (by simp) ?_
         refine AllReadyH.cons (o := { dst := some 50, op := Op.call { callee := Callee.builtin Builtin.append, args := #[Operand.tmp 46, Operand.tmp 49], argTypes := #[22, 22] }, type := 22, pos := "rows.go:134", after := #[{ on := 7, ground := Ground.data }, { on := 10, ground := Ground.data }, { on := 9, ground := Ground.chain }], guard := none }) rfl (fun K hK => ?_) ?_
         ·skip
          have OWN := Lib.hid (HC.out.nm.own 0 _ (nms_at (by omega)))
          have hn3 : (h.sort 0).1.n ≤ 60 := by have := HJJ.out; omega
          refine step_append_any _ rfl (.tmp 46) (.tmp 49) 22 rfl w.heap.size 9 i0 _ 1 16 Tryz.underlying22 hi hz0 hz1 hz2 rfl (by decide) (.slice (h.sort 0).1.A (h.sort 0).1.n (h.sort 0).1.c) (h.sort 0).1.n _ rfl OWN.out _ (some ⟨XS, 0, none⟩) 1 _ (strs [s]) rfl SL.out (strs_one _) (by unfold maxLen; omega) (by omega) HC.out.below.size ?_
          intro v' w6 hown6 hgrow6 hat6; obtain ⟨A6, c6, rfl, -, -⟩ := own_form2 hown6
          have HX6 := Lib.hid (HX.out.keepT (KeepT.grown OWN.out hgrow6) (by decide) (by decide))
          have KB6 := Lib.hid ((KeepT.grown OWN.out hgrow6).blk HC.out.b3 (by decide))
          have HO6 := Lib.hid hown6
          have HG6 := Lib.hid hgrow6
          have HA6 := Lib.hid hat6
          clear hown6 hgrow6 hat6 hHeld
          refine hK.out _ _ HX6.out.2 (fun hHeld => ?_)
          clear hK K
          try simp only [Act.put, sA, sB, sC]
          refine tkv 12 (some 51) (.pointer (some ⟨B3, 0, none⟩)) rfl rfl (fun w' hSw => by (try dsimp only at hSw); go_simp) ?_
          try simp only [Act.put, sA, sB, sC]
          refine wpAnyH_ready (rs := [13]) (by kernel_rfl) (by simp) ?_
          refine AllReadyH.cons (o := { dst := none, op := Op.store 22 (Operand.tmp 51) (Operand.tmp 50), type := 0, pos := "rows.go:134", after := #[{ on := 12, ground := Ground.data }, { on := 11, ground := Ground.data }, { on := 11, ground := Ground.chain }, { on := 0, ground := Ground.phase }, { on := 1, ground := Ground.phase }, { on := 2, ground := Ground.phase }, { on := 3, ground := Ground.phase }, { on := 4, ground := Ground.phase }, { on := 5, ground := Ground.phase }, { on := 6, ground := Ground.phase }, { on := 7, ground := Ground.phase }, { on := 8, ground := Ground.phase }, { on := 9, ground := Ground.phase }, { on := 10, ground := Ground.phase }, { on := 11, ground := Ground.phase }], guard := none }) rfl (fun K hK => ?_) ?_
          ·skip
           have y3 := KB6.out.cell 0
           have f3 := KB6.out.frozen 0
           go_simp
           have HX := Lib.hid (HX6.out.far KB6.out HC.out.ne.1 0 (.slice A6 ((h.sort 0).1.n + 1) c6))
           have HC := Lib.hid (HC.out.text (k := 0) (us := [s]) (by omega) HO6.out HG6.out HA6.out)
           have HP := Lib.hid (HP.out.next (A := A6) (c := c6) (by omega) HSJ.out)
           have HNS : Hid ((setSort h 0 (⟨A6, (h.sort 0).1.n + [s].length, c6⟩, (h.sort 0).2 ++ [s])).ev.1.n = m.ev.1.n ∧ (setSort h 0 (⟨A6, (h.sort 0).1.n + [s].length, c6⟩, (h.sort 0).2 ++ [s])).od.1.n = m.od.1.n ∧ (setSort h 0 (⟨A6, (h.sort 0).1.n + [s].length, c6⟩, (h.sort 0).2 ++ [s])).ma.1.n = m.ma.1.n ∧ (setSort h 0 (⟨A6, (h.sort 0).1.n + [s].length, c6⟩, (h.sort 0).2 ++ [s])).wa.1.n = m.wa.1.n) := HNS.out
           clear HX6 KB6 HO6 HG6 HA6 OWN SL hn3 y3 f3 hHeld HJJ
           refine hK.out _ _ HX.out.2 (fun hHeld => ?_)
           clear hK K
           simp only [Act.put]
           refine wpAnyH_done (by kernel_rfl) ?_ _
           refine NoPanic.normal ?_
           go_wp2_with fail
           go_roundw
           case rel => exact ⟨j + 1, _, hjn, by go_num, HC, HP, HX, HNS⟩
           case measure => simp [intOf]; omega
          exact AllReadyH.nil
         exact AllReadyH.nil
        exact AllReadyH.nil
       refine AllReadyH.cons rfl (fun K hK => ?_) ?_
       ·skip
        go_simp
        have hal : Below w5.heap.size w5 (w5.alloc (.cells #[.string s] 9)) := (Below.refl _ _).alloc (Nat.le_refl _) _
        have HC := Lib.hid (HC.out.on hal)
        have HX := Lib.hid (HX.out.on hal)
        have SL := Lib.hid (str_lit w5 [s] 9 #[.string s] rfl)
        clear hal hHeld
        refine hK.out _ _ HX.out.2 (fun hHeld => ?_)
        clear hK K
        try simp only [Act.put, sA, sB, sC]
        generalize w5.alloc (.cells #[.string s] 9) = ua at *
        generalize w5.heap.size = XS at *
        refine wpAnyH_ready (rs := [7]) (by kernel_rfl) (by simp) ?_
        refine AllReadyH.cons rfl (fun K hK => ?_) ?_
        ·skip
         have z3 := (HC.out.b3.cell 0).trans (cs_sort h 0 (by omega))
         go_simp
         clear hHeld z3
         refine hK.out _ _ HX.out.2 (fun hHeld => ?_)
         clear hK K
         try simp only [Act.put, sA, sB, sC]
         refine wpAnyH_ready (rs := [11]) (by kernel_rfl) (by simp) ?_
         refine AllReadyH.cons (o := { dst := some 50, op := Op.call { callee := Callee.builtin Builtin.append, args := #[Operand.tmp 46, Operand.tmp 49], argTypes := #[22, 22] }, type := 22, pos := "rows.go:134", after := #[{ on := 7, ground := Ground.data }, { on := 10, ground := Ground.data }, { on := 9, ground := Ground.chain }], guard := none }) rfl (fun K hK => ?_) ?_
         ·skip
          have OWN := Lib.hid (HC.out.nm.own 0 _ (nms_at (by omega)))
          have hn3 : (h.sort 0).1.n ≤ 60 := by have := HJJ.out; omega
          refine step_append_any _ rfl (.tmp 46) (.tmp 49) 22 rfl w.heap.size 9 i0 _ 1 16 Tryz.underlying22 hi hz0 hz1 hz2 rfl (by decide) (.slice (h.sort 0).1.A (h.sort 0).1.n (h.sort 0).1.c) (h.sort 0).1.n _ rfl OWN.out _ (some ⟨XS, 0, none⟩) 1 _ (strs [s]) rfl SL.out (strs_one _) (by unfold maxLen; omega) (by omega) HC.out.below.size ?_
          intro v' w6 hown6 hgrow6 hat6; obtain ⟨A6, c6, rfl, -, -⟩ := own_form2 hown6
          have HX6 := Lib.hid (HX.out.keepT (KeepT.grown OWN.out hgrow6) (by decide) (by decide))
          have KB6 := Lib.hid ((KeepT.grown OWN.out hgrow6).blk HC.out.b3 (by decide))
          have HO6 := Lib.hid hown6
          have HG6 := Lib.hid hgrow6
          have HA6 := Lib.hid hat6
          clear hown6 hgrow6 hat6 hHeld
          refine hK.out _ _ HX6.out.2 (fun hHeld => ?_)
          clear hK K
          try simp only [Act.put, sA, sB, sC]
          refine tkv 12 (some 51) (.pointer (some ⟨B3, 0, none⟩)) rfl rfl (fun w' hSw => by (try dsimp only at hSw); go_simp) ?_
          try simp only [Act.put, sA, sB, sC]
          refine wpAnyH_ready (rs := [13]) (by kernel_rfl) (by simp) ?_
          refine AllReadyH.cons (o := { dst := none, op := Op.store 22 (Operand.tmp 51) (Operand.tmp 50), type := 0, pos := "rows.go:134", after := #[{ on := 12, ground := Ground.data }, { on := 11, ground := Ground.data }, { on := 11, ground := Ground.chain }, { on := 0, ground := Ground.phase }, { on := 1, ground := Ground.phase }, { on := 2, ground := Ground.phase }, { on := 3, ground := Ground.phase }, { on := 4, ground := Ground.phase }, { on := 5, ground := Ground.phase }, { on := 6, ground := Ground.phase }, { on := 7, ground := Ground.phase }, { on := 8, ground := Ground.phase }, { on := 9, ground := Ground.phase }, { on := 10, ground := Ground.phase }, { on := 11, ground := Ground.phase }], guard := none }) rfl (fun K hK => ?_) ?_
          ·skip
           have y3 := KB6.out.cell 0
           have f3 := KB6.out.frozen 0
           go_simp
           have HX := Lib.hid (HX6.out.far KB6.out HC.out.ne.1 0 (.slice A6 ((h.sort 0).1.n + 1) c6))
           have HC := Lib.hid (HC.out.text (k := 0) (us := [s]) (by omega) HO6.out HG6.out HA6.out)
           have HP := Lib.hid (HP.out.next (A := A6) (c := c6) (by omega) HSJ.out)
           have HNS : Hid ((setSort h 0 (⟨A6, (h.sort 0).1.n + [s].length, c6⟩, (h.sort 0).2 ++ [s])).ev.1.n = m.ev.1.n ∧ (setSort h 0 (⟨A6, (h.sort 0).1.n + [s].length, c6⟩, (h.sort 0).2 ++ [s])).od.1.n = m.od.1.n ∧ (setSort h 0 (⟨A6, (h.sort 0).1.n + [s].length, c6⟩, (h.sort 0).2 ++ [s])).ma.1.n = m.ma.1.n ∧ (setSort h 0 (⟨A6, (h.sort 0).1.n + [s].length, c6⟩, (h.sort 0).2 ++ [s])).wa.1.n = m.wa.1.n) := HNS.out
           clear HX6 KB6 HO6 HG6 HA6 OWN SL hn3 y3 f3 hHeld HJJ
           refine hK.out _ _ HX.out.2 (fun hHeld => ?_)
           clear hK K
           simp only [Act.put]
           refine wpAnyH_done (by kernel_rfl) ?_ _
           refine NoPanic.normal ?_
           go_wp2_with fail
           go_roundw
           case rel => exact ⟨j + 1, _, hjn, by go_num, HC, HP, HX, HNS⟩
           case measure => simp [intOf]; omega
          exact AllReadyH.nil
         exact AllReadyH.nil
        exact AllReadyH.nil
       exact AllReadyH.nil
      exact AllReadyH.nil
     ·obtain rfl : j = n := by omega
      have HP := Lib.hid (HP.out.all (by omega) hl.out)
      go_wp2_with fail
      go_roundw
      case rel => exact ⟨1, h, by omega, rfl, HC, HP, HX, HNS⟩
      case measure => simp [intOf]
   ·have z1 : wr.cell? ⟨Bh, 1, none⟩ = some (.slice (m.sort 1).1.A (m.sort 1).1.n (m.sort 1).1.c) := (HX.out.1.cell 1).trans (cs_sort m 1 (by omega))
    simp only [show ((1 : Nat) : Int) = 1 from rfl]
    have hix := idx4_1 Bh wr
    have hr := Lib.hid (hm.sort 1)
    have hl := Lib.hid (strs_len (hm.sort 1))
    have h60 := hS.sort 1
    have hnm : (m.sort 1).1.n ≤ 60 := by have := hl.out; omega
    clear h60
    obtain ⟨sA, hsA⟩ : ∃ sA, (m.sort 1).1 = sA := ⟨_, rfl⟩
    rw [hsA] at z1 hr hl hnm
    obtain ⟨A0, n, c0⟩ := sA
    simp only at z1 hr hl hnm
    clear hsA
    go_wp2_with fail
    rename World => wo
    clear z1 hix
    go_loopw [35] (fun v wr => ∃ (j : Nat) (h : HistM), j ≤ n ∧ v = .int .i64 j ∧ Hid (CpI Bh B3 w wr h [] []) ∧ Hid (PhB m h 1 j) ∧ Hid (BoxC m Bh B3 B4 wr) ∧ Hid (h.ev.1.n = m.ev.1.n ∧ h.od.1.n = m.od.1.n ∧ h.ma.1.n = m.ma.1.n ∧ h.wa.1.n = m.wa.1.n)) (fun v _ => n - (intOf v).toNat)
    case atStart => exact ⟨0, h, Nat.zero_le _, rfl, HC, HP.out.start (by omega), HX, HNS⟩
    case round =>
     clear HC HP HX HNS
     obtain ⟨j, h, hj, rfl, HC, HP, HX, HNS⟩ := hrel
     by_cases hjn : j < n
     ·have hlt : (j : Int) < (n : Int) := by omega
      obtain ⟨s, hs⟩ : ∃ s, (m.sort 1).2[j]? = some s := ⟨(m.sort 1).2[j]'(by rw [hl.out]; exact hjn), List.getElem?_eq_getElem _⟩
      obtain ⟨b, o, rfl, hbb, g0⟩ := str_at (hr.out.below HC.out.below) hs
      have hsz := hS.sizes (k := 1) (by omega) s (List.mem_of_getElem? hs)
      have HCL := Lib.hid (fun W => sclone_any s (by omega) W)
      have HSJ := Lib.hid hs
      have HJJ := Lib.hid HP.out.2.1.2
      clear hs hsz hbb
      go_wp2_with fail
      refine wp_region_noPanic ?_
      refine wp_region_held_drew (S := fun W => Blk W B4 75 #[.pointer (some ⟨B3, 0, none⟩), .pointer (some ⟨B3, 1, none⟩), .pointer (some ⟨B3, 2, none⟩), .pointer (some ⟨B3, 3, none⟩)]) (by kernel_rfl) HX.out.2 (fun hHeld => ?_)
      have HC := Lib.hid (HC.out.on ((Below.refl _ _).drew))
      have HX := Lib.hid (HX.out.on ((Below.refl _ _).drew))
      generalize wr.drew = wd at *
      refine tkv 0 (some 39) (.int .i64 1) rfl rfl (fun w' hSw => by (try dsimp only at hSw); go_simp) ?_
      try simp only [Act.put, sA, sB, sC]
      refine tkv 1 (some 40) (.pointer (some ⟨B4, 1, none⟩)) rfl rfl (fun w' hSw => by (try dsimp only at hSw); go_simp) ?_
      try simp only [Act.put, sA, sB, sC]
      refine tkv 2 (some 41) (.pointer (some ⟨B3, 1, none⟩)) rfl rfl (fun w' hSw => by (have c9 : w'.cell? ⟨B4, 1, none⟩ = some (.pointer (some ⟨B3, 1, none⟩)) := Blk.cell (w := w') hSw 1; go_simp)) ?_
      try simp only [Act.put, sA, sB, sC]
      refine tkv 3 (some 42) (.int .i64 1) rfl rfl (fun w' hSw => by (try dsimp only at hSw); go_simp) ?_
      try simp only [Act.put, sA, sB, sC]
      refine tkv 4 (some 43) (.pointer (some ⟨B4, 1, none⟩)) rfl rfl (fun w' hSw => by (try dsimp only at hSw); go_simp) ?_
      try simp only [Act.put, sA, sB, sC]
      refine tkv 5 (some 44) (.pointer (some ⟨B3, 1, none⟩)) rfl rfl (fun w' hSw => by (have c9 : w'.cell? ⟨B4, 1, none⟩ = some (.pointer (some ⟨B3, 1, none⟩)) := Blk.cell (w := w') hSw 1; go_simp)) ?_
      try simp only [Act.put, sA, sB, sC]
      refine tkv 6 (some 45) (.pointer (some ⟨B3, 1, none⟩)) rfl rfl (fun w' hSw => by (try dsimp only at hSw); go_simp) ?_
      try simp only [Act.put, sA, sB, sC]
      refine tkv 8 (some 47) (.string s) rfl rfl (fun w' hSw => by (try dsimp only at hSw); go_simp) ?_
      try simp only [Act.put, sA, sB, sC]
      refine wpAnyH_ready (rs := [7, 9]) (by kernel_rfl) (by simp) ?_
      refine AllReadyH.cons rfl (fun K hK => ?_) ?_
      ·skip
       have z3 := (HC.out.b3.cell 1).trans (cs_sort h 1 (by omega))
       go_simp
       clear hHeld z3
       refine hK.out _ _ HX.out.2 (fun hHeld => ?_)
       clear hK K
       try simp only [Act.put, sA, sB, sC]
       refine wpAnyH_ready (rs := [9]) (by kernel_rfl) (by simp) ?_
       refine AllReadyH.cons rfl (fun K hK => ?_) ?_
       ·skip
        go_simp
        refine (HCL.out _).mono ?_
        rintro e w5 ⟨rfl, b5⟩
        have HC := Lib.hid (HC.out.on b5)
        have HX := Lib.hid (HX.out.on b5)
        clear b5 hHeld
        go_simp
        refine hK.out _ _ HX.out.2 (fun hHeld => ?_)
        clear hK K
        try simp only [Act.put, sA, sB, sC]
        refine wpAnyH_ready (rs := [10]) (by kernel_rfl) (by simp) ?_
        refine AllReadyH.cons rfl (fun K hK => ?_) ?_
        ·skip
         go_simp
         have hal : Below w5.heap.size w5 (w5.alloc (.cells #[.string s] 9)) := (Below.refl _ _).alloc (Nat.le_refl _) _
         have HC := Lib.hid (HC.out.on hal)
         have HX := Lib.hid (HX.out.on hal)
         have SL := Lib.hid (str_lit w5 [s] 9 #[.string s] rfl)
         clear hal hHeld
         refine hK.out _ _ HX.out.2 (fun hHeld => ?_)
         clear hK K
         try simp only [Act.put, sA, sB, sC]
         generalize w5.alloc (.cells #[.string s] 9) = ua at *
         generalize w5.heap.size = XS at *
         refine wpAnyH_ready (rs := [11]) (by kernel_rfl) (by simp) ?_
         refine AllReadyH.cons (o := { dst := some 50, op := Op.call { callee := Callee.builtin Builtin.append, args := #[Operand.tmp 46, Operand.tmp 49], argTypes := #[22, 22] }, type := 22, pos := "rows.go:134", after := #[{ on := 7, ground := Ground.data }, { on := 10, ground := Ground.data }, { on := 9, ground := Ground.chain }], guard := none }) rfl (fun K hK => ?_) ?_
         ·skip
          have OWN := Lib.hid (HC.out.nm.own 1 _ (nms_at (by omega)))
          have hn3 : (h.sort 1).1.n ≤ 60 := by have := HJJ.out; omega
          refine step_append_any _ rfl (.tmp 46) (.tmp 49) 22 rfl w.heap.size 9 i0 _ 1 16 Tryz.underlying22 hi hz0 hz1 hz2 rfl (by decide) (.slice (h.sort 1).1.A (h.sort 1).1.n (h.sort 1).1.c) (h.sort 1).1.n _ rfl OWN.out _ (some ⟨XS, 0, none⟩) 1 _ (strs [s]) rfl SL.out (strs_one _) (by unfold maxLen; omega) (by omega) HC.out.below.size ?_
          intro v' w6 hown6 hgrow6 hat6; obtain ⟨A6, c6, rfl, -, -⟩ := own_form2 hown6
          have HX6 := Lib.hid (HX.out.keepT (KeepT.grown OWN.out hgrow6) (by decide) (by decide))
          have KB6 := Lib.hid ((KeepT.grown OWN.out hgrow6).blk HC.out.b3 (by decide))
          have HO6 := Lib.hid hown6
          have HG6 := Lib.hid hgrow6
          have HA6 := Lib.hid hat6
          clear hown6 hgrow6 hat6 hHeld
          refine hK.out _ _ HX6.out.2 (fun hHeld => ?_)
          clear hK K
          try simp only [Act.put, sA, sB, sC]
          refine tkv 12 (some 51) (.pointer (some ⟨B3, 1, none⟩)) rfl rfl (fun w' hSw => by (try dsimp only at hSw); go_simp) ?_
          try simp only [Act.put, sA, sB, sC]
          refine wpAnyH_ready (rs := [13]) (by kernel_rfl) (by simp) ?_
          refine AllReadyH.cons (o := { dst := none, op := Op.store 22 (Operand.tmp 51) (Operand.tmp 50), type := 0, pos := "rows.go:134", after := #[{ on := 12, ground := Ground.data }, { on := 11, ground := Ground.data }, { on := 11, ground := Ground.chain }, { on := 0, ground := Ground.phase }, { on := 1, ground := Ground.phase }, { on := 2, ground := Ground.phase }, { on := 3, ground := Ground.phase }, { on := 4, ground := Ground.phase }, { on := 5, ground := Ground.phase }, { on := 6, ground := Ground.phase }, { on := 7, ground := Ground.phase }, { on := 8, ground := Ground.phase }, { on := 9, ground := Ground.phase }, { on := 10, ground := Ground.phase }, { on := 11, ground := Ground.phase }], guard := none }) rfl (fun K hK => ?_) ?_
          ·skip
           have y3 := KB6.out.cell 1
           have f3 := KB6.out.frozen 1
           go_simp
           have HX := Lib.hid (HX6.out.far KB6.out HC.out.ne.1 1 (.slice A6 ((h.sort 1).1.n + 1) c6))
           have HC := Lib.hid (HC.out.text (k := 1) (us := [s]) (by omega) HO6.out HG6.out HA6.out)
           have HP := Lib.hid (HP.out.next (A := A6) (c := c6) (by omega) HSJ.out)
           have HNS : Hid ((setSort h 1 (⟨A6, (h.sort 1).1.n + [s].length, c6⟩, (h.sort 1).2 ++ [s])).ev.1.n = m.ev.1.n ∧ (setSort h 1 (⟨A6, (h.sort 1).1.n + [s].length, c6⟩, (h.sort 1).2 ++ [s])).od.1.n = m.od.1.n ∧ (setSort h 1 (⟨A6, (h.sort 1).1.n + [s].length, c6⟩, (h.sort 1).2 ++ [s])).ma.1.n = m.ma.1.n ∧ (setSort h 1 (⟨A6, (h.sort 1).1.n + [s].length, c6⟩, (h.sort 1).2 ++ [s])).wa.1.n = m.wa.1.n) := HNS.out
           clear HX6 KB6 HO6 HG6 HA6 OWN SL hn3 y3 f3 hHeld HJJ
           refine hK.out _ _ HX.out.2 (fun hHeld => ?_)
           clear hK K
           simp only [Act.put]
           refine wpAnyH_done (by kernel_rfl) ?_ _
           refine NoPanic.normal ?_
           go_wp2_with fail
           go_roundw
           case rel => exact ⟨j + 1, _, hjn, by go_num, HC, HP, HX, HNS⟩
           case measure => simp [intOf]; omega
          exact AllReadyH.nil
         exact AllReadyH.nil
        exact AllReadyH.nil
       exact AllReadyH.nil
      refine AllReadyH.cons rfl (fun K hK => ?_) ?_
      ·skip
       go_simp
       refine (HCL.out _).mono ?_
       rintro e w5 ⟨rfl, b5⟩
       have HC := Lib.hid (HC.out.on b5)
       have HX := Lib.hid (HX.out.on b5)
       clear b5 hHeld
       go_simp
       refine hK.out _ _ HX.out.2 (fun hHeld => ?_)
       clear hK K
       try simp only [Act.put, sA, sB, sC]
       refine wpAnyH_ready (rs := [7, 10]) (by kernel_rfl) (by simp) ?_
       refine AllReadyH.cons rfl (fun K hK => ?_) ?_
       ·skip
        have z3 := (HC.out.b3.cell 1).trans (cs_sort h 1 (by omega))
        go_simp
        clear hHeld z3
        refine hK.out _ _ HX.out.2 (fun hHeld => ?_)
        clear hK K
        try simp only [Act.put, sA, sB, sC]
        refine wpAnyH_ready (rs := [10]) (by kernel_rfl) (by simp) ?_
        refine AllReadyH.cons rfl (fun K hK => ?_) ?_
        ·skip
         go_simp
         have hal : Below w5.heap.size w5 (w5.alloc (.cells #[.string s] 9)) := (Below.refl _ _).alloc (Nat.le_refl _) _
         have HC := Lib.hid (HC.out.on hal)
         have HX := Lib.hid (HX.out.on hal)
         have SL := Lib.hid (str_lit w5 [s] 9 #[.string s] rfl)
         clear hal hHeld
         refine hK.out _ _ HX.out.2 (fun hHeld => ?_)
         clear hK K
         try simp only [Act.put, sA, sB, sC]
         generalize w5.alloc (.cells #[.string s] 9) = ua at *
         generalize w5.heap.size = XS at *
         refine wpAnyH_ready (rs := [11]) (by kernel_rfl) (by simp) ?_
         refine AllReadyH.cons (o := { dst := some 50, op := Op.call { callee := Callee.builtin Builtin.append, args := #[Operand.tmp 46, Operand.tmp 49], argTypes := #[22, 22] }, type := 22, pos := "rows.go:134", after := #[{ on := 7, ground := Ground.data }, { on := 10, ground := Ground.data }, { on := 9, ground := Ground.chain }], guard := none }) rfl (fun K hK => ?_) ?_
         ·skip
          have OWN := Lib.hid (HC.out.nm.own 1 _ (nms_at (by omega)))
          have hn3 : (h.sort 1).1.n ≤ 60 := by have := HJJ.out; omega
          refine step_append_any _ rfl (.tmp 46) (.tmp 49) 22 rfl w.heap.size 9 i0 _ 1 16 Tryz.underlying22 hi hz0 hz1 hz2 rfl (by decide) (.slice (h.sort 1).1.A (h.sort 1).1.n (h.sort 1).1.c) (h.sort 1).1.n _ rfl OWN.out _ (some ⟨XS, 0, none⟩) 1 _ (strs [s]) rfl SL.out (strs_one _) (by unfold maxLen; omega) (by omega) HC.out.below.size ?_
          intro v' w6 hown6 hgrow6 hat6; obtain ⟨A6, c6, rfl, -, -⟩ := own_form2 hown6
          have HX6 := Lib.hid (HX.out.keepT (KeepT.grown OWN.out hgrow6) (by decide) (by decide))
          have KB6 := Lib.hid ((KeepT.grown OWN.out hgrow6).blk HC.out.b3 (by decide))
          have HO6 := Lib.hid hown6
          have HG6 := Lib.hid hgrow6
          have HA6 := Lib.hid hat6
          clear hown6 hgrow6 hat6 hHeld
          refine hK.out _ _ HX6.out.2 (fun hHeld => ?_)
          clear hK K
          try simp only [Act.put, sA, sB, sC]
          refine tkv 12 (some 51) (.pointer (some ⟨B3, 1, none⟩)) rfl rfl (fun w' hSw => by (try dsimp only at hSw); go_simp) ?_
          try simp only [Act.put, sA, sB, sC]
          refine wpAnyH_ready (rs := [13]) (by kernel_rfl) (by simp) ?_
          refine AllReadyH.cons (o := { dst := none, op := Op.store 22 (Operand.tmp 51) (Operand.tmp 50), type := 0, pos := "rows.go:134", after := #[{ on := 12, ground := Ground.data }, { on := 11, ground := Ground.data }, { on := 11, ground := Ground.chain }, { on := 0, ground := Ground.phase }, { on := 1, ground := Ground.phase }, { on := 2, ground := Ground.phase }, { on := 3, ground := Ground.phase }, { on := 4, ground := Ground.phase }, { on := 5, ground := Ground.phase }, { on := 6, ground := Ground.phase }, { on := 7, ground := Ground.phase }, { on := 8, ground := Ground.phase }, { on := 9, ground := Ground.phase }, { on := 10, ground := Ground.phase }, { on := 11, ground := Ground.phase }], guard := none }) rfl (fun K hK => ?_) ?_
          ·skip
           have y3 := KB6.out.cell 1
           have f3 := KB6.out.frozen 1
           go_simp
           have HX := Lib.hid (HX6.out.far KB6.out HC.out.ne.1 1 (.slice A6 ((h.sort 1).1.n + 1) c6))
           have HC := Lib.hid (HC.out.text (k := 1) (us := [s]) (by omega) HO6.out HG6.out HA6.out)
           have HP := Lib.hid (HP.out.next (A := A6) (c := c6) (by omega) HSJ.out)
           have HNS : Hid ((setSort h 1 (⟨A6, (h.sort 1).1.n + [s].length, c6⟩, (h.sort 1).2 ++ [s])).ev.1.n = m.ev.1.n ∧ (setSort h 1 (⟨A6, (h.sort 1).1.n + [s].length, c6⟩, (h.sort 1).2 ++ [s])).od.1.n = m.od.1.n ∧ (setSort h 1 (⟨A6, (h.sort 1).1.n + [s].length, c6⟩, (h.sort 1).2 ++ [s])).ma.1.n = m.ma.1.n ∧ (setSort h 1 (⟨A6, (h.sort 1).1.n + [s].length, c6⟩, (h.sort 1).2 ++ [s])).wa.1.n = m.wa.1.n) := HNS.out
           clear HX6 KB6 HO6 HG6 HA6 OWN SL hn3 y3 f3 hHeld HJJ
           refine hK.out _ _ HX.out.2 (fun hHeld => ?_)
           clear hK K
           simp only [Act.put]
           refine wpAnyH_done (by kernel_rfl) ?_ _
           refine NoPanic.normal ?_
           go_wp2_with fail
           go_roundw
           case rel => exact ⟨j + 1, _, hjn, by go_num, HC, HP, HX, HNS⟩
           case measure => simp [intOf]; omega
          exact AllReadyH.nil
         exact AllReadyH.nil
        exact AllReadyH.nil
       refine AllReadyH.cons rfl (fun K hK => ?_) ?_
       ·skip
        go_simp
        have hal : Below w5.heap.size w5 (w5.alloc (.cells #[.string s] 9)) := (Below.refl _ _).alloc (Nat.le_refl _) _
        have HC := Lib.hid (HC.out.on hal)
        have HX := Lib.hid (HX.out.on hal)
        have SL := Lib.hid (str_lit w5 [s] 9 #[.string s] rfl)
        clear hal hHeld
        refine hK.out _ _ HX.out.2 (fun hHeld => ?_)
        clear hK K
        try simp only [Act.put, sA, sB, sC]
        generalize w5.alloc (.cells #[.string s] 9) = ua at *
        generalize w5.heap.size = XS at *
        refine wpAnyH_ready (rs := [7]) (by kernel_rfl) (by simp) ?_
        refine AllReadyH.cons rfl (fun K hK => ?_) ?_
        ·skip
         have z3 := (HC.out.b3.cell 1).trans (cs_sort h 1 (by omega))
         go_simp
         clear hHeld z3
         refine hK.out _ _ HX.out.2 (fun hHeld => ?_)
         clear hK K
         try simp only [Act.put, sA, sB, sC]
         refine wpAnyH_ready (rs := [11]) (by kernel_rfl) (by simp) ?_
         refine AllReadyH.cons (o := { dst := some 50, op := Op.call { callee := Callee.builtin Builtin.append, args := #[Operand.tmp 46, Operand.tmp 49], argTypes := #[22, 22] }, type := 22, pos := "rows.go:134", after := #[{ on := 7, ground := Ground.data }, { on := 10, ground := Ground.data }, { on := 9, ground := Ground.chain }], guard := none }) rfl (fun K hK => ?_) ?_
         ·skip
          have OWN := Lib.hid (HC.out.nm.own 1 _ (nms_at (by omega)))
          have hn3 : (h.sort 1).1.n ≤ 60 := by have := HJJ.out; omega
          refine step_append_any _ rfl (.tmp 46) (.tmp 49) 22 rfl w.heap.size 9 i0 _ 1 16 Tryz.underlying22 hi hz0 hz1 hz2 rfl (by decide) (.slice (h.sort 1).1.A (h.sort 1).1.n (h.sort 1).1.c) (h.sort 1).1.n _ rfl OWN.out _ (some ⟨XS, 0, none⟩) 1 _ (strs [s]) rfl SL.out (strs_one _) (by unfold maxLen; omega) (by omega) HC.out.below.size ?_
          intro v' w6 hown6 hgrow6 hat6; obtain ⟨A6, c6, rfl, -, -⟩ := own_form2 hown6
          have HX6 := Lib.hid (HX.out.keepT (KeepT.grown OWN.out hgrow6) (by decide) (by decide))
          have KB6 := Lib.hid ((KeepT.grown OWN.out hgrow6).blk HC.out.b3 (by decide))
          have HO6 := Lib.hid hown6
          have HG6 := Lib.hid hgrow6
          have HA6 := Lib.hid hat6
          clear hown6 hgrow6 hat6 hHeld
          refine hK.out _ _ HX6.out.2 (fun hHeld => ?_)
          clear hK K
          try simp only [Act.put, sA, sB, sC]
          refine tkv 12 (some 51) (.pointer (some ⟨B3, 1, none⟩)) rfl rfl (fun w' hSw => by (try dsimp only at hSw); go_simp) ?_
          try simp only [Act.put, sA, sB, sC]
          refine wpAnyH_ready (rs := [13]) (by kernel_rfl) (by simp) ?_
          refine AllReadyH.cons (o := { dst := none, op := Op.store 22 (Operand.tmp 51) (Operand.tmp 50), type := 0, pos := "rows.go:134", after := #[{ on := 12, ground := Ground.data }, { on := 11, ground := Ground.data }, { on := 11, ground := Ground.chain }, { on := 0, ground := Ground.phase }, { on := 1, ground := Ground.phase }, { on := 2, ground := Ground.phase }, { on := 3, ground := Ground.phase }, { on := 4, ground := Ground.phase }, { on := 5, ground := Ground.phase }, { on := 6, ground := Ground.phase }, { on := 7, ground := Ground.phase }, { on := 8, ground := Ground.phase }, { on := 9, ground := Ground.phase }, { on := 10, ground := Ground.phase }, { on := 11, ground := Ground.phase }], guard := none }) rfl (fun K hK => ?_) ?_
          ·skip
           have y3 := KB6.out.cell 1
           have f3 := KB6.out.frozen 1
           go_simp
           have HX := Lib.hid (HX6.out.far KB6.out HC.out.ne.1 1 (.slice A6 ((h.sort 1).1.n + 1) c6))
           have HC := Lib.hid (HC.out.text (k := 1) (us := [s]) (by omega) HO6.out HG6.out HA6.out)
           have HP := Lib.hid (HP.out.next (A := A6) (c := c6) (by omega) HSJ.out)
           have HNS : Hid ((setSort h 1 (⟨A6, (h.sort 1).1.n + [s].length, c6⟩, (h.sort 1).2 ++ [s])).ev.1.n = m.ev.1.n ∧ (setSort h 1 (⟨A6, (h.sort 1).1.n + [s].length, c6⟩, (h.sort 1).2 ++ [s])).od.1.n = m.od.1.n ∧ (setSort h 1 (⟨A6, (h.sort 1).1.n + [s].length, c6⟩, (h.sort 1).2 ++ [s])).ma.1.n = m.ma.1.n ∧ (setSort h 1 (⟨A6, (h.sort 1).1.n + [s].length, c6⟩, (h.sort 1).2 ++ [s])).wa.1.n = m.wa.1.n) := HNS.out
           clear HX6 KB6 HO6 HG6 HA6 OWN SL hn3 y3 f3 hHeld HJJ
           refine hK.out _ _ HX.out.2 (fun hHeld => ?_)
           clear hK K
           simp only [Act.put]
           refine wpAnyH_done (by kernel_rfl) ?_ _
           refine NoPanic.normal ?_
           go_wp2_with fail
           go_roundw
           case rel => exact ⟨j + 1, _, hjn, by go_num, HC, HP, HX, HNS⟩
           case measure => simp [intOf]; omega
          exact AllReadyH.nil
         exact AllReadyH.nil
        exact AllReadyH.nil
       exact AllReadyH.nil
      exact AllReadyH.nil
     ·obtain rfl : j = n := by omega
      have HP := Lib.hid (HP.out.all (by omega) hl.out)
      go_wp2_with fail
      go_roundw
      case rel => exact ⟨2, h, by omega, rfl, HC, HP, HX, HNS⟩
      case measure => simp [intOf]
   ·have z1 : wr.cell? ⟨Bh, 2, none⟩ = some (.slice (m.sort 2).1.A (m.sort 2).1.n (m.sort 2).1.c) := (HX.out.1.cell 2).trans (cs_sort m 2 (by omega))
    simp only [show ((2 : Nat) : Int) = 2 from rfl]
    have hix := idx4_2 Bh wr
    have hr := Lib.hid (hm.sort 2)
    have hl := Lib.hid (strs_len (hm.sort 2))
    have h60 := hS.sort 2
    have hnm : (m.sort 2).1.n ≤ 60 := by have := hl.out; omega
    clear h60
    obtain ⟨sA, hsA⟩ : ∃ sA, (m.sort 2).1 = sA := ⟨_, rfl⟩
    rw [hsA] at z1 hr hl hnm
    obtain ⟨A0, n, c0⟩ := sA
    simp only at z1 hr hl hnm
    clear hsA
    go_wp2_with fail
    rename World => wo
    clear z1 hix
    go_loopw [35] (fun v wr => ∃ (j : Nat) (h : HistM), j ≤ n ∧ v = .int .i64 j ∧ Hid (CpI Bh B3 w wr h [] []) ∧ Hid (PhB m h 2 j) ∧ Hid (BoxC m Bh B3 B4 wr) ∧ Hid (h.ev.1.n = m.ev.1.n ∧ h.od.1.n = m.od.1.n ∧ h.ma.1.n = m.ma.1.n ∧ h.wa.1.n = m.wa.1.n)) (fun v _ => n - (intOf v).toNat)
    case atStart => exact ⟨0, h, Nat.zero_le _, rfl, HC, HP.out.start (by omega), HX, HNS⟩
    case round =>
     clear HC HP HX HNS
     obtain ⟨j, h, hj, rfl, HC, HP, HX, HNS⟩ := hrel
     by_cases hjn : j < n
     ·have hlt : (j : Int) < (n : Int) := by omega
      obtain ⟨s, hs⟩ : ∃ s, (m.sort 2).2[j]? = some s := ⟨(m.sort 2).2[j]'(by rw [hl.out]; exact hjn), List.getElem?_eq_getElem _⟩
      obtain ⟨b, o, rfl, hbb, g0⟩ := str_at (hr.out.below HC.out.below) hs
      have hsz := hS.sizes (k := 2) (by omega) s (List.mem_of_getElem? hs)
      have HCL := Lib.hid (fun W => sclone_any s (by omega) W)
      have HSJ := Lib.hid hs
      have HJJ := Lib.hid HP.out.2.1.2
      clear hs hsz hbb
      go_wp2_with fail
      refine wp_region_noPanic ?_
      refine wp_region_held_drew (S := fun W => Blk W B4 75 #[.pointer (some ⟨B3, 0, none⟩), .pointer (some ⟨B3, 1, none⟩), .pointer (some ⟨B3, 2, none⟩), .pointer (some ⟨B3, 3, none⟩)]) (by kernel_rfl) HX.out.2 (fun hHeld => ?_)
      have HC := Lib.hid (HC.out.on ((Below.refl _ _).drew))
      have HX := Lib.hid (HX.out.on ((Below.refl _ _).drew))
      generalize wr.drew = wd at *
      refine tkv 0 (some 39) (.int .i64 2) rfl rfl (fun w' hSw => by (try dsimp only at hSw); go_simp) ?_
      try simp only [Act.put, sA, sB, sC]
      refine tkv 1 (some 40) (.pointer (some ⟨B4, 2, none⟩)) rfl rfl (fun w' hSw => by (try dsimp only at hSw); go_simp) ?_
      try simp only [Act.put, sA, sB, sC]
      refine tkv 2 (some 41) (.pointer (some ⟨B3, 2, none⟩)) rfl rfl (fun w' hSw => by (have c9 : w'.cell? ⟨B4, 2, none⟩ = some (.pointer (some ⟨B3, 2, none⟩)) := Blk.cell (w := w') hSw 2; go_simp)) ?_
      try simp only [Act.put, sA, sB, sC]
      refine tkv 3 (some 42) (.int .i64 2) rfl rfl (fun w' hSw => by (try dsimp only at hSw); go_simp) ?_
      try simp only [Act.put, sA, sB, sC]
      refine tkv 4 (some 43) (.pointer (some ⟨B4, 2, none⟩)) rfl rfl (fun w' hSw => by (try dsimp only at hSw); go_simp) ?_
      try simp only [Act.put, sA, sB, sC]
      refine tkv 5 (some 44) (.pointer (some ⟨B3, 2, none⟩)) rfl rfl (fun w' hSw => by (have c9 : w'.cell? ⟨B4, 2, none⟩ = some (.pointer (some ⟨B3, 2, none⟩)) := Blk.cell (w := w') hSw 2; go_simp)) ?_
      try simp only [Act.put, sA, sB, sC]
      refine tkv 6 (some 45) (.pointer (some ⟨B3, 2, none⟩)) rfl rfl (fun w' hSw => by (try dsimp only at hSw); go_simp) ?_
      try simp only [Act.put, sA, sB, sC]
      refine tkv 8 (some 47) (.string s) rfl rfl (fun w' hSw => by (try dsimp only at hSw); go_simp) ?_
      try simp only [Act.put, sA, sB, sC]
      refine wpAnyH_ready (rs := [7, 9]) (by kernel_rfl) (by simp) ?_
      refine AllReadyH.cons rfl (fun K hK => ?_) ?_
      ·skip
       have z3 := (HC.out.b3.cell 2).trans (cs_sort h 2 (by omega))
       go_simp
       clear hHeld z3
       refine hK.out _ _ HX.out.2 (fun hHeld => ?_)
       clear hK K
       try simp only [Act.put, sA, sB, sC]
       refine wpAnyH_ready (rs := [9]) (by kernel_rfl) (by simp) ?_
       refine AllReadyH.cons rfl (fun K hK => ?_) ?_
       ·skip
        go_simp
        refine (HCL.out _).mono ?_
        rintro e w5 ⟨rfl, b5⟩
        have HC := Lib.hid (HC.out.on b5)
        have HX := Lib.hid (HX.out.on b5)
        clear b5 hHeld
        go_simp
        refine hK.out _ _ HX.out.2 (fun hHeld => ?_)
        clear hK K
        try simp only [Act.put, sA, sB, sC]
        refine wpAnyH_ready (rs := [10]) (by kernel_rfl) (by simp) ?_
        refine AllReadyH.cons rfl (fun K hK => ?_) ?_
        ·skip
         go_simp
         have hal : Below w5.heap.size w5 (w5.alloc (.cells #[.string s] 9)) := (Below.refl _ _).alloc (Nat.le_refl _) _
         have HC := Lib.hid (HC.out.on hal)
         have HX := Lib.hid (HX.out.on hal)
         have SL := Lib.hid (str_lit w5 [s] 9 #[.string s] rfl)
         clear hal hHeld
         refine hK.out _ _ HX.out.2 (fun hHeld => ?_)
         clear hK K
         try simp only [Act.put, sA, sB, sC]
         generalize w5.alloc (.cells #[.string s] 9) = ua at *
         generalize w5.heap.size = XS at *
         refine wpAnyH_ready (rs := [11]) (by kernel_rfl) (by simp) ?_
         refine AllReadyH.cons (o := { dst := some 50, op := Op.call { callee := Callee.builtin Builtin.append, args := #[Operand.tmp 46, Operand.tmp 49], argTypes := #[22, 22] }, type := 22, pos := "rows.go:134", after := #[{ on := 7, ground := Ground.data }, { on := 10, ground := Ground.data }, { on := 9, ground := Ground.chain }], guard := none }) rfl (fun K hK => ?_) ?_
         ·skip
          have OWN := Lib.hid (HC.out.nm.own 2 _ (nms_at (by omega)))
          have hn3 : (h.sort 2).1.n ≤ 60 := by have := HJJ.out; omega
          refine step_append_any _ rfl (.tmp 46) (.tmp 49) 22 rfl w.heap.size 9 i0 _ 1 16 Tryz.underlying22 hi hz0 hz1 hz2 rfl (by decide) (.slice (h.sort 2).1.A (h.sort 2).1.n (h.sort 2).1.c) (h.sort 2).1.n _ rfl OWN.out _ (some ⟨XS, 0, none⟩) 1 _ (strs [s]) rfl SL.out (strs_one _) (by unfold maxLen; omega) (by omega) HC.out.below.size ?_
          intro v' w6 hown6 hgrow6 hat6; obtain ⟨A6, c6, rfl, -, -⟩ := own_form2 hown6
          have HX6 := Lib.hid (HX.out.keepT (KeepT.grown OWN.out hgrow6) (by decide) (by decide))
          have KB6 := Lib.hid ((KeepT.grown OWN.out hgrow6).blk HC.out.b3 (by decide))
          have HO6 := Lib.hid hown6
          have HG6 := Lib.hid hgrow6
          have HA6 := Lib.hid hat6
          clear hown6 hgrow6 hat6 hHeld
          refine hK.out _ _ HX6.out.2 (fun hHeld => ?_)
          clear hK K
          try simp only [Act.put, sA, sB, sC]
          refine tkv 12 (some 51) (.pointer (some ⟨B3, 2, none⟩)) rfl rfl (fun w' hSw => by (try dsimp only at hSw); go_simp) ?_
          try simp only [Act.put, sA, sB, sC]
          refine wpAnyH_ready (rs := [13]) (by kernel_rfl) (by simp) ?_
          refine AllReadyH.cons (o := { dst := none, op := Op.store 22 (Operand.tmp 51) (Operand.tmp 50), type := 0, pos := "rows.go:134", after := #[{ on := 12, ground := Ground.data }, { on := 11, ground := Ground.data }, { on := 11, ground := Ground.chain }, { on := 0, ground := Ground.phase }, { on := 1, ground := Ground.phase }, { on := 2, ground := Ground.phase }, { on := 3, ground := Ground.phase }, { on := 4, ground := Ground.phase }, { on := 5, ground := Ground.phase }, { on := 6, ground := Ground.phase }, { on := 7, ground := Ground.phase }, { on := 8, ground := Ground.phase }, { on := 9, ground := Ground.phase }, { on := 10, ground := Ground.phase }, { on := 11, ground := Ground.phase }], guard := none }) rfl (fun K hK => ?_) ?_
          ·skip
           have y3 := KB6.out.cell 2
           have f3 := KB6.out.frozen 2
           go_simp
           have HX := Lib.hid (HX6.out.far KB6.out HC.out.ne.1 2 (.slice A6 ((h.sort 2).1.n + 1) c6))
           have HC := Lib.hid (HC.out.text (k := 2) (us := [s]) (by omega) HO6.out HG6.out HA6.out)
           have HP := Lib.hid (HP.out.next (A := A6) (c := c6) (by omega) HSJ.out)
           have HNS : Hid ((setSort h 2 (⟨A6, (h.sort 2).1.n + [s].length, c6⟩, (h.sort 2).2 ++ [s])).ev.1.n = m.ev.1.n ∧ (setSort h 2 (⟨A6, (h.sort 2).1.n + [s].length, c6⟩, (h.sort 2).2 ++ [s])).od.1.n = m.od.1.n ∧ (setSort h 2 (⟨A6, (h.sort 2).1.n + [s].length, c6⟩, (h.sort 2).2 ++ [s])).ma.1.n = m.ma.1.n ∧ (setSort h 2 (⟨A6, (h.sort 2).1.n + [s].length, c6⟩, (h.sort 2).2 ++ [s])).wa.1.n = m.wa.1.n) := HNS.out
           clear HX6 KB6 HO6 HG6 HA6 OWN SL hn3 y3 f3 hHeld HJJ
           refine hK.out _ _ HX.out.2 (fun hHeld => ?_)
           clear hK K
           simp only [Act.put]
           refine wpAnyH_done (by kernel_rfl) ?_ _
           refine NoPanic.normal ?_
           go_wp2_with fail
           go_roundw
           case rel => exact ⟨j + 1, _, hjn, by go_num, HC, HP, HX, HNS⟩
           case measure => simp [intOf]; omega
          exact AllReadyH.nil
         exact AllReadyH.nil
        exact AllReadyH.nil
       exact AllReadyH.nil
      refine AllReadyH.cons rfl (fun K hK => ?_) ?_
      ·skip
       go_simp
       refine (HCL.out _).mono ?_
       rintro e w5 ⟨rfl, b5⟩
       have HC := Lib.hid (HC.out.on b5)
       have HX := Lib.hid (HX.out.on b5)
       clear b5 hHeld
       go_simp
       refine hK.out _ _ HX.out.2 (fun hHeld => ?_)
       clear hK K
       try simp only [Act.put, sA, sB, sC]
       refine wpAnyH_ready (rs := [7, 10]) (by kernel_rfl) (by simp) ?_
       refine AllReadyH.cons rfl (fun K hK => ?_) ?_
       ·skip
        have z3 := (HC.out.b3.cell 2).trans (cs_sort h 2 (by omega))
        go_simp
        clear hHeld z3
        refine hK.out _ _ HX.out.2 (fun hHeld => ?_)
        clear hK K
        try simp only [Act.put, sA, sB, sC]
        refine wpAnyH_ready (rs := [10]) (by kernel_rfl) (by simp) ?_
        refine AllReadyH.cons rfl (fun K hK => ?_) ?_
        ·skip
         go_simp
         have hal : Below w5.heap.size w5 (w5.alloc (.cells #[.string s] 9)) := (Below.refl _ _).alloc (Nat.le_refl _) _
         have HC := Lib.hid (HC.out.on hal)
         have HX := Lib.hid (HX.out.on hal)
         have SL := Lib.hid (str_lit w5 [s] 9 #[.string s] rfl)
         clear hal hHeld
         refine hK.out _ _ HX.out.2 (fun hHeld => ?_)
         clear hK K
         try simp only [Act.put, sA, sB, sC]
         generalize w5.alloc (.cells #[.string s] 9) = ua at *
         generalize w5.heap.size = XS at *
         refine wpAnyH_ready (rs := [11]) (by kernel_rfl) (by simp) ?_
         refine AllReadyH.cons (o := { dst := some 50, op := Op.call { callee := Callee.builtin Builtin.append, args := #[Operand.tmp 46, Operand.tmp 49], argTypes := #[22, 22] }, type := 22, pos := "rows.go:134", after := #[{ on := 7, ground := Ground.data }, { on := 10, ground := Ground.data }, { on := 9, ground := Ground.chain }], guard := none }) rfl (fun K hK => ?_) ?_
         ·skip
          have OWN := Lib.hid (HC.out.nm.own 2 _ (nms_at (by omega)))
          have hn3 : (h.sort 2).1.n ≤ 60 := by have := HJJ.out; omega
          refine step_append_any _ rfl (.tmp 46) (.tmp 49) 22 rfl w.heap.size 9 i0 _ 1 16 Tryz.underlying22 hi hz0 hz1 hz2 rfl (by decide) (.slice (h.sort 2).1.A (h.sort 2).1.n (h.sort 2).1.c) (h.sort 2).1.n _ rfl OWN.out _ (some ⟨XS, 0, none⟩) 1 _ (strs [s]) rfl SL.out (strs_one _) (by unfold maxLen; omega) (by omega) HC.out.below.size ?_
          intro v' w6 hown6 hgrow6 hat6; obtain ⟨A6, c6, rfl, -, -⟩ := own_form2 hown6
          have HX6 := Lib.hid (HX.out.keepT (KeepT.grown OWN.out hgrow6) (by decide) (by decide))
          have KB6 := Lib.hid ((KeepT.grown OWN.out hgrow6).blk HC.out.b3 (by decide))
          have HO6 := Lib.hid hown6
          have HG6 := Lib.hid hgrow6
          have HA6 := Lib.hid hat6
          clear hown6 hgrow6 hat6 hHeld
          refine hK.out _ _ HX6.out.2 (fun hHeld => ?_)
          clear hK K
          try simp only [Act.put, sA, sB, sC]
          refine tkv 12 (some 51) (.pointer (some ⟨B3, 2, none⟩)) rfl rfl (fun w' hSw => by (try dsimp only at hSw); go_simp) ?_
          try simp only [Act.put, sA, sB, sC]
          refine wpAnyH_ready (rs := [13]) (by kernel_rfl) (by simp) ?_
          refine AllReadyH.cons (o := { dst := none, op := Op.store 22 (Operand.tmp 51) (Operand.tmp 50), type := 0, pos := "rows.go:134", after := #[{ on := 12, ground := Ground.data }, { on := 11, ground := Ground.data }, { on := 11, ground := Ground.chain }, { on := 0, ground := Ground.phase }, { on := 1, ground := Ground.phase }, { on := 2, ground := Ground.phase }, { on := 3, ground := Ground.phase }, { on := 4, ground := Ground.phase }, { on := 5, ground := Ground.phase }, { on := 6, ground := Ground.phase }, { on := 7, ground := Ground.phase }, { on := 8, ground := Ground.phase }, { on := 9, ground := Ground.phase }, { on := 10, ground := Ground.phase }, { on := 11, ground := Ground.phase }], guard := none }) rfl (fun K hK => ?_) ?_
          ·skip
           have y3 := KB6.out.cell 2
           have f3 := KB6.out.frozen 2
           go_simp
           have HX := Lib.hid (HX6.out.far KB6.out HC.out.ne.1 2 (.slice A6 ((h.sort 2).1.n + 1) c6))
           have HC := Lib.hid (HC.out.text (k := 2) (us := [s]) (by omega) HO6.out HG6.out HA6.out)
           have HP := Lib.hid (HP.out.next (A := A6) (c := c6) (by omega) HSJ.out)
           have HNS : Hid ((setSort h 2 (⟨A6, (h.sort 2).1.n + [s].length, c6⟩, (h.sort 2).2 ++ [s])).ev.1.n = m.ev.1.n ∧ (setSort h 2 (⟨A6, (h.sort 2).1.n + [s].length, c6⟩, (h.sort 2).2 ++ [s])).od.1.n = m.od.1.n ∧ (setSort h 2 (⟨A6, (h.sort 2).1.n + [s].length, c6⟩, (h.sort 2).2 ++ [s])).ma.1.n = m.ma.1.n ∧ (setSort h 2 (⟨A6, (h.sort 2).1.n + [s].length, c6⟩, (h.sort 2).2 ++ [s])).wa.1.n = m.wa.1.n) := HNS.out
           clear HX6 KB6 HO6 HG6 HA6 OWN SL hn3 y3 f3 hHeld HJJ
           refine hK.out _ _ HX.out.2 (fun hHeld => ?_)
           clear hK K
           simp only [Act.put]
           refine wpAnyH_done (by kernel_rfl) ?_ _
           refine NoPanic.normal ?_
           go_wp2_with fail
           go_roundw
           case rel => exact ⟨j + 1, _, hjn, by go_num, HC, HP, HX, HNS⟩
           case measure => simp [intOf]; omega
          exact AllReadyH.nil
         exact AllReadyH.nil
        exact AllReadyH.nil
       refine AllReadyH.cons rfl (fun K hK => ?_) ?_
       ·skip
        go_simp
        have hal : Below w5.heap.size w5 (w5.alloc (.cells #[.string s] 9)) := (Below.refl _ _).alloc (Nat.le_refl _) _
        have HC := Lib.hid (HC.out.on hal)
        have HX := Lib.hid (HX.out.on hal)
        have SL := Lib.hid (str_lit w5 [s] 9 #[.string s] rfl)
        clear hal hHeld
        refine hK.out _ _ HX.out.2 (fun hHeld => ?_)
        clear hK K
        try simp only [Act.put, sA, sB, sC]
        generalize w5.alloc (.cells #[.string s] 9) = ua at *
        generalize w5.heap.size = XS at *
        refine wpAnyH_ready (rs := [7]) (by kernel_rfl) (by simp) ?_
        refine AllReadyH.cons rfl (fun K hK => ?_) ?_
        ·skip
         have z3 := (HC.out.b3.cell 2).trans (cs_sort h 2 (by omega))
         go_simp
         clear hHeld z3
         refine hK.out _ _ HX.out.2 (fun hHeld => ?_)
         clear hK K
         try simp only [Act.put, sA, sB, sC]
         refine wpAnyH_ready (rs := [11]) (by kernel_rfl) (by simp) ?_
         refine AllReadyH.cons (o := { dst := some 50, op := Op.call { callee := Callee.builtin Builtin.append, args := #[Operand.tmp 46, Operand.tmp 49], argTypes := #[22, 22] }, type := 22, pos := "rows.go:134", after := #[{ on := 7, ground := Ground.data }, { on := 10, ground := Ground.data }, { on := 9, ground := Ground.chain }], guard := none }) rfl (fun K hK => ?_) ?_
         ·skip
          have OWN := Lib.hid (HC.out.nm.own 2 _ (nms_at (by omega)))
          have hn3 : (h.sort 2).1.n ≤ 60 := by have := HJJ.out; omega
          refine step_append_any _ rfl (.tmp 46) (.tmp 49) 22 rfl w.heap.size 9 i0 _ 1 16 Tryz.underlying22 hi hz0 hz1 hz2 rfl (by decide) (.slice (h.sort 2).1.A (h.sort 2).1.n (h.sort 2).1.c) (h.sort 2).1.n _ rfl OWN.out _ (some ⟨XS, 0, none⟩) 1 _ (strs [s]) rfl SL.out (strs_one _) (by unfold maxLen; omega) (by omega) HC.out.below.size ?_
          intro v' w6 hown6 hgrow6 hat6; obtain ⟨A6, c6, rfl, -, -⟩ := own_form2 hown6
          have HX6 := Lib.hid (HX.out.keepT (KeepT.grown OWN.out hgrow6) (by decide) (by decide))
          have KB6 := Lib.hid ((KeepT.grown OWN.out hgrow6).blk HC.out.b3 (by decide))
          have HO6 := Lib.hid hown6
          have HG6 := Lib.hid hgrow6
          have HA6 := Lib.hid hat6
          clear hown6 hgrow6 hat6 hHeld
          refine hK.out _ _ HX6.out.2 (fun hHeld => ?_)
          clear hK K
          try simp only [Act.put, sA, sB, sC]
          refine tkv 12 (some 51) (.pointer (some ⟨B3, 2, none⟩)) rfl rfl (fun w' hSw => by (try dsimp only at hSw); go_simp) ?_
          try simp only [Act.put, sA, sB, sC]
          refine wpAnyH_ready (rs := [13]) (by kernel_rfl) (by simp) ?_
          refine AllReadyH.cons (o := { dst := none, op := Op.store 22 (Operand.tmp 51) (Operand.tmp 50), type := 0, pos := "rows.go:134", after := #[{ on := 12, ground := Ground.data }, { on := 11, ground := Ground.data }, { on := 11, ground := Ground.chain }, { on := 0, ground := Ground.phase }, { on := 1, ground := Ground.phase }, { on := 2, ground := Ground.phase }, { on := 3, ground := Ground.phase }, { on := 4, ground := Ground.phase }, { on := 5, ground := Ground.phase }, { on := 6, ground := Ground.phase }, { on := 7, ground := Ground.phase }, { on := 8, ground := Ground.phase }, { on := 9, ground := Ground.phase }, { on := 10, ground := Ground.phase }, { on := 11, ground := Ground.phase }], guard := none }) rfl (fun K hK => ?_) ?_
          ·skip
           have y3 := KB6.out.cell 2
           have f3 := KB6.out.frozen 2
           go_simp
           have HX := Lib.hid (HX6.out.far KB6.out HC.out.ne.1 2 (.slice A6 ((h.sort 2).1.n + 1) c6))
           have HC := Lib.hid (HC.out.text (k := 2) (us := [s]) (by omega) HO6.out HG6.out HA6.out)
           have HP := Lib.hid (HP.out.next (A := A6) (c := c6) (by omega) HSJ.out)
           have HNS : Hid ((setSort h 2 (⟨A6, (h.sort 2).1.n + [s].length, c6⟩, (h.sort 2).2 ++ [s])).ev.1.n = m.ev.1.n ∧ (setSort h 2 (⟨A6, (h.sort 2).1.n + [s].length, c6⟩, (h.sort 2).2 ++ [s])).od.1.n = m.od.1.n ∧ (setSort h 2 (⟨A6, (h.sort 2).1.n + [s].length, c6⟩, (h.sort 2).2 ++ [s])).ma.1.n = m.ma.1.n ∧ (setSort h 2 (⟨A6, (h.sort 2).1.n + [s].length, c6⟩, (h.sort 2).2 ++ [s])).wa.1.n = m.wa.1.n) := HNS.out
           clear HX6 KB6 HO6 HG6 HA6 OWN SL hn3 y3 f3 hHeld HJJ
           refine hK.out _ _ HX.out.2 (fun hHeld => ?_)
           clear hK K
           simp only [Act.put]
           refine wpAnyH_done (by kernel_rfl) ?_ _
           refine NoPanic.normal ?_
           go_wp2_with fail
           go_roundw
           case rel => exact ⟨j + 1, _, hjn, by go_num, HC, HP, HX, HNS⟩
           case measure => simp [intOf]; omega
          exact AllReadyH.nil
         exact AllReadyH.nil
        exact AllReadyH.nil
       exact AllReadyH.nil
      exact AllReadyH.nil
     ·obtain rfl : j = n := by omega
      have HP := Lib.hid (HP.out.all (by omega) hl.out)
      go_wp2_with fail
      go_roundw
      case rel => exact ⟨3, h, by omega, rfl, HC, HP, HX, HNS⟩
      case measure => simp [intOf]
   ·have z1 : wr.cell? ⟨Bh, 3, none⟩ = some (.slice (m.sort 3).1.A (m.sort 3).1.n (m.sort 3).1.c) := (HX.out.1.cell 3).trans (cs_sort m 3 (by omega))
    simp only [show ((3 : Nat) : Int) = 3 from rfl]
    have hix := idx4_3 Bh wr
    have hr := Lib.hid (hm.sort 3)
    have hl := Lib.hid (strs_len (hm.sort 3))
    have h60 := hS.sort 3
    have hnm : (m.sort 3).1.n ≤ 60 := by have := hl.out; omega
    clear h60
    obtain ⟨sA, hsA⟩ : ∃ sA, (m.sort 3).1 = sA := ⟨_, rfl⟩
    rw [hsA] at z1 hr hl hnm
    obtain ⟨A0, n, c0⟩ := sA
    simp only at z1 hr hl hnm
    clear hsA
    go_wp2_with fail
    rename World => wo
    clear z1 hix
    go_loopw [35] (fun v wr => ∃ (j : Nat) (h : HistM), j ≤ n ∧ v = .int .i64 j ∧ Hid (CpI Bh B3 w wr h [] []) ∧ Hid (PhB m h 3 j) ∧ Hid (BoxC m Bh B3 B4 wr) ∧ Hid (h.ev.1.n = m.ev.1.n ∧ h.od.1.n = m.od.1.n ∧ h.ma.1.n = m.ma.1.n ∧ h.wa.1.n = m.wa.1.n)) (fun v _ => n - (intOf v).toNat)
    case atStart => exact ⟨0, h, Nat.zero_le _, rfl, HC, HP.out.start (by omega), HX, HNS⟩
    case round =>
     clear HC HP HX HNS
     obtain ⟨j, h, hj, rfl, HC, HP, HX, HNS⟩ := hrel
     by_cases hjn : j < n
     ·have hlt : (j : Int) < (n : Int) := by omega
      obtain ⟨s, hs⟩ : ∃ s, (m.sort 3).2[j]? = some s := ⟨(m.sort 3).2[j]'(by rw [hl.out]; exact hjn), List.getElem?_eq_getElem _⟩
      obtain ⟨b, o, rfl, hbb, g0⟩ := str_at (hr.out.below HC.out.below) hs
      have hsz := hS.sizes (k := 3) (by omega) s (List.mem_of_getElem? hs)
      have HCL := Lib.hid (fun W => sclone_any s (by omega) W)
      have HSJ := Lib.hid hs
      have HJJ := Lib.hid HP.out.2.1.2
      clear hs hsz hbb
      go_wp2_with fail
      refine wp_region_noPanic ?_
      refine wp_region_held_drew (S := fun W => Blk W B4 75 #[.pointer (some ⟨B3, 0, none⟩), .pointer (some ⟨B3, 1, none⟩), .pointer (some ⟨B3, 2, none⟩), .pointer (some ⟨B3, 3, none⟩)]) (by kernel_rfl) HX.out.2 (fun hHeld => ?_)
      have HC := Lib.hid (HC.out.on ((Below.refl _ _).drew))
      have HX := Lib.hid (HX.out.on ((Below.refl _ _).drew))
      generalize wr.drew = wd at *
      refine tkv 0 (some 39) (.int .i64 3) rfl rfl (fun w' hSw => by (try dsimp only at hSw); go_simp) ?_
      try simp only [Act.put, sA, sB, sC]
      refine tkv 1 (some 40) (.pointer (some ⟨B4, 3, none⟩)) rfl rfl (fun w' hSw => by (try dsimp only at hSw); go_simp) ?_
      try simp only [Act.put, sA, sB, sC]
      refine tkv 2 (some 41) (.pointer (some ⟨B3, 3, none⟩)) rfl rfl (fun w' hSw => by (have c9 : w'.cell? ⟨B4, 3, none⟩ = some (.pointer (some ⟨B3, 3, none⟩)) := Blk.cell (w := w') hSw 3; go_simp)) ?_
      try simp only [Act.put, sA, sB, sC]
      refine tkv 3 (some 42) (.int .i64 3) rfl rfl (fun w' hSw => by (try dsimp only at hSw); go_simp) ?_
      try simp only [Act.put, sA, sB, sC]
      refine tkv 4 (some 43) (.pointer (some ⟨B4, 3, none⟩)) rfl rfl (fun w' hSw => by (try dsimp only at hSw); go_simp) ?_
      try simp only [Act.put, sA, sB, sC]
      refine tkv 5 (some 44) (.pointer (some ⟨B3, 3, none⟩)) rfl rfl (fun w' hSw => by (have c9 : w'.cell? ⟨B4, 3, none⟩ = some (.pointer (some ⟨B3, 3, none⟩)) := Blk.cell (w := w') hSw 3; go_simp)) ?_
      try simp only [Act.put, sA, sB, sC]
      refine tkv 6 (some 45) (.pointer (some ⟨B3, 3, none⟩)) rfl rfl (fun w' hSw => by (try dsimp only at hSw); go_simp) ?_
      try simp only [Act.put, sA, sB, sC]
      refine tkv 8 (some 47) (.string s) rfl rfl (fun w' hSw => by (try dsimp only at hSw); go_simp) ?_
      try simp only [Act.put, sA, sB, sC]
      refine wpAnyH_ready (rs := [7, 9]) (by kernel_rfl) (by simp) ?_
      refine AllReadyH.cons rfl (fun K hK => ?_) ?_
      ·skip
       have z3 := (HC.out.b3.cell 3).trans (cs_sort h 3 (by omega))
       go_simp
       clear hHeld z3
       refine hK.out _ _ HX.out.2 (fun hHeld => ?_)
       clear hK K
       try simp only [Act.put, sA, sB, sC]
       refine wpAnyH_ready (rs := [9]) (by kernel_rfl) (by simp) ?_
       refine AllReadyH.cons rfl (fun K hK => ?_) ?_
       ·skip
        go_simp
        refine (HCL.out _).mono ?_
        rintro e w5 ⟨rfl, b5⟩
        have HC := Lib.hid (HC.out.on b5)
        have HX := Lib.hid (HX.out.on b5)
        clear b5 hHeld
        go_simp
        refine hK.out _ _ HX.out.2 (fun hHeld => ?_)
        clear hK K
        try simp only [Act.put, sA, sB, sC]
        refine wpAnyH_ready (rs := [10]) (by kernel_rfl) (by simp) ?_
        refine AllReadyH.cons rfl (fun K hK => ?_) ?_
        ·skip
         go_simp
         have hal : Below w5.heap.size w5 (w5.alloc (.cells #[.string s] 9)) := (Below.refl _ _).alloc (Nat.le_refl _) _
         have HC := Lib.hid (HC.out.on hal)
         have HX := Lib.hid (HX.out.on hal)
         have SL := Lib.hid (str_lit w5 [s] 9 #[.string s] rfl)
         clear hal hHeld
         refine hK.out _ _ HX.out.2 (fun hHeld => ?_)
         clear hK K
         try simp only [Act.put, sA, sB, sC]
         generalize w5.alloc (.cells #[.string s] 9) = ua at *
         generalize w5.heap.size = XS at *
         refine wpAnyH_ready (rs := [11]) (by kernel_rfl) (by simp) ?_
         refine AllReadyH.cons (o := { dst := some 50, op := Op.call { callee := Callee.builtin Builtin.append, args := #[Operand.tmp 46, Operand.tmp 49], argTypes := #[22, 22] }, type := 22, pos := "rows.go:134", after := #[{ on := 7, ground := Ground.data }, { on := 10, ground := Ground.data }, { on := 9, ground := Ground.chain }], guard := none }) rfl (fun K hK => ?_) ?_
         ·skip
          have OWN := Lib.hid (HC.out.nm.own 3 _ (nms_at (by omega)))
          have hn3 : (h.sort 3).1.n ≤ 60 := by have := HJJ.out; omega
          refine step_append_any _ rfl (.tmp 46) (.tmp 49) 22 rfl w.heap.size 9 i0 _ 1 16 Tryz.underlying22 hi hz0 hz1 hz2 rfl (by decide) (.slice (h.sort 3).1.A (h.sort 3).1.n (h.sort 3).1.c) (h.sort 3).1.n _ rfl OWN.out _ (some ⟨XS, 0, none⟩) 1 _ (strs [s]) rfl SL.out (strs_one _) (by unfold maxLen; omega) (by omega) HC.out.below.size ?_
          intro v' w6 hown6 hgrow6 hat6; obtain ⟨A6, c6, rfl, -, -⟩ := own_form2 hown6
          have HX6 := Lib.hid (HX.out.keepT (KeepT.grown OWN.out hgrow6) (by decide) (by decide))
          have KB6 := Lib.hid ((KeepT.grown OWN.out hgrow6).blk HC.out.b3 (by decide))
          have HO6 := Lib.hid hown6
          have HG6 := Lib.hid hgrow6
          have HA6 := Lib.hid hat6
          clear hown6 hgrow6 hat6 hHeld
          refine hK.out _ _ HX6.out.2 (fun hHeld => ?_)
          clear hK K
          try simp only [Act.put, sA, sB, sC]
          refine tkv 12 (some 51) (.pointer (some ⟨B3, 3, none⟩)) rfl rfl (fun w' hSw => by (try dsimp only at hSw); go_simp) ?_
          try simp only [Act.put, sA, sB, sC]
          refine wpAnyH_ready (rs := [13]) (by kernel_rfl) (by simp) ?_
          refine AllReadyH.cons (o := { dst := none, op := Op.store 22 (Operand.tmp 51) (Operand.tmp 50), type := 0, pos := "rows.go:134", after := #[{ on := 12, ground := Ground.data }, { on := 11, ground := Ground.data }, { on := 11, ground := Ground.chain }, { on := 0, ground := Ground.phase }, { on := 1, ground := Ground.phase }, { on := 2, ground := Ground.phase }, { on := 3, ground := Ground.phase }, { on := 4, ground := Ground.phase }, { on := 5, ground := Ground.phase }, { on := 6, ground := Ground.phase }, { on := 7, ground := Ground.phase }, { on := 8, ground := Ground.phase }, { on := 9, ground := Ground.phase }, { on := 10, ground := Ground.phase }, { on := 11, ground := Ground.phase }], guard := none }) rfl (fun K hK => ?_) ?_
          ·skip
           have y3 := KB6.out.cell 3
           have f3 := KB6.out.frozen 3
           go_simp
           have HX := Lib.hid (HX6.out.far KB6.out HC.out.ne.1 3 (.slice A6 ((h.sort 3).1.n + 1) c6))
           have HC := Lib.hid (HC.out.text (k := 3) (us := [s]) (by omega) HO6.out HG6.out HA6.out)
           have HP := Lib.hid (HP.out.next (A := A6) (c := c6) (by omega) HSJ.out)
           have HNS : Hid ((setSort h 3 (⟨A6, (h.sort 3).1.n + [s].length, c6⟩, (h.sort 3).2 ++ [s])).ev.1.n = m.ev.1.n ∧ (setSort h 3 (⟨A6, (h.sort 3).1.n + [s].length, c6⟩, (h.sort 3).2 ++ [s])).od.1.n = m.od.1.n ∧ (setSort h 3 (⟨A6, (h.sort 3).1.n + [s].length, c6⟩, (h.sort 3).2 ++ [s])).ma.1.n = m.ma.1.n ∧ (setSort h 3 (⟨A6, (h.sort 3).1.n + [s].length, c6⟩, (h.sort 3).2 ++ [s])).wa.1.n = m.wa.1.n) := HNS.out
           clear HX6 KB6 HO6 HG6 HA6 OWN SL hn3 y3 f3 hHeld HJJ
           refine hK.out _ _ HX.out.2 (fun hHeld => ?_)
           clear hK K
           simp only [Act.put]
           refine wpAnyH_done (by kernel_rfl) ?_ _
           refine NoPanic.normal ?_
           go_wp2_with fail
           go_roundw
           case rel => exact ⟨j + 1, _, hjn, by go_num, HC, HP, HX, HNS⟩
           case measure => simp [intOf]; omega
          exact AllReadyH.nil
         exact AllReadyH.nil
        exact AllReadyH.nil
       exact AllReadyH.nil
      refine AllReadyH.cons rfl (fun K hK => ?_) ?_
      ·skip
       go_simp
       refine (HCL.out _).mono ?_
       rintro e w5 ⟨rfl, b5⟩
       have HC := Lib.hid (HC.out.on b5)
       have HX := Lib.hid (HX.out.on b5)
       clear b5 hHeld
       go_simp
       refine hK.out _ _ HX.out.2 (fun hHeld => ?_)
       clear hK K
       try simp only [Act.put, sA, sB, sC]
       refine wpAnyH_ready (rs := [7, 10]) (by kernel_rfl) (by simp) ?_
       refine AllReadyH.cons rfl (fun K hK => ?_) ?_
       ·skip
        have z3 := (HC.out.b3.cell 3).trans (cs_sort h 3 (by omega))
        go_simp
        clear hHeld z3
        refine hK.out _ _ HX.out.2 (fun hHeld => ?_)
        clear hK K
        try simp only [Act.put, sA, sB, sC]
        refine wpAnyH_ready (rs := [10]) (by kernel_rfl) (by simp) ?_
        refine AllReadyH.cons rfl (fun K hK => ?_) ?_
        ·skip
         go_simp
         have hal : Below w5.heap.size w5 (w5.alloc (.cells #[.string s] 9)) := (Below.refl _ _).alloc (Nat.le_refl _) _
         have HC := Lib.hid (HC.out.on hal)
         have HX := Lib.hid (HX.out.on hal)
         have SL := Lib.hid (str_lit w5 [s] 9 #[.string s] rfl)
         clear hal hHeld
         refine hK.out _ _ HX.out.2 (fun hHeld => ?_)
         clear hK K
         try simp only [Act.put, sA, sB, sC]
         generalize w5.alloc (.cells #[.string s] 9) = ua at *
         generalize w5.heap.size = XS at *
         refine wpAnyH_ready (rs := [11]) (by kernel_rfl) (by simp) ?_
         refine AllReadyH.cons (o := { dst := some 50, op := Op.call { callee := Callee.builtin Builtin.append, args := #[Operand.tmp 46, Operand.tmp 49], argTypes := #[22, 22] }, type := 22, pos := "rows.go:134", after := #[{ on := 7, ground := Ground.data }, { on := 10, ground := Ground.data }, { on := 9, ground := Ground.chain }], guard := none }) rfl (fun K hK => ?_) ?_
         ·skip
          have OWN := Lib.hid (HC.out.nm.own 3 _ (nms_at (by omega)))
          have hn3 : (h.sort 3).1.n ≤ 60 := by have := HJJ.out; omega
          refine step_append_any _ rfl (.tmp 46) (.tmp 49) 22 rfl w.heap.size 9 i0 _ 1 16 Tryz.underlying22 hi hz0 hz1 hz2 rfl (by decide) (.slice (h.sort 3).1.A (h.sort 3).1.n (h.sort 3).1.c) (h.sort 3).1.n _ rfl OWN.out _ (some ⟨XS, 0, none⟩) 1 _ (strs [s]) rfl SL.out (strs_one _) (by unfold maxLen; omega) (by omega) HC.out.below.size ?_
          intro v' w6 hown6 hgrow6 hat6; obtain ⟨A6, c6, rfl, -, -⟩ := own_form2 hown6
          have HX6 := Lib.hid (HX.out.keepT (KeepT.grown OWN.out hgrow6) (by decide) (by decide))
          have KB6 := Lib.hid ((KeepT.grown OWN.out hgrow6).blk HC.out.b3 (by decide))
          have HO6 := Lib.hid hown6
          have HG6 := Lib.hid hgrow6
          have HA6 := Lib.hid hat6
          clear hown6 hgrow6 hat6 hHeld
          refine hK.out _ _ HX6.out.2 (fun hHeld => ?_)
          clear hK K
          try simp only [Act.put, sA, sB, sC]
          refine tkv 12 (some 51) (.pointer (some ⟨B3, 3, none⟩)) rfl rfl (fun w' hSw => by (try dsimp only at hSw); go_simp) ?_
          try simp only [Act.put, sA, sB, sC]
          refine wpAnyH_ready (rs := [13]) (by kernel_rfl) (by simp) ?_
          refine AllReadyH.cons (o := { dst := none, op := Op.store 22 (Operand.tmp 51) (Operand.tmp 50), type := 0, pos := "rows.go:134", after := #[{ on := 12, ground := Ground.data }, { on := 11, ground := Ground.data }, { on := 11, ground := Ground.chain }, { on := 0, ground := Ground.phase }, { on := 1, ground := Ground.phase }, { on := 2, ground := Ground.phase }, { on := 3, ground := Ground.phase }, { on := 4, ground := Ground.phase }, { on := 5, ground := Ground.phase }, { on := 6, ground := Ground.phase }, { on := 7, ground := Ground.phase }, { on := 8, ground := Ground.phase }, { on := 9, ground := Ground.phase }, { on := 10, ground := Ground.phase }, { on := 11, ground := Ground.phase }], guard := none }) rfl (fun K hK => ?_) ?_
          ·skip
           have y3 := KB6.out.cell 3
           have f3 := KB6.out.frozen 3
           go_simp
           have HX := Lib.hid (HX6.out.far KB6.out HC.out.ne.1 3 (.slice A6 ((h.sort 3).1.n + 1) c6))
           have HC := Lib.hid (HC.out.text (k := 3) (us := [s]) (by omega) HO6.out HG6.out HA6.out)
           have HP := Lib.hid (HP.out.next (A := A6) (c := c6) (by omega) HSJ.out)
           have HNS : Hid ((setSort h 3 (⟨A6, (h.sort 3).1.n + [s].length, c6⟩, (h.sort 3).2 ++ [s])).ev.1.n = m.ev.1.n ∧ (setSort h 3 (⟨A6, (h.sort 3).1.n + [s].length, c6⟩, (h.sort 3).2 ++ [s])).od.1.n = m.od.1.n ∧ (setSort h 3 (⟨A6, (h.sort 3).1.n + [s].length, c6⟩, (h.sort 3).2 ++ [s])).ma.1.n = m.ma.1.n ∧ (setSort h 3 (⟨A6, (h.sort 3).1.n + [s].length, c6⟩, (h.sort 3).2 ++ [s])).wa.1.n = m.wa.1.n) := HNS.out
           clear HX6 KB6 HO6 HG6 HA6 OWN SL hn3 y3 f3 hHeld HJJ
           refine hK.out _ _ HX.out.2 (fun hHeld => ?_)
           clear hK K
           simp only [Act.put]
           refine wpAnyH_done (by kernel_rfl) ?_ _
           refine NoPanic.normal ?_
           go_wp2_with fail
           go_roundw
           case rel => exact ⟨j + 1, _, hjn, by go_num, HC, HP, HX, HNS⟩
           case measure => simp [intOf]; omega
          exact AllReadyH.nil
         exact AllReadyH.nil
        exact AllReadyH.nil
       refine AllReadyH.cons rfl (fun K hK => ?_) ?_
       ·skip
        go_simp
        have hal : Below w5.heap.size w5 (w5.alloc (.cells #[.string s] 9)) := (Below.refl _ _).alloc (Nat.le_refl _) _
        have HC := Lib.hid (HC.out.on hal)
        have HX := Lib.hid (HX.out.on hal)
        have SL := Lib.hid (str_lit w5 [s] 9 #[.string s] rfl)
        clear hal hHeld
        refine hK.out _ _ HX.out.2 (fun hHeld => ?_)
        clear hK K
        try simp only [Act.put, sA, sB, sC]
        generalize w5.alloc (.cells #[.string s] 9) = ua at *
        generalize w5.heap.size = XS at *
        refine wpAnyH_ready (rs := [7]) (by kernel_rfl) (by simp) ?_
        refine AllReadyH.cons rfl (fun K hK => ?_) ?_
        ·skip
         have z3 := (HC.out.b3.cell 3).trans (cs_sort h 3 (by omega))
         go_simp
         clear hHeld z3
         refine hK.out _ _ HX.out.2 (fun hHeld => ?_)
         clear hK K
         try simp only [Act.put, sA, sB, sC]
         refine wpAnyH_ready (rs := [11]) (by kernel_rfl) (by simp) ?_
         refine AllReadyH.cons (o := { dst := some 50, op := Op.call { callee := Callee.builtin Builtin.append, args := #[Operand.tmp 46, Operand.tmp 49], argTypes := #[22, 22] }, type := 22, pos := "rows.go:134", after := #[{ on := 7, ground := Ground.data }, { on := 10, ground := Ground.data }, { on := 9, ground := Ground.chain }], guard := none }) rfl (fun K hK => ?_) ?_
         ·skip
          have OWN := Lib.hid (HC.out.nm.own 3 _ (nms_at (by omega)))
          have hn3 : (h.sort 3).1.n ≤ 60 := by have := HJJ.out; omega
          refine step_append_any _ rfl (.tmp 46) (.tmp 49) 22 rfl w.heap.size 9 i0 _ 1 16 Tryz.underlying22 hi hz0 hz1 hz2 rfl (by decide) (.slice (h.sort 3).1.A (h.sort 3).1.n (h.sort 3).1.c) (h.sort 3).1.n _ rfl OWN.out _ (some ⟨XS, 0, none⟩) 1 _ (strs [s]) rfl SL.out (strs_one _) (by unfold maxLen; omega) (by omega) HC.out.below.size ?_
          intro v' w6 hown6 hgrow6 hat6; obtain ⟨A6, c6, rfl, -, -⟩ := own_form2 hown6
          have HX6 := Lib.hid (HX.out.keepT (KeepT.grown OWN.out hgrow6) (by decide) (by decide))
          have KB6 := Lib.hid ((KeepT.grown OWN.out hgrow6).blk HC.out.b3 (by decide))
          have HO6 := Lib.hid hown6
          have HG6 := Lib.hid hgrow6
          have HA6 := Lib.hid hat6
          clear hown6 hgrow6 hat6 hHeld
          refine hK.out _ _ HX6.out.2 (fun hHeld => ?_)
          clear hK K
          try simp only [Act.put, sA, sB, sC]
          refine tkv 12 (some 51) (.pointer (some ⟨B3, 3, none⟩)) rfl rfl (fun w' hSw => by (try dsimp only at hSw); go_simp) ?_
          try simp only [Act.put, sA, sB, sC]
          refine wpAnyH_ready (rs := [13]) (by kernel_rfl) (by simp) ?_
          refine AllReadyH.cons (o := { dst := none, op := Op.store 22 (Operand.tmp 51) (Operand.tmp 50), type := 0, pos := "rows.go:134", after := #[{ on := 12, ground := Ground.data }, { on := 11, ground := Ground.data }, { on := 11, ground := Ground.chain }, { on := 0, ground := Ground.phase }, { on := 1, ground := Ground.phase }, { on := 2, ground := Ground.phase }, { on := 3, ground := Ground.phase }, { on := 4, ground := Ground.phase }, { on := 5, ground := Ground.phase }, { on := 6, ground := Ground.phase }, { on := 7, ground := Ground.phase }, { on := 8, ground := Ground.phase }, { on := 9, ground := Ground.phase }, { on := 10, ground := Ground.phase }, { on := 11, ground := Ground.phase }], guard := none }) rfl (fun K hK => ?_) ?_
          ·skip
           have y3 := KB6.out.cell 3
           have f3 := KB6.out.frozen 3
           go_simp
           have HX := Lib.hid (HX6.out.far KB6.out HC.out.ne.1 3 (.slice A6 ((h.sort 3).1.n + 1) c6))
           have HC := Lib.hid (HC.out.text (k := 3) (us := [s]) (by omega) HO6.out HG6.out HA6.out)
           have HP := Lib.hid (HP.out.next (A := A6) (c := c6) (by omega) HSJ.out)
           have HNS : Hid ((setSort h 3 (⟨A6, (h.sort 3).1.n + [s].length, c6⟩, (h.sort 3).2 ++ [s])).ev.1.n = m.ev.1.n ∧ (setSort h 3 (⟨A6, (h.sort 3).1.n + [s].length, c6⟩, (h.sort 3).2 ++ [s])).od.1.n = m.od.1.n ∧ (setSort h 3 (⟨A6, (h.sort 3).1.n + [s].length, c6⟩, (h.sort 3).2 ++ [s])).ma.1.n = m.ma.1.n ∧ (setSort h 3 (⟨A6, (h.sort 3).1.n + [s].length, c6⟩, (h.sort 3).2 ++ [s])).wa.1.n = m.wa.1.n) := HNS.out
           clear HX6 KB6 HO6 HG6 HA6 OWN SL hn3 y3 f3 hHeld HJJ
           refine hK.out _ _ HX.out.2 (fun hHeld => ?_)
           clear hK K
           simp only [Act.put]
           refine wpAnyH_done (by kernel_rfl) ?_ _
           refine NoPanic.normal ?_
           go_wp2_with fail
           go_roundw
           case rel => exact ⟨j + 1, _, hjn, by go_num, HC, HP, HX, HNS⟩
           case measure => simp [intOf]; omega
          exact AllReadyH.nil
         exact AllReadyH.nil
        exact AllReadyH.nil
       exact AllReadyH.nil
      exact AllReadyH.nil
     ·obtain rfl : j = n := by omega
      have HP := Lib.hid (HP.out.all (by omega) hl.out)
      go_wp2_with fail
      go_roundw
      case rel => exact ⟨4, h, by omega, rfl, HC, HP, HX, HNS⟩
      case measure => simp [intOf]
   ·have HNE : Hid (NamesEq h m) := fun s hs => HP.out.1 s hs hs
    have HPL : Hid (PlL m h) := pl_all HNE.out HP.out.2.2 HNS.out
    have HC : Hid (CpI Bh B3 w wr h ((h.ev.2.take 0).map scOf) []) := HC.out
    clear HNE HNS HP
    have z : wr.cell? ⟨B3, 4, none⟩ = some (.slice h.ev.1.A m.ev.1.n h.ev.1.c) := by rw [← HPL.out.2.1]; exact HC.out.b3.cell 4
    go_wp2_with fail
    rename World => wev
    clear z
    go_loopw [57] (fun v wr => ∃ (i : Nat) (h : HistM), i ≤ m.ev.1.n ∧ v = .int .i64 i ∧ Hid (CpS Bh B3 w wr h i) ∧ Hid (PlL m h) ∧ Hid (BoxC m Bh B3 B4 wr)) (fun v _ => m.ev.1.n - (intOf v).toNat)
    case atStart => exact ⟨0, h, Nat.zero_le _, rfl, HC, HPL, HX⟩
    case round =>
     clear HC HPL HX
     obtain ⟨i, h, hi0, rfl, HC, HPL, HX⟩ := hrel
     by_cases hin : i < m.ev.1.n
     ·have hlt : (i : Int) < (m.ev.1.n : Int) := by omega
      obtain ⟨⟨e, hd⟩, hs⟩ : ∃ p, m.ev.2[i]? = some p := ⟨m.ev.2[i]'(by rw [hm.fit.ev.1]; exact hin), List.getElem?_eq_getElem _⟩
      obtain ⟨b, o, hA, hbl, -⟩ := row_cells evCs_len (by omega) hm.ev hs
      have HQ : Hid (∀ W, Below w.heap.size w W → W.cell? ⟨b, o + i * 9 + 8, none⟩ = some (.slice hd.A hd.n hd.c)) := fun W hW => by
       obtain ⟨b2, o2, hA2, _, hc2⟩ := row_cells evCs_len (by omega) (hm.ev.below hW) hs
       obtain ⟨rfl, rfl⟩ : b = b2 ∧ o = o2 := by rw [hA] at hA2; simpa using hA2
       rw [Nat.add_assoc]
       exact hc2 8 _ rfl
      have HCL := Lib.hid fun W (hW : Below w.heap.size w W) => clone_se hd.A hd.n hd.c e.scan (by have := HLW.out.sc _ (List.mem_of_getElem? hs); show hd.n ≤ _; simp only at this; omega) W (((hm.sc _ (List.mem_of_getElem? hs)).below hW).more hW.size)
      have hbd : m.ev.1.n ≤ 1000 := HLW.out.ev
      have HSI := Lib.hid hs
      have HA := Lib.hid hA
      clear hs hA hbl
      go_wp2_with fail
      refine wp_region_noPanic ?_
      refine wp_region_held_drew (S := fun W => Blk W B3 28 h.cs ∧ Blk W Bh 28 m.cs ∧ Below w.heap.size w W) (by kernel_rfl) ⟨HC.out.b3, HX.out.1, (HC.out.on ((Below.refl _ _).drew)).below⟩ (fun hHeld => ?_)
      have HC : Hid (CpI Bh B3 w wr h ((h.ev.2.take i).map scOf) []) := HC.out
      have HC := Lib.hid (HC.out.on ((Below.refl _ _).drew))
      have HX := Lib.hid (HX.out.on ((Below.refl _ _).drew))
      generalize wr.drew = wd at *
      obtain ⟨g, h0, hg, hnext⟩ := HC.out.scan_next (B4 := B4) HPL.out HSI.out
      have HG := Lib.hid hg
      have HN := Lib.hid hnext
      have HL : Hid (h.ev.1.n = m.ev.1.n) := HPL.out.2.1
      clear hg hnext
      refine tkv 0 (some 60) (.pointer (some ⟨B3, 4, none⟩)) rfl rfl (fun w' hSw => by (try dsimp only at hSw); go_simp) ?_
      try simp only [Act.put, sA, sB, sC]
      refine tkv 1 (some 61) (.slice (some ⟨g, 0, none⟩) m.ev.1.n h.ev.1.c) rfl rfl (fun w' hSw => by (have c9 : w'.cell? ⟨B3, 4, none⟩ = some (.slice (some ⟨g, 0, none⟩) m.ev.1.n h.ev.1.c) := by rw [← HG.out, ← HL.out]; exact hSw.1.cell 4); go_simp) ?_
      try simp only [Act.put, sA, sB, sC]
      refine tkv 2 (some 62) (.int .i64 i) rfl rfl (fun w' hSw => by (try dsimp only at hSw); go_simp) ?_
      try simp only [Act.put, sA, sB, sC]
      refine tkv 3 (some 63) (.pointer (some ⟨Bh, 4, none⟩)) rfl rfl (fun w' hSw => by (try dsimp only at hSw); go_simp) ?_
      try simp only [Act.put, sA, sB, sC]
      refine tkv 4 (some 64) (.slice (some ⟨b, o, none⟩) m.ev.1.n m.ev.1.c) rfl rfl (fun w' hSw => by (have c9 : w'.cell? ⟨Bh, 4, none⟩ = some (.slice (some ⟨b, o, none⟩) m.ev.1.n m.ev.1.c) := by rw [← HA.out]; exact hSw.2.1.cell 4); go_simp) ?_
      try simp only [Act.put, sA, sB, sC]
      refine tkv 5 (some 65) (.int .i64 i) rfl rfl (fun w' hSw => by (try dsimp only at hSw); go_simp) ?_
      try simp only [Act.put, sA, sB, sC]
      refine tkv 6 (some 66) (.pointer (some ⟨b, o + i * 9, none⟩)) rfl rfl (fun w' hSw => by (try dsimp only at hSw); go_simp) ?_
      try simp only [Act.put, sA, sB, sC]
      refine tkv 7 (some 67) (.pointer (some ⟨b, o + i * 9 + 8, none⟩)) rfl rfl (fun w' hSw => by (try dsimp only at hSw); go_simp) ?_
      try simp only [Act.put, sA, sB, sC]
      refine tkv 8 (some 68) (.slice hd.A hd.n hd.c) rfl rfl (fun w' hSw => by (have c9 := HQ.out w' hSw.2.2); go_simp) ?_
      try simp only [Act.put, sA, sB, sC]
      refine wpAnyH_ready (rs := [9]) (by kernel_rfl) (by simp) ?_
      refine AllReadyH.cons rfl (fun K hK => ?_) ?_
      ·skip
       go_simp
       refine (HCL.out _ HC.out.below).mono ?_
       rintro e5 w5 ⟨A5, c5, rfl, ho5, hb5⟩
       have H5 := Lib.hid (HN.out _ hb5)
       have HX5 := Lib.hid (HX.out.on hb5)
       have HC5 := Lib.hid (HC.out.on hb5)
       have HO5 := Lib.hid ho5
       clear ho5 hb5 hHeld
       go_simp
       refine hK.out _ _ ⟨HC5.out.b3, HX5.out.1, HC5.out.below⟩ (fun hHeld => ?_)
       clear hK K
       try simp only [Act.put, sA, sB, sC]
       refine tkv 10 (some 70) (.pointer (some ⟨g, i * 9, none⟩)) rfl rfl (fun w' hSw => by (try dsimp only at hSw); go_simp) ?_
       try simp only [Act.put, sA, sB, sC]
       refine tkv 11 (some 71) (.pointer (some ⟨g, i * 9 + 8, none⟩)) rfl rfl (fun w' hSw => by (try dsimp only at hSw); go_simp) ?_
       try simp only [Act.put, sA, sB, sC]
       refine wpAnyH_ready (rs := [12]) (by kernel_rfl) (by simp) ?_
       refine AllReadyH.cons (o := { dst := none, op := Op.store 37 (Operand.tmp 71) (Operand.tmp 69), type := 0, pos := "rows.go:138", after := #[{ on := 11, ground := Ground.data }, { on := 9, ground := Ground.data }, { on := 9, ground := Ground.chain }, { on := 0, ground := Ground.phase }, { on := 1, ground := Ground.phase }, { on := 2, ground := Ground.phase }, { on := 3, ground := Ground.phase }, { on := 4, ground := Ground.phase }, { on := 5, ground := Ground.phase }, { on := 6, ground := Ground.phase }, { on := 7, ground := Ground.phase }, { on := 8, ground := Ground.phase }, { on := 9, ground := Ground.phase }], guard := none }) rfl (fun K hK => ?_) ?_
       ·skip
        have y5 := H5.out.1
        have f5 := H5.out.2.1
        go_simp
        obtain ⟨hx6, h6, hc6, hp6, hcs6, hka, hkb⟩ := H5.out.2.2 ⟨A5, hd.n, c5⟩ HO5.out HX5.out
        have HX6 := Lib.hid hx6
        have HP6 := Lib.hid hp6
        have hb36 := hc6.b3
        rw [hcs6] at hb36
        have HB36 := Lib.hid hb36
        have hc7 : CpI Bh B3 w (w5.setCell ⟨g, i * 9 + 8, none⟩ (.slice A5 hd.n c5)) h6 ((h6.ev.2.take (i + 1)).map scOf) [] := by exact hc6
        have HC6 := Lib.hid hc7
        clear hx6 hc6 hp6 hcs6 hka hkb hb36 hc7 H5 HX5 HC5 HO5 y5 f5 hHeld
        refine hK.out _ _ ⟨HB36.out, HX6.out.1, HC6.out.below⟩ (fun hHeld => ?_)
        clear hK K
        refine wpAnyH_done (by kernel_rfl) ?_ _
        refine NoPanic.normal ?_
        go_wp2_with fail
        go_roundw
        case rel => exact ⟨i + 1, hin, by omega, h6, HC6, HP6⟩
        case measure => simp [intOf]; omega
       exact AllReadyH.nil
      exact AllReadyH.nil
     ·obtain rfl : i = m.ev.1.n := by omega
      have HC : Hid (CpI Bh B3 w wr h ((h.ev.2).map scOf) ((h.od.2.take 0).map toOf)) := by have : CpI Bh B3 w wr h ((h.ev.2.take m.ev.1.n).map scOf) [] := HC.out; rwa [List.take_of_length_le (by rw [own_long evCs_len (by omega) this.ev, HPL.out.2.1]; exact Nat.le_refl _)] at this
      have z : wr.cell? ⟨B3, 5, none⟩ = some (.slice h.od.1.A m.od.1.n h.od.1.c) := by rw [← HPL.out.2.2.1]; exact HC.out.b3.cell 5
      go_wp2_with fail
      rename World => wod
      clear z
      go_loopw [76] (fun v wr => ∃ (i : Nat) (h : HistM), i ≤ m.od.1.n ∧ v = .int .i64 i ∧ Hid (CpO Bh B3 w wr h i) ∧ Hid (PlL m h) ∧ Hid (BoxC m Bh B3 B4 wr)) (fun v _ => m.od.1.n - (intOf v).toNat)
      case atStart => exact ⟨0, h, Nat.zero_le _, rfl, HC, HPL, HX⟩
      case round =>
       clear HC HPL HX
       obtain ⟨i, h, hi0, rfl, HC, HPL, HX⟩ := hrel
       by_cases hin : i < m.od.1.n
       ·have hlt : (i : Int) < (m.od.1.n : Int) := by omega
        obtain ⟨⟨e, hd⟩, hs⟩ : ∃ p, m.od.2[i]? = some p := ⟨m.od.2[i]'(by rw [hm.fit.od.1]; exact hin), List.getElem?_eq_getElem _⟩
        obtain ⟨b, o, hA, hbl, -⟩ := row_cells odCs_len (by omega) hm.od hs
        have HQ : Hid (∀ W, Below w.heap.size w W → W.cell? ⟨b, o + i * 2 + 1, none⟩ = some (.slice hd.A hd.n hd.c)) := fun W hW => by
         obtain ⟨b2, o2, hA2, _, hc2⟩ := row_cells odCs_len (by omega) (hm.od.below hW) hs
         obtain ⟨rfl, rfl⟩ : b = b2 ∧ o = o2 := by rw [hA] at hA2; simpa using hA2
         rw [Nat.add_assoc]
         exact hc2 1 _ rfl
        have HCL := Lib.hid fun W (hW : Below w.heap.size w W) => clone_in hd.A hd.n hd.c e.ts (by have := HLW.out.ot _ (List.mem_of_getElem? hs); show hd.n ≤ _; simp only at this; omega) W (((hm.ot _ (List.mem_of_getElem? hs)).below hW).more hW.size)
        have hbd : m.od.1.n ≤ 1000 := HLW.out.od
        have HSI := Lib.hid hs
        have HA := Lib.hid hA
        clear hs hA hbl
        go_wp2_with fail
        refine wp_region_noPanic ?_
        refine wp_region_held_drew (S := fun W => Blk W B3 28 h.cs ∧ Blk W Bh 28 m.cs ∧ Below w.heap.size w W) (by kernel_rfl) ⟨HC.out.b3, HX.out.1, (HC.out.on ((Below.refl _ _).drew)).below⟩ (fun hHeld => ?_)
        have HC : Hid (CpI Bh B3 w wr h (h.ev.2.map scOf) ((h.od.2.take i).map toOf)) := HC.out
        have HC := Lib.hid (HC.out.on ((Below.refl _ _).drew))
        have HX := Lib.hid (HX.out.on ((Below.refl _ _).drew))
        generalize wr.drew = wd at *
        obtain ⟨g, h0, hg, hnext⟩ := HC.out.ord_next (B4 := B4) HPL.out HSI.out
        have HG := Lib.hid hg
        have HN := Lib.hid hnext
        have HL : Hid (h.od.1.n = m.od.1.n) := HPL.out.2.2.1
        clear hg hnext
        refine tkv 0 (some 79) (.pointer (some ⟨B3, 5, none⟩)) rfl rfl (fun w' hSw => by (try dsimp only at hSw); go_simp) ?_
        try simp only [Act.put, sA, sB, sC]
        refine tkv 1 (some 80) (.slice (some ⟨g, 0, none⟩) m.od.1.n h.od.1.c) rfl rfl (fun w' hSw => by (have c9 : w'.cell? ⟨B3, 5, none⟩ = some (.slice (some ⟨g, 0, none⟩) m.od.1.n h.od.1.c) := by rw [← HG.out, ← HL.out]; exact hSw.1.cell 5); go_simp) ?_
        try simp only [Act.put, sA, sB, sC]
        refine tkv 2 (some 81) (.int .i64 i) rfl rfl (fun w' hSw => by (try dsimp only at hSw); go_simp) ?_
        try simp only [Act.put, sA, sB, sC]
        refine tkv 3 (some 82) (.pointer (some ⟨Bh, 5, none⟩)) rfl rfl (fun w' hSw => by (try dsimp only at hSw); go_simp) ?_
        try simp only [Act.put, sA, sB, sC]
        refine tkv 4 (some 83) (.slice (some ⟨b, o, none⟩) m.od.1.n m.od.1.c) rfl rfl (fun w' hSw => by (have c9 : w'.cell? ⟨Bh, 5, none⟩ = some (.slice (some ⟨b, o, none⟩) m.od.1.n m.od.1.c) := by rw [← HA.out]; exact hSw.2.1.cell 5); go_simp) ?_
        try simp only [Act.put, sA, sB, sC]
        refine tkv 5 (some 84) (.int .i64 i) rfl rfl (fun w' hSw => by (try dsimp only at hSw); go_simp) ?_
        try simp only [Act.put, sA, sB, sC]
        refine tkv 6 (some 85) (.pointer (some ⟨b, o + i * 2, none⟩)) rfl rfl (fun w' hSw => by (try dsimp only at hSw); go_simp) ?_
        try simp only [Act.put, sA, sB, sC]
        refine tkv 7 (some 86) (.pointer (some ⟨b, o + i * 2 + 1, none⟩)) rfl rfl (fun w' hSw => by (try dsimp only at hSw); go_simp) ?_
        try simp only [Act.put, sA, sB, sC]
        refine tkv 8 (some 87) (.slice hd.A hd.n hd.c) rfl rfl (fun w' hSw => by (have c9 := HQ.out w' hSw.2.2); go_simp) ?_
        try simp only [Act.put, sA, sB, sC]
        refine wpAnyH_ready (rs := [9]) (by kernel_rfl) (by simp) ?_
        refine AllReadyH.cons rfl (fun K hK => ?_) ?_
        ·skip
         go_simp
         refine (HCL.out _ HC.out.below).mono ?_
         rintro e5 w5 ⟨A5, c5, rfl, ho5, hb5⟩
         have H5 := Lib.hid (HN.out _ hb5)
         have HX5 := Lib.hid (HX.out.on hb5)
         have HC5 := Lib.hid (HC.out.on hb5)
         have HO5 := Lib.hid ho5
         clear ho5 hb5 hHeld
         go_simp
         refine hK.out _ _ ⟨HC5.out.b3, HX5.out.1, HC5.out.below⟩ (fun hHeld => ?_)
         clear hK K
         try simp only [Act.put, sA, sB, sC]
         refine tkv 10 (some 89) (.pointer (some ⟨g, i * 2, none⟩)) rfl rfl (fun w' hSw => by (try dsimp only at hSw); go_simp) ?_
         try simp only [Act.put, sA, sB, sC]
         refine tkv 11 (some 90) (.pointer (some ⟨g, i * 2 + 1, none⟩)) rfl rfl (fun w' hSw => by (try dsimp only at hSw); go_simp) ?_
         try simp only [Act.put, sA, sB, sC]
         refine wpAnyH_ready (rs := [12]) (by kernel_rfl) (by simp) ?_
         refine AllReadyH.cons (o := { dst := none, op := Op.store 45 (Operand.tmp 90) (Operand.tmp 88), type := 0, pos := "rows.go:141", after := #[{ on := 11, ground := Ground.data }, { on := 9, ground := Ground.data }, { on := 9, ground := Ground.chain }, { on := 0, ground := Ground.phase }, { on := 1, ground := Ground.phase }, { on := 2, ground := Ground.phase }, { on := 3, ground := Ground.phase }, { on := 4, ground := Ground.phase }, { on := 5, ground := Ground.phase }, { on := 6, ground := Ground.phase }, { on := 7, ground := Ground.phase }, { on := 8, ground := Ground.phase }, { on := 9, ground := Ground.phase }], guard := none }) rfl (fun K hK => ?_) ?_
         ·skip
          have y5 := H5.out.1
          have f5 := H5.out.2.1
          go_simp
          obtain ⟨hx6, h6, hc6, hp6, hcs6, hka, hkb⟩ := H5.out.2.2 ⟨A5, hd.n, c5⟩ HO5.out HX5.out
          have HX6 := Lib.hid hx6
          have HP6 := Lib.hid hp6
          have hb36 := hc6.b3
          rw [hcs6] at hb36
          have HB36 := Lib.hid hb36
          have hc7 : CpI Bh B3 w (w5.setCell ⟨g, i * 2 + 1, none⟩ (.slice A5 hd.n c5)) h6 (h6.ev.2.map scOf) ((h6.od.2.take (i + 1)).map toOf) := by rw [hka]; exact hc6
          have HC6 := Lib.hid hc7
          clear hx6 hc6 hp6 hcs6 hka hkb hb36 hc7 H5 HX5 HC5 HO5 y5 f5 hHeld
          refine hK.out _ _ ⟨HB36.out, HX6.out.1, HC6.out.below⟩ (fun hHeld => ?_)
          clear hK K
          refine wpAnyH_done (by kernel_rfl) ?_ _
          refine NoPanic.normal ?_
          go_wp2_with fail
          go_roundw
          case rel => exact ⟨i + 1, hin, by omega, h6, HC6, HP6⟩
          case measure => simp [intOf]; omega
         exact AllReadyH.nil
        exact AllReadyH.nil
       ·obtain rfl : i = m.od.1.n := by omega
        have HC : Hid (CpI Bh B3 w wr h (h.ev.2.map scOf) (h.od.2.map toOf ++ (h.ma.2.take 0).map tmOf)) := by have : CpI Bh B3 w wr h (h.ev.2.map scOf) ((h.od.2.take m.od.1.n).map toOf) := HC.out; rw [List.take_of_length_le (by rw [own_long odCs_len (by omega) this.od, HPL.out.2.2.1]; exact Nat.le_refl _)] at this; show CpI _ _ _ _ _ _ (_ ++ []); rw [List.append_nil]; exact this
        have z : wr.cell? ⟨B3, 6, none⟩ = some (.slice h.ma.1.A m.ma.1.n h.ma.1.c) := by rw [← HPL.out.2.2.2.1]; exact HC.out.b3.cell 6
        go_wp2_with fail
        rename World => wma
        clear z
        go_loopw [95] (fun v wr => ∃ (i : Nat) (h : HistM), i ≤ m.ma.1.n ∧ v = .int .i64 i ∧ Hid (CpM Bh B3 w wr h i) ∧ Hid (PlL m h) ∧ Hid (BoxC m Bh B3 B4 wr)) (fun v _ => m.ma.1.n - (intOf v).toNat)
        case atStart => exact ⟨0, h, Nat.zero_le _, rfl, HC, HPL, HX⟩
        case round =>
         clear HC HPL HX
         obtain ⟨i, h, hi0, rfl, HC, HPL, HX⟩ := hrel
         by_cases hin : i < m.ma.1.n
         ·have hlt : (i : Int) < (m.ma.1.n : Int) := by omega
          obtain ⟨⟨e, hd⟩, hs⟩ : ∃ p, m.ma.2[i]? = some p := ⟨m.ma.2[i]'(by rw [hm.fit.ma.1]; exact hin), List.getElem?_eq_getElem _⟩
          obtain ⟨b, o, hA, hbl, -⟩ := row_cells maCs_len (by omega) hm.ma hs
          have HQ : Hid (∀ W, Below w.heap.size w W → W.cell? ⟨b, o + i * 4 + 3, none⟩ = some (.slice hd.A hd.n hd.c)) := fun W hW => by
           obtain ⟨b2, o2, hA2, _, hc2⟩ := row_cells maCs_len (by omega) (hm.ma.below hW) hs
           obtain ⟨rfl, rfl⟩ : b = b2 ∧ o = o2 := by rw [hA] at hA2; simpa using hA2
           rw [Nat.add_assoc]
           exact hc2 3 _ rfl
          have HCL := Lib.hid fun W (hW : Below w.heap.size w W) => clone_in hd.A hd.n hd.c e.ts (by have := HLW.out.mt _ (List.mem_of_getElem? hs); show hd.n ≤ _; simp only at this; omega) W (((hm.mt _ (List.mem_of_getElem? hs)).below hW).more hW.size)
          have hbd : m.ma.1.n ≤ 1000 := HLW.out.ma
          have HSI := Lib.hid hs
          have HA := Lib.hid hA
          clear hs hA hbl
          go_wp2_with fail
          refine wp_region_noPanic ?_
          refine wp_region_held_drew (S := fun W => Blk W B3 28 h.cs ∧ Blk W Bh 28 m.cs ∧ Below w.heap.size w W) (by kernel_rfl) ⟨HC.out.b3, HX.out.1, (HC.out.on ((Below.refl _ _).drew)).below⟩ (fun hHeld => ?_)
          have HC : Hid (CpI Bh B3 w wr h (h.ev.2.map scOf) (h.od.2.map toOf ++ (h.ma.2.take i).map tmOf)) := HC.out
          have HC := Lib.hid (HC.out.on ((Below.refl _ _).drew))
          have HX := Lib.hid (HX.out.on ((Below.refl _ _).drew))
          generalize wr.drew = wd at *
          obtain ⟨g, h0, hg, hnext⟩ := HC.out.mat_next (B4 := B4) HPL.out HSI.out
          have HG := Lib.hid hg
          have HN := Lib.hid hnext
          have HL : Hid (h.ma.1.n = m.ma.1.n) := HPL.out.2.2.2.1
          clear hg hnext
          refine tkv 0 (some 98) (.pointer (some ⟨B3, 6, none⟩)) rfl rfl (fun w' hSw => by (try dsimp only at hSw); go_simp) ?_
          try simp only [Act.put, sA, sB, sC]
          refine tkv 1 (some 99) (.slice (some ⟨g, 0, none⟩) m.ma.1.n h.ma.1.c) rfl rfl (fun w' hSw => by (have c9 : w'.cell? ⟨B3, 6, none⟩ = some (.slice (some ⟨g, 0, none⟩) m.ma.1.n h.ma.1.c) := by rw [← HG.out, ← HL.out]; exact hSw.1.cell 6); go_simp) ?_
          try simp only [Act.put, sA, sB, sC]
          refine tkv 2 (some 100) (.int .i64 i) rfl rfl (fun w' hSw => by (try dsimp only at hSw); go_simp) ?_
          try simp only [Act.put, sA, sB, sC]
          refine tkv 3 (some 101) (.pointer (some ⟨Bh, 6, none⟩)) rfl rfl (fun w' hSw => by (try dsimp only at hSw); go_simp) ?_
          try simp only [Act.put, sA, sB, sC]
          refine tkv 4 (some 102) (.slice (some ⟨b, o, none⟩) m.ma.1.n m.ma.1.c) rfl rfl (fun w' hSw => by (have c9 : w'.cell? ⟨Bh, 6, none⟩ = some (.slice (some ⟨b, o, none⟩) m.ma.1.n m.ma.1.c) := by rw [← HA.out]; exact hSw.2.1.cell 6); go_simp) ?_
          try simp only [Act.put, sA, sB, sC]
          refine tkv 5 (some 103) (.int .i64 i) rfl rfl (fun w' hSw => by (try dsimp only at hSw); go_simp) ?_
          try simp only [Act.put, sA, sB, sC]
          refine tkv 6 (some 104) (.pointer (some ⟨b, o + i * 4, none⟩)) rfl rfl (fun w' hSw => by (try dsimp only at hSw); go_simp) ?_
          try simp only [Act.put, sA, sB, sC]
          refine tkv 7 (some 105) (.pointer (some ⟨b, o + i * 4 + 3, none⟩)) rfl rfl (fun w' hSw => by (try dsimp only at hSw); go_simp) ?_
          try simp only [Act.put, sA, sB, sC]
          refine tkv 8 (some 106) (.slice hd.A hd.n hd.c) rfl rfl (fun w' hSw => by (have c9 := HQ.out w' hSw.2.2); go_simp) ?_
          try simp only [Act.put, sA, sB, sC]
          refine wpAnyH_ready (rs := [9]) (by kernel_rfl) (by simp) ?_
          refine AllReadyH.cons rfl (fun K hK => ?_) ?_
          ·skip
           go_simp
           refine (HCL.out _ HC.out.below).mono ?_
           rintro e5 w5 ⟨A5, c5, rfl, ho5, hb5⟩
           have H5 := Lib.hid (HN.out _ hb5)
           have HX5 := Lib.hid (HX.out.on hb5)
           have HC5 := Lib.hid (HC.out.on hb5)
           have HO5 := Lib.hid ho5
           clear ho5 hb5 hHeld
           go_simp
           refine hK.out _ _ ⟨HC5.out.b3, HX5.out.1, HC5.out.below⟩ (fun hHeld => ?_)
           clear hK K
           try simp only [Act.put, sA, sB, sC]
           refine tkv 10 (some 108) (.pointer (some ⟨g, i * 4, none⟩)) rfl rfl (fun w' hSw => by (try dsimp only at hSw); go_simp) ?_
           try simp only [Act.put, sA, sB, sC]
           refine tkv 11 (some 109) (.pointer (some ⟨g, i * 4 + 3, none⟩)) rfl rfl (fun w' hSw => by (try dsimp only at hSw); go_simp) ?_
           try simp only [Act.put, sA, sB, sC]
           refine wpAnyH_ready (rs := [12]) (by kernel_rfl) (by simp) ?_
           refine AllReadyH.cons (o := { dst := none, op := Op.store 45 (Operand.tmp 109) (Operand.tmp 107), type := 0, pos := "rows.go:144", after := #[{ on := 11, ground := Ground.data }, { on := 9, ground := Ground.data }, { on := 9, ground := Ground.chain }, { on := 0, ground := Ground.phase }, { on := 1, ground := Ground.phase }, { on := 2, ground := Ground.phase }, { on := 3, ground := Ground.phase }, { on := 4, ground := Ground.phase }, { on := 5, ground := Ground.phase }, { on := 6, ground := Ground.phase }, { on := 7, ground := Ground.phase }, { on := 8, ground := Ground.phase }, { on := 9, ground := Ground.phase }], guard := none }) rfl (fun K hK => ?_) ?_
           ·skip
            have y5 := H5.out.1
            have f5 := H5.out.2.1
            go_simp
            obtain ⟨hx6, h6, hc6, hp6, hcs6, hka, hkb⟩ := H5.out.2.2 ⟨A5, hd.n, c5⟩ HO5.out HX5.out
            have HX6 := Lib.hid hx6
            have HP6 := Lib.hid hp6
            have hb36 := hc6.b3
            rw [hcs6] at hb36
            have HB36 := Lib.hid hb36
            have hc7 : CpI Bh B3 w (w5.setCell ⟨g, i * 4 + 3, none⟩ (.slice A5 hd.n c5)) h6 (h6.ev.2.map scOf) (h6.od.2.map toOf ++ (h6.ma.2.take (i + 1)).map tmOf) := by rw [hka, hkb]; exact hc6
            have HC6 := Lib.hid hc7
            clear hx6 hc6 hp6 hcs6 hka hkb hb36 hc7 H5 HX5 HC5 HO5 y5 f5 hHeld
            refine hK.out _ _ ⟨HB36.out, HX6.out.1, HC6.out.below⟩ (fun hHeld => ?_)
            clear hK K
            refine wpAnyH_done (by kernel_rfl) ?_ _
            refine NoPanic.normal ?_
            go_wp2_with fail
            go_roundw
            case rel => exact ⟨i + 1, hin, by omega, h6, HC6, HP6⟩
            case measure => simp [intOf]; omega
           exact AllReadyH.nil
          exact AllReadyH.nil
         ·obtain rfl : i = m.ma.1.n := by omega
          have HC : Hid (CpI Bh B3 w wr h (h.ev.2.map scOf) (h.od.2.map toOf ++ h.ma.2.map tmOf)) := by have : CpI Bh B3 w wr h (h.ev.2.map scOf) (h.od.2.map toOf ++ (h.ma.2.take m.ma.1.n).map tmOf) := HC.out; rwa [List.take_of_length_le (by rw [own_long maCs_len (by omega) this.ma, HPL.out.2.2.2.1]; exact Nat.le_refl _)] at this
          have HD : Hid (HOwn w.heap.size wr h) := HC.out.done
          have HB := Lib.hid HC.out.below
          have HR := Lib.hid HC.out.br
          have HNE := Lib.hid HC.out.ne
          have HB3 := Lib.hid HC.out.b3
          obtain ⟨z0, z1, z2, z3, z4, z5, z6, z7⟩ := c8 HB3.out
          obtain ⟨y0, y1, y2, y3, y4, y5, y6, y7⟩ := c8 HR.out
          have f0 := HR.out.frozen 0
          have f1 := HR.out.frozen 1
          have f2 := HR.out.frozen 2
          have f3 := HR.out.frozen 3
          have f4 := HR.out.frozen 4
          have f5 := HR.out.frozen 5
          have f6 := HR.out.frozen 6
          have f7 := HR.out.frozen 7
          clear HC HX
          go_wp2_with fail
          clear z0 y0 f0 z1 y1 f1 z2 y2 f2 z3 y3 f3 z4 y4 f4 z5 y5 f5 z6 y6 f6 z7 y7 f7
          have HF : Hid (HOwn w.heap.size wr h ∧ Blk wr (Bh + 1) 28 zeroH) := ⟨HD.out, HR.out⟩
          have HF0 := Lib.hid (own_step HF.out.1 HF.out.2 0 (.slice h.tr.1.A h.tr.1.n h.tr.1.c))
          have HF1 := Lib.hid (own_step HF0.out.1 HF0.out.2 1 (.slice h.se.1.A h.se.1.n h.se.1.c))
          have HF2 := Lib.hid (own_step HF1.out.1 HF1.out.2 2 (.slice h.ob.1.A h.ob.1.n h.ob.1.c))
          have HF3 := Lib.hid (own_step HF2.out.1 HF2.out.2 3 (.slice h.pr.1.A h.pr.1.n h.pr.1.c))
          have HF4 := Lib.hid (own_step HF3.out.1 HF3.out.2 4 (.slice h.ev.1.A h.ev.1.n h.ev.1.c))
          have HF5 := Lib.hid (own_step HF4.out.1 HF4.out.2 5 (.slice h.od.1.A h.od.1.n h.od.1.c))
          have HF6 := Lib.hid (own_step HF5.out.1 HF5.out.2 6 (.slice h.ma.1.A h.ma.1.n h.ma.1.c))
          have HF7 := Lib.hid (own_step HF6.out.1 HF6.out.2 7 (.slice h.wa.1.A h.wa.1.n h.wa.1.c))
          have HBF := Lib.hid ((((((((((((((((HB.out).setCell (p := ⟨Bh + 1, 0, none⟩) (Nat.le_succ_of_le HNE.out.2.2.2) (.slice h.tr.1.A h.tr.1.n h.tr.1.c))).setCell (p := ⟨Bh + 1, 1, none⟩) (Nat.le_succ_of_le HNE.out.2.2.2) (.slice h.se.1.A h.se.1.n h.se.1.c))).setCell (p := ⟨Bh + 1, 2, none⟩) (Nat.le_succ_of_le HNE.out.2.2.2) (.slice h.ob.1.A h.ob.1.n h.ob.1.c))).setCell (p := ⟨Bh + 1, 3, none⟩) (Nat.le_succ_of_le HNE.out.2.2.2) (.slice h.pr.1.A h.pr.1.n h.pr.1.c))).setCell (p := ⟨Bh + 1, 4, none⟩) (Nat.le_succ_of_le HNE.out.2.2.2) (.slice h.ev.1.A h.ev.1.n h.ev.1.c))).setCell (p := ⟨Bh + 1, 5, none⟩) (Nat.le_succ_of_le HNE.out.2.2.2) (.slice h.od.1.A h.od.1.n h.od.1.c))).setCell (p := ⟨Bh + 1, 6, none⟩) (Nat.le_succ_of_le HNE.out.2.2.2) (.slice h.ma.1.A h.ma.1.n h.ma.1.c))).setCell (p := ⟨Bh + 1, 7, none⟩) (Nat.le_succ_of_le HNE.out.2.2.2) (.slice h.wa.1.A h.wa.1.n h.wa.1.c))
          have kf := HF7.out.2
          simp [zeroH] at kf
          have HOF := Lib.hid HF7.out.1
          clear HF0 HF1 HF2 HF3 HF4 HF5 HF6 HF7 HF
          generalize ((((((((wr.setCell ⟨Bh + 1, 0, none⟩ (.slice h.tr.1.A h.tr.1.n h.tr.1.c)).setCell ⟨Bh + 1, 1, none⟩ (.slice h.se.1.A h.se.1.n h.se.1.c)).setCell ⟨Bh + 1, 2, none⟩ (.slice h.ob.1.A h.ob.1.n h.ob.1.c)).setCell ⟨Bh + 1, 3, none⟩ (.slice h.pr.1.A h.pr.1.n h.pr.1.c)).setCell ⟨Bh + 1, 4, none⟩ (.slice h.ev.1.A h.ev.1.n h.ev.1.c)).setCell ⟨Bh + 1, 5, none⟩ (.slice h.od.1.A h.od.1.n h.od.1.c)).setCell ⟨Bh + 1, 6, none⟩ (.slice h.ma.1.A h.ma.1.n h.ma.1.c)).setCell ⟨Bh + 1, 7, none⟩ (.slice h.wa.1.A h.wa.1.n h.wa.1.c)) = wf at *
          obtain ⟨r0, r1, r2, r3, r4, r5, r6, r7⟩ := c8 kf
          exact bodyPost_ret (v := .agg #[.slice h.tr.1.A h.tr.1.n h.tr.1.c, .slice h.se.1.A h.se.1.n h.se.1.c, .slice h.ob.1.A h.ob.1.n h.ob.1.c, .slice h.pr.1.A h.pr.1.n h.pr.1.c, .slice h.ev.1.A h.ev.1.n h.ev.1.c, .slice h.od.1.A h.od.1.n h.od.1.c, .slice h.ma.1.A h.ma.1.n h.ma.1.c, .slice h.wa.1.A h.wa.1.n h.wa.1.c]) (by simp [results, Tryz.results46, go_sem, r0, r1, r2, r3, r4, r5, r6, r7]) rfl ⟨h, rfl, HOF.out, HPL.out.1, HBF.out⟩
end Go.Proofs.YtlnbmmaminflcaaGreatDoor
