/- HistoryEnds: the walk. -/
import Derived.Maps.OwnSet
import Derived.Maps.Own
import Derived.Maps.Keyed
import Derived.Maps.Views
import Derived.Maps.RangeWalk
import Derived.Deep.LoopGhost
import Derived.Carry
import Derived.Test.YtlnbmmaminflcaaDoorM32
import Derived.Test.YtlnbmmaminflcaaDoorM17
-- holds: YtlnbmmaminflcaaDoorQJyb
namespace Go.Proofs.YtlnbmmaminflcaaDoor
open Go.RowKit Go.Shelf
open Go.Maps (Keyed IsMap atKey_put_same atKey_put_other int_keyed keyOf_int_mk)

def SeenI (D : DataW Unit) (S : Int → Bool) : Prop := ∀ v : Int, D.atKey (.int .i64 v) (.lit (.bool false)) = .lit (.bool (S v))
def MapB (W : World) (B q : Nat) (S : Int → Bool) : Prop := ∃ D, W.ownsMap (H := Unit) Tryd.prog 3 (plainElem Tryd.prog 4) B q D ∧ SeenI D S
theorem zeroBool11 (w : World) : (zeroValue 4).run Tryd.prog w = .ok (.bool false) w := by kernel_rfl
set_option maxRecDepth 100000 in
theorem elem_bool {v : Value} {y : DataW Unit × List MemPlace} (h : plainElem Tryd.prog 4 v = some y) : ∃ c, v = .bool c ∧ y = (.lit (.bool c), []) := by
  unfold plainElem at h
  rw [Tryd.underlying4] at h
  cases v <;> simp at h
  exact ⟨_, rfl, h.symm⟩
section
variable {W X : World} {B q g : Nat} {S : Int → Bool}
theorem MapB.lt (h : MapB W B q S) : B < W.heap.size := by
  obtain ⟨D, h1, _⟩ := h
  exact h1.lt
theorem MapB.grown (h : MapB W B q S) {row : Option Nat} (hg : W.grownBy X row) (hne : some B ≠ row) : MapB X B q S := by
  obtain ⟨D, h1, h2⟩ := h
  exact ⟨D, h1.kept hg hne, h2⟩
theorem MapB.on (h : MapB W B q S) (hb : Below W.heap.size W X) : MapB X B q S := h.grown ⟨hb.os, hb.tape, hb.output, hb.size, fun i hi _ => hb.block i hi⟩ (row := none) (by simp)
set_option maxRecDepth 100000 in
theorem MapB.look (h : MapB W B q S) {v : Int} (hw : (Lit.int .i64 v).wf = true) : (Instr.lookup 42 (.map (some B)) (.int .i64 v) false).run Tryd.prog W = .ok (.bool (S v)) W := by
  obtain ⟨D, h1, h2⟩ := h
  obtain ⟨u, ps, hrun, hv⟩ := h1.lookup (int_keyed Tryd.underlying3) Tryd.underlying42 (zeroBool11 W) (plainElem_bool Tryd.underlying4 false) (keyOf_int_mk Tryd.underlying3 hw)
  rw [h2 v] at hv
  obtain ⟨c, rfl, hc⟩ := elem_bool hv
  injection hc with hc _
  injection hc with hc
  injection hc with hc
  rw [hc]
  exact hrun
theorem MapB.new (W : World) : MapB (W.alloc (.map #[] 0)) W.heap.size 0 (fun _ => false) := ⟨_, World.ownsMap_made _ _ _ _, fun _ => rfl⟩
end
def begP (l : List EvP) (t : Int) : Bool := l.any fun e => decide (e.t = t) && (e.kd == 1)
def ovrP (l : List EvP) (t : Int) : Bool := l.any fun e => decide (e.t = t) && ((e.kd == 5) || (e.kd == 6))
theorem beg_iff {l : List EvP} {t : Int} : begP l t = true ↔ ∃ e ∈ l, e.t = t ∧ e.kd = 1 := by unfold begP; simp
theorem ovr_iff {l : List EvP} {t : Int} : ovrP l t = true ↔ ∃ e ∈ l, e.t = t ∧ (e.kd = 5 ∨ e.kd = 6) := by unfold ovrP; simp
theorem any_next {p : EvP → Bool} {l : List EvP} {i : Nat} {e : EvP} (h : l[i]? = some e) : (l.take (i + 1)).any p = ((l.take i).any p || p e) := by
  rw [List.take_add_one, h, List.any_append]
  simp
theorem seen_next {D : DataW Unit} {l : List EvP} {i : Nat} {e : EvP} {k : EvP → Bool} (hs : SeenI D fun t => (l.take i).any fun e => decide (e.t = t) && k e) (hM : IsMap D) (he : l[i]? = some e) {x : Bool}
    (hx : x = (((l.take i).any fun a => decide (a.t = e.t) && k a) || k e)) : SeenI (D.put (.int .i64 e.t) (.lit (.bool x))) fun t => (l.take (i + 1)).any fun e => decide (e.t = t) && k e := fun v => by
  simp only [any_next he]
  by_cases hv : v = e.t
  · subst hv
    rw [atKey_put_same hM (show WideAt.IsKeyLit (.int .i64 e.t) from trivial), hx]
    simp
  · rw [atKey_put_other (fun e2 => hv (by injection e2)), hs v]
    have : decide (e.t = v) = false := decide_eq_false fun h => hv h.symm
    rw [this]
    simp
theorem com_small2 {H : Hist} (hS : Small H) (h1 : H.ev.length ≤ 80) (h2 : H.tr.length ≤ 20) : Small (comP H) := by
  refine ⟨hS.tr, hS.se, hS.ob, hS.pr, ?_, hS.od, hS.ma, hS.wa, ?_, hS.ot, hS.mt, hS.tx⟩
  · show (H.ev ++ (leftL H).map abortE).length ≤ 200
    rw [List.length_append, List.length_map]
    have := left_len H
    omega
  · intro e he
    rcases List.mem_append.1 (show e ∈ H.ev ++ (leftL H).map abortE from he) with h | h
    · exact hS.sc e h
    · obtain ⟨t, _, rfl⟩ := List.mem_map.1 h
      simp [abortE]
theorem com_over {H : Hist} (hs : shapedB H = true) {t : Int} (h : begP (comP H).ev t = true) : ovrP (comP H).ev t = true := by
  obtain ⟨e, he, h1, h2⟩ := beg_iff.1 h
  rcases com_ended hs (hasB_iff.2 ⟨e, he, h1, h2⟩) with h5 | h5
  · obtain ⟨e, he, h1, h2⟩ := hasB_iff.1 h5
    exact ovr_iff.2 ⟨e, he, h1, .inl h2⟩
  · obtain ⟨e, he, h1, h2⟩ := hasB_iff.1 h5
    exact ovr_iff.2 ⟨e, he, h1, .inr h2⟩
theorem com_rest {H : Hist} {i : Nat} {e : EvP} (h : (comP H).ev[i]? = some e) (hi : H.ev.length ≤ i) : e.kd = 6 := by
  have h2 : (H.ev ++ (leftL H).map abortE)[i]? = some e := h
  rw [List.getElem?_append_right hi, List.getElem?_map] at h2
  obtain ⟨t, _, rfl⟩ := Option.map_eq_some_iff.1 h2
  rfl
theorem com_ahead {H : Hist} {i : Nat} {e : EvP} (h : (comP H).ev[i]? = some e) (hi : i < H.ev.length) : H.ev[i]? = some e := by
  have h2 : (H.ev ++ (leftL H).map abortE)[i]? = some e := h
  rwa [List.getElem?_append_left hi] at h2
theorem com_wf {H : Hist} (hS : Small H) (hs : shapedB H = true) {e : EvP} (he : e ∈ H.ev) : (Lit.int .i64 e.t).wf = true := by
  have h1 := shaped_in hs (refs_t he)
  have h2 := hS.many 0
  exact WalkArith.wf_i64 (by simp only at h1; omega)

set_option maxRecDepth 100000 in
set_option maxHeartbeats 8000000 in
theorem ends_core (m : HistM) (w : World) (hT : Tabs w) (ha : HArg w m) : Calls Tryd.prog 4 #[.agg #[.slice m.tr.1.A m.tr.1.n m.tr.1.c, .slice m.se.1.A m.se.1.n m.se.1.c, .slice m.ob.1.A m.ob.1.n m.ob.1.c, .slice m.pr.1.A m.pr.1.n m.pr.1.c, .slice m.ev.1.A m.ev.1.n m.ev.1.c, .slice m.od.1.A m.od.1.n m.od.1.c, .slice m.ma.1.A m.ma.1.n m.ma.1.c, .slice m.wa.1.A m.wa.1.n m.wa.1.c]] w fun x w' => x = .returned (.bool true) ∧ Below w.heap.size w w' := by
  obtain ⟨kh, b0, hs0⟩ := ibox w #[.slice m.tr.1.A m.tr.1.n m.tr.1.c, .slice m.se.1.A m.se.1.n m.se.1.c, .slice m.ob.1.A m.ob.1.n m.ob.1.c, .slice m.pr.1.A m.pr.1.n m.pr.1.c, .slice m.ev.1.A m.ev.1.n m.ev.1.c, .slice m.od.1.A m.od.1.n m.od.1.c, .slice m.ma.1.A m.ma.1.n m.ma.1.c, .slice m.wa.1.A m.wa.1.n m.wa.1.c] 28
  obtain ⟨W0, hW0⟩ : ∃ W0, W0 = w.alloc (.cells #[.slice m.tr.1.A m.tr.1.n m.tr.1.c, .slice m.se.1.A m.se.1.n m.se.1.c, .slice m.ob.1.A m.ob.1.n m.ob.1.c, .slice m.pr.1.A m.pr.1.n m.pr.1.c, .slice m.ev.1.A m.ev.1.n m.ev.1.c, .slice m.od.1.A m.od.1.n m.od.1.c, .slice m.ma.1.A m.ma.1.n m.ma.1.c, .slice m.wa.1.A m.wa.1.n m.wa.1.c] 28) := ⟨_, rfl⟩
  rw [← hW0] at kh b0
  have KH : Hid (Blk W0 w.heap.size 28 m.cs) := kh
  have BW := Lib.hid b0
  have HT := Lib.hid hT
  have HARG := Lib.hid ha
  have HS := Lib.hid (few_small m.pl)
  clear kh b0 hs0 hT ha
  go_enter Tryd.func4, Tryd.ntmps4
  go_upto_region 1 with fail
  rw [← hW0]
  clear hW0
  go_wp2_with fail
  refine (wakes11_any W0 (HT.out.on BW.out (Nat.le_refl _))).mono ?_
  rintro _ W1 ⟨rfl, bb⟩
  have KH := Lib.hid (KH.out.below bb KH.out.lt)
  have BW := Lib.hid (BW.out.trans (bb.mono BW.out.size))
  clear bb
  have z0 : W1.cell? ⟨w.heap.size, 0, none⟩ = some (.slice m.tr.1.A m.tr.1.n m.tr.1.c) := KH.out.cell 0
  have z1 : W1.cell? ⟨w.heap.size, 1, none⟩ = some (.slice m.se.1.A m.se.1.n m.se.1.c) := KH.out.cell 1
  have z2 : W1.cell? ⟨w.heap.size, 2, none⟩ = some (.slice m.ob.1.A m.ob.1.n m.ob.1.c) := KH.out.cell 2
  have z3 : W1.cell? ⟨w.heap.size, 3, none⟩ = some (.slice m.pr.1.A m.pr.1.n m.pr.1.c) := KH.out.cell 3
  have z4 : W1.cell? ⟨w.heap.size, 4, none⟩ = some (.slice m.ev.1.A m.ev.1.n m.ev.1.c) := KH.out.cell 4
  have z5 : W1.cell? ⟨w.heap.size, 5, none⟩ = some (.slice m.od.1.A m.od.1.n m.od.1.c) := KH.out.cell 5
  have z6 : W1.cell? ⟨w.heap.size, 6, none⟩ = some (.slice m.ma.1.A m.ma.1.n m.ma.1.c) := KH.out.cell 6
  have z7 : W1.cell? ⟨w.heap.size, 7, none⟩ = some (.slice m.wa.1.A m.wa.1.n m.wa.1.c) := KH.out.cell 7
  go_wp2_with fail
  refine (few11_any m W1 (HARG.out.on BW.out)).mono ?_
  rintro _ Y ⟨h, rfl, ho, hp, bb⟩
  have hbx := HBx.new (w := w) ho BW.out.size #[.slice h.tr.1.A h.tr.1.n h.tr.1.c, .slice h.se.1.A h.se.1.n h.se.1.c, .slice h.ob.1.A h.ob.1.n h.ob.1.c, .slice h.pr.1.A h.pr.1.n h.pr.1.c, .slice h.ev.1.A h.ev.1.n h.ev.1.c, .slice h.od.1.A h.od.1.n h.od.1.c, .slice h.ma.1.A h.ma.1.n h.ma.1.c, .slice h.wa.1.A h.wa.1.n h.wa.1.c] rfl
  have b2 : Below Y.heap.size Y (Y.alloc (.cells #[.slice h.tr.1.A h.tr.1.n h.tr.1.c, .slice h.se.1.A h.se.1.n h.se.1.c, .slice h.ob.1.A h.ob.1.n h.ob.1.c, .slice h.pr.1.A h.pr.1.n h.pr.1.c, .slice h.ev.1.A h.ev.1.n h.ev.1.c, .slice h.od.1.A h.od.1.n h.od.1.c, .slice h.ma.1.A h.ma.1.n h.ma.1.c, .slice h.wa.1.A h.wa.1.n h.wa.1.c] 28)) := (Below.refl _ _).alloc (Nat.le_refl _) _
  have bb := bb.trans (b2.mono bb.size)
  have KH := Lib.hid (KH.out.below bb KH.out.lt)
  have BW := Lib.hid (BW.out.trans (bb.mono BW.out.size))
  have HPh := Lib.hid hp
  have HH := Lib.hid hbx
  clear z0 z1 z2 z3 z4 z5 z6 z7 ho hp bb b2 hbx
  go_upto_region 4 with fail
  generalize Y.alloc (.cells #[.slice h.tr.1.A h.tr.1.n h.tr.1.c, .slice h.se.1.A h.se.1.n h.se.1.c, .slice h.ob.1.A h.ob.1.n h.ob.1.c, .slice h.pr.1.A h.pr.1.n h.pr.1.c, .slice h.ev.1.A h.ev.1.n h.ev.1.c, .slice h.od.1.A h.od.1.n h.od.1.c, .slice h.ma.1.A h.ma.1.n h.ma.1.c, .slice h.wa.1.A h.wa.1.n h.wa.1.c] 28) = Xh at *
  generalize Y.heap.size = Bh at *
  have HSh : Hid (Small h.pl) := by show Small h.pl; rw [HPh.out]; exact HS.out
  have HEV : Hid (h.pl.ev.length ≤ 80) := by show h.pl.ev.length ≤ 80; rw [HPh.out]; exact few_ev m.pl
  have HTR : Hid (h.pl.tr.length ≤ 20) := by show h.pl.tr.length ≤ 20; rw [HPh.out]; exact few_tr m.pl
  have z0 : Xh.cell? ⟨Bh, 0, none⟩ = some (.slice h.tr.1.A h.tr.1.n h.tr.1.c) := HH.out.blk.cell 0
  have z1 : Xh.cell? ⟨Bh, 1, none⟩ = some (.slice h.se.1.A h.se.1.n h.se.1.c) := HH.out.blk.cell 1
  have z2 : Xh.cell? ⟨Bh, 2, none⟩ = some (.slice h.ob.1.A h.ob.1.n h.ob.1.c) := HH.out.blk.cell 2
  have z3 : Xh.cell? ⟨Bh, 3, none⟩ = some (.slice h.pr.1.A h.pr.1.n h.pr.1.c) := HH.out.blk.cell 3
  have z4 : Xh.cell? ⟨Bh, 4, none⟩ = some (.slice h.ev.1.A h.ev.1.n h.ev.1.c) := HH.out.blk.cell 4
  have z5 : Xh.cell? ⟨Bh, 5, none⟩ = some (.slice h.od.1.A h.od.1.n h.od.1.c) := HH.out.blk.cell 5
  have z6 : Xh.cell? ⟨Bh, 6, none⟩ = some (.slice h.ma.1.A h.ma.1.n h.ma.1.c) := HH.out.blk.cell 6
  have z7 : Xh.cell? ⟨Bh, 7, none⟩ = some (.slice h.wa.1.A h.wa.1.n h.wa.1.c) := HH.out.blk.cell 7
  go_wp2_with fail
  refine (complete_any h HSh.out Xh (HT.out.on BW.out (Nat.le_refl _)) HH.out.rd).mono ?_
  rintro _ Y ⟨c, rfl, ho, hp, bb⟩
  have hbx := HBx.new (w := w) ho BW.out.size #[.slice c.tr.1.A c.tr.1.n c.tr.1.c, .slice c.se.1.A c.se.1.n c.se.1.c, .slice c.ob.1.A c.ob.1.n c.ob.1.c, .slice c.pr.1.A c.pr.1.n c.pr.1.c, .slice c.ev.1.A c.ev.1.n c.ev.1.c, .slice c.od.1.A c.od.1.n c.od.1.c, .slice c.ma.1.A c.ma.1.n c.ma.1.c, .slice c.wa.1.A c.wa.1.n c.wa.1.c] rfl
  have b2 : Below Y.heap.size Y (Y.alloc (.cells #[.slice c.tr.1.A c.tr.1.n c.tr.1.c, .slice c.se.1.A c.se.1.n c.se.1.c, .slice c.ob.1.A c.ob.1.n c.ob.1.c, .slice c.pr.1.A c.pr.1.n c.pr.1.c, .slice c.ev.1.A c.ev.1.n c.ev.1.c, .slice c.od.1.A c.od.1.n c.od.1.c, .slice c.ma.1.A c.ma.1.n c.ma.1.c, .slice c.wa.1.A c.wa.1.n c.wa.1.c] 28)) := (Below.refl _ _).alloc (Nat.le_refl _) _
  have bb := bb.trans (b2.mono bb.size)
  have HH := Lib.hid (HH.out.on bb)
  have BW := Lib.hid (BW.out.trans (bb.mono BW.out.size))
  have HC := Lib.hid hbx
  have HPc := Lib.hid hp
  clear z0 z1 z2 z3 z4 z5 z6 z7 ho hp bb b2 hbx
  cases hr : rightB h.pl
  · have HCE : Hid (checkE h.pl = 210) := checkE_no hr
    clear hr
    rw [HCE.out]
    go_upto_region 5 with fail
    generalize Y.alloc (.cells #[.slice c.tr.1.A c.tr.1.n c.tr.1.c, .slice c.se.1.A c.se.1.n c.se.1.c, .slice c.ob.1.A c.ob.1.n c.ob.1.c, .slice c.pr.1.A c.pr.1.n c.pr.1.c, .slice c.ev.1.A c.ev.1.n c.ev.1.c, .slice c.od.1.A c.od.1.n c.od.1.c, .slice c.ma.1.A c.ma.1.n c.ma.1.c, .slice c.wa.1.A c.wa.1.n c.wa.1.c] 28) = Xc at *
    generalize Y.heap.size = Bc at *
    have z0 : Xc.cell? ⟨Bh, 0, none⟩ = some (.slice h.tr.1.A h.tr.1.n h.tr.1.c) := HH.out.blk.cell 0
    have z1 : Xc.cell? ⟨Bh, 1, none⟩ = some (.slice h.se.1.A h.se.1.n h.se.1.c) := HH.out.blk.cell 1
    have z2 : Xc.cell? ⟨Bh, 2, none⟩ = some (.slice h.ob.1.A h.ob.1.n h.ob.1.c) := HH.out.blk.cell 2
    have z3 : Xc.cell? ⟨Bh, 3, none⟩ = some (.slice h.pr.1.A h.pr.1.n h.pr.1.c) := HH.out.blk.cell 3
    have z4 : Xc.cell? ⟨Bh, 4, none⟩ = some (.slice h.ev.1.A h.ev.1.n h.ev.1.c) := HH.out.blk.cell 4
    have z5 : Xc.cell? ⟨Bh, 5, none⟩ = some (.slice h.od.1.A h.od.1.n h.od.1.c) := HH.out.blk.cell 5
    have z6 : Xc.cell? ⟨Bh, 6, none⟩ = some (.slice h.ma.1.A h.ma.1.n h.ma.1.c) := HH.out.blk.cell 6
    have z7 : Xc.cell? ⟨Bh, 7, none⟩ = some (.slice h.wa.1.A h.wa.1.n h.wa.1.c) := HH.out.blk.cell 7
    go_wp2_with fail
    refine (check11_any h HSh.out Xc (HT.out.on BW.out (Nat.le_refl _)) HH.out.rd).mono ?_
    rintro _ Y2 ⟨rfl, bb⟩
    rw [HCE.out]
    have BW := Lib.hid (BW.out.trans (bb.mono BW.out.size))
    clear z0 z1 z2 z3 z4 z5 z6 z7 bb
    go_wp2_with fail
    go_ret
    exact ⟨rfl, BW.out⟩
  · have HCE : Hid (checkE h.pl = 0) := checkE_ok hr
    have HR := Lib.hid hr
    have HPC : Hid (c.pl = comP h.pl) := by show c.pl = _; rw [HPc.out, if_pos hr]
    clear hr HPc
    rw [HCE.out]
    go_upto_region 7 with fail
    generalize Y.alloc (.cells #[.slice c.tr.1.A c.tr.1.n c.tr.1.c, .slice c.se.1.A c.se.1.n c.se.1.c, .slice c.ob.1.A c.ob.1.n c.ob.1.c, .slice c.pr.1.A c.pr.1.n c.pr.1.c, .slice c.ev.1.A c.ev.1.n c.ev.1.c, .slice c.od.1.A c.od.1.n c.od.1.c, .slice c.ma.1.A c.ma.1.n c.ma.1.c, .slice c.wa.1.A c.wa.1.n c.wa.1.c] 28) = Xc at *
    generalize Y.heap.size = Bc at *
    have HSc : Hid (Small c.pl) := by show Small c.pl; rw [HPC.out]; exact com_small2 HSh.out HEV.out HTR.out
    have HRC : Hid (rightB c.pl = true) := by show _ = _; rw [HPC.out]; exact com_right HR.out
    have z0 : Xc.cell? ⟨Bc, 0, none⟩ = some (.slice c.tr.1.A c.tr.1.n c.tr.1.c) := HC.out.blk.cell 0
    have z1 : Xc.cell? ⟨Bc, 1, none⟩ = some (.slice c.se.1.A c.se.1.n c.se.1.c) := HC.out.blk.cell 1
    have z2 : Xc.cell? ⟨Bc, 2, none⟩ = some (.slice c.ob.1.A c.ob.1.n c.ob.1.c) := HC.out.blk.cell 2
    have z3 : Xc.cell? ⟨Bc, 3, none⟩ = some (.slice c.pr.1.A c.pr.1.n c.pr.1.c) := HC.out.blk.cell 3
    have z4 : Xc.cell? ⟨Bc, 4, none⟩ = some (.slice c.ev.1.A c.ev.1.n c.ev.1.c) := HC.out.blk.cell 4
    have z5 : Xc.cell? ⟨Bc, 5, none⟩ = some (.slice c.od.1.A c.od.1.n c.od.1.c) := HC.out.blk.cell 5
    have z6 : Xc.cell? ⟨Bc, 6, none⟩ = some (.slice c.ma.1.A c.ma.1.n c.ma.1.c) := HC.out.blk.cell 6
    have z7 : Xc.cell? ⟨Bc, 7, none⟩ = some (.slice c.wa.1.A c.wa.1.n c.wa.1.c) := HC.out.blk.cell 7
    go_wp2_with fail
    refine (complete_any c HSc.out Xc (HT.out.on BW.out (Nat.le_refl _)) HC.out.rd).mono ?_
    rintro _ Y ⟨g, rfl, ho, hp, bb⟩
    have hbx := HBx.new (w := w) ho BW.out.size #[.slice g.tr.1.A g.tr.1.n g.tr.1.c, .slice g.se.1.A g.se.1.n g.se.1.c, .slice g.ob.1.A g.ob.1.n g.ob.1.c, .slice g.pr.1.A g.pr.1.n g.pr.1.c, .slice g.ev.1.A g.ev.1.n g.ev.1.c, .slice g.od.1.A g.od.1.n g.od.1.c, .slice g.ma.1.A g.ma.1.n g.ma.1.c, .slice g.wa.1.A g.wa.1.n g.wa.1.c] rfl
    have b2 : Below Y.heap.size Y (Y.alloc (.cells #[.slice g.tr.1.A g.tr.1.n g.tr.1.c, .slice g.se.1.A g.se.1.n g.se.1.c, .slice g.ob.1.A g.ob.1.n g.ob.1.c, .slice g.pr.1.A g.pr.1.n g.pr.1.c, .slice g.ev.1.A g.ev.1.n g.ev.1.c, .slice g.od.1.A g.od.1.n g.od.1.c, .slice g.ma.1.A g.ma.1.n g.ma.1.c, .slice g.wa.1.A g.wa.1.n g.wa.1.c] 28)) := (Below.refl _ _).alloc (Nat.le_refl _) _
    have bb := bb.trans (b2.mono bb.size)
    have HH := Lib.hid (HH.out.on bb)
    have HC := Lib.hid (HC.out.on bb)
    have BW := Lib.hid (BW.out.trans (bb.mono BW.out.size))
    have HG := Lib.hid hbx
    have HPg := Lib.hid hp
    clear z0 z1 z2 z3 z4 z5 z6 z7 ho hp bb b2 hbx
    have HPG : Hid (g.pl = c.pl) := by show g.pl = _; rw [HPg.out, if_pos HRC.out, HPC.out, com_twice (right_shaped HR.out)]
    rw [show checkE c.pl = 0 from checkE_ok HRC.out]
    go_upto_region 8 with fail
    generalize Y.alloc (.cells #[.slice g.tr.1.A g.tr.1.n g.tr.1.c, .slice g.se.1.A g.se.1.n g.se.1.c, .slice g.ob.1.A g.ob.1.n g.ob.1.c, .slice g.pr.1.A g.pr.1.n g.pr.1.c, .slice g.ev.1.A g.ev.1.n g.ev.1.c, .slice g.od.1.A g.od.1.n g.od.1.c, .slice g.ma.1.A g.ma.1.n g.ma.1.c, .slice g.wa.1.A g.wa.1.n g.wa.1.c] 28) = Xg at *
    generalize Y.heap.size = Bg at *
    have z0 : Xg.cell? ⟨Bg, 0, none⟩ = some (.slice g.tr.1.A g.tr.1.n g.tr.1.c) := HG.out.blk.cell 0
    have z1 : Xg.cell? ⟨Bg, 1, none⟩ = some (.slice g.se.1.A g.se.1.n g.se.1.c) := HG.out.blk.cell 1
    have z2 : Xg.cell? ⟨Bg, 2, none⟩ = some (.slice g.ob.1.A g.ob.1.n g.ob.1.c) := HG.out.blk.cell 2
    have z3 : Xg.cell? ⟨Bg, 3, none⟩ = some (.slice g.pr.1.A g.pr.1.n g.pr.1.c) := HG.out.blk.cell 3
    have z4 : Xg.cell? ⟨Bg, 4, none⟩ = some (.slice g.ev.1.A g.ev.1.n g.ev.1.c) := HG.out.blk.cell 4
    have z5 : Xg.cell? ⟨Bg, 5, none⟩ = some (.slice g.od.1.A g.od.1.n g.od.1.c) := HG.out.blk.cell 5
    have z6 : Xg.cell? ⟨Bg, 6, none⟩ = some (.slice g.ma.1.A g.ma.1.n g.ma.1.c) := HG.out.blk.cell 6
    have z7 : Xg.cell? ⟨Bg, 7, none⟩ = some (.slice g.wa.1.A g.wa.1.n g.wa.1.c) := HG.out.blk.cell 7
    have y0 : Xg.cell? ⟨Bc, 0, none⟩ = some (.slice c.tr.1.A c.tr.1.n c.tr.1.c) := HC.out.blk.cell 0
    have y1 : Xg.cell? ⟨Bc, 1, none⟩ = some (.slice c.se.1.A c.se.1.n c.se.1.c) := HC.out.blk.cell 1
    have y2 : Xg.cell? ⟨Bc, 2, none⟩ = some (.slice c.ob.1.A c.ob.1.n c.ob.1.c) := HC.out.blk.cell 2
    have y3 : Xg.cell? ⟨Bc, 3, none⟩ = some (.slice c.pr.1.A c.pr.1.n c.pr.1.c) := HC.out.blk.cell 3
    have y4 : Xg.cell? ⟨Bc, 4, none⟩ = some (.slice c.ev.1.A c.ev.1.n c.ev.1.c) := HC.out.blk.cell 4
    have y5 : Xg.cell? ⟨Bc, 5, none⟩ = some (.slice c.od.1.A c.od.1.n c.od.1.c) := HC.out.blk.cell 5
    have y6 : Xg.cell? ⟨Bc, 6, none⟩ = some (.slice c.ma.1.A c.ma.1.n c.ma.1.c) := HC.out.blk.cell 6
    have y7 : Xg.cell? ⟨Bc, 7, none⟩ = some (.slice c.wa.1.A c.wa.1.n c.wa.1.c) := HC.out.blk.cell 7
    go_wp2_with fail
    refine (same11_any g c (by rw [HPG.out]; exact HSc.out) HSc.out Xg HG.out.rd HC.out.rd).mono ?_
    rintro _ X3 ⟨rfl, bb⟩
    clear z0 z1 z2 z3 z4 z5 z6 z7
    clear y0 y1 y2 y3 y4 y5 y6 y7
    have HH := Lib.hid (HH.out.on bb)
    have HC := Lib.hid (HC.out.on bb)
    have BW := Lib.hid (BW.out.trans (bb.mono BW.out.size))
    clear bb
    rw [show decide (g.pl = c.pl) = true from decide_eq_true HPG.out]
    have z0 : X3.cell? ⟨Bc, 0, none⟩ = some (.slice c.tr.1.A c.tr.1.n c.tr.1.c) := HC.out.blk.cell 0
    have z1 : X3.cell? ⟨Bc, 1, none⟩ = some (.slice c.se.1.A c.se.1.n c.se.1.c) := HC.out.blk.cell 1
    have z2 : X3.cell? ⟨Bc, 2, none⟩ = some (.slice c.ob.1.A c.ob.1.n c.ob.1.c) := HC.out.blk.cell 2
    have z3 : X3.cell? ⟨Bc, 3, none⟩ = some (.slice c.pr.1.A c.pr.1.n c.pr.1.c) := HC.out.blk.cell 3
    have z4 : X3.cell? ⟨Bc, 4, none⟩ = some (.slice c.ev.1.A c.ev.1.n c.ev.1.c) := HC.out.blk.cell 4
    have z5 : X3.cell? ⟨Bc, 5, none⟩ = some (.slice c.od.1.A c.od.1.n c.od.1.c) := HC.out.blk.cell 5
    have z6 : X3.cell? ⟨Bc, 6, none⟩ = some (.slice c.ma.1.A c.ma.1.n c.ma.1.c) := HC.out.blk.cell 6
    have z7 : X3.cell? ⟨Bc, 7, none⟩ = some (.slice c.wa.1.A c.wa.1.n c.wa.1.c) := HC.out.blk.cell 7
    go_wp2_with fail
    refine (check11_any c HSc.out X3 (HT.out.on BW.out (Nat.le_refl _)) HC.out.rd).mono ?_
    rintro _ X4 ⟨rfl, bb⟩
    clear z0 z1 z2 z3 z4 z5 z6 z7
    have HH := Lib.hid (HH.out.on bb)
    have HC := Lib.hid (HC.out.on bb)
    have BW := Lib.hid (BW.out.trans (bb.mono BW.out.size))
    clear bb HG
    rw [show checkE c.pl = 0 from checkE_ok HRC.out]
    have LH : Hid (h.pl.ev.length = h.ev.1.n) := (pl_lens HH.out.rd).1.1
    have LC : Hid (c.pl.ev.length = c.ev.1.n) := (pl_lens HC.out.rd).1.1
    have hge : ¬ ((c.ev.1.n : Int) < (h.ev.1.n : Int)) := by have h1 : c.pl.ev.length = (comP h.pl).ev.length := congrArg (fun H => H.ev.length) HPC.out; have h2 : (comP h.pl).ev.length = h.pl.ev.length + ((leftL h.pl).map abortE).length := List.length_append ..; have := LH.out; have := LC.out; omega
    have z4 : X4.cell? ⟨Bc, 4, none⟩ = some (.slice c.ev.1.A c.ev.1.n c.ev.1.c) := HC.out.blk.cell 4
    have y4 : X4.cell? ⟨Bh, 4, none⟩ = some (.slice h.ev.1.A h.ev.1.n h.ev.1.c) := HH.out.blk.cell 4
    go_upto_region 10 with fail
    clear z4 y4 hge
    have hmm := @run_makeMap Tryd.prog
    have b1 : Below X4.heap.size X4 (X4.alloc (.map #[] 0)) := (Below.refl _ _).alloc (Nat.le_refl _) _
    have b2 : Below (X4.alloc (.map #[] 0)).heap.size (X4.alloc (.map #[] 0)) ((X4.alloc (.map #[] 0)).alloc (.map #[] 0)) := (Below.refl _ _).alloc (Nat.le_refl _) _
    have M1 : Hid (MapB ((X4.alloc (.map #[] 0)).alloc (.map #[] 0)) X4.heap.size 0 (begP (c.pl.ev.take 0))) := (MapB.new X4).on b2
    have M2 : Hid (MapB ((X4.alloc (.map #[] 0)).alloc (.map #[] 0)) (X4.heap.size + 1) 0 (ovrP (c.pl.ev.take 0))) := by have := MapB.new (X4.alloc (.map #[] 0)); rwa [World.size_alloc] at this
    have BX : Hid (Below X4.heap.size X4 ((X4.alloc (.map #[] 0)).alloc (.map #[] 0))) := b1.trans (b2.mono b1.size)
    clear b1 b2
    go_upto_region 11 with fail
    clear hmm
    have z4 : ((X4.alloc (.map #[] 0)).alloc (.map #[] 0)).cell? ⟨Bc, 4, none⟩ = some (.slice c.ev.1.A c.ev.1.n c.ev.1.c) := (HC.out.on BX.out).blk.cell 4
    generalize ((X4.alloc (.map #[] 0)).alloc (.map #[] 0)) = Xm at *
    obtain ⟨nc, hnc⟩ : ∃ nc, c.ev.1.n = nc := ⟨_, rfl⟩
    have HNC := Lib.hid hnc
    have hle : nc ≤ 200 := by have h1 := LC.out; have h2 := HSc.out.ev; omega
    obtain ⟨B1, hB1⟩ : ∃ B1, X4.heap.size = B1 := ⟨_, rfl⟩
    have HB1 := Lib.hid hB1
    rw [hB1] at M1 M2
    go_wp2_with fail
    rw [hnc, hB1]
    clear z4 hnc hB1
    go_loopw [59] (fun v wr => ∃ i : Nat, i ≤ nc ∧ v = .int .i64 i ∧ Hid (Below X4.heap.size X4 wr) ∧ Hid (MapB wr B1 i (begP (c.pl.ev.take i))) ∧ Hid (MapB wr (B1 + 1) i (ovrP (c.pl.ev.take i)))) (fun v _ => nc - (intOf v).toNat)
    case atStart => exact ⟨0, Nat.zero_le _, rfl, BX, M1, M2⟩
    case round =>
      clear BX M1 M2
      obtain ⟨i, hi0, rfl, BX, M1, M2⟩ := hrel
      by_cases hin : i < nc
      · have hlt : (i : Int) < (nc : Int) := by omega
        obtain ⟨e, he⟩ : ∃ e, c.pl.ev[i]? = some e := ⟨c.pl.ev[i]'(by rw [LC.out, HNC.out]; exact hin), List.getElem?_eq_getElem _⟩
        obtain ⟨b, o, hd, hA, hbl, hs, hc, hsl⟩ := ev_at (HC.out.on BX.out).rd he
        have c0 : wr.cell? ⟨b, o + i * 9, none⟩ = some (.int .i64 e.kd) := hc 0 _ rfl
        have c1 : wr.cell? ⟨b, o + i * 9 + 1, none⟩ = some (.int .i64 e.t) := hc 1 _ rfl
        have c2 : wr.cell? ⟨b, o + i * 9 + 2, none⟩ = some (.int .i64 e.s) := hc 2 _ rfl
        have c3 : wr.cell? ⟨b, o + i * 9 + 3, none⟩ = some (.int .i64 e.lev) := hc 3 _ rfl
        have c4 : wr.cell? ⟨b, o + i * 9 + 4, none⟩ = some (.int .i64 e.o) := hc 4 _ rfl
        have c5 : wr.cell? ⟨b, o + i * 9 + 5, none⟩ = some (.int .i64 e.vt) := hc 5 _ rfl
        have c6 : wr.cell? ⟨b, o + i * 9 + 6, none⟩ = some (.int .i64 e.vk) := hc 6 _ rfl
        have c7 : wr.cell? ⟨b, o + i * 9 + 7, none⟩ = some (.int .i64 e.p) := hc 7 _ rfl
        have c8 : wr.cell? ⟨b, o + i * 9 + 8, none⟩ = some (.slice hd.A hd.n hd.c) := hc 8 _ rfl
        have ha : Below wr.heap.size wr (wr.alloc (.cells #[.int .i64 e.kd, .int .i64 e.t, .int .i64 e.s, .int .i64 e.lev, .int .i64 e.o, .int .i64 e.vt, .int .i64 e.vk, .int .i64 e.p, .slice hd.A hd.n hd.c] 40)) := (Below.refl _ _).alloc (Nat.le_refl _) _
        have KE : Hid (Blk (wr.alloc (.cells #[.int .i64 e.kd, .int .i64 e.t, .int .i64 e.s, .int .i64 e.lev, .int .i64 e.o, .int .i64 e.vt, .int .i64 e.vk, .int .i64 e.p, .slice hd.A hd.n hd.c] 40)) wr.heap.size 40 #[.int .i64 e.kd, .int .i64 e.t, .int .i64 e.s, .int .i64 e.lev, .int .i64 e.o, .int .i64 e.vt, .int .i64 e.vk, .int .i64 e.p, .slice hd.A hd.n hd.c]) := Blk.new _ _ _
        have BX := Lib.hid (BX.out.trans (ha.mono BX.out.size))
        have HKB : Hid (B1 + 1 < wr.heap.size) := M2.out.lt
        have M1 := Lib.hid (M1.out.on ha)
        have M2 := Lib.hid (M2.out.on ha)
        have HEE := Lib.hid he
        have HWF : Hid ((Lit.int .i64 e.t).wf = true) := com_wf HSc.out (right_shaped HRC.out) (List.mem_of_getElem? he)
        have HSL : Hid (hd.n ≤ 1000000) := by have h1 := HSc.out.sc e (List.mem_of_getElem? he); show hd.n ≤ _; omega
        have HSM := Lib.hid (List.mem_of_getElem? hs)
        rw [hA]
        clear hA hs hc hsl hbl he
        go_upto_region 14 with fail
        clear ha c0 c1 c2 c3 c4 c5 c6 c7 c8
        generalize (wr.alloc (.cells #[.int .i64 e.kd, .int .i64 e.t, .int .i64 e.s, .int .i64 e.lev, .int .i64 e.o, .int .i64 e.vt, .int .i64 e.vk, .int .i64 e.p, .slice hd.A hd.n hd.c] 40)) = X7 at *
        generalize wr.heap.size = KB at *
        go_cut [90] (fun s90 wx => s90 = .bool false ∧ Hid (Blk wx KB 40 #[.int .i64 e.kd, .int .i64 e.t, .int .i64 e.s, .int .i64 e.lev, .int .i64 e.o, .int .i64 e.vt, .int .i64 e.vk, .int .i64 e.p, .slice hd.A hd.n hd.c]) ∧ Hid (Below X4.heap.size X4 wx) ∧ Hid (MapB wx B1 i (begP (c.pl.ev.take i))) ∧ Hid (MapB wx (B1 + 1) i (ovrP (c.pl.ev.take i))))
        case first =>
          have c0 : X7.cell? ⟨KB, 0, none⟩ = some (.int .i64 e.kd) := KE.out.cell 0
          have c1 : X7.cell? ⟨KB, 1, none⟩ = some (.int .i64 e.t) := KE.out.cell 1
          have c2 : X7.cell? ⟨KB, 2, none⟩ = some (.int .i64 e.s) := KE.out.cell 2
          have c3 : X7.cell? ⟨KB, 3, none⟩ = some (.int .i64 e.lev) := KE.out.cell 3
          have c4 : X7.cell? ⟨KB, 4, none⟩ = some (.int .i64 e.o) := KE.out.cell 4
          have c5 : X7.cell? ⟨KB, 5, none⟩ = some (.int .i64 e.vt) := KE.out.cell 5
          have c6 : X7.cell? ⟨KB, 6, none⟩ = some (.int .i64 e.vk) := KE.out.cell 6
          have c7 : X7.cell? ⟨KB, 7, none⟩ = some (.int .i64 e.p) := KE.out.cell 7
          have c8 : X7.cell? ⟨KB, 8, none⟩ = some (.slice hd.A hd.n hd.c) := KE.out.cell 8
          by_cases hih : i < h.ev.1.n
          · have hlt2 : (i : Int) < (h.ev.1.n : Int) := by omega
            have hge2 : ¬ ((i : Int) ≥ (h.ev.1.n : Int)) := by omega
            obtain ⟨b2, o2, hd2, hA2, hbl2, hs2, hc2, hsl2⟩ := ev_at (HH.out.on BX.out).rd (show h.pl.ev[i]? = some e from com_ahead (by rw [← HPC.out]; exact HEE.out) (by rw [LH.out]; exact hih))
            have d0 : X7.cell? ⟨b2, o2 + i * 9, none⟩ = some (.int .i64 e.kd) := hc2 0 _ rfl
            have d1 : X7.cell? ⟨b2, o2 + i * 9 + 1, none⟩ = some (.int .i64 e.t) := hc2 1 _ rfl
            have d2 : X7.cell? ⟨b2, o2 + i * 9 + 2, none⟩ = some (.int .i64 e.s) := hc2 2 _ rfl
            have d3 : X7.cell? ⟨b2, o2 + i * 9 + 3, none⟩ = some (.int .i64 e.lev) := hc2 3 _ rfl
            have d4 : X7.cell? ⟨b2, o2 + i * 9 + 4, none⟩ = some (.int .i64 e.o) := hc2 4 _ rfl
            have d5 : X7.cell? ⟨b2, o2 + i * 9 + 5, none⟩ = some (.int .i64 e.vt) := hc2 5 _ rfl
            have d6 : X7.cell? ⟨b2, o2 + i * 9 + 6, none⟩ = some (.int .i64 e.vk) := hc2 6 _ rfl
            have d7 : X7.cell? ⟨b2, o2 + i * 9 + 7, none⟩ = some (.int .i64 e.p) := hc2 7 _ rfl
            have d8 : X7.cell? ⟨b2, o2 + i * 9 + 8, none⟩ = some (.slice hd2.A hd2.n hd2.c) := hc2 8 _ rfl
            have z4 : X7.cell? ⟨Bh, 4, none⟩ = some (.slice (some ⟨b2, o2, none⟩) h.ev.1.n h.ev.1.c) := by rw [← hA2]; exact (HH.out.on BX.out).blk.cell 4
            have R1 := Lib.hid ((HC.out.on BX.out).rd.sc _ HSM.out)
            have R2 := Lib.hid ((HH.out.on BX.out).rd.sc _ (List.mem_of_getElem? hs2))
            have HSL2 : Hid (hd2.n ≤ 1000000) := by have h1 := HSc.out.sc e (List.mem_of_getElem? HEE.out); show hd2.n ≤ _; omega
            clear hA2 hs2 hc2 hsl2 hih
            refine wp_region_noPanic ?_
            refine wp_region_held_drew (S := fun W' : World => W'.cell? ⟨KB, 0, none⟩ = some (.int .i64 e.kd) ∧ W'.cell? ⟨KB, 1, none⟩ = some (.int .i64 e.t) ∧ W'.cell? ⟨KB, 2, none⟩ = some (.int .i64 e.s) ∧ W'.cell? ⟨KB, 3, none⟩ = some (.int .i64 e.lev) ∧ W'.cell? ⟨KB, 4, none⟩ = some (.int .i64 e.o) ∧ W'.cell? ⟨KB, 5, none⟩ = some (.int .i64 e.vt) ∧ W'.cell? ⟨KB, 6, none⟩ = some (.int .i64 e.vk) ∧ W'.cell? ⟨KB, 7, none⟩ = some (.int .i64 e.p) ∧ W'.cell? ⟨KB, 8, none⟩ = some (.slice hd.A hd.n hd.c) ∧ W'.cell? ⟨Bh, 4, none⟩ = some (.slice (some ⟨b2, o2, none⟩) h.ev.1.n h.ev.1.c) ∧ W'.cell? ⟨b2, o2 + i * 9, none⟩ = some (.int .i64 e.kd) ∧ W'.cell? ⟨b2, o2 + i * 9 + 1, none⟩ = some (.int .i64 e.t) ∧ W'.cell? ⟨b2, o2 + i * 9 + 2, none⟩ = some (.int .i64 e.s) ∧ W'.cell? ⟨b2, o2 + i * 9 + 3, none⟩ = some (.int .i64 e.lev) ∧ W'.cell? ⟨b2, o2 + i * 9 + 4, none⟩ = some (.int .i64 e.o) ∧ W'.cell? ⟨b2, o2 + i * 9 + 5, none⟩ = some (.int .i64 e.vt) ∧ W'.cell? ⟨b2, o2 + i * 9 + 6, none⟩ = some (.int .i64 e.vk) ∧ W'.cell? ⟨b2, o2 + i * 9 + 7, none⟩ = some (.int .i64 e.p) ∧ W'.cell? ⟨b2, o2 + i * 9 + 8, none⟩ = some (.slice hd2.A hd2.n hd2.c)) (by kernel_rfl) ⟨c0, c1, c2, c3, c4, c5, c6, c7, c8, z4, d0, d1, d2, d3, d4, d5, d6, d7, d8⟩ (fun hHeld => ?_)
            refine tkv 0 (some 64) (.int .i64 i) rfl rfl (fun w' hSw => by (try dsimp only at hSw); go_simp) ?_
            try simp only [Act.put, sA, sB, sC]
            refine tkv 1 (some 65) (.pointer (some ⟨Bh, 4, none⟩)) rfl rfl (fun w' hSw => by (try dsimp only at hSw); go_simp) ?_
            try simp only [Act.put, sA, sB, sC]
            refine tkv 2 (some 66) (.slice (some ⟨b2, o2, none⟩) h.ev.1.n h.ev.1.c) rfl rfl (fun w' hSw => by (try dsimp only at hSw); go_simp) ?_
            try simp only [Act.put, sA, sB, sC]
            refine tkv 3 (some 67) (.int .i64 h.ev.1.n) rfl rfl (fun w' hSw => by (try dsimp only at hSw); go_simp) ?_
            try simp only [Act.put, sA, sB, sC]
            refine tkv 4 (some 68) (.bool true) rfl rfl (fun w' hSw => by (try dsimp only at hSw); go_simp) ?_
            try simp only [Act.put, sA, sB, sC]
            refine tkv 5 (some 69) (.bool true) rfl rfl (fun w' hSw => by (try dsimp only at hSw); go_simp) ?_
            try simp only [Act.put, sA, sB, sC]
            refine tkv 6 (some 70) (.agg #[.int .i64 e.kd, .int .i64 e.t, .int .i64 e.s, .int .i64 e.lev, .int .i64 e.o, .int .i64 e.vt, .int .i64 e.vk, .int .i64 e.p, .slice hd.A hd.n hd.c]) rfl rfl (fun w' hSw => by (try dsimp only at hSw); go_simp) ?_
            try simp only [Act.put, sA, sB, sC]
            refine tkv 7 (some 71) (.pointer (some ⟨Bh, 4, none⟩)) rfl rfl (fun w' hSw => by (try dsimp only at hSw); go_simp) ?_
            try simp only [Act.put, sA, sB, sC]
            refine tkv 8 (some 72) (.slice (some ⟨b2, o2, none⟩) h.ev.1.n h.ev.1.c) rfl rfl (fun w' hSw => by (try dsimp only at hSw); go_simp) ?_
            try simp only [Act.put, sA, sB, sC]
            refine tkv 9 (some 73) (.int .i64 i) rfl rfl (fun w' hSw => by (try dsimp only at hSw); go_simp) ?_
            try simp only [Act.put, sA, sB, sC]
            refine tkv 10 (some 74) (.pointer (some ⟨b2, o2 + i * 9, none⟩)) rfl rfl (fun w' hSw => by (try dsimp only at hSw); go_simp) ?_
            try simp only [Act.put, sA, sB, sC]
            refine tkv 11 (some 75) (.agg #[.int .i64 e.kd, .int .i64 e.t, .int .i64 e.s, .int .i64 e.lev, .int .i64 e.o, .int .i64 e.vt, .int .i64 e.vk, .int .i64 e.p, .slice hd2.A hd2.n hd2.c]) rfl rfl (fun w' hSw => by (try dsimp only at hSw); go_simp) ?_
            try simp only [Act.put, sA, sB, sC]
            refine wpAnyH_ready (rs := [12]) (by kernel_rfl) (by simp) ?_
            refine AllReadyH.cons rfl (fun K hK => ?_) ?_
            · skip
              go_simp
              refine (sameEvent_any (e, hd) (e, hd2) HSL.out HSL2.out X7.drew (R1.out.below (Below.refl _ _).drew) (R2.out.below (Below.refl _ _).drew)).mono ?_
              rintro e5 w5 ⟨he5, b5⟩
              obtain rfl : e5 = .returned (.bool true) := by rw [he5]; simp
              clear he5
              have b5 : Below X7.heap.size X7 w5 := (Below.refl _ X7).drew.trans b5
              have KE5 := Lib.hid (KE.out.below b5 KE.out.lt)
              have BX5 := Lib.hid (BX.out.trans (b5.mono BX.out.size))
              have M15 := Lib.hid (M1.out.on b5)
              have M25 := Lib.hid (M2.out.on b5)
              have HF5 : w5.cell? ⟨KB, 0, none⟩ = some (.int .i64 e.kd) ∧ w5.cell? ⟨KB, 1, none⟩ = some (.int .i64 e.t) ∧ w5.cell? ⟨KB, 2, none⟩ = some (.int .i64 e.s) ∧ w5.cell? ⟨KB, 3, none⟩ = some (.int .i64 e.lev) ∧ w5.cell? ⟨KB, 4, none⟩ = some (.int .i64 e.o) ∧ w5.cell? ⟨KB, 5, none⟩ = some (.int .i64 e.vt) ∧ w5.cell? ⟨KB, 6, none⟩ = some (.int .i64 e.vk) ∧ w5.cell? ⟨KB, 7, none⟩ = some (.int .i64 e.p) ∧ w5.cell? ⟨KB, 8, none⟩ = some (.slice hd.A hd.n hd.c) ∧ w5.cell? ⟨Bh, 4, none⟩ = some (.slice (some ⟨b2, o2, none⟩) h.ev.1.n h.ev.1.c) ∧ w5.cell? ⟨b2, o2 + i * 9, none⟩ = some (.int .i64 e.kd) ∧ w5.cell? ⟨b2, o2 + i * 9 + 1, none⟩ = some (.int .i64 e.t) ∧ w5.cell? ⟨b2, o2 + i * 9 + 2, none⟩ = some (.int .i64 e.s) ∧ w5.cell? ⟨b2, o2 + i * 9 + 3, none⟩ = some (.int .i64 e.lev) ∧ w5.cell? ⟨b2, o2 + i * 9 + 4, none⟩ = some (.int .i64 e.o) ∧ w5.cell? ⟨b2, o2 + i * 9 + 5, none⟩ = some (.int .i64 e.vt) ∧ w5.cell? ⟨b2, o2 + i * 9 + 6, none⟩ = some (.int .i64 e.vk) ∧ w5.cell? ⟨b2, o2 + i * 9 + 7, none⟩ = some (.int .i64 e.p) ∧ w5.cell? ⟨b2, o2 + i * 9 + 8, none⟩ = some (.slice hd2.A hd2.n hd2.c) := ⟨KE5.out.cell 0, KE5.out.cell 1, KE5.out.cell 2, KE5.out.cell 3, KE5.out.cell 4, KE5.out.cell 5, KE5.out.cell 6, KE5.out.cell 7, KE5.out.cell 8, (b5.cell (p := ⟨Bh, 4, none⟩) (HH.out.on BX.out).blk.lt).trans z4, (b5.cell (p := ⟨b2, o2 + i * 9, none⟩) hbl2).trans d0, (b5.cell (p := ⟨b2, o2 + i * 9 + 1, none⟩) hbl2).trans d1, (b5.cell (p := ⟨b2, o2 + i * 9 + 2, none⟩) hbl2).trans d2, (b5.cell (p := ⟨b2, o2 + i * 9 + 3, none⟩) hbl2).trans d3, (b5.cell (p := ⟨b2, o2 + i * 9 + 4, none⟩) hbl2).trans d4, (b5.cell (p := ⟨b2, o2 + i * 9 + 5, none⟩) hbl2).trans d5, (b5.cell (p := ⟨b2, o2 + i * 9 + 6, none⟩) hbl2).trans d6, (b5.cell (p := ⟨b2, o2 + i * 9 + 7, none⟩) hbl2).trans d7, (b5.cell (p := ⟨b2, o2 + i * 9 + 8, none⟩) hbl2).trans d8⟩
              go_simp
              refine hK.out _ _ HF5 (fun hHeld => ?_)
              clear hK K
              try simp only [Act.put, sA, sB, sC]
              refine tkv 13 (some 77) (.bool false) rfl rfl (fun w' hSw => by (try dsimp only at hSw); go_simp) ?_
              try simp only [Act.put, sA, sB, sC]
              refine tkv 14 (some 78) (.bool false) rfl rfl (fun w' hSw => by (try dsimp only at hSw); go_simp) ?_
              try simp only [Act.put, sA, sB, sC]
              refine tkv 15 (some 79) (.bool false) rfl rfl (fun w' hSw => by (try dsimp only at hSw); go_simp) ?_
              try simp only [Act.put, sA, sB, sC]
              refine tkv 16 (some 80) (.int .i64 i) rfl rfl (fun w' hSw => by (try dsimp only at hSw); go_simp) ?_
              try simp only [Act.put, sA, sB, sC]
              refine tkv 17 (some 81) (.pointer (some ⟨Bh, 4, none⟩)) rfl rfl (fun w' hSw => by (try dsimp only at hSw); go_simp) ?_
              try simp only [Act.put, sA, sB, sC]
              refine tkv 18 (some 82) (.slice (some ⟨b2, o2, none⟩) h.ev.1.n h.ev.1.c) rfl rfl (fun w' hSw => by (try dsimp only at hSw); go_simp) ?_
              try simp only [Act.put, sA, sB, sC]
              refine tkv 19 (some 83) (.int .i64 h.ev.1.n) rfl rfl (fun w' hSw => by (try dsimp only at hSw); go_simp) ?_
              try simp only [Act.put, sA, sB, sC]
              refine tkv 20 (some 84) (.bool false) rfl rfl (fun w' hSw => by (try dsimp only at hSw); go_simp) ?_
              try simp only [Act.put, sA, sB, sC]
              refine tkv 21 (some 85) (.bool false) rfl rfl (fun w' hSw => by (try dsimp only at hSw); go_simp) ?_
              try simp only [Act.put, sA, sB, sC]
              refine tku 22 (some 86) rfl rfl ?_
              try simp only [Act.put, sA, sB, sC]
              refine tku 23 (some 87) rfl rfl ?_
              try simp only [Act.put, sA, sB, sC]
              refine tku 24 (some 88) rfl rfl ?_
              try simp only [Act.put, sA, sB, sC]
              refine tkv 25 (some 89) (.bool false) rfl rfl (fun w' hSw => by (try dsimp only at hSw); go_simp) ?_
              try simp only [Act.put, sA, sB, sC]
              refine tkv 26 (some 90) (.bool false) rfl rfl (fun w' hSw => by (try dsimp only at hSw); go_simp) ?_
              try simp only [Act.put, sA, sB, sC]
              refine wpAnyH_done (by kernel_rfl) ?_ _
              refine NoPanic.normal ?_
              go_wp2_with fail
              go_meet
              exact ⟨rfl, KE5, BX5, M15, M25⟩
            exact AllReadyH.nil
          · have hlt2 : ¬ ((i : Int) < (h.ev.1.n : Int)) := by omega
            have hge2 : (i : Int) ≥ (h.ev.1.n : Int) := by omega
            have hk6 : e.kd = 6 := com_rest (by rw [← HPC.out]; exact HEE.out) (by rw [LH.out]; omega)
            have c0 : X7.cell? ⟨KB, 0, none⟩ = some (.int .i64 6) := by rw [← hk6]; exact KE.out.cell 0
            have z4 : X7.cell? ⟨Bh, 4, none⟩ = some (.slice h.ev.1.A h.ev.1.n h.ev.1.c) := by exact (HH.out.on BX.out).blk.cell 4
            clear hk6 hih
            refine wp_region_noPanic ?_
            refine wp_region_held_drew (S := fun W' : World => W'.cell? ⟨KB, 0, none⟩ = some (.int .i64 6) ∧ W'.cell? ⟨Bh, 4, none⟩ = some (.slice h.ev.1.A h.ev.1.n h.ev.1.c)) (by kernel_rfl) ⟨c0, z4⟩ (fun hHeld => ?_)
            refine tkv 0 (some 64) (.int .i64 i) rfl rfl (fun w' hSw => by (try dsimp only at hSw); go_simp) ?_
            try simp only [Act.put, sA, sB, sC]
            refine tkv 1 (some 65) (.pointer (some ⟨Bh, 4, none⟩)) rfl rfl (fun w' hSw => by (try dsimp only at hSw); go_simp) ?_
            try simp only [Act.put, sA, sB, sC]
            refine tkv 2 (some 66) (.slice h.ev.1.A h.ev.1.n h.ev.1.c) rfl rfl (fun w' hSw => by (try dsimp only at hSw); go_simp) ?_
            try simp only [Act.put, sA, sB, sC]
            refine tkv 3 (some 67) (.int .i64 h.ev.1.n) rfl rfl (fun w' hSw => by (try dsimp only at hSw); go_simp) ?_
            try simp only [Act.put, sA, sB, sC]
            refine tkv 4 (some 68) (.bool false) rfl rfl (fun w' hSw => by (try dsimp only at hSw); go_simp) ?_
            try simp only [Act.put, sA, sB, sC]
            refine tkv 5 (some 69) (.bool false) rfl rfl (fun w' hSw => by (try dsimp only at hSw); go_simp) ?_
            try simp only [Act.put, sA, sB, sC]
            refine tku 6 (some 70) rfl rfl ?_
            try simp only [Act.put, sA, sB, sC]
            refine tku 7 (some 71) rfl rfl ?_
            try simp only [Act.put, sA, sB, sC]
            refine tku 8 (some 72) rfl rfl ?_
            try simp only [Act.put, sA, sB, sC]
            refine tku 9 (some 73) rfl rfl ?_
            try simp only [Act.put, sA, sB, sC]
            refine tku 10 (some 74) rfl rfl ?_
            try simp only [Act.put, sA, sB, sC]
            refine tku 11 (some 75) rfl rfl ?_
            try simp only [Act.put, sA, sB, sC]
            refine tku 12 (some 76) rfl rfl ?_
            try simp only [Act.put, sA, sB, sC]
            refine tku 13 (some 77) rfl rfl ?_
            try simp only [Act.put, sA, sB, sC]
            refine tkv 14 (some 78) (.bool false) rfl rfl (fun w' hSw => by (try dsimp only at hSw); go_simp) ?_
            try simp only [Act.put, sA, sB, sC]
            refine tkv 15 (some 79) (.bool false) rfl rfl (fun w' hSw => by (try dsimp only at hSw); go_simp) ?_
            try simp only [Act.put, sA, sB, sC]
            refine tkv 16 (some 80) (.int .i64 i) rfl rfl (fun w' hSw => by (try dsimp only at hSw); go_simp) ?_
            try simp only [Act.put, sA, sB, sC]
            refine tkv 17 (some 81) (.pointer (some ⟨Bh, 4, none⟩)) rfl rfl (fun w' hSw => by (try dsimp only at hSw); go_simp) ?_
            try simp only [Act.put, sA, sB, sC]
            refine tkv 18 (some 82) (.slice h.ev.1.A h.ev.1.n h.ev.1.c) rfl rfl (fun w' hSw => by (try dsimp only at hSw); go_simp) ?_
            try simp only [Act.put, sA, sB, sC]
            refine tkv 19 (some 83) (.int .i64 h.ev.1.n) rfl rfl (fun w' hSw => by (try dsimp only at hSw); go_simp) ?_
            try simp only [Act.put, sA, sB, sC]
            refine tkv 20 (some 84) (.bool true) rfl rfl (fun w' hSw => by (try dsimp only at hSw); go_simp) ?_
            try simp only [Act.put, sA, sB, sC]
            refine tkv 21 (some 85) (.bool true) rfl rfl (fun w' hSw => by (try dsimp only at hSw); go_simp) ?_
            try simp only [Act.put, sA, sB, sC]
            refine tkv 22 (some 86) (.pointer (some ⟨KB, 0, none⟩)) rfl rfl (fun w' hSw => by (try dsimp only at hSw); go_simp) ?_
            try simp only [Act.put, sA, sB, sC]
            refine tkv 23 (some 87) (.int .i64 6) rfl rfl (fun w' hSw => by (try dsimp only at hSw); go_simp) ?_
            try simp only [Act.put, sA, sB, sC]
            refine tkv 24 (some 88) (.bool false) rfl rfl (fun w' hSw => by (try dsimp only at hSw); go_simp) ?_
            try simp only [Act.put, sA, sB, sC]
            refine tkv 25 (some 89) (.bool false) rfl rfl (fun w' hSw => by (try dsimp only at hSw); go_simp) ?_
            try simp only [Act.put, sA, sB, sC]
            refine tkv 26 (some 90) (.bool false) rfl rfl (fun w' hSw => by (try dsimp only at hSw); go_simp) ?_
            try simp only [Act.put, sA, sB, sC]
            refine wpAnyH_done (by kernel_rfl) ?_ _
            refine NoPanic.normal ?_
            go_wp2_with fail
            go_meet
            exact ⟨rfl, KE.out.below (Below.refl _ X7).drew KE.out.lt, BX.out.drew, M1.out.on (Below.refl _ X7).drew, M2.out.on (Below.refl _ X7).drew⟩
        case rest =>
          clear KE BX M1 M2
          obtain ⟨rfl, KE, BX, M1, M2⟩ := hcut
          have c0 : wc.cell? ⟨KB, 0, none⟩ = some (.int .i64 e.kd) := KE.out.cell 0
          have c1 : wc.cell? ⟨KB, 1, none⟩ = some (.int .i64 e.t) := KE.out.cell 1
          have hl1 := M1.out.look HWF.out
          obtain ⟨D1, hown1, hs1⟩ := M1.out
          have HS1 := Lib.hid hs1
          have HN1 := Lib.hid hown1
          clear hs1 hown1 M1
          cases hb : begP (c.pl.ev.take i) e.t
          · rw [hb] at hl1
            go_upto_region 17 with (at_mapUpdate; refine wpList_mapUpdate_own _ rfl _ _ _ 42 rfl 3 4 (int_keyed Tryd.underlying3) Tryd.underlying42 _ B1 i D1 rfl HN1.out (by unfold maxLen; omega) _ _ (.int .i64 e.t) rfl rfl (keyOf_int_mk Tryd.underlying3 HWF.out) (.lit (.bool _)) [] (plainElem_bool Tryd.underlying4 _) ?_; intro w7 hown hgrow)
            have N1 : Hid (MapB w7 B1 (i + 1) (begP (c.pl.ev.take (i + 1)))) := ⟨_, hown, seen_next HS1.out HN1.out.isMap HEE.out (by have h9 : ((c.pl.ev.take i).any fun a => decide (a.t = e.t) && (a.kd == 1)) = _ := hb; rw [h9]; simp)⟩
            have BX7 : Hid (Below X4.heap.size X4 w7) := BX.out.grown hgrow BX.out.size (fun k hk => by injection hk with hk; have := HB1.out; omega)
            have M27 : Hid (MapB w7 (B1 + 1) i (ovrP (c.pl.ev.take i))) := M2.out.grown hgrow (by simp)
            have hblk := hgrow.block KB KE.out.lt (by have := HKB.out; intro h9; injection h9 with h9; omega)
            have c0 : w7.cell? ⟨KB, 0, none⟩ = some (.int .i64 e.kd) := (World.cell?_of_block hblk).trans c0
            have c1 : w7.cell? ⟨KB, 1, none⟩ = some (.int .i64 e.t) := (World.cell?_of_block hblk).trans c1
            clear hown hgrow hblk hl1 hb BX KE M2
            have hl2 := M27.out.look HWF.out
            obtain ⟨D2, hown2, hs2⟩ := M27.out
            have HS2 := Lib.hid hs2
            have HN2 := Lib.hid hown2
            clear hs2 hown2 M27
            cases ho : ovrP (c.pl.ev.take i) e.t
            · rw [ho] at hl2
              cases h5 : (e.kd == 5)
              · skip
                go_upto_region 18 with (at_mapUpdate; refine wpList_mapUpdate_own _ rfl _ _ _ 42 rfl 3 4 (int_keyed Tryd.underlying3) Tryd.underlying42 _ (B1 + 1) i D2 rfl HN2.out (by unfold maxLen; omega) _ _ (.int .i64 e.t) rfl rfl (keyOf_int_mk Tryd.underlying3 HWF.out) (.lit (.bool _)) [] (plainElem_bool Tryd.underlying4 _) ?_; intro w9 hown hgrow)
                have N2 : Hid (MapB w9 (B1 + 1) (i + 1) (ovrP (c.pl.ev.take (i + 1)))) := ⟨_, hown, seen_next (k := fun e => (e.kd == 5) || (e.kd == 6)) HS2.out HN2.out.isMap HEE.out (by have h9 : ((c.pl.ev.take i).any fun a => decide (a.t = e.t) && ((a.kd == 5) || (a.kd == 6))) = _ := ho; rw [h9]; simp [h5])⟩
                have BX9 : Hid (Below X4.heap.size X4 w9) := BX7.out.grown hgrow BX7.out.size (fun k hk => by injection hk with hk; have := HB1.out; omega)
                have N19 := Lib.hid (N1.out.grown hgrow (by simp))
                clear hown hgrow hl2 N1 BX7
                go_wp2_with fail
                go_roundw
                case rel => exact ⟨i + 1, hin, by go_num, BX9, N19, N2⟩
                case measure => simp [intOf]; omega
              · skip
                go_upto_region 18 with (at_mapUpdate; refine wpList_mapUpdate_own _ rfl _ _ _ 42 rfl 3 4 (int_keyed Tryd.underlying3) Tryd.underlying42 _ (B1 + 1) i D2 rfl HN2.out (by unfold maxLen; omega) _ _ (.int .i64 e.t) rfl rfl (keyOf_int_mk Tryd.underlying3 HWF.out) (.lit (.bool _)) [] (plainElem_bool Tryd.underlying4 _) ?_; intro w9 hown hgrow)
                have N2 : Hid (MapB w9 (B1 + 1) (i + 1) (ovrP (c.pl.ev.take (i + 1)))) := ⟨_, hown, seen_next (k := fun e => (e.kd == 5) || (e.kd == 6)) HS2.out HN2.out.isMap HEE.out (by have h9 : ((c.pl.ev.take i).any fun a => decide (a.t = e.t) && ((a.kd == 5) || (a.kd == 6))) = _ := ho; rw [h9]; simp [h5])⟩
                have BX9 : Hid (Below X4.heap.size X4 w9) := BX7.out.grown hgrow BX7.out.size (fun k hk => by injection hk with hk; have := HB1.out; omega)
                have N19 := Lib.hid (N1.out.grown hgrow (by simp))
                clear hown hgrow hl2 N1 BX7
                go_wp2_with fail
                go_roundw
                case rel => exact ⟨i + 1, hin, by go_num, BX9, N19, N2⟩
                case measure => simp [intOf]; omega
            · rw [ho] at hl2
              go_upto_region 18 with (at_mapUpdate; refine wpList_mapUpdate_own _ rfl _ _ _ 42 rfl 3 4 (int_keyed Tryd.underlying3) Tryd.underlying42 _ (B1 + 1) i D2 rfl HN2.out (by unfold maxLen; omega) _ _ (.int .i64 e.t) rfl rfl (keyOf_int_mk Tryd.underlying3 HWF.out) (.lit (.bool _)) [] (plainElem_bool Tryd.underlying4 _) ?_; intro w9 hown hgrow)
              have N2 : Hid (MapB w9 (B1 + 1) (i + 1) (ovrP (c.pl.ev.take (i + 1)))) := ⟨_, hown, seen_next (k := fun e => (e.kd == 5) || (e.kd == 6)) HS2.out HN2.out.isMap HEE.out (by have h9 : ((c.pl.ev.take i).any fun a => decide (a.t = e.t) && ((a.kd == 5) || (a.kd == 6))) = _ := ho; rw [h9]; simp)⟩
              have BX9 : Hid (Below X4.heap.size X4 w9) := BX7.out.grown hgrow BX7.out.size (fun k hk => by injection hk with hk; have := HB1.out; omega)
              have N19 := Lib.hid (N1.out.grown hgrow (by simp))
              clear hown hgrow hl2 N1 BX7
              go_wp2_with fail
              go_roundw
              case rel => exact ⟨i + 1, hin, by go_num, BX9, N19, N2⟩
              case measure => simp [intOf]; omega
          · rw [hb] at hl1
            go_upto_region 17 with (at_mapUpdate; refine wpList_mapUpdate_own _ rfl _ _ _ 42 rfl 3 4 (int_keyed Tryd.underlying3) Tryd.underlying42 _ B1 i D1 rfl HN1.out (by unfold maxLen; omega) _ _ (.int .i64 e.t) rfl rfl (keyOf_int_mk Tryd.underlying3 HWF.out) (.lit (.bool _)) [] (plainElem_bool Tryd.underlying4 _) ?_; intro w7 hown hgrow)
            have N1 : Hid (MapB w7 B1 (i + 1) (begP (c.pl.ev.take (i + 1)))) := ⟨_, hown, seen_next HS1.out HN1.out.isMap HEE.out (by have h9 : ((c.pl.ev.take i).any fun a => decide (a.t = e.t) && (a.kd == 1)) = _ := hb; rw [h9]; simp)⟩
            have BX7 : Hid (Below X4.heap.size X4 w7) := BX.out.grown hgrow BX.out.size (fun k hk => by injection hk with hk; have := HB1.out; omega)
            have M27 : Hid (MapB w7 (B1 + 1) i (ovrP (c.pl.ev.take i))) := M2.out.grown hgrow (by simp)
            have hblk := hgrow.block KB KE.out.lt (by have := HKB.out; intro h9; injection h9 with h9; omega)
            have c0 : w7.cell? ⟨KB, 0, none⟩ = some (.int .i64 e.kd) := (World.cell?_of_block hblk).trans c0
            have c1 : w7.cell? ⟨KB, 1, none⟩ = some (.int .i64 e.t) := (World.cell?_of_block hblk).trans c1
            clear hown hgrow hblk hl1 hb BX KE M2
            have hl2 := M27.out.look HWF.out
            obtain ⟨D2, hown2, hs2⟩ := M27.out
            have HS2 := Lib.hid hs2
            have HN2 := Lib.hid hown2
            clear hs2 hown2 M27
            cases ho : ovrP (c.pl.ev.take i) e.t
            · rw [ho] at hl2
              cases h5 : (e.kd == 5)
              · skip
                go_upto_region 18 with (at_mapUpdate; refine wpList_mapUpdate_own _ rfl _ _ _ 42 rfl 3 4 (int_keyed Tryd.underlying3) Tryd.underlying42 _ (B1 + 1) i D2 rfl HN2.out (by unfold maxLen; omega) _ _ (.int .i64 e.t) rfl rfl (keyOf_int_mk Tryd.underlying3 HWF.out) (.lit (.bool _)) [] (plainElem_bool Tryd.underlying4 _) ?_; intro w9 hown hgrow)
                have N2 : Hid (MapB w9 (B1 + 1) (i + 1) (ovrP (c.pl.ev.take (i + 1)))) := ⟨_, hown, seen_next (k := fun e => (e.kd == 5) || (e.kd == 6)) HS2.out HN2.out.isMap HEE.out (by have h9 : ((c.pl.ev.take i).any fun a => decide (a.t = e.t) && ((a.kd == 5) || (a.kd == 6))) = _ := ho; rw [h9]; simp [h5])⟩
                have BX9 : Hid (Below X4.heap.size X4 w9) := BX7.out.grown hgrow BX7.out.size (fun k hk => by injection hk with hk; have := HB1.out; omega)
                have N19 := Lib.hid (N1.out.grown hgrow (by simp))
                clear hown hgrow hl2 N1 BX7
                go_wp2_with fail
                go_roundw
                case rel => exact ⟨i + 1, hin, by go_num, BX9, N19, N2⟩
                case measure => simp [intOf]; omega
              · skip
                go_upto_region 18 with (at_mapUpdate; refine wpList_mapUpdate_own _ rfl _ _ _ 42 rfl 3 4 (int_keyed Tryd.underlying3) Tryd.underlying42 _ (B1 + 1) i D2 rfl HN2.out (by unfold maxLen; omega) _ _ (.int .i64 e.t) rfl rfl (keyOf_int_mk Tryd.underlying3 HWF.out) (.lit (.bool _)) [] (plainElem_bool Tryd.underlying4 _) ?_; intro w9 hown hgrow)
                have N2 : Hid (MapB w9 (B1 + 1) (i + 1) (ovrP (c.pl.ev.take (i + 1)))) := ⟨_, hown, seen_next (k := fun e => (e.kd == 5) || (e.kd == 6)) HS2.out HN2.out.isMap HEE.out (by have h9 : ((c.pl.ev.take i).any fun a => decide (a.t = e.t) && ((a.kd == 5) || (a.kd == 6))) = _ := ho; rw [h9]; simp [h5])⟩
                have BX9 : Hid (Below X4.heap.size X4 w9) := BX7.out.grown hgrow BX7.out.size (fun k hk => by injection hk with hk; have := HB1.out; omega)
                have N19 := Lib.hid (N1.out.grown hgrow (by simp))
                clear hown hgrow hl2 N1 BX7
                go_wp2_with fail
                go_roundw
                case rel => exact ⟨i + 1, hin, by go_num, BX9, N19, N2⟩
                case measure => simp [intOf]; omega
            · rw [ho] at hl2
              go_upto_region 18 with (at_mapUpdate; refine wpList_mapUpdate_own _ rfl _ _ _ 42 rfl 3 4 (int_keyed Tryd.underlying3) Tryd.underlying42 _ (B1 + 1) i D2 rfl HN2.out (by unfold maxLen; omega) _ _ (.int .i64 e.t) rfl rfl (keyOf_int_mk Tryd.underlying3 HWF.out) (.lit (.bool _)) [] (plainElem_bool Tryd.underlying4 _) ?_; intro w9 hown hgrow)
              have N2 : Hid (MapB w9 (B1 + 1) (i + 1) (ovrP (c.pl.ev.take (i + 1)))) := ⟨_, hown, seen_next (k := fun e => (e.kd == 5) || (e.kd == 6)) HS2.out HN2.out.isMap HEE.out (by have h9 : ((c.pl.ev.take i).any fun a => decide (a.t = e.t) && ((a.kd == 5) || (a.kd == 6))) = _ := ho; rw [h9]; simp)⟩
              have BX9 : Hid (Below X4.heap.size X4 w9) := BX7.out.grown hgrow BX7.out.size (fun k hk => by injection hk with hk; have := HB1.out; omega)
              have N19 := Lib.hid (N1.out.grown hgrow (by simp))
              clear hown hgrow hl2 N1 BX7
              go_wp2_with fail
              go_roundw
              case rel => exact ⟨i + 1, hin, by go_num, BX9, N19, N2⟩
              case measure => simp [intOf]; omega
      · have hie : i = nc := by omega
        rw [hie] at M1 M2 ⊢
        clear hie hin hi0
        have hnl : ¬ ((nc : Int) < (nc : Int)) := by omega
        have HL : Hid (c.pl.ev.take nc = c.pl.ev) := List.take_of_length_le (by rw [LC.out, HNC.out]; exact Nat.le_refl _)
        rw [HL.out] at M1 M2
        obtain ⟨D, hown, hsd⟩ := M1.out
        have HSD := Lib.hid hsd
        have HKB : Hid (B1 + 1 < wr.heap.size) := M2.out.lt
        obtain ⟨rr, hrr⟩ : ∃ rr, wr.heap.size = rr := ⟨_, rfl⟩
        clear hsd M1
        go_wp2_with (at_range; refine wpList_range_own _ rfl _ 42 rfl 3 4 (int_keyed Tryd.underlying3) Tryd.underlying42 _ B1 nc D rfl hown ?_; intro w0 hrg0 hg0 hs0; go_frame)
        rw [hrr] at hrg0 HKB
        have HR0 := Lib.hid hrg0
        have BX0 : Hid (Below X4.heap.size X4 w0) := BX.out.grown hg0 BX.out.size (fun g hg => by cases hg)
        have M0 := Lib.hid (M2.out.grown hg0 (by simp))
        have hB := HB1.out
        have hRR : X4.heap.size ≤ rr := by have := HKB.out; omega
        clear hown hrg0 hg0 hs0 M2 BX hrr hnl
        go_loopg [11] (Maps.size D) (fun gg s11 wr => ∃ left : Lit → Bool, Hid (wr.ranges Tryd.prog 3 (plainElem Tryd.prog 4) B1 rr nc D left gg) ∧ Hid (Below X4.heap.size X4 wr) ∧ Hid (MapB wr (B1 + 1) nc (ovrP c.pl.ev)))
        case atStart => exact ⟨_, HR0, BX0, M0⟩
        case round =>
          clear HR0 BX0 M0
          obtain ⟨left, HRG, BX, M2⟩ := hrel
          go_wp2_with (at_next; refine wpList_next_ranges _ rfl _ rfl 3 (int_keyed Tryd.underlying3) (plainElem Tryd.prog 4) (Value.int .i64) Value.bool (fun key kl h => by obtain ⟨x, rfl, _⟩ := Maps.keyOf_int_inv Tryd.underlying3 h; exact ⟨x, rfl⟩) (fun v y h => by obtain ⟨c, rfl, _⟩ := elem_bool h; exact ⟨c, rfl⟩) B1 rr nc D left gk rfl HRG.out ?_ ?_)
          · intro _ _
            go_wp2_with fail
            go_ret
            exact ⟨rfl, BW.out.trans (BX.out.mono BW.out.size)⟩
          · intro x
            refine ⟨?_, ?_⟩
            · intro kl yd yp w5 cnt5 hkey _ hv hat hrg5 hlt5 hg5 _ hen
              obtain ⟨x2, hx2, hkl, hwf⟩ := Maps.keyOf_int_inv Tryd.underlying3 hkey
              injection hx2 with _ hx2
              subst hx2
              subst hkl
              obtain ⟨c2, hc2, hy⟩ := elem_bool hv
              injection hc2 with hc2
              subst hc2
              have hcv : false = begP c.pl.ev x := by
                have h1 := hat (.lit (.bool false))
                injection hy with hy _
                rw [HSD.out x, hy] at h1
                injection h1 with h1
                injection h1 with h1
                exact h1.symm
              have HR5 := Lib.hid hrg5
              have BX5 : Hid (Below X4.heap.size X4 w5) := BX.out.grown hg5 BX.out.size (fun g hg => by injection hg with hg; omega)
              have M5 := Lib.hid (M2.out.grown hg5 (by have := HKB.out; intro h9; injection h9 with h9; omega))
              have hl2 := M5.out.look hwf
              clear hkey hv hat hrg5 hg5 hy
              clear hcv hl2
              go_wp2_with fail
              go_roundg cnt5
              case measure => exact hlt5
              case rel => exact ⟨_, HR5, BX5, M5⟩
            · intro kl yd yp w5 cnt5 hkey _ hv hat hrg5 hlt5 hg5 _ hen
              obtain ⟨x2, hx2, hkl, hwf⟩ := Maps.keyOf_int_inv Tryd.underlying3 hkey
              injection hx2 with _ hx2
              subst hx2
              subst hkl
              obtain ⟨c2, hc2, hy⟩ := elem_bool hv
              injection hc2 with hc2
              subst hc2
              have hcv : true = begP c.pl.ev x := by
                have h1 := hat (.lit (.bool false))
                injection hy with hy _
                rw [HSD.out x, hy] at h1
                injection h1 with h1
                injection h1 with h1
                exact h1.symm
              have HR5 := Lib.hid hrg5
              have BX5 : Hid (Below X4.heap.size X4 w5) := BX.out.grown hg5 BX.out.size (fun g hg => by injection hg with hg; omega)
              have M5 := Lib.hid (M2.out.grown hg5 (by have := HKB.out; intro h9; injection h9 with h9; omega))
              have hl2 := M5.out.look hwf
              clear hkey hv hat hrg5 hg5 hy
              rw [show ovrP c.pl.ev x = true from by rw [HPC.out] at hcv ⊢; exact com_over (right_shaped HR.out) hcv.symm] at hl2
              clear hcv
              go_wp2_with fail
              go_roundg cnt5
              case measure => exact hlt5
              case rel => exact ⟨_, HR5, BX5, M5⟩
end Go.Proofs.YtlnbmmaminflcaaDoor
