/- Layer history: a number is put at a place that is spoken of, in memory of one's own: lemmas on the model alone. -/
import Derived.Deep.CutRange
import Derived.Deep.DeepCutAuto
import Derived.Lib.AppendIntMem
import Derived.Maps.AppendAt
import Derived.Test.YtlnbmmaminflcaaGreatDoorM23
import Derived.Test.YtlnbmmaminflcaaGreatDoorM18
import Derived.Test.YtlnbmmaminflcaaGreatDoorM17
import Derived.Test.YtlnbmmaminflcaaGreatDoorM16
-- holds: YtlnbmmaminflcaaGreatDoorVIw YtlnbmmaminflcaaGreatDoorVIx YtlnbmmaminflcaaGreatDoorVIy YtlnbmmaminflcaaGreatDoorVIz YtlnbmmaminflcaaGreatDoorVIza
namespace Go.Proofs.YtlnbmmaminflcaaGreatDoor
open Go.RowKit Go.Shelf

def RestEq (h m : HistM) : Prop := h.ev.2 = m.ev.2 ∧ h.od.2 = m.od.2 ∧ h.ma.2 = m.ma.2 ∧ h.wa.2 = m.wa.2
def nilS : SH × List ByteArray := (⟨none, 0, 0⟩, [])
def PhA (m h : HistM) (k : Nat) : Prop := (∀ s, s < k → s < 4 → (h.sort s).2 = (m.sort s).2) ∧ (∀ s, k ≤ s → s < 4 → h.sort s = nilS) ∧ RestEq h m
def PhB (m h : HistM) (k j : Nat) : Prop := (∀ s, s < k → s < 4 → (h.sort s).2 = (m.sort s).2) ∧ ((h.sort k).2 = (m.sort k).2.take j ∧ (h.sort k).1.n = j) ∧ (∀ s, k < s → s < 4 → h.sort s = nilS) ∧ RestEq h m
def NamesEq (h m : HistM) : Prop := ∀ s, s < 4 → (h.sort s).2 = (m.sort s).2
section
variable {m h : HistM} {k j : Nat}
theorem PhA.start (hp : PhA m h k) (hk : k < 4) : PhB m h k 0 := ⟨hp.1, by rw [hp.2.1 k (Nat.le_refl _) hk]; exact ⟨by simp [nilS], rfl⟩, fun s hs h4 => hp.2.1 s (by omega) h4, hp.2.2⟩
theorem PhB.next (hp : PhB m h k j) (hk : k < 4) {s : ByteArray} (hs : (m.sort k).2[j]? = some s) {A : Option Addr} {c : Nat} : PhB m (setSort h k (⟨A, (h.sort k).1.n + [s].length, c⟩, (h.sort k).2 ++ [s])) k (j + 1) := by
 obtain ⟨e1, e2, e3, e4⟩ := set_rest (h := h) (x := ((⟨A, (h.sort k).1.n + [s].length, c⟩ : SH), (h.sort k).2 ++ [s])) hk
 refine ⟨fun q hq h4 => by rw [set_other hk h4 (by omega)]; exact hp.1 q hq h4, ?_, fun q hq h4 => by rw [set_other hk h4 (by omega)]; exact hp.2.2.1 q hq h4, ?_⟩
 ·rw [set_sort hk]
  refine ⟨?_, by simp [hp.2.1.2]⟩
  show (h.sort k).2 ++ [s] = _
  rw [hp.2.1.1, List.take_add_one, hs]
  rfl
 ·unfold RestEq
  rw [e1, e2, e3, e4]
  exact hp.2.2.2
theorem PhB.all (hp : PhB m h k j) (hk : k < 4) (hj : (m.sort k).2.length = j) : PhA m h (k + 1) := by
 refine ⟨fun q hq h4 => ?_, fun q hq h4 => hp.2.2.1 q (by omega) h4, hp.2.2.2⟩
 rcases Nat.lt_or_ge q k with h1 | h1
 ·exact hp.1 q h1 h4
 ·obtain rfl : q = k := by omega
  rw [hp.2.1.1, List.take_of_length_le (by omega)]
end
theorem nil_names {X : World} (B : Nat) : RG 9 1 B X [(strs [], ⟨none, 0, 0⟩), (strs [], ⟨none, 0, 0⟩), (strs [], ⟨none, 0, 0⟩), (strs [], ⟨none, 0, 0⟩)] := by
 have all : ∀ (i : Nat) (p : List Value × SH), [(strs [], (⟨none, 0, 0⟩ : SH)), (strs [], ⟨none, 0, 0⟩), (strs [], ⟨none, 0, 0⟩), (strs [], ⟨none, 0, 0⟩)][i]? = some p → p = (strs [], ⟨none, 0, 0⟩) := by
  intro i p hp
  have := List.mem_of_getElem? hp
  simpa using this
 exact ⟨fun i p hp => by rw [all i p hp]; exact World.ownsRow_nil _ _ _ _, fun i j p q hp hq hij g hg => by rw [all i p hp] at hg; cases hg⟩
theorem own_step {B R : Nat} {X : World} {h : HistM} {cs : Array Value} (ho : HOwn B X h) (hb : Blk X R 28 cs) (j : Nat) (u : Value) : HOwn B (X.setCell ⟨R, j, none⟩ u) h ∧ Blk (X.setCell ⟨R, j, none⟩ u) R 28 (cs.setIfInBounds j u) :=
 ⟨ho.keepT (box_turn hb j u) (by decide) (by decide) (by decide) (by decide) (by decide) (by decide) (by decide), hb.set_ j u⟩
theorem pl_all {m h : HistM} (hn : NamesEq h m) (hr : RestEq h m) (hl : h.ev.1.n = m.ev.1.n ∧ h.od.1.n = m.od.1.n ∧ h.ma.1.n = m.ma.1.n ∧ h.wa.1.n = m.wa.1.n) : PlL m h := by
 have h0 : h.tr.2 = m.tr.2 := hn 0 (by omega)
 have h1 : h.se.2 = m.se.2 := hn 1 (by omega)
 have h2 : h.ob.2 = m.ob.2 := hn 2 (by omega)
 have h3 : h.pr.2 = m.pr.2 := hn 3 (by omega)
 obtain ⟨r1, r2, r3, r4⟩ := hr
 refine ⟨?_, hl⟩
 unfold HistM.pl
 rw [h0, h1, h2, h3, r1, r2, r3, r4]
theorem nil_sort {s : Nat} (hs : s < 4) {a : SH × List (EvP × SH)} {b : SH × List (OrdP × SH)} {c : SH × List (MatP × SH)} {d : SH × List WantP} : HistM.sort ⟨nilS, nilS, nilS, nilS, a, b, c, d⟩ s = nilS := by
 have : s = 0 ∨ s = 1 ∨ s = 2 ∨ s = 3 := by omega
 rcases this with rfl | rfl | rfl | rfl <;> rfl
structure C0 (Bh : Nat) (w : World) (m : HistM) (X : World) : Prop where
 bb : Below w.heap.size w X
 kh : Blk X Bh 28 m.cs
 kr : Blk X (Bh + 1) 28 zeroH
theorem C0.on {Bh : Nat} {w X Y : World} {m : HistM} (c : C0 Bh w m X) (hb : Below X.heap.size X Y) : C0 Bh w m Y := ⟨c.bb.trans (hb.mono c.bb.size), c.kh.below hb c.kh.lt, c.kr.below hb c.kr.lt⟩
theorem C0.apart {Bh : Nat} {w X : World} {m : HistM} (c : C0 Bh w m X) : X.heap.size ≠ Bh ∧ X.heap.size ≠ Bh + 1 ∧ w.heap.size ≤ X.heap.size := ⟨Ne.symm (Nat.ne_of_lt c.kh.lt), Ne.symm (Nat.ne_of_lt c.kr.lt), c.bb.size⟩
def Ns (h m : HistM) : Prop := h.ev.1.n = m.ev.1.n ∧ h.od.1.n = m.od.1.n ∧ h.ma.1.n = m.ma.1.n ∧ h.wa.1.n = m.wa.1.n
theorem C0.store {Bh g c4 c5 c6 c7 : Nat} {A4 A5 A6 A7 : Option Addr} {w X : World} {m : HistM} (c : C0 Bh w m X) (hg : Blk X g 28 zeroH) (hn : g ≠ Bh ∧ g ≠ Bh + 1 ∧ w.heap.size ≤ g) (hB : w.heap.size ≤ Bh)
 (o4 : X.ownsRow w.heap.size 39 9 (.slice A4 m.ev.1.n c4) m.ev.1.n (m.ev.2.flatMap evCs)) (o5 : X.ownsRow w.heap.size 61 2 (.slice A5 m.od.1.n c5) m.od.1.n (m.od.2.flatMap odCs))
 (o6 : X.ownsRow w.heap.size 64 4 (.slice A6 m.ma.1.n c6) m.ma.1.n (m.ma.2.flatMap maCs)) (o7 : X.ownsRow w.heap.size 67 2 (.slice A7 m.wa.1.n c7) m.wa.1.n (m.wa.2.flatMap waCs)) :
 ∃ h : HistM, h = ⟨nilS, nilS, nilS, nilS, (⟨A4, m.ev.1.n, c4⟩, m.ev.2), (⟨A5, m.od.1.n, c5⟩, m.od.2), (⟨A6, m.ma.1.n, c6⟩, m.ma.2), (⟨A7, m.wa.1.n, c7⟩, m.wa.2)⟩ ∧
  CpI Bh g w ((((((((X.setCell ⟨g, 0, none⟩ (.slice none 0 0)).setCell ⟨g, 1, none⟩ (.slice none 0 0)).setCell ⟨g, 2, none⟩ (.slice none 0 0)).setCell ⟨g, 3, none⟩ (.slice none 0 0)).setCell ⟨g, 4, none⟩ (.slice A4 m.ev.1.n c4)).setCell ⟨g, 5, none⟩ (.slice A5 m.od.1.n c5)).setCell ⟨g, 6, none⟩ (.slice A6 m.ma.1.n c6)).setCell ⟨g, 7, none⟩ (.slice A7 m.wa.1.n c7)) h [] [] ∧
  Blk ((((((((X.setCell ⟨g, 0, none⟩ (.slice none 0 0)).setCell ⟨g, 1, none⟩ (.slice none 0 0)).setCell ⟨g, 2, none⟩ (.slice none 0 0)).setCell ⟨g, 3, none⟩ (.slice none 0 0)).setCell ⟨g, 4, none⟩ (.slice A4 m.ev.1.n c4)).setCell ⟨g, 5, none⟩ (.slice A5 m.od.1.n c5)).setCell ⟨g, 6, none⟩ (.slice A6 m.ma.1.n c6)).setCell ⟨g, 7, none⟩ (.slice A7 m.wa.1.n c7)) Bh 28 m.cs ∧ PhA m h 0 ∧ Ns h m := by
 obtain ⟨h1, h2, h3⟩ := fill8 hg (.slice none 0 0) (.slice none 0 0) (.slice none 0 0) (.slice none 0 0) (.slice A4 m.ev.1.n c4) (.slice A5 m.od.1.n c5) (.slice A6 m.ma.1.n c6) (.slice A7 m.wa.1.n c7)
 have kt : KeepT 28 X _ := h2 (fun j => ∀ cs, ¬ Blk X j 28 cs) (fun h => h _ hg)
 have kg := h2 (fun j => j ≠ g) (fun h => h rfl)
 exact ⟨_, rfl, ⟨h3 w c.bb hn.2.2, h1, Keep.blk kg c.kr (Ne.symm hn.2.1), ⟨hn.1, hn.2.1, hn.2.2, hB⟩, nil_names _, kt.own o4 (by decide), kt.own o5 (by decide), kt.own o6 (by decide), kt.own o7 (by decide), RG.nil, RG.nil⟩,
  Keep.blk kg c.kh (Ne.symm hn.1), ⟨fun s hs => absurd hs (Nat.not_lt_zero _), fun s _ h4 => nil_sort h4, rfl, rfl, rfl, rfl⟩, ⟨rfl, rfl, rfl, rfl⟩⟩
theorem Ns.text {h m : HistM} {k : Nat} (hn : Ns h m) (hk : k < 4) (x : SH × List ByteArray) : Ns (setSort h k x) m := by
 obtain ⟨e1, e2, e3, e4⟩ := set_rest (h := h) (x := x) hk
 unfold Ns
 rw [e1, e2, e3, e4]
 exact hn
set_option maxRecDepth 100000 in
set_option maxHeartbeats 16000000 in
theorem copied_any (m : HistM) (hS : Small m.pl) (w : World) (hm : HRd w w.heap.size m) : Calls Tryz.prog 46 #[.agg #[.slice m.tr.1.A m.tr.1.n m.tr.1.c, .slice m.se.1.A m.se.1.n m.se.1.c, .slice m.ob.1.A m.ob.1.n m.ob.1.c, .slice m.pr.1.A m.pr.1.n m.pr.1.c, .slice m.ev.1.A m.ev.1.n m.ev.1.c, .slice m.od.1.A m.od.1.n m.od.1.c, .slice m.ma.1.A m.ma.1.n m.ma.1.c, .slice m.wa.1.A m.wa.1.n m.wa.1.c]] w fun e w' => ∃ n : HistM, e = .returned (.agg #[.slice n.tr.1.A n.tr.1.n n.tr.1.c, .slice n.se.1.A n.se.1.n n.se.1.c, .slice n.ob.1.A n.ob.1.n n.ob.1.c, .slice n.pr.1.A n.pr.1.n n.pr.1.c, .slice n.ev.1.A n.ev.1.n n.ev.1.c, .slice n.od.1.A n.od.1.n n.od.1.c, .slice n.ma.1.A n.ma.1.n n.ma.1.c, .slice n.wa.1.A n.wa.1.n n.wa.1.c]) ∧ HOwn w.heap.size w' n ∧ n.pl = m.pl ∧ Below w.heap.size w w' := by
 obtain ⟨i0, hi, hz0, hz1, hz2⟩ := info_parts str_info
 obtain ⟨kh, kr, b0, hs0⟩ := itwo w #[.slice m.tr.1.A m.tr.1.n m.tr.1.c, .slice m.se.1.A m.se.1.n m.se.1.c, .slice m.ob.1.A m.ob.1.n m.ob.1.c, .slice m.pr.1.A m.pr.1.n m.pr.1.c, .slice m.ev.1.A m.ev.1.n m.ev.1.c, .slice m.od.1.A m.od.1.n m.od.1.c, .slice m.ma.1.A m.ma.1.n m.ma.1.c, .slice m.wa.1.A m.wa.1.n m.wa.1.c] #[.slice none 0 0, .slice none 0 0, .slice none 0 0, .slice none 0 0, .slice none 0 0, .slice none 0 0, .slice none 0 0, .slice none 0 0] 28 28
 obtain ⟨W0, hW0⟩ : ∃ W0, W0 = ((w.alloc (.cells #[.slice m.tr.1.A m.tr.1.n m.tr.1.c, .slice m.se.1.A m.se.1.n m.se.1.c, .slice m.ob.1.A m.ob.1.n m.ob.1.c, .slice m.pr.1.A m.pr.1.n m.pr.1.c, .slice m.ev.1.A m.ev.1.n m.ev.1.c, .slice m.od.1.A m.od.1.n m.od.1.c, .slice m.ma.1.A m.ma.1.n m.ma.1.c, .slice m.wa.1.A m.wa.1.n m.wa.1.c] 28)).alloc (.cells #[.slice none 0 0, .slice none 0 0, .slice none 0 0, .slice none 0 0, .slice none 0 0, .slice none 0 0, .slice none 0 0, .slice none 0 0] 28)) := ⟨_, rfl⟩
 rw [← hW0] at kh kr b0
 obtain ⟨Bh, hBh⟩ : ∃ Bh, Bh = w.heap.size := ⟨_, rfl⟩
 have HBH : Hid (w.heap.size ≤ Bh) := by show _ ≤ _; omega
 have C0 : Hid (C0 Bh w m W0) := by rw [hBh]; exact ⟨b0, kh, kr⟩
 have HLW := Lib.hid (hm.fit.low hS)
 clear kh kr b0 hs0
 go_enter Tryz.func46, Tryz.ntmps46
 go_upto_region 1 with fail
 rw [← hBh, ← hW0]
 clear hBh hW0
 go_cut [3] (fun s3 wx => ∃ (B3 : Nat) (h : HistM), s3 = .pointer (some ⟨B3, 0, none⟩) ∧ Hid (CpI Bh B3 w wx h [] []) ∧ Hid (Blk wx Bh 28 m.cs) ∧ Hid (PhA m h 0) ∧ Hid (Ns h m))
 case first =>
  refine wp_region_noPanic ?_
  refine wp_region_K (S := fun W => Blk W Bh 28 m.cs) 14 (by kernel_rfl) C0.out.kh.drew (fun hHeld => ?_)
  have C0 := Lib.hid (C0.out.on (Below.refl _ _).drew)
  generalize W0.drew = wd at *
  refine ka 0 (some 12) (.pointer (some ⟨Bh, 4, none⟩)) rfl rfl (fun w' => by go_simp) ?_
  try simp only [Act.put, kA, kB, kC]
  refine kv 1 (some 13) (.slice m.ev.1.A m.ev.1.n m.ev.1.c) rfl rfl (fun w' hSw => by have c9 : w'.cell? ⟨Bh, 4, none⟩ = some (.slice m.ev.1.A m.ev.1.n m.ev.1.c) := Blk.cell (w := w') hSw 4; go_simp) ?_
  try simp only [Act.put, kA, kB, kC]
  refine ka 3 (some 15) (.pointer (some ⟨Bh, 5, none⟩)) rfl rfl (fun w' => by go_simp) ?_
  try simp only [Act.put, kA, kB, kC]
  refine kv 4 (some 16) (.slice m.od.1.A m.od.1.n m.od.1.c) rfl rfl (fun w' hSw => by have c9 : w'.cell? ⟨Bh, 5, none⟩ = some (.slice m.od.1.A m.od.1.n m.od.1.c) := Blk.cell (w := w') hSw 5; go_simp) ?_
  try simp only [Act.put, kA, kB, kC]
  refine ka 6 (some 18) (.pointer (some ⟨Bh, 6, none⟩)) rfl rfl (fun w' => by go_simp) ?_
  try simp only [Act.put, kA, kB, kC]
  refine kv 7 (some 19) (.slice m.ma.1.A m.ma.1.n m.ma.1.c) rfl rfl (fun w' hSw => by have c9 : w'.cell? ⟨Bh, 6, none⟩ = some (.slice m.ma.1.A m.ma.1.n m.ma.1.c) := Blk.cell (w := w') hSw 6; go_simp) ?_
  try simp only [Act.put, kA, kB, kC]
  refine ka 9 (some 21) (.pointer (some ⟨Bh, 7, none⟩)) rfl rfl (fun w' => by go_simp) ?_
  try simp only [Act.put, kA, kB, kC]
  refine kv 10 (some 22) (.slice m.wa.1.A m.wa.1.n m.wa.1.c) rfl rfl (fun w' hSw => by have c9 : w'.cell? ⟨Bh, 7, none⟩ = some (.slice m.wa.1.A m.wa.1.n m.wa.1.c) := Blk.cell (w := w') hSw 7; go_simp) ?_
  try simp only [Act.put, kA, kB, kC]
  refine kr [2, 13] ?_
  refine kc rfl (fun K hK => ?_) ?_
  ·go_simp
   refine (clone_ev m.ev.1.A m.ev.1.n m.ev.1.c m.ev.2 (by have := HLW.out.ev; omega) wd ((hm.ev.below C0.out.bb).more C0.out.bb.size)).mono ?_
   rintro e u4 ⟨A4, c4, rfl, ho, hb⟩
   have O4 := Lib.hid (own_mono ho C0.out.bb.size)
   have C0 := Lib.hid (C0.out.on hb)
   clear ho hb hHeld
   go_simp
   refine hK.out _ _ C0.out.kh (fun hHeld => ?_)
   clear hK K
   try simp only [Act.put, kA, kB, kC]
   refine kr [5, 13] ?_
   refine kc rfl (fun K hK => ?_) ?_
   ·go_simp
    refine (clone_od m.od.1.A m.od.1.n m.od.1.c m.od.2 (by have := HLW.out.od; omega) u4 ((hm.od.below C0.out.bb).more C0.out.bb.size)).mono ?_
    rintro e u5 ⟨A5, c5, rfl, ho, hb⟩
    have O5 := Lib.hid (own_mono ho C0.out.bb.size)
    have C0 := Lib.hid (C0.out.on hb)
    have O4 := Lib.hid (own_on O4.out hb)
    clear ho hb hHeld
    go_simp
    refine hK.out _ _ C0.out.kh (fun hHeld => ?_)
    clear hK K
    try simp only [Act.put, kA, kB, kC]
    refine kr [8, 13] ?_
    refine kc rfl (fun K hK => ?_) ?_
    ·go_simp
     refine (clone_ma m.ma.1.A m.ma.1.n m.ma.1.c m.ma.2 (by have := HLW.out.ma; omega) u5 ((hm.ma.below C0.out.bb).more C0.out.bb.size)).mono ?_
     rintro e u6 ⟨A6, c6, rfl, ho, hb⟩
     have O6 := Lib.hid (own_mono ho C0.out.bb.size)
     have C0 := Lib.hid (C0.out.on hb)
     have O4 := Lib.hid (own_on O4.out hb)
     have O5 := Lib.hid (own_on O5.out hb)
     clear ho hb hHeld
     go_simp
     refine hK.out _ _ C0.out.kh (fun hHeld => ?_)
     clear hK K
     try simp only [Act.put, kA, kB, kC]
     refine kr [11, 13] ?_
     refine kc rfl (fun K hK => ?_) ?_
     ·go_simp
      refine (clone_wa m.wa.1.A m.wa.1.n m.wa.1.c m.wa.2 (by have := HLW.out.wa; omega) u6 ((hm.wa.below C0.out.bb).more C0.out.bb.size)).mono ?_
      rintro e u7 ⟨A7, c7, rfl, ho, hb⟩
      have O7 := Lib.hid (own_mono ho C0.out.bb.size)
      have C0 := Lib.hid (C0.out.on hb)
      have O4 := Lib.hid (own_on O4.out hb)
      have O5 := Lib.hid (own_on O5.out hb)
      have O6 := Lib.hid (own_on O6.out hb)
      clear ho hb hHeld
      go_simp
      refine hK.out _ _ C0.out.kh (fun hHeld => ?_)
      clear hK K
      try simp only [Act.put, kA, kB, kC]
      refine ka 12 (some 24) (.agg #[.slice none 0 0, .slice none 0 0, .slice none 0 0, .slice none 0 0, .slice A4 m.ev.1.n c4, .slice A5 m.od.1.n c5, .slice A6 m.ma.1.n c6, .slice A7 m.wa.1.n c7]) rfl rfl (fun w' => by go_simp) ?_
      try simp only [Act.put, kA, kB, kC]
      refine kr [13] ?_
      refine kc rfl (fun K hK => ?_) kn
      go_simp
      refine hK.out _ _ (C0.out.kh.alloc _) (fun hHeld => ?_)
      clear hK K
      try simp only [Act.put, kA, kB, kC]
      have HGN := Lib.hid C0.out.apart
      have hb := (Below.refl _ u7).alloc (Nat.le_refl _) (.cells #[.slice none 0 0, .slice none 0 0, .slice none 0 0, .slice none 0 0, .slice none 0 0, .slice none 0 0, .slice none 0 0, .slice none 0 0] 28)
      have C0 := Lib.hid (C0.out.on hb)
      have O4 := Lib.hid (own_on O4.out hb)
      have O5 := Lib.hid (own_on O5.out hb)
      have O6 := Lib.hid (own_on O6.out hb)
      have O7 := Lib.hid (own_on O7.out hb)
      have KG : Hid (Blk (u7.alloc (.cells #[.slice none 0 0, .slice none 0 0, .slice none 0 0, .slice none 0 0, .slice none 0 0, .slice none 0 0, .slice none 0 0, .slice none 0 0] 28)) u7.heap.size 28 zeroH) := Blk.new _ _ _
      clear hHeld hb
      generalize u7.alloc (.cells #[.slice none 0 0, .slice none 0 0, .slice none 0 0, .slice none 0 0, .slice none 0 0, .slice none 0 0, .slice none 0 0, .slice none 0 0] 28) = ua at *
      generalize u7.heap.size = g at *
      have hHeld := C0.out.kh
      refine kr [14] ?_
      refine kz (o := { dst := none, op := Op.store 28 (Operand.tmp 3) (Operand.tmp 24), type := 0, pos := "rows.go:125", after := #[{ on := 13, ground := Ground.data }, { on := 12, ground := Ground.data }, { on := 11, ground := Ground.chain }, { on := 0, ground := Ground.phase }, { on := 1, ground := Ground.phase }, { on := 2, ground := Ground.phase }, { on := 3, ground := Ground.phase }, { on := 4, ground := Ground.phase }, { on := 5, ground := Ground.phase }, { on := 6, ground := Ground.phase }, { on := 7, ground := Ground.phase }, { on := 8, ground := Ground.phase }, { on := 9, ground := Ground.phase }, { on := 10, ground := Ground.phase }, { on := 11, ground := Ground.phase }, { on := 12, ground := Ground.phase }, { on := 13, ground := Ground.phase }], guard := none }) rfl (fun K hK => ?_)
      obtain ⟨⟨y0, y1, y2, y3, y4, y5, y6, y7⟩, f0, f1, f2, f3, f4, f5, f6, f7⟩ := cf8 KG.out
      go_simp
      clear hHeld y0 f0 y1 f1 y2 f2 y3 f3 y4 f4 y5 f5 y6 f6 y7 f7
      refine hK.out _ _ ?_
      clear hK K
      try simp only [Act.put]
      refine kd (by kernel_rfl) ?_ _
      refine NoPanic.normal ?_
      obtain ⟨h, hh, r⟩ := C0.out.store KG.out HGN.out HBH.out O4.out O5.out O6.out O7.out
      go_wp2_with fail
      go_meet
      exact ⟨g, h, rfl, r.1, r.2.1, r.2.2.1, r.2.2.2⟩
     refine kc rfl (fun K hK => ?_) ?_
     ·go_simp
      refine hK.out _ _ (C0.out.kh.alloc _) (fun hHeld => ?_)
      clear hK K
      try simp only [Act.put, kA, kB, kC]
      have HGN := Lib.hid C0.out.apart
      have hb := (Below.refl _ u6).alloc (Nat.le_refl _) (.cells #[.slice none 0 0, .slice none 0 0, .slice none 0 0, .slice none 0 0, .slice none 0 0, .slice none 0 0, .slice none 0 0, .slice none 0 0] 28)
      have C0 := Lib.hid (C0.out.on hb)
      have O4 := Lib.hid (own_on O4.out hb)
      have O5 := Lib.hid (own_on O5.out hb)
      have O6 := Lib.hid (own_on O6.out hb)
      have KG : Hid (Blk (u6.alloc (.cells #[.slice none 0 0, .slice none 0 0, .slice none 0 0, .slice none 0 0, .slice none 0 0, .slice none 0 0, .slice none 0 0, .slice none 0 0] 28)) u6.heap.size 28 zeroH) := Blk.new _ _ _
      clear hHeld hb
      generalize u6.alloc (.cells #[.slice none 0 0, .slice none 0 0, .slice none 0 0, .slice none 0 0, .slice none 0 0, .slice none 0 0, .slice none 0 0, .slice none 0 0] 28) = ua at *
      generalize u6.heap.size = g at *
      have hHeld := C0.out.kh
      refine kr [11] ?_
      refine kc rfl (fun K hK => ?_) kn
      go_simp
      refine (clone_wa m.wa.1.A m.wa.1.n m.wa.1.c m.wa.2 (by have := HLW.out.wa; omega) ua ((hm.wa.below C0.out.bb).more C0.out.bb.size)).mono ?_
      rintro e u7 ⟨A7, c7, rfl, ho, hb⟩
      have O7 := Lib.hid (own_mono ho C0.out.bb.size)
      have C0 := Lib.hid (C0.out.on hb)
      have O4 := Lib.hid (own_on O4.out hb)
      have O5 := Lib.hid (own_on O5.out hb)
      have O6 := Lib.hid (own_on O6.out hb)
      have KG := Lib.hid (KG.out.below hb KG.out.lt)
      clear ho hb hHeld
      go_simp
      refine hK.out _ _ C0.out.kh (fun hHeld => ?_)
      clear hK K
      try simp only [Act.put, kA, kB, kC]
      refine ka 12 (some 24) (.agg #[.slice none 0 0, .slice none 0 0, .slice none 0 0, .slice none 0 0, .slice A4 m.ev.1.n c4, .slice A5 m.od.1.n c5, .slice A6 m.ma.1.n c6, .slice A7 m.wa.1.n c7]) rfl rfl (fun w' => by go_simp) ?_
      try simp only [Act.put, kA, kB, kC]
      refine kr [14] ?_
      refine kz (o := { dst := none, op := Op.store 28 (Operand.tmp 3) (Operand.tmp 24), type := 0, pos := "rows.go:125", after := #[{ on := 13, ground := Ground.data }, { on := 12, ground := Ground.data }, { on := 11, ground := Ground.chain }, { on := 0, ground := Ground.phase }, { on := 1, ground := Ground.phase }, { on := 2, ground := Ground.phase }, { on := 3, ground := Ground.phase }, { on := 4, ground := Ground.phase }, { on := 5, ground := Ground.phase }, { on := 6, ground := Ground.phase }, { on := 7, ground := Ground.phase }, { on := 8, ground := Ground.phase }, { on := 9, ground := Ground.phase }, { on := 10, ground := Ground.phase }, { on := 11, ground := Ground.phase }, { on := 12, ground := Ground.phase }, { on := 13, ground := Ground.phase }], guard := none }) rfl (fun K hK => ?_)
      obtain ⟨⟨y0, y1, y2, y3, y4, y5, y6, y7⟩, f0, f1, f2, f3, f4, f5, f6, f7⟩ := cf8 KG.out
      go_simp
      clear hHeld y0 f0 y1 f1 y2 f2 y3 f3 y4 f4 y5 f5 y6 f6 y7 f7
      refine hK.out _ _ ?_
      clear hK K
      try simp only [Act.put]
      refine kd (by kernel_rfl) ?_ _
      refine NoPanic.normal ?_
      obtain ⟨h, hh, r⟩ := C0.out.store KG.out HGN.out HBH.out O4.out O5.out O6.out O7.out
      go_wp2_with fail
      go_meet
      exact ⟨g, h, rfl, r.1, r.2.1, r.2.2.1, r.2.2.2⟩
     exact kn
    refine kc rfl (fun K hK => ?_) ?_
    ·go_simp
     refine hK.out _ _ (C0.out.kh.alloc _) (fun hHeld => ?_)
     clear hK K
     try simp only [Act.put, kA, kB, kC]
     have HGN := Lib.hid C0.out.apart
     have hb := (Below.refl _ u5).alloc (Nat.le_refl _) (.cells #[.slice none 0 0, .slice none 0 0, .slice none 0 0, .slice none 0 0, .slice none 0 0, .slice none 0 0, .slice none 0 0, .slice none 0 0] 28)
     have C0 := Lib.hid (C0.out.on hb)
     have O4 := Lib.hid (own_on O4.out hb)
     have O5 := Lib.hid (own_on O5.out hb)
     have KG : Hid (Blk (u5.alloc (.cells #[.slice none 0 0, .slice none 0 0, .slice none 0 0, .slice none 0 0, .slice none 0 0, .slice none 0 0, .slice none 0 0, .slice none 0 0] 28)) u5.heap.size 28 zeroH) := Blk.new _ _ _
     clear hHeld hb
     generalize u5.alloc (.cells #[.slice none 0 0, .slice none 0 0, .slice none 0 0, .slice none 0 0, .slice none 0 0, .slice none 0 0, .slice none 0 0, .slice none 0 0] 28) = ua at *
     generalize u5.heap.size = g at *
     have hHeld := C0.out.kh
     refine kr [8] ?_
     refine kc rfl (fun K hK => ?_) kn
     go_simp
     refine (clone_ma m.ma.1.A m.ma.1.n m.ma.1.c m.ma.2 (by have := HLW.out.ma; omega) ua ((hm.ma.below C0.out.bb).more C0.out.bb.size)).mono ?_
     rintro e u6 ⟨A6, c6, rfl, ho, hb⟩
     have O6 := Lib.hid (own_mono ho C0.out.bb.size)
     have C0 := Lib.hid (C0.out.on hb)
     have O4 := Lib.hid (own_on O4.out hb)
     have O5 := Lib.hid (own_on O5.out hb)
     have KG := Lib.hid (KG.out.below hb KG.out.lt)
     clear ho hb hHeld
     go_simp
     refine hK.out _ _ C0.out.kh (fun hHeld => ?_)
     clear hK K
     try simp only [Act.put, kA, kB, kC]
     refine kr [11] ?_
     refine kc rfl (fun K hK => ?_) kn
     go_simp
     refine (clone_wa m.wa.1.A m.wa.1.n m.wa.1.c m.wa.2 (by have := HLW.out.wa; omega) u6 ((hm.wa.below C0.out.bb).more C0.out.bb.size)).mono ?_
     rintro e u7 ⟨A7, c7, rfl, ho, hb⟩
     have O7 := Lib.hid (own_mono ho C0.out.bb.size)
     have C0 := Lib.hid (C0.out.on hb)
     have O4 := Lib.hid (own_on O4.out hb)
     have O5 := Lib.hid (own_on O5.out hb)
     have O6 := Lib.hid (own_on O6.out hb)
     have KG := Lib.hid (KG.out.below hb KG.out.lt)
     clear ho hb hHeld
     go_simp
     refine hK.out _ _ C0.out.kh (fun hHeld => ?_)
     clear hK K
     try simp only [Act.put, kA, kB, kC]
     refine ka 12 (some 24) (.agg #[.slice none 0 0, .slice none 0 0, .slice none 0 0, .slice none 0 0, .slice A4 m.ev.1.n c4, .slice A5 m.od.1.n c5, .slice A6 m.ma.1.n c6, .slice A7 m.wa.1.n c7]) rfl rfl (fun w' => by go_simp) ?_
     try simp only [Act.put, kA, kB, kC]
     refine kr [14] ?_
     refine kz (o := { dst := none, op := Op.store 28 (Operand.tmp 3) (Operand.tmp 24), type := 0, pos := "rows.go:125", after := #[{ on := 13, ground := Ground.data }, { on := 12, ground := Ground.data }, { on := 11, ground := Ground.chain }, { on := 0, ground := Ground.phase }, { on := 1, ground := Ground.phase }, { on := 2, ground := Ground.phase }, { on := 3, ground := Ground.phase }, { on := 4, ground := Ground.phase }, { on := 5, ground := Ground.phase }, { on := 6, ground := Ground.phase }, { on := 7, ground := Ground.phase }, { on := 8, ground := Ground.phase }, { on := 9, ground := Ground.phase }, { on := 10, ground := Ground.phase }, { on := 11, ground := Ground.phase }, { on := 12, ground := Ground.phase }, { on := 13, ground := Ground.phase }], guard := none }) rfl (fun K hK => ?_)
     obtain ⟨⟨y0, y1, y2, y3, y4, y5, y6, y7⟩, f0, f1, f2, f3, f4, f5, f6, f7⟩ := cf8 KG.out
     go_simp
     clear hHeld y0 f0 y1 f1 y2 f2 y3 f3 y4 f4 y5 f5 y6 f6 y7 f7
     refine hK.out _ _ ?_
     clear hK K
     try simp only [Act.put]
     refine kd (by kernel_rfl) ?_ _
     refine NoPanic.normal ?_
     obtain ⟨h, hh, r⟩ := C0.out.store KG.out HGN.out HBH.out O4.out O5.out O6.out O7.out
     go_wp2_with fail
     go_meet
     exact ⟨g, h, rfl, r.1, r.2.1, r.2.2.1, r.2.2.2⟩
    exact kn
   refine kc rfl (fun K hK => ?_) ?_
   ·go_simp
    refine hK.out _ _ (C0.out.kh.alloc _) (fun hHeld => ?_)
    clear hK K
    try simp only [Act.put, kA, kB, kC]
    have HGN := Lib.hid C0.out.apart
    have hb := (Below.refl _ u4).alloc (Nat.le_refl _) (.cells #[.slice none 0 0, .slice none 0 0, .slice none 0 0, .slice none 0 0, .slice none 0 0, .slice none 0 0, .slice none 0 0, .slice none 0 0] 28)
    have C0 := Lib.hid (C0.out.on hb)
    have O4 := Lib.hid (own_on O4.out hb)
    have KG : Hid (Blk (u4.alloc (.cells #[.slice none 0 0, .slice none 0 0, .slice none 0 0, .slice none 0 0, .slice none 0 0, .slice none 0 0, .slice none 0 0, .slice none 0 0] 28)) u4.heap.size 28 zeroH) := Blk.new _ _ _
    clear hHeld hb
    generalize u4.alloc (.cells #[.slice none 0 0, .slice none 0 0, .slice none 0 0, .slice none 0 0, .slice none 0 0, .slice none 0 0, .slice none 0 0, .slice none 0 0] 28) = ua at *
    generalize u4.heap.size = g at *
    have hHeld := C0.out.kh
    refine kr [5] ?_
    refine kc rfl (fun K hK => ?_) kn
    go_simp
    refine (clone_od m.od.1.A m.od.1.n m.od.1.c m.od.2 (by have := HLW.out.od; omega) ua ((hm.od.below C0.out.bb).more C0.out.bb.size)).mono ?_
    rintro e u5 ⟨A5, c5, rfl, ho, hb⟩
    have O5 := Lib.hid (own_mono ho C0.out.bb.size)
    have C0 := Lib.hid (C0.out.on hb)
    have O4 := Lib.hid (own_on O4.out hb)
    have KG := Lib.hid (KG.out.below hb KG.out.lt)
    clear ho hb hHeld
    go_simp
    refine hK.out _ _ C0.out.kh (fun hHeld => ?_)
    clear hK K
    try simp only [Act.put, kA, kB, kC]
    refine kr [8] ?_
    refine kc rfl (fun K hK => ?_) kn
    go_simp
    refine (clone_ma m.ma.1.A m.ma.1.n m.ma.1.c m.ma.2 (by have := HLW.out.ma; omega) u5 ((hm.ma.below C0.out.bb).more C0.out.bb.size)).mono ?_
    rintro e u6 ⟨A6, c6, rfl, ho, hb⟩
    have O6 := Lib.hid (own_mono ho C0.out.bb.size)
    have C0 := Lib.hid (C0.out.on hb)
    have O4 := Lib.hid (own_on O4.out hb)
    have O5 := Lib.hid (own_on O5.out hb)
    have KG := Lib.hid (KG.out.below hb KG.out.lt)
    clear ho hb hHeld
    go_simp
    refine hK.out _ _ C0.out.kh (fun hHeld => ?_)
    clear hK K
    try simp only [Act.put, kA, kB, kC]
    refine kr [11] ?_
    refine kc rfl (fun K hK => ?_) kn
    go_simp
    refine (clone_wa m.wa.1.A m.wa.1.n m.wa.1.c m.wa.2 (by have := HLW.out.wa; omega) u6 ((hm.wa.below C0.out.bb).more C0.out.bb.size)).mono ?_
    rintro e u7 ⟨A7, c7, rfl, ho, hb⟩
    have O7 := Lib.hid (own_mono ho C0.out.bb.size)
    have C0 := Lib.hid (C0.out.on hb)
    have O4 := Lib.hid (own_on O4.out hb)
    have O5 := Lib.hid (own_on O5.out hb)
    have O6 := Lib.hid (own_on O6.out hb)
    have KG := Lib.hid (KG.out.below hb KG.out.lt)
    clear ho hb hHeld
    go_simp
    refine hK.out _ _ C0.out.kh (fun hHeld => ?_)
    clear hK K
    try simp only [Act.put, kA, kB, kC]
    refine ka 12 (some 24) (.agg #[.slice none 0 0, .slice none 0 0, .slice none 0 0, .slice none 0 0, .slice A4 m.ev.1.n c4, .slice A5 m.od.1.n c5, .slice A6 m.ma.1.n c6, .slice A7 m.wa.1.n c7]) rfl rfl (fun w' => by go_simp) ?_
    try simp only [Act.put, kA, kB, kC]
    refine kr [14] ?_
    refine kz (o := { dst := none, op := Op.store 28 (Operand.tmp 3) (Operand.tmp 24), type := 0, pos := "rows.go:125", after := #[{ on := 13, ground := Ground.data }, { on := 12, ground := Ground.data }, { on := 11, ground := Ground.chain }, { on := 0, ground := Ground.phase }, { on := 1, ground := Ground.phase }, { on := 2, ground := Ground.phase }, { on := 3, ground := Ground.phase }, { on := 4, ground := Ground.phase }, { on := 5, ground := Ground.phase }, { on := 6, ground := Ground.phase }, { on := 7, ground := Ground.phase }, { on := 8, ground := Ground.phase }, { on := 9, ground := Ground.phase }, { on := 10, ground := Ground.phase }, { on := 11, ground := Ground.phase }, { on := 12, ground := Ground.phase }, { on := 13, ground := Ground.phase }], guard := none }) rfl (fun K hK => ?_)
    obtain ⟨⟨y0, y1, y2, y3, y4, y5, y6, y7⟩, f0, f1, f2, f3, f4, f5, f6, f7⟩ := cf8 KG.out
    go_simp
    clear hHeld y0 f0 y1 f1 y2 f2 y3 f3 y4 f4 y5 f5 y6 f6 y7 f7
    refine hK.out _ _ ?_
    clear hK K
    try simp only [Act.put]
    refine kd (by kernel_rfl) ?_ _
    refine NoPanic.normal ?_
    obtain ⟨h, hh, r⟩ := C0.out.store KG.out HGN.out HBH.out O4.out O5.out O6.out O7.out
    go_wp2_with fail
    go_meet
    exact ⟨g, h, rfl, r.1, r.2.1, r.2.2.1, r.2.2.2⟩
   exact kn
  refine kc rfl (fun K hK => ?_) ?_
  ·go_simp
   refine hK.out _ _ (C0.out.kh.alloc _) (fun hHeld => ?_)
   clear hK K
   try simp only [Act.put, kA, kB, kC]
   have HGN := Lib.hid C0.out.apart
   have hb := (Below.refl _ wd).alloc (Nat.le_refl _) (.cells #[.slice none 0 0, .slice none 0 0, .slice none 0 0, .slice none 0 0, .slice none 0 0, .slice none 0 0, .slice none 0 0, .slice none 0 0] 28)
   have C0 := Lib.hid (C0.out.on hb)
   have KG : Hid (Blk (wd.alloc (.cells #[.slice none 0 0, .slice none 0 0, .slice none 0 0, .slice none 0 0, .slice none 0 0, .slice none 0 0, .slice none 0 0, .slice none 0 0] 28)) wd.heap.size 28 zeroH) := Blk.new _ _ _
   clear hHeld hb
   generalize wd.alloc (.cells #[.slice none 0 0, .slice none 0 0, .slice none 0 0, .slice none 0 0, .slice none 0 0, .slice none 0 0, .slice none 0 0, .slice none 0 0] 28) = ua at *
   generalize wd.heap.size = g at *
   have hHeld := C0.out.kh
   refine kr [2] ?_
   refine kc rfl (fun K hK => ?_) kn
   go_simp
   refine (clone_ev m.ev.1.A m.ev.1.n m.ev.1.c m.ev.2 (by have := HLW.out.ev; omega) ua ((hm.ev.below C0.out.bb).more C0.out.bb.size)).mono ?_
   rintro e u4 ⟨A4, c4, rfl, ho, hb⟩
   have O4 := Lib.hid (own_mono ho C0.out.bb.size)
   have C0 := Lib.hid (C0.out.on hb)
   have KG := Lib.hid (KG.out.below hb KG.out.lt)
   clear ho hb hHeld
   go_simp
   refine hK.out _ _ C0.out.kh (fun hHeld => ?_)
   clear hK K
   try simp only [Act.put, kA, kB, kC]
   refine kr [5] ?_
   refine kc rfl (fun K hK => ?_) kn
   go_simp
   refine (clone_od m.od.1.A m.od.1.n m.od.1.c m.od.2 (by have := HLW.out.od; omega) u4 ((hm.od.below C0.out.bb).more C0.out.bb.size)).mono ?_
   rintro e u5 ⟨A5, c5, rfl, ho, hb⟩
   have O5 := Lib.hid (own_mono ho C0.out.bb.size)
   have C0 := Lib.hid (C0.out.on hb)
   have O4 := Lib.hid (own_on O4.out hb)
   have KG := Lib.hid (KG.out.below hb KG.out.lt)
   clear ho hb hHeld
   go_simp
   refine hK.out _ _ C0.out.kh (fun hHeld => ?_)
   clear hK K
   try simp only [Act.put, kA, kB, kC]
   refine kr [8] ?_
   refine kc rfl (fun K hK => ?_) kn
   go_simp
   refine (clone_ma m.ma.1.A m.ma.1.n m.ma.1.c m.ma.2 (by have := HLW.out.ma; omega) u5 ((hm.ma.below C0.out.bb).more C0.out.bb.size)).mono ?_
   rintro e u6 ⟨A6, c6, rfl, ho, hb⟩
   have O6 := Lib.hid (own_mono ho C0.out.bb.size)
   have C0 := Lib.hid (C0.out.on hb)
   have O4 := Lib.hid (own_on O4.out hb)
   have O5 := Lib.hid (own_on O5.out hb)
   have KG := Lib.hid (KG.out.below hb KG.out.lt)
   clear ho hb hHeld
   go_simp
   refine hK.out _ _ C0.out.kh (fun hHeld => ?_)
   clear hK K
   try simp only [Act.put, kA, kB, kC]
   refine kr [11] ?_
   refine kc rfl (fun K hK => ?_) kn
   go_simp
   refine (clone_wa m.wa.1.A m.wa.1.n m.wa.1.c m.wa.2 (by have := HLW.out.wa; omega) u6 ((hm.wa.below C0.out.bb).more C0.out.bb.size)).mono ?_
   rintro e u7 ⟨A7, c7, rfl, ho, hb⟩
   have O7 := Lib.hid (own_mono ho C0.out.bb.size)
   have C0 := Lib.hid (C0.out.on hb)
   have O4 := Lib.hid (own_on O4.out hb)
   have O5 := Lib.hid (own_on O5.out hb)
   have O6 := Lib.hid (own_on O6.out hb)
   have KG := Lib.hid (KG.out.below hb KG.out.lt)
   clear ho hb hHeld
   go_simp
   refine hK.out _ _ C0.out.kh (fun hHeld => ?_)
   clear hK K
   try simp only [Act.put, kA, kB, kC]
   refine ka 12 (some 24) (.agg #[.slice none 0 0, .slice none 0 0, .slice none 0 0, .slice none 0 0, .slice A4 m.ev.1.n c4, .slice A5 m.od.1.n c5, .slice A6 m.ma.1.n c6, .slice A7 m.wa.1.n c7]) rfl rfl (fun w' => by go_simp) ?_
   try simp only [Act.put, kA, kB, kC]
   refine kr [14] ?_
   refine kz (o := { dst := none, op := Op.store 28 (Operand.tmp 3) (Operand.tmp 24), type := 0, pos := "rows.go:125", after := #[{ on := 13, ground := Ground.data }, { on := 12, ground := Ground.data }, { on := 11, ground := Ground.chain }, { on := 0, ground := Ground.phase }, { on := 1, ground := Ground.phase }, { on := 2, ground := Ground.phase }, { on := 3, ground := Ground.phase }, { on := 4, ground := Ground.phase }, { on := 5, ground := Ground.phase }, { on := 6, ground := Ground.phase }, { on := 7, ground := Ground.phase }, { on := 8, ground := Ground.phase }, { on := 9, ground := Ground.phase }, { on := 10, ground := Ground.phase }, { on := 11, ground := Ground.phase }, { on := 12, ground := Ground.phase }, { on := 13, ground := Ground.phase }], guard := none }) rfl (fun K hK => ?_)
   obtain ⟨⟨y0, y1, y2, y3, y4, y5, y6, y7⟩, f0, f1, f2, f3, f4, f5, f6, f7⟩ := cf8 KG.out
   go_simp
   clear hHeld y0 f0 y1 f1 y2 f2 y3 f3 y4 f4 y5 f5 y6 f6 y7 f7
   refine hK.out _ _ ?_
   clear hK K
   try simp only [Act.put]
   refine kd (by kernel_rfl) ?_ _
   refine NoPanic.normal ?_
   obtain ⟨h, hh, r⟩ := C0.out.store KG.out HGN.out HBH.out O4.out O5.out O6.out O7.out
   go_wp2_with fail
   go_meet
   exact ⟨g, h, rfl, r.1, r.2.1, r.2.2.1, r.2.2.2⟩
  exact kn
 case rest =>
  clear C0
  obtain ⟨B3, h, rfl, HC, KH, HP, HNS⟩ := hcut
  go_wp2_with fail
  refine (names_any B3 wc).mono ?_
  rintro e w1 ⟨rfl, b1⟩
  obtain ⟨k4, b4, hs4⟩ := ibox w1 #[.pointer (some ⟨B3, 0, none⟩), .pointer (some ⟨B3, 1, none⟩), .pointer (some ⟨B3, 2, none⟩), .pointer (some ⟨B3, 3, none⟩)] 75
  have bb := b1.trans (b4.mono b1.size)
  have HC := Lib.hid (HC.out.on bb)
  have HX : Hid (BoxC m Bh B3 w1.heap.size (w1.alloc (.cells #[.pointer (some ⟨B3, 0, none⟩), .pointer (some ⟨B3, 1, none⟩), .pointer (some ⟨B3, 2, none⟩), .pointer (some ⟨B3, 3, none⟩)] 75))) := ⟨KH.out.below bb KH.out.lt, k4⟩
  clear b1 k4 b4 hs4 bb KH
  go_wp2_with fail
  generalize w1.alloc (.cells #[.pointer (some ⟨B3, 0, none⟩), .pointer (some ⟨B3, 1, none⟩), .pointer (some ⟨B3, 2, none⟩), .pointer (some ⟨B3, 3, none⟩)] 75) = W1 at *
  generalize w1.heap.size = B4 at *
  refine (names_any Bh W1).mono ?_
  rintro e w2 ⟨rfl, b2⟩
  have HC := Lib.hid (HC.out.on b2)
  have HX := Lib.hid (HX.out.on b2)
  clear b2
  go_wp2_with fail
  go_loopw [27] (fun v wr => ∃ (k : Nat) (h : HistM), k ≤ 4 ∧ v = .int .i64 k ∧ Hid (CpI Bh B3 w wr h [] []) ∧ Hid (PhA m h k) ∧ Hid (BoxC m Bh B3 B4 wr) ∧ Hid (Ns h m)) (fun v _ => 4 - (intOf v).toNat)
  case atStart => exact ⟨0, h, by omega, rfl, HC, HP, HX, HNS⟩
  case round =>
   clear HC HP HX HNS
   obtain ⟨k, h, hk, rfl, HC, HP, HX, HNS⟩ := hrel
   by_cases hk4 : k < 4
   ·have hkl : (k : Int) < 4 := by omega
    have z1 : wr.cell? ⟨Bh, k, none⟩ = some (.slice (m.sort k).1.A (m.sort k).1.n (m.sort k).1.c) := (HX.out.1.cell k).trans (cs_sort m k hk4)
    have hix := idx4 hk4 Bh wr
    have hr := Lib.hid (hm.sort k)
    have hl := Lib.hid (strs_len (hm.sort k))
    have h60 := hS.sort k
    have hnm : (m.sort k).1.n ≤ 60 := by have := hl.out; omega
    clear h60
    obtain ⟨sA, hsA⟩ : ∃ sA, (m.sort k).1 = sA := ⟨_, rfl⟩
    rw [hsA] at z1 hr hl hnm
    obtain ⟨A0, n, c0⟩ := sA
    simp only at z1 hr hl hnm
    clear hsA
    go_wp2_with fail
    rename World => wo
    clear z1 hix
    go_loopw [35] (fun v wr => ∃ (j : Nat) (h : HistM), j ≤ n ∧ v = .int .i64 j ∧ Hid (CpI Bh B3 w wr h [] []) ∧ Hid (PhB m h k j) ∧ Hid (BoxC m Bh B3 B4 wr) ∧ Hid (Ns h m)) (fun v _ => n - (intOf v).toNat)
    case atStart => exact ⟨0, h, Nat.zero_le _, rfl, HC, HP.out.start hk4, HX, HNS⟩
    case round =>
     clear HC HP HX HNS
     obtain ⟨j, h, hj, rfl, HC, HP, HX, HNS⟩ := hrel
     by_cases hjn : j < n
     ·have hlt : (j : Int) < (n : Int) := by omega
      obtain ⟨s, hs⟩ : ∃ s, (m.sort k).2[j]? = some s := ⟨(m.sort k).2[j]'(by rw [hl.out]; exact hjn), List.getElem?_eq_getElem _⟩
      obtain ⟨b, o, rfl, hbb, g0⟩ := str_at (hr.out.below HC.out.below) hs
      have hsz := hS.sizes hk4 s (List.mem_of_getElem? hs)
      have HCL := Lib.hid (fun W => sclone_any s (by omega) W)
      have HSJ := Lib.hid hs
      have HJJ := Lib.hid HP.out.2.1.2
      clear hs hsz hbb
      go_wp2_with fail
      refine wp_region_noPanic ?_
      refine wp_region_K (S := fun W => W.cell? ⟨B4, k, none⟩ = some (.pointer (some ⟨B3, k, none⟩)) ∧ W.cell? ⟨B3, k, none⟩ = some (.slice (h.sort k).1.A (h.sort k).1.n (h.sort k).1.c)) 13 (by kernel_rfl) ⟨((HX.out.2.cell k).trans (ptr4_at B3 k hk4)), ((HC.out.b3.cell k).trans (cs_sort h k hk4))⟩ (fun hHeld => ?_)
      have HC := Lib.hid (HC.out.on (Below.refl _ _).drew)
      have HX := Lib.hid (HX.out.on (Below.refl _ _).drew)
      generalize wr.drew = wd at *
      refine ka 0 (some 39) (.int .i64 (k : Int)) rfl rfl (fun w' => by go_simp) ?_
      try simp only [Act.put, kA, kB, kC]
      refine ka 1 (some 40) (.pointer (some ⟨B4, k, none⟩)) rfl rfl (fun w' => by go_simp) ?_
      try simp only [Act.put, kA, kB, kC]
      refine kv 2 (some 41) (.pointer (some ⟨B3, k, none⟩)) rfl rfl (fun w' hSw => by have c9 : w'.cell? ⟨B4, k, none⟩ = some (.pointer (some ⟨B3, k, none⟩)) := hSw.1; go_simp) ?_
      try simp only [Act.put, kA, kB, kC]
      refine ka 3 (some 42) (.int .i64 (k : Int)) rfl rfl (fun w' => by go_simp) ?_
      try simp only [Act.put, kA, kB, kC]
      refine ka 4 (some 43) (.pointer (some ⟨B4, k, none⟩)) rfl rfl (fun w' => by go_simp) ?_
      try simp only [Act.put, kA, kB, kC]
      refine kv 5 (some 44) (.pointer (some ⟨B3, k, none⟩)) rfl rfl (fun w' hSw => by have c9 : w'.cell? ⟨B4, k, none⟩ = some (.pointer (some ⟨B3, k, none⟩)) := hSw.1; go_simp) ?_
      try simp only [Act.put, kA, kB, kC]
      refine ka 6 (some 45) (.pointer (some ⟨B3, k, none⟩)) rfl rfl (fun w' => by go_simp) ?_
      try simp only [Act.put, kA, kB, kC]
      refine kv 7 (some 46) (.slice (h.sort k).1.A (h.sort k).1.n (h.sort k).1.c) rfl rfl (fun w' hSw => by have c9 : w'.cell? ⟨B3, k, none⟩ = some (.slice (h.sort k).1.A (h.sort k).1.n (h.sort k).1.c) := hSw.2; go_simp) ?_
      try simp only [Act.put, kA, kB, kC]
      refine ka 8 (some 47) (.string s) rfl rfl (fun w' => by go_simp) ?_
      try simp only [Act.put, kA, kB, kC]
      refine kr [9] ?_
      refine kc rfl (fun K hK => ?_) kn
      go_simp
      refine (HCL.out _).mono ?_
      rintro e w5 ⟨rfl, b5⟩
      have HC := Lib.hid (HC.out.on b5)
      have HX := Lib.hid (HX.out.on b5)
      clear b5 hHeld
      go_simp
      refine hK.out _ _ ⟨((HX.out.2.cell k).trans (ptr4_at B3 k hk4)), ((HC.out.b3.cell k).trans (cs_sort h k hk4))⟩ (fun hHeld => ?_)
      clear hK K
      try simp only [Act.put, kA, kB, kC]
      refine kr [10] ?_
      refine kc rfl (fun K hK => ?_) kn
      go_simp
      have hal := (Below.refl _ w5).alloc (Nat.le_refl _) (.cells #[.string s] 9)
      have HC := Lib.hid (HC.out.on hal)
      have HX := Lib.hid (HX.out.on hal)
      have SL := Lib.hid (str_lit w5 [s] 9 #[.string s] rfl)
      clear hal hHeld
      refine hK.out _ _ ⟨((HX.out.2.cell k).trans (ptr4_at B3 k hk4)), ((HC.out.b3.cell k).trans (cs_sort h k hk4))⟩ (fun hHeld => ?_)
      clear hK K
      try simp only [Act.put, kA, kB, kC]
      generalize w5.alloc (.cells #[.string s] 9) = ua at *
      generalize w5.heap.size = XS at *
      refine kr [11] ?_
      refine kc (o := { dst := some 50, op := Op.call { callee := Callee.builtin Builtin.append, args := #[Operand.tmp 46, Operand.tmp 49], argTypes := #[22, 22] }, type := 22, pos := "rows.go:134", after := #[{ on := 7, ground := Ground.data }, { on := 10, ground := Ground.data }, { on := 9, ground := Ground.chain }], guard := none }) rfl (fun K hK => ?_) kn
      have OWN := Lib.hid (HC.out.nm.own k _ (nms_at hk4))
      have hn3 : (h.sort k).1.n ≤ 60 := by have := HJJ.out; omega
      refine step_append_any _ rfl (.tmp 46) (.tmp 49) 22 rfl w.heap.size 9 i0 _ 1 16 Tryz.underlying22 hi hz0 hz1 hz2 rfl (by decide) (.slice (h.sort k).1.A (h.sort k).1.n (h.sort k).1.c) (h.sort k).1.n _ rfl OWN.out _ (some ⟨XS, 0, none⟩) 1 _ (strs [s]) rfl SL.out (strs_one _) (by unfold maxLen; omega) (by omega) HC.out.below.size ?_
      intro v' w6 hown6 hgrow6 hat6; obtain ⟨A6, c6, rfl, -, -⟩ := own_form2 hown6
      have HX6 := Lib.hid (HX.out.keepT (KeepT.grown OWN.out hgrow6) (by decide) (by decide))
      have KB6 := Lib.hid ((KeepT.grown OWN.out hgrow6).blk HC.out.b3 (by decide))
      have HO6 := Lib.hid hown6
      have HG6 := Lib.hid hgrow6
      have HA6 := Lib.hid hat6
      clear hown6 hgrow6 hat6 hHeld
      refine hK.out _ _ ⟨((HX6.out.2.cell k).trans (ptr4_at B3 k hk4)), ((KB6.out.cell k).trans (cs_sort h k hk4))⟩ (fun hHeld => ?_)
      clear hK K
      try simp only [Act.put, kA, kB, kC]
      refine ka 12 (some 51) (.pointer (some ⟨B3, k, none⟩)) rfl rfl (fun w' => by go_simp) ?_
      try simp only [Act.put, kA, kB, kC]
      refine kr [13] ?_
      refine kz (o := { dst := none, op := Op.store 22 (Operand.tmp 51) (Operand.tmp 50), type := 0, pos := "rows.go:134", after := #[{ on := 12, ground := Ground.data }, { on := 11, ground := Ground.data }, { on := 11, ground := Ground.chain }, { on := 0, ground := Ground.phase }, { on := 1, ground := Ground.phase }, { on := 2, ground := Ground.phase }, { on := 3, ground := Ground.phase }, { on := 4, ground := Ground.phase }, { on := 5, ground := Ground.phase }, { on := 6, ground := Ground.phase }, { on := 7, ground := Ground.phase }, { on := 8, ground := Ground.phase }, { on := 9, ground := Ground.phase }, { on := 10, ground := Ground.phase }, { on := 11, ground := Ground.phase }], guard := none }) rfl (fun K hK => ?_)
      have y3 := (KB6.out.cell k).trans (cs_sort h k hk4)
      have f3 := KB6.out.frozen k
      go_simp
      have HX := Lib.hid (HX6.out.far KB6.out HC.out.ne.1 k (.slice A6 ((h.sort k).1.n + 1) c6))
      have HC := Lib.hid (HC.out.text (k := k) (us := [s]) hk4 HO6.out HG6.out HA6.out)
      have HP := Lib.hid (HP.out.next (A := A6) (c := c6) hk4 HSJ.out)
      have HNS := Lib.hid (HNS.out.text hk4 (⟨A6, (h.sort k).1.n + [s].length, c6⟩, (h.sort k).2 ++ [s]))
      clear HX6 KB6 HO6 HG6 HA6 OWN SL hn3 y3 f3 hHeld HJJ
      refine hK.out _ _ ?_
      clear hK K
      try simp only [Act.put]
      refine kd (by kernel_rfl) ?_ _
      refine NoPanic.normal ?_
      go_wp2_with fail
      go_roundw
      case rel => exact ⟨j + 1, _, hjn, by go_num, HC, HP, HX, HNS⟩
      case measure => simp [intOf]; omega
     ·obtain rfl : j = n := by omega
      have HP := Lib.hid (HP.out.all hk4 hl.out)
      go_wp2_with fail
      go_roundw
      case rel => exact ⟨k + 1, h, by omega, by go_num, HC, HP, HX, HNS⟩
      case measure => simp [intOf]; omega
   ·obtain rfl : k = 4 := by omega
    have HNE : Hid (NamesEq h m) := fun s hs => HP.out.1 s hs hs
    simp only [show ((4 : Nat) : Int) = 4 from rfl]
    clear hk hk4
    have HPL : Hid (PlL m h) := pl_all HNE.out HP.out.2.2 HNS.out
    have HC : Hid (CpI Bh B3 w wr h ((h.ev.2.take 0).map scOf) []) := HC.out
    clear HNE HNS HP
    have z : wr.cell? ⟨B3, 4, none⟩ = some (.slice h.ev.1.A m.ev.1.n h.ev.1.c) := by rw [← HPL.out.2.1]; exact HC.out.b3.cell 4
    go_wp2_with fail
    rename World => wev
    clear z
    go_loopw [57] (fun v wr => ∃ (i : Nat) (h : HistM), i ≤ m.ev.1.n ∧ v = .int .i64 i ∧ Hid (CpS Bh B3 w wr h i) ∧ Hid (PlL m h) ∧ Hid (BoxC m Bh B3 B4 wr)) (fun v _ => m.ev.1.n - (intOf v).toNat)
    case atStart => exact ⟨0, h, Nat.zero_le _, rfl, HC, HPL, HX⟩
    case round =>
     clear HC HPL HX
     obtain ⟨i, h, hi0, rfl, HC, HPL, HX⟩ := hrel
     by_cases hin : i < m.ev.1.n
     ·have hlt : (i : Int) < (m.ev.1.n : Int) := by omega
      obtain ⟨⟨e, hd⟩, hs⟩ : ∃ p, m.ev.2[i]? = some p := ⟨m.ev.2[i]'(by rw [hm.fit.ev.1]; exact hin), List.getElem?_eq_getElem _⟩
      obtain ⟨b, o, hA, hbl, -⟩ := row_cells evCs_len (by omega) hm.ev hs
      have HQ : Hid (∀ W, Below w.heap.size w W → W.cell? ⟨b, o + i * 9 + 8, none⟩ = some (.slice hd.A hd.n hd.c)) := fun W hW => by
       obtain ⟨b2, o2, hA2, _, hc2⟩ := row_cells evCs_len (by omega) (hm.ev.below hW) hs
       obtain ⟨rfl, rfl⟩ : b = b2 ∧ o = o2 := by rw [hA] at hA2; simpa using hA2
       rw [Nat.add_assoc]
       exact hc2 8 _ rfl
      have HCL := Lib.hid fun W (hW : Below w.heap.size w W) => clone_se hd.A hd.n hd.c e.scan (by have := HLW.out.sc _ (List.mem_of_getElem? hs); show hd.n ≤ _; simp only at this; omega) W (((hm.sc _ (List.mem_of_getElem? hs)).below hW).more hW.size)
      have hbd : m.ev.1.n ≤ 1000 := HLW.out.ev
      have HSI := Lib.hid hs
      have HA := Lib.hid hA
      clear hs hA hbl
      go_wp2_with fail
      refine wp_region_noPanic ?_
      refine wp_region_K (S := fun W => Blk W B3 28 h.cs ∧ Blk W Bh 28 m.cs ∧ Below w.heap.size w W) 12 (by kernel_rfl) ⟨HC.out.b3.drew, HX.out.1.drew, HC.out.below.drew⟩ (fun hHeld => ?_)
      have HC : Hid (CpI Bh B3 w wr h ((h.ev.2.take i).map scOf) []) := HC.out
      have HC := Lib.hid (HC.out.on (Below.refl _ _).drew)
      have HX := Lib.hid (HX.out.on (Below.refl _ _).drew)
      generalize wr.drew = wd at *
      obtain ⟨g, h0, hg, hnext⟩ := HC.out.scan_next (B4 := B4) HPL.out HSI.out
      have HG := Lib.hid hg
      have HN := Lib.hid hnext
      have HL : Hid (h.ev.1.n = m.ev.1.n) := HPL.out.2.1
      clear hg hnext
      refine ka 0 (some 60) (.pointer (some ⟨B3, 4, none⟩)) rfl rfl (fun w' => by go_simp) ?_
      try simp only [Act.put, kA, kB, kC]
      refine kv 1 (some 61) (.slice (some ⟨g, 0, none⟩) m.ev.1.n h.ev.1.c) rfl rfl (fun w' hSw => by have c9 : w'.cell? ⟨B3, 4, none⟩ = some (.slice (some ⟨g, 0, none⟩) m.ev.1.n h.ev.1.c) := (by rw [← HG.out, ← HL.out]; exact hSw.1.cell 4); go_simp) ?_
      try simp only [Act.put, kA, kB, kC]
      refine ka 2 (some 62) (.int .i64 i) rfl rfl (fun w' => by go_simp) ?_
      try simp only [Act.put, kA, kB, kC]
      refine ka 3 (some 63) (.pointer (some ⟨Bh, 4, none⟩)) rfl rfl (fun w' => by go_simp) ?_
      try simp only [Act.put, kA, kB, kC]
      refine kv 4 (some 64) (.slice (some ⟨b, o, none⟩) m.ev.1.n m.ev.1.c) rfl rfl (fun w' hSw => by have c9 : w'.cell? ⟨Bh, 4, none⟩ = some (.slice (some ⟨b, o, none⟩) m.ev.1.n m.ev.1.c) := (by rw [← HA.out]; exact hSw.2.1.cell 4); go_simp) ?_
      try simp only [Act.put, kA, kB, kC]
      refine ka 5 (some 65) (.int .i64 i) rfl rfl (fun w' => by go_simp) ?_
      try simp only [Act.put, kA, kB, kC]
      refine ka 6 (some 66) (.pointer (some ⟨b, o + i * 9, none⟩)) rfl rfl (fun w' => by go_simp) ?_
      try simp only [Act.put, kA, kB, kC]
      refine ka 7 (some 67) (.pointer (some ⟨b, o + i * 9 + 8, none⟩)) rfl rfl (fun w' => by go_simp) ?_
      try simp only [Act.put, kA, kB, kC]
      refine kv 8 (some 68) (.slice hd.A hd.n hd.c) rfl rfl (fun w' hSw => by have c9 := HQ.out w' hSw.2.2; go_simp) ?_
      try simp only [Act.put, kA, kB, kC]
      refine kr [9] ?_
      refine kc rfl (fun K hK => ?_) kn
      go_simp
      refine (HCL.out _ HC.out.below).mono ?_
      rintro e5 w5 ⟨A5, c5, rfl, ho5, hb5⟩
      have H5 := Lib.hid (HN.out _ hb5)
      have HX5 := Lib.hid (HX.out.on hb5)
      have HC5 := Lib.hid (HC.out.on hb5)
      have HO5 := Lib.hid ho5
      clear ho5 hb5 hHeld
      go_simp
      refine hK.out _ _ ⟨HC5.out.b3, HX5.out.1, HC5.out.below⟩ (fun hHeld => ?_)
      clear hK K
      try simp only [Act.put, kA, kB, kC]
      refine ka 10 (some 70) (.pointer (some ⟨g, i * 9, none⟩)) rfl rfl (fun w' => by go_simp) ?_
      try simp only [Act.put, kA, kB, kC]
      refine ka 11 (some 71) (.pointer (some ⟨g, i * 9 + 8, none⟩)) rfl rfl (fun w' => by go_simp) ?_
      try simp only [Act.put, kA, kB, kC]
      refine kr [12] ?_
      refine kz (o := { dst := none, op := Op.store 37 (Operand.tmp 71) (Operand.tmp 69), type := 0, pos := "rows.go:138", after := #[{ on := 11, ground := Ground.data }, { on := 9, ground := Ground.data }, { on := 9, ground := Ground.chain }, { on := 0, ground := Ground.phase }, { on := 1, ground := Ground.phase }, { on := 2, ground := Ground.phase }, { on := 3, ground := Ground.phase }, { on := 4, ground := Ground.phase }, { on := 5, ground := Ground.phase }, { on := 6, ground := Ground.phase }, { on := 7, ground := Ground.phase }, { on := 8, ground := Ground.phase }, { on := 9, ground := Ground.phase }], guard := none }) rfl (fun K hK => ?_)
      have y5 := H5.out.1
      have f5 := H5.out.2.1
      go_simp
      obtain ⟨hx6, h6, hc6, hp6, hcs6, hka, hkb⟩ := H5.out.2.2 ⟨A5, hd.n, c5⟩ HO5.out HX5.out
      have HX6 := Lib.hid hx6
      have HP6 := Lib.hid hp6
      have hc7 : CpI Bh B3 w (w5.setCell ⟨g, i * 9 + 8, none⟩ (.slice A5 hd.n c5)) h6 ((h6.ev.2.take (i + 1)).map scOf) [] := by exact hc6
      have HC6 := Lib.hid hc7
      clear hx6 hc6 hp6 hcs6 hka hkb hc7 H5 HX5 HC5 HO5 y5 f5 hHeld
      refine hK.out _ _ ?_
      clear hK K
      try simp only [Act.put]
      refine kd (by kernel_rfl) ?_ _
      refine NoPanic.normal ?_
      go_wp2_with fail
      go_roundw
      case rel => exact ⟨i + 1, h6, hin, by go_num, HC6, HP6, HX6⟩
      case measure => simp [intOf]; omega
     ·obtain rfl : i = m.ev.1.n := by omega
      have HC : Hid (CpI Bh B3 w wr h ((h.ev.2).map scOf) ((h.od.2.take 0).map toOf)) := by have : CpI Bh B3 w wr h ((h.ev.2.take m.ev.1.n).map scOf) [] := HC.out; rwa [List.take_of_length_le (by rw [own_long evCs_len (by omega) this.ev, HPL.out.2.1]; exact Nat.le_refl _)] at this
      have z : wr.cell? ⟨B3, 5, none⟩ = some (.slice h.od.1.A m.od.1.n h.od.1.c) := by rw [← HPL.out.2.2.1]; exact HC.out.b3.cell 5
      go_wp2_with fail
      rename World => wod
      clear z
      go_loopw [76] (fun v wr => ∃ (i : Nat) (h : HistM), i ≤ m.od.1.n ∧ v = .int .i64 i ∧ Hid (CpO Bh B3 w wr h i) ∧ Hid (PlL m h) ∧ Hid (BoxC m Bh B3 B4 wr)) (fun v _ => m.od.1.n - (intOf v).toNat)
      case atStart => exact ⟨0, h, Nat.zero_le _, rfl, HC, HPL, HX⟩
      case round =>
       clear HC HPL HX
       obtain ⟨i, h, hi0, rfl, HC, HPL, HX⟩ := hrel
       by_cases hin : i < m.od.1.n
       ·have hlt : (i : Int) < (m.od.1.n : Int) := by omega
        obtain ⟨⟨e, hd⟩, hs⟩ : ∃ p, m.od.2[i]? = some p := ⟨m.od.2[i]'(by rw [hm.fit.od.1]; exact hin), List.getElem?_eq_getElem _⟩
        obtain ⟨b, o, hA, hbl, -⟩ := row_cells odCs_len (by omega) hm.od hs
        have HQ : Hid (∀ W, Below w.heap.size w W → W.cell? ⟨b, o + i * 2 + 1, none⟩ = some (.slice hd.A hd.n hd.c)) := fun W hW => by
         obtain ⟨b2, o2, hA2, _, hc2⟩ := row_cells odCs_len (by omega) (hm.od.below hW) hs
         obtain ⟨rfl, rfl⟩ : b = b2 ∧ o = o2 := by rw [hA] at hA2; simpa using hA2
         rw [Nat.add_assoc]
         exact hc2 1 _ rfl
        have HCL := Lib.hid fun W (hW : Below w.heap.size w W) => clone_in hd.A hd.n hd.c e.ts (by have := HLW.out.ot _ (List.mem_of_getElem? hs); show hd.n ≤ _; simp only at this; omega) W (((hm.ot _ (List.mem_of_getElem? hs)).below hW).more hW.size)
        have hbd : m.od.1.n ≤ 1000 := HLW.out.od
        have HSI := Lib.hid hs
        have HA := Lib.hid hA
        clear hs hA hbl
        go_wp2_with fail
        refine wp_region_noPanic ?_
        refine wp_region_K (S := fun W => Blk W B3 28 h.cs ∧ Blk W Bh 28 m.cs ∧ Below w.heap.size w W) 12 (by kernel_rfl) ⟨HC.out.b3.drew, HX.out.1.drew, HC.out.below.drew⟩ (fun hHeld => ?_)
        have HC : Hid (CpI Bh B3 w wr h (h.ev.2.map scOf) ((h.od.2.take i).map toOf)) := HC.out
        have HC := Lib.hid (HC.out.on (Below.refl _ _).drew)
        have HX := Lib.hid (HX.out.on (Below.refl _ _).drew)
        generalize wr.drew = wd at *
        obtain ⟨g, h0, hg, hnext⟩ := HC.out.ord_next (B4 := B4) HPL.out HSI.out
        have HG := Lib.hid hg
        have HN := Lib.hid hnext
        have HL : Hid (h.od.1.n = m.od.1.n) := HPL.out.2.2.1
        clear hg hnext
        refine ka 0 (some 79) (.pointer (some ⟨B3, 5, none⟩)) rfl rfl (fun w' => by go_simp) ?_
        try simp only [Act.put, kA, kB, kC]
        refine kv 1 (some 80) (.slice (some ⟨g, 0, none⟩) m.od.1.n h.od.1.c) rfl rfl (fun w' hSw => by have c9 : w'.cell? ⟨B3, 5, none⟩ = some (.slice (some ⟨g, 0, none⟩) m.od.1.n h.od.1.c) := (by rw [← HG.out, ← HL.out]; exact hSw.1.cell 5); go_simp) ?_
        try simp only [Act.put, kA, kB, kC]
        refine ka 2 (some 81) (.int .i64 i) rfl rfl (fun w' => by go_simp) ?_
        try simp only [Act.put, kA, kB, kC]
        refine ka 3 (some 82) (.pointer (some ⟨Bh, 5, none⟩)) rfl rfl (fun w' => by go_simp) ?_
        try simp only [Act.put, kA, kB, kC]
        refine kv 4 (some 83) (.slice (some ⟨b, o, none⟩) m.od.1.n m.od.1.c) rfl rfl (fun w' hSw => by have c9 : w'.cell? ⟨Bh, 5, none⟩ = some (.slice (some ⟨b, o, none⟩) m.od.1.n m.od.1.c) := (by rw [← HA.out]; exact hSw.2.1.cell 5); go_simp) ?_
        try simp only [Act.put, kA, kB, kC]
        refine ka 5 (some 84) (.int .i64 i) rfl rfl (fun w' => by go_simp) ?_
        try simp only [Act.put, kA, kB, kC]
        refine ka 6 (some 85) (.pointer (some ⟨b, o + i * 2, none⟩)) rfl rfl (fun w' => by go_simp) ?_
        try simp only [Act.put, kA, kB, kC]
        refine ka 7 (some 86) (.pointer (some ⟨b, o + i * 2 + 1, none⟩)) rfl rfl (fun w' => by go_simp) ?_
        try simp only [Act.put, kA, kB, kC]
        refine kv 8 (some 87) (.slice hd.A hd.n hd.c) rfl rfl (fun w' hSw => by have c9 := HQ.out w' hSw.2.2; go_simp) ?_
        try simp only [Act.put, kA, kB, kC]
        refine kr [9] ?_
        refine kc rfl (fun K hK => ?_) kn
        go_simp
        refine (HCL.out _ HC.out.below).mono ?_
        rintro e5 w5 ⟨A5, c5, rfl, ho5, hb5⟩
        have H5 := Lib.hid (HN.out _ hb5)
        have HX5 := Lib.hid (HX.out.on hb5)
        have HC5 := Lib.hid (HC.out.on hb5)
        have HO5 := Lib.hid ho5
        clear ho5 hb5 hHeld
        go_simp
        refine hK.out _ _ ⟨HC5.out.b3, HX5.out.1, HC5.out.below⟩ (fun hHeld => ?_)
        clear hK K
        try simp only [Act.put, kA, kB, kC]
        refine ka 10 (some 89) (.pointer (some ⟨g, i * 2, none⟩)) rfl rfl (fun w' => by go_simp) ?_
        try simp only [Act.put, kA, kB, kC]
        refine ka 11 (some 90) (.pointer (some ⟨g, i * 2 + 1, none⟩)) rfl rfl (fun w' => by go_simp) ?_
        try simp only [Act.put, kA, kB, kC]
        refine kr [12] ?_
        refine kz (o := { dst := none, op := Op.store 45 (Operand.tmp 90) (Operand.tmp 88), type := 0, pos := "rows.go:141", after := #[{ on := 11, ground := Ground.data }, { on := 9, ground := Ground.data }, { on := 9, ground := Ground.chain }, { on := 0, ground := Ground.phase }, { on := 1, ground := Ground.phase }, { on := 2, ground := Ground.phase }, { on := 3, ground := Ground.phase }, { on := 4, ground := Ground.phase }, { on := 5, ground := Ground.phase }, { on := 6, ground := Ground.phase }, { on := 7, ground := Ground.phase }, { on := 8, ground := Ground.phase }, { on := 9, ground := Ground.phase }], guard := none }) rfl (fun K hK => ?_)
        have y5 := H5.out.1
        have f5 := H5.out.2.1
        go_simp
        obtain ⟨hx6, h6, hc6, hp6, hcs6, hka, hkb⟩ := H5.out.2.2 ⟨A5, hd.n, c5⟩ HO5.out HX5.out
        have HX6 := Lib.hid hx6
        have HP6 := Lib.hid hp6
        have hc7 : CpI Bh B3 w (w5.setCell ⟨g, i * 2 + 1, none⟩ (.slice A5 hd.n c5)) h6 (h6.ev.2.map scOf) ((h6.od.2.take (i + 1)).map toOf) := by rw [hka]; exact hc6
        have HC6 := Lib.hid hc7
        clear hx6 hc6 hp6 hcs6 hka hkb hc7 H5 HX5 HC5 HO5 y5 f5 hHeld
        refine hK.out _ _ ?_
        clear hK K
        try simp only [Act.put]
        refine kd (by kernel_rfl) ?_ _
        refine NoPanic.normal ?_
        go_wp2_with fail
        go_roundw
        case rel => exact ⟨i + 1, h6, hin, by go_num, HC6, HP6, HX6⟩
        case measure => simp [intOf]; omega
       ·obtain rfl : i = m.od.1.n := by omega
        have HC : Hid (CpI Bh B3 w wr h (h.ev.2.map scOf) (h.od.2.map toOf ++ (h.ma.2.take 0).map tmOf)) := by have : CpI Bh B3 w wr h (h.ev.2.map scOf) ((h.od.2.take m.od.1.n).map toOf) := HC.out; rw [List.take_of_length_le (by rw [own_long odCs_len (by omega) this.od, HPL.out.2.2.1]; exact Nat.le_refl _)] at this; show CpI _ _ _ _ _ _ (_ ++ []); rw [List.append_nil]; exact this
        have z : wr.cell? ⟨B3, 6, none⟩ = some (.slice h.ma.1.A m.ma.1.n h.ma.1.c) := by rw [← HPL.out.2.2.2.1]; exact HC.out.b3.cell 6
        go_wp2_with fail
        rename World => wma
        clear z
        go_loopw [95] (fun v wr => ∃ (i : Nat) (h : HistM), i ≤ m.ma.1.n ∧ v = .int .i64 i ∧ Hid (CpM Bh B3 w wr h i) ∧ Hid (PlL m h) ∧ Hid (BoxC m Bh B3 B4 wr)) (fun v _ => m.ma.1.n - (intOf v).toNat)
        case atStart => exact ⟨0, h, Nat.zero_le _, rfl, HC, HPL, HX⟩
        case round =>
         clear HC HPL HX
         obtain ⟨i, h, hi0, rfl, HC, HPL, HX⟩ := hrel
         by_cases hin : i < m.ma.1.n
         ·have hlt : (i : Int) < (m.ma.1.n : Int) := by omega
          obtain ⟨⟨e, hd⟩, hs⟩ : ∃ p, m.ma.2[i]? = some p := ⟨m.ma.2[i]'(by rw [hm.fit.ma.1]; exact hin), List.getElem?_eq_getElem _⟩
          obtain ⟨b, o, hA, hbl, -⟩ := row_cells maCs_len (by omega) hm.ma hs
          have HQ : Hid (∀ W, Below w.heap.size w W → W.cell? ⟨b, o + i * 4 + 3, none⟩ = some (.slice hd.A hd.n hd.c)) := fun W hW => by
           obtain ⟨b2, o2, hA2, _, hc2⟩ := row_cells maCs_len (by omega) (hm.ma.below hW) hs
           obtain ⟨rfl, rfl⟩ : b = b2 ∧ o = o2 := by rw [hA] at hA2; simpa using hA2
           rw [Nat.add_assoc]
           exact hc2 3 _ rfl
          have HCL := Lib.hid fun W (hW : Below w.heap.size w W) => clone_in hd.A hd.n hd.c e.ts (by have := HLW.out.mt _ (List.mem_of_getElem? hs); show hd.n ≤ _; simp only at this; omega) W (((hm.mt _ (List.mem_of_getElem? hs)).below hW).more hW.size)
          have hbd : m.ma.1.n ≤ 1000 := HLW.out.ma
          have HSI := Lib.hid hs
          have HA := Lib.hid hA
          clear hs hA hbl
          go_wp2_with fail
          refine wp_region_noPanic ?_
          refine wp_region_K (S := fun W => Blk W B3 28 h.cs ∧ Blk W Bh 28 m.cs ∧ Below w.heap.size w W) 12 (by kernel_rfl) ⟨HC.out.b3.drew, HX.out.1.drew, HC.out.below.drew⟩ (fun hHeld => ?_)
          have HC : Hid (CpI Bh B3 w wr h (h.ev.2.map scOf) (h.od.2.map toOf ++ (h.ma.2.take i).map tmOf)) := HC.out
          have HC := Lib.hid (HC.out.on (Below.refl _ _).drew)
          have HX := Lib.hid (HX.out.on (Below.refl _ _).drew)
          generalize wr.drew = wd at *
          obtain ⟨g, h0, hg, hnext⟩ := HC.out.mat_next (B4 := B4) HPL.out HSI.out
          have HG := Lib.hid hg
          have HN := Lib.hid hnext
          have HL : Hid (h.ma.1.n = m.ma.1.n) := HPL.out.2.2.2.1
          clear hg hnext
          refine ka 0 (some 98) (.pointer (some ⟨B3, 6, none⟩)) rfl rfl (fun w' => by go_simp) ?_
          try simp only [Act.put, kA, kB, kC]
          refine kv 1 (some 99) (.slice (some ⟨g, 0, none⟩) m.ma.1.n h.ma.1.c) rfl rfl (fun w' hSw => by have c9 : w'.cell? ⟨B3, 6, none⟩ = some (.slice (some ⟨g, 0, none⟩) m.ma.1.n h.ma.1.c) := (by rw [← HG.out, ← HL.out]; exact hSw.1.cell 6); go_simp) ?_
          try simp only [Act.put, kA, kB, kC]
          refine ka 2 (some 100) (.int .i64 i) rfl rfl (fun w' => by go_simp) ?_
          try simp only [Act.put, kA, kB, kC]
          refine ka 3 (some 101) (.pointer (some ⟨Bh, 6, none⟩)) rfl rfl (fun w' => by go_simp) ?_
          try simp only [Act.put, kA, kB, kC]
          refine kv 4 (some 102) (.slice (some ⟨b, o, none⟩) m.ma.1.n m.ma.1.c) rfl rfl (fun w' hSw => by have c9 : w'.cell? ⟨Bh, 6, none⟩ = some (.slice (some ⟨b, o, none⟩) m.ma.1.n m.ma.1.c) := (by rw [← HA.out]; exact hSw.2.1.cell 6); go_simp) ?_
          try simp only [Act.put, kA, kB, kC]
          refine ka 5 (some 103) (.int .i64 i) rfl rfl (fun w' => by go_simp) ?_
          try simp only [Act.put, kA, kB, kC]
          refine ka 6 (some 104) (.pointer (some ⟨b, o + i * 4, none⟩)) rfl rfl (fun w' => by go_simp) ?_
          try simp only [Act.put, kA, kB, kC]
          refine ka 7 (some 105) (.pointer (some ⟨b, o + i * 4 + 3, none⟩)) rfl rfl (fun w' => by go_simp) ?_
          try simp only [Act.put, kA, kB, kC]
          refine kv 8 (some 106) (.slice hd.A hd.n hd.c) rfl rfl (fun w' hSw => by have c9 := HQ.out w' hSw.2.2; go_simp) ?_
          try simp only [Act.put, kA, kB, kC]
          refine kr [9] ?_
          refine kc rfl (fun K hK => ?_) kn
          go_simp
          refine (HCL.out _ HC.out.below).mono ?_
          rintro e5 w5 ⟨A5, c5, rfl, ho5, hb5⟩
          have H5 := Lib.hid (HN.out _ hb5)
          have HX5 := Lib.hid (HX.out.on hb5)
          have HC5 := Lib.hid (HC.out.on hb5)
          have HO5 := Lib.hid ho5
          clear ho5 hb5 hHeld
          go_simp
          refine hK.out _ _ ⟨HC5.out.b3, HX5.out.1, HC5.out.below⟩ (fun hHeld => ?_)
          clear hK K
          try simp only [Act.put, kA, kB, kC]
          refine ka 10 (some 108) (.pointer (some ⟨g, i * 4, none⟩)) rfl rfl (fun w' => by go_simp) ?_
          try simp only [Act.put, kA, kB, kC]
          refine ka 11 (some 109) (.pointer (some ⟨g, i * 4 + 3, none⟩)) rfl rfl (fun w' => by go_simp) ?_
          try simp only [Act.put, kA, kB, kC]
          refine kr [12] ?_
          refine kz (o := { dst := none, op := Op.store 45 (Operand.tmp 109) (Operand.tmp 107), type := 0, pos := "rows.go:144", after := #[{ on := 11, ground := Ground.data }, { on := 9, ground := Ground.data }, { on := 9, ground := Ground.chain }, { on := 0, ground := Ground.phase }, { on := 1, ground := Ground.phase }, { on := 2, ground := Ground.phase }, { on := 3, ground := Ground.phase }, { on := 4, ground := Ground.phase }, { on := 5, ground := Ground.phase }, { on := 6, ground := Ground.phase }, { on := 7, ground := Ground.phase }, { on := 8, ground := Ground.phase }, { on := 9, ground := Ground.phase }], guard := none }) rfl (fun K hK => ?_)
          have y5 := H5.out.1
          have f5 := H5.out.2.1
          go_simp
          obtain ⟨hx6, h6, hc6, hp6, hcs6, hka, hkb⟩ := H5.out.2.2 ⟨A5, hd.n, c5⟩ HO5.out HX5.out
          have HX6 := Lib.hid hx6
          have HP6 := Lib.hid hp6
          have hc7 : CpI Bh B3 w (w5.setCell ⟨g, i * 4 + 3, none⟩ (.slice A5 hd.n c5)) h6 (h6.ev.2.map scOf) (h6.od.2.map toOf ++ (h6.ma.2.take (i + 1)).map tmOf) := by rw [hka, hkb]; exact hc6
          have HC6 := Lib.hid hc7
          clear hx6 hc6 hp6 hcs6 hka hkb hc7 H5 HX5 HC5 HO5 y5 f5 hHeld
          refine hK.out _ _ ?_
          clear hK K
          try simp only [Act.put]
          refine kd (by kernel_rfl) ?_ _
          refine NoPanic.normal ?_
          go_wp2_with fail
          go_roundw
          case rel => exact ⟨i + 1, h6, hin, by go_num, HC6, HP6, HX6⟩
          case measure => simp [intOf]; omega
         ·obtain rfl : i = m.ma.1.n := by omega
          have HC : Hid (CpI Bh B3 w wr h (h.ev.2.map scOf) (h.od.2.map toOf ++ h.ma.2.map tmOf)) := by have : CpI Bh B3 w wr h (h.ev.2.map scOf) (h.od.2.map toOf ++ (h.ma.2.take m.ma.1.n).map tmOf) := HC.out; rwa [List.take_of_length_le (by rw [own_long maCs_len (by omega) this.ma, HPL.out.2.2.2.1]; exact Nat.le_refl _)] at this
          have HD : Hid (HOwn w.heap.size wr h) := HC.out.done
          have HB := Lib.hid HC.out.below
          have KR := Lib.hid HC.out.br
          have HNE := Lib.hid HC.out.ne
          have HB3 := Lib.hid HC.out.b3
          obtain ⟨⟨z0, z1, z2, z3, z4, z5, z6, z7⟩, -⟩ := cf8 HB3.out
          obtain ⟨⟨y0, y1, y2, y3, y4, y5, y6, y7⟩, f0, f1, f2, f3, f4, f5, f6, f7⟩ := cf8 KR.out
          clear HC HX
          go_wp2_with fail
          clear z0 y0 f0 z1 y1 f1 z2 y2 f2 z3 y3 f3 z4 y4 f4 z5 y5 f5 z6 y6 f6 z7 y7 f7
          have FL := Lib.hid (fill8 KR.out (.slice h.tr.1.A h.tr.1.n h.tr.1.c) (.slice h.se.1.A h.se.1.n h.se.1.c) (.slice h.ob.1.A h.ob.1.n h.ob.1.c) (.slice h.pr.1.A h.pr.1.n h.pr.1.c) (.slice h.ev.1.A h.ev.1.n h.ev.1.c) (.slice h.od.1.A h.od.1.n h.od.1.c) (.slice h.ma.1.A h.ma.1.n h.ma.1.c) (.slice h.wa.1.A h.wa.1.n h.wa.1.c))
          have HOF := Lib.hid (HD.out.keepT (FL.out.2.1 (fun j => ∀ cs, ¬ Blk wr j 28 cs) (fun h => h _ KR.out)) (by decide) (by decide) (by decide) (by decide) (by decide) (by decide) (by decide))
          have HBF := Lib.hid (FL.out.2.2 w HB.out (Nat.le_succ_of_le HNE.out.2.2.2))
          have kf := FL.out.1
          clear FL HD HB KR
          generalize ((((((((wr.setCell ⟨Bh + 1, 0, none⟩ (.slice h.tr.1.A h.tr.1.n h.tr.1.c)).setCell ⟨Bh + 1, 1, none⟩ (.slice h.se.1.A h.se.1.n h.se.1.c)).setCell ⟨Bh + 1, 2, none⟩ (.slice h.ob.1.A h.ob.1.n h.ob.1.c)).setCell ⟨Bh + 1, 3, none⟩ (.slice h.pr.1.A h.pr.1.n h.pr.1.c)).setCell ⟨Bh + 1, 4, none⟩ (.slice h.ev.1.A h.ev.1.n h.ev.1.c)).setCell ⟨Bh + 1, 5, none⟩ (.slice h.od.1.A h.od.1.n h.od.1.c)).setCell ⟨Bh + 1, 6, none⟩ (.slice h.ma.1.A h.ma.1.n h.ma.1.c)).setCell ⟨Bh + 1, 7, none⟩ (.slice h.wa.1.A h.wa.1.n h.wa.1.c)) = wf at *
          obtain ⟨⟨r0, r1, r2, r3, r4, r5, r6, r7⟩, -⟩ := cf8 kf
          exact bodyPost_ret (v := .agg #[.slice h.tr.1.A h.tr.1.n h.tr.1.c, .slice h.se.1.A h.se.1.n h.se.1.c, .slice h.ob.1.A h.ob.1.n h.ob.1.c, .slice h.pr.1.A h.pr.1.n h.pr.1.c, .slice h.ev.1.A h.ev.1.n h.ev.1.c, .slice h.od.1.A h.od.1.n h.od.1.c, .slice h.ma.1.A h.ma.1.n h.ma.1.c, .slice h.wa.1.A h.wa.1.n h.wa.1.c]) (by simp [results, Tryz.results46, go_sem, r0, r1, r2, r3, r4, r5, r6, r7]) rfl ⟨h, rfl, HOF.out, HPL.out.1, HBF.out⟩
end Go.Proofs.YtlnbmmaminflcaaGreatDoor
namespace Go.Proofs.YtlnbmmaminflcaaGreatDoor
open Go.RowKit Go.Shelf

def bools (bs : List Bool) : List Value := bs.map Value.bool
theorem bools_length (bs : List Bool) : (bools bs).length = bs.length := by unfold bools; simp
theorem bools_set (bs : List Bool) (k : Nat) (b : Bool) : (bools bs).set k (.bool b) = bools (bs.set k b) := by unfold bools; rw [List.map_set]
theorem bools_get {bs : List Bool} {k : Nat} {b : Bool} (h : bs[k]? = some b) : (bools bs)[k]? = some (.bool b) := by unfold bools; rw [List.getElem?_map, h]; rfl
theorem bool_info : (Tryz.prog.info? 4).map (fun i => (i.zero, i.size, i.bytes)) = some (some (.bool false), 1, 1) := by kernel_rfl
theorem made_bools (n : Nat) : madeCells (Value.bool false).cells (n * 1) = (bools (List.replicate n false)).toArray := by
 apply Array.ext
 ·rw [size_madeCells, List.size_toArray, bools_length, List.length_replicate, Nat.mul_one]
 ·intro j h1 h2
  have hz : (Value.bool false).cells = #[.bool false] := by simp [Value.cells]
  simp only [madeCells, hz, Array.getElem_map, Array.getElem_range, List.getElem_toArray, bools, List.getElem_map, List.getElem_replicate]
  simp [Nat.mod_one]
theorem bool_make (n : Nat) (z : Int) (hz : z = (n : Int)) (hn : n ≤ 1000000) (W : World) :
 (Instr.makeSlice 131 (.int .i64 z) (.int .i64 z)).run Tryz.prog W = .ok (.slice (some ⟨W.heap.size, 0, none⟩) n n) (W.alloc (.cells (bools (List.replicate n false)).toArray 4)) := by
 subst hz
 obtain ⟨i0, hi, hz0, hz1, hz2⟩ := info_parts bool_info
 have hr := run_make (P := Tryz.prog) W 131 4 i0 _ Tryz.underlying131 hi hz0 .i64 .i64 n n (by omega) (by omega) (by rw [hz2]; omega) (by omega)
 simp only [Int.toNat_natCast] at hr
 rw [hz1, made_bools] at hr
 exact hr

def hasK (H : Hist) (t : Int) (k : Nat) (p : Int → Bool) : Bool := (H.ev.take k).any fun e => decide (e.t = t) && p e.kd
def marks (n : Nat) (H : Hist) (k : Nat) (p : Int → Bool) : List Bool := (List.range n).map fun u : Nat => hasK H u k p
def kOne (k : Int) : Bool := decide (k = 1)
def kEnd (k : Int) : Bool := decide (k = 5) || decide (k = 6)
section
variable {n k u : Nat} {H : Hist} {p : Int → Bool} {e : EvP}
theorem marks_len : (marks n H k p).length = n := by simp [marks]
theorem marks_get (h : u < n) : (marks n H k p)[u]? = some (hasK H u k p) := by simp [marks, h]
theorem marks_nil : marks n H 0 p = List.replicate n false := by
 unfold marks
 refine List.ext_getElem (by simp) fun i h1 h2 => by simp [hasK]
theorem hasK_next (h : H.ev[k]? = some e) {t : Int} : hasK H t (k + 1) p = (hasK H t k p || (decide (e.t = t) && p e.kd)) := by
 unfold hasK
 rw [List.take_add_one, h, List.any_append]
 simp
theorem marks_no (h : H.ev[k]? = some e) (hp : p e.kd = false) : marks n H (k + 1) p = marks n H k p := by
 unfold marks
 congr 1
 funext u
 rw [hasK_next h, hp]
 simp
theorem marks_yes (h : H.ev[k]? = some e) (hp : p e.kd = true) {tn : Nat} (ht : e.t = tn) (hn : tn < n) : (marks n H k p).set tn true = marks n H (k + 1) p := by
 refine List.ext_getElem? fun i => ?_
 by_cases hi : i < n
 ·rw [marks_get hi, List.getElem?_set, hasK_next h, hp, ht]
  by_cases e1 : tn = i
  ·subst e1
   simp [marks_len, hn]
  ·rw [if_neg e1, marks_get hi]
   have : ¬ ((tn : Int) = (i : Int)) := by omega
   simp [this]
 ·rw [List.getElem?_eq_none (by rw [List.length_set, marks_len]; omega), List.getElem?_eq_none (by rw [marks_len]; omega)]
theorem marks_all (hk : H.ev.length ≤ k) : hasK H u k kOne = hasB H u 1 ∧ hasK H u k kEnd = (hasB H u 5 || hasB H u 6) := by
 unfold hasK hasB
 rw [List.take_of_length_le hk]
 refine ⟨rfl, ?_⟩
 rw [Bool.eq_iff_iff]
 simp only [List.any_eq_true, Bool.or_eq_true, Bool.and_eq_true, decide_eq_true_eq, kEnd]
 constructor
 ·rintro ⟨e, he, h1, h2 | h2⟩
  ·exact .inl ⟨e, he, h1, h2⟩
  ·exact .inr ⟨e, he, h1, h2⟩
 ·rintro (⟨e, he, h1, h2⟩ | ⟨e, he, h1, h2⟩)
  ·exact ⟨e, he, h1, .inl h2⟩
  ·exact ⟨e, he, h1, .inr h2⟩
end
def leftK (H : Hist) (k : Nat) : List Int := (upI k).filter (openB H)
theorem leftK_all (H : Hist) : leftK H H.tr.length = leftL H := rfl
theorem leftK_len (H : Hist) (k : Nat) : (leftK H k).length ≤ k := by
 have := List.length_filter_le (openB H) (upI k)
 rwa [upI_len] at this
theorem leftK_yes {H : Hist} {k : Nat} (h : openB H k = true) : leftK H (k + 1) = leftK H k ++ [(k : Int)] := by unfold leftK; rw [upI_succ, List.filter_append]; simp [h]
theorem leftK_no {H : Hist} {k : Nat} (h : openB H k = false) : leftK H (k + 1) = leftK H k := by unfold leftK; rw [upI_succ, List.filter_append]; simp [h]

structure MkI (w : World) (m : HistM) (n P Q k : Nat) (X : World) : Prop where
 p : Blk X P 4 (bools (marks n m.pl k kOne)).toArray
 q : Blk X Q 4 (bools (marks n m.pl k kEnd)).toArray
 h : Blk X w.heap.size 28 m.cs
 below : Below w.heap.size w X
 ne : P ≠ Q ∧ w.heap.size < P ∧ w.heap.size < Q
section
variable {w X Y : World} {m : HistM} {n P Q k : Nat}
theorem MkI.on (h : MkI w m n P Q k X) (hb : Below X.heap.size X Y) : MkI w m n P Q k Y := ⟨h.p.below hb h.p.lt, h.q.below hb h.q.lt, h.h.below hb h.h.lt, h.below.trans (hb.mono h.below.size), h.ne⟩
theorem MkI.alloc (h : MkI w m n P Q k X) (o : Obj) : MkI w m n P Q k (X.alloc o) := h.on ((Below.refl _ _).alloc (Nat.le_refl _) o)
theorem MkI.pass (h : MkI w m n P Q k X) {e : EvP} (he : m.pl.ev[k]? = some e) (h1 : kOne e.kd = false) (h2 : kEnd e.kd = false) : MkI w m n P Q (k + 1) X :=
 ⟨by rw [marks_no he h1]; exact h.p, by rw [marks_no he h2]; exact h.q, h.h, h.below, h.ne⟩
theorem MkI.one (h : MkI w m n P Q k X) {e : EvP} (he : m.pl.ev[k]? = some e) (h1 : kOne e.kd = true) (h2 : kEnd e.kd = false) {tn : Nat} (ht : e.t = tn) (hn : tn < n) : MkI w m n P Q (k + 1) (X.setCell ⟨P, tn, none⟩ (.bool true)) := by
 refine ⟨?_, ?_, h.h.far (p := ⟨P, tn, none⟩) (by show w.heap.size ≠ P; have := h.ne; omega) _, h.below.setCell (p := ⟨P, tn, none⟩) (by show w.heap.size ≤ P; have := h.ne; omega) _, h.ne⟩
 ·have := h.p.set_ tn (.bool true)
  rwa [List.setIfInBounds_toArray, bools_set, marks_yes he h1 ht hn] at this
 ·rw [marks_no he h2]
  exact h.q.far (p := ⟨P, tn, none⟩) (Ne.symm h.ne.1) _
theorem MkI.fin (h : MkI w m n P Q k X) {e : EvP} (he : m.pl.ev[k]? = some e) (h1 : kOne e.kd = false) (h2 : kEnd e.kd = true) {tn : Nat} (ht : e.t = tn) (hn : tn < n) : MkI w m n P Q (k + 1) (X.setCell ⟨Q, tn, none⟩ (.bool true)) := by
 refine ⟨?_, ?_, h.h.far (p := ⟨Q, tn, none⟩) (by show w.heap.size ≠ Q; have := h.ne; omega) _, h.below.setCell (p := ⟨Q, tn, none⟩) (by show w.heap.size ≤ Q; have := h.ne; omega) _, h.ne⟩
 ·rw [marks_no he h1]
  exact h.p.far (p := ⟨Q, tn, none⟩) h.ne.1 _
 ·have := h.q.set_ tn (.bool true)
  rwa [List.setIfInBounds_toArray, bools_set, marks_yes he h2 ht hn] at this
theorem MkI.grown (h : MkI w m n P Q k X) {v v' : Value} {j : Nat} {xs ys : List Value} {j' : Nat} (_ho : Y.ownsRow w.heap.size 3 1 v' j' ys) (hg : X.grownBy Y v.ownBlock) (hx : X.ownsRow w.heap.size 3 1 v j xs) : MkI w m n P Q k Y := by
 have k1 : KeepT 3 X Y := KeepT.grown hx hg
 exact ⟨k1.blk h.p (by decide), k1.blk h.q (by decide), k1.blk h.h (by decide), h.below.grown hg h.below.size fun g hg2 => (own_in_block hx hg2).1, h.ne⟩
theorem MkI.cellP (h : MkI w m n P Q k X) {u : Nat} (hu : u < n) : X.cell? ⟨P, u, none⟩ = some (.bool (hasK m.pl u k kOne)) := by rw [h.p.cell, List.getElem?_toArray]; exact bools_get (marks_get hu)
theorem MkI.cellQ (h : MkI w m n P Q k X) {u : Nat} (hu : u < n) : X.cell? ⟨Q, u, none⟩ = some (.bool (hasK m.pl u k kEnd)) := by rw [h.q.cell, List.getElem?_toArray]; exact bools_get (marks_get hu)
end
def LeftR (H : Hist) (w : World) : Ending → World → Prop := fun e w' => ∃ (A : Option Addr) (c : Nat), e = .returned (.slice A (leftL H).length c) ∧ w'.ownsRow w.heap.size 3 1 (.slice A (leftL H).length c) (leftL H).length (ints (leftL H)) ∧ Below w.heap.size w w'

set_option maxRecDepth 100000 in
set_option maxHeartbeats 8000000 in
theorem open_any (m : HistM) (hS : Small m.pl) (hs : shapedB m.pl = true) (w : World) (hm : HRd w w.heap.size m) : Calls Tryz.prog 56 #[.agg #[.slice m.tr.1.A m.tr.1.n m.tr.1.c, .slice m.se.1.A m.se.1.n m.se.1.c, .slice m.ob.1.A m.ob.1.n m.ob.1.c, .slice m.pr.1.A m.pr.1.n m.pr.1.c, .slice m.ev.1.A m.ev.1.n m.ev.1.c, .slice m.od.1.A m.od.1.n m.od.1.c, .slice m.ma.1.A m.ma.1.n m.ma.1.c, .slice m.wa.1.A m.wa.1.n m.wa.1.c]] w (LeftR m.pl w) := by
 obtain ⟨i0, hi, hz0, hz1, hz2⟩ := info_parts int_info11
 obtain ⟨kh, b0, hs0⟩ := ibox w #[.slice m.tr.1.A m.tr.1.n m.tr.1.c, .slice m.se.1.A m.se.1.n m.se.1.c, .slice m.ob.1.A m.ob.1.n m.ob.1.c, .slice m.pr.1.A m.pr.1.n m.pr.1.c, .slice m.ev.1.A m.ev.1.n m.ev.1.c, .slice m.od.1.A m.od.1.n m.od.1.c, .slice m.ma.1.A m.ma.1.n m.ma.1.c, .slice m.wa.1.A m.wa.1.n m.wa.1.c] 28
 obtain ⟨n, hn⟩ : ∃ n, m.tr.1.n = n := ⟨_, rfl⟩
 have hnl : m.tr.2.length = n := (strs_len hm.tr).trans hn
 have HNL : Hid (m.pl.tr.length = n) := hnl
 have HN := Lib.hid hn
 have hn60 : n ≤ 60 := by have := hS.tr; have := HNL.out; omega
 have hmk : ∀ X, (Instr.makeSlice 131 (.int .i64 (n : Int)) (.int .i64 (n : Int))).run Tryz.prog X = .ok (.slice (some ⟨X.heap.size, 0, none⟩) n n) (X.alloc (.cells (bools (List.replicate n false)).toArray 4)) := fun X => bool_make n n rfl (by omega) X
 have KH := Lib.hid kh
 have B0 := Lib.hid b0
 have HFIT := Lib.hid hm.fit
 have HSH := Lib.hid hs
 clear kh b0 hs0 hn hnl hs
 go_enter Tryz.func56, Tryz.ntmps56
 go_upto_region 1 with fail
 go_cut [3, 4] (fun s3 s4 wx => ∃ (P Q : Nat), s3 = .slice (some ⟨P, 0, none⟩) n n ∧ s4 = .slice (some ⟨Q, 0, none⟩) n n ∧ Hid (MkI w m n P Q 0 wx))
 case first =>
  refine wp_region_noPanic ?_
  refine wp_region_held_drew (S := fun W => Blk W w.heap.size 28 m.cs) (by kernel_rfl) KH.out.drew (fun hHeld => ?_)
  have KH := Lib.hid KH.out.drew
  have B0 := Lib.hid B0.out.drew
  generalize (w.alloc (.cells #[.slice m.tr.1.A m.tr.1.n m.tr.1.c, .slice m.se.1.A m.se.1.n m.se.1.c, .slice m.ob.1.A m.ob.1.n m.ob.1.c, .slice m.pr.1.A m.pr.1.n m.pr.1.c, .slice m.ev.1.A m.ev.1.n m.ev.1.c, .slice m.od.1.A m.od.1.n m.od.1.c, .slice m.ma.1.A m.ma.1.n m.ma.1.c, .slice m.wa.1.A m.wa.1.n m.wa.1.c] 28)).drew = wd at *
  refine tkv 0 (some 9) (.pointer (some ⟨w.heap.size, 0, none⟩)) rfl rfl (fun w' hSw => by (try dsimp only at hSw); go_simp) ?_
  try simp only [Act.put, sA, sB, sC]
  refine tkv 1 (some 10) (.slice m.tr.1.A n m.tr.1.c) rfl rfl (fun w' hSw => by (have c9 : w'.cell? ⟨w.heap.size, 0, none⟩ = some (.slice m.tr.1.A n m.tr.1.c) := by rw [← HN.out]; exact Blk.cell (w := w') hSw 0); go_simp) ?_
  try simp only [Act.put, sA, sB, sC]
  refine tkv 2 (some 11) (.int .i64 (n : Int)) rfl rfl (fun w' hSw => by (try dsimp only at hSw); go_simp) ?_
  try simp only [Act.put, sA, sB, sC]
  refine tkv 4 (some 13) (.pointer (some ⟨w.heap.size, 0, none⟩)) rfl rfl (fun w' hSw => by (try dsimp only at hSw); go_simp) ?_
  try simp only [Act.put, sA, sB, sC]
  refine tkv 5 (some 14) (.slice m.tr.1.A n m.tr.1.c) rfl rfl (fun w' hSw => by (have c9 : w'.cell? ⟨w.heap.size, 0, none⟩ = some (.slice m.tr.1.A n m.tr.1.c) := by rw [← HN.out]; exact Blk.cell (w := w') hSw 0); go_simp) ?_
  try simp only [Act.put, sA, sB, sC]
  refine tkv 6 (some 15) (.int .i64 (n : Int)) rfl rfl (fun w' hSw => by (try dsimp only at hSw); go_simp) ?_
  try simp only [Act.put, sA, sB, sC]
  refine rdH [3, 7] ?_
  refine AllReadyH.cons rfl (fun K hK => ?_) ?_
  ·go_simp
   refine hK.out _ _ (KH.out.alloc _) (fun hHeld => ?_)
   clear hK K
   try simp only [Act.put, sA, sB, sC]
   have hb9 : Below wd.heap.size wd (wd.alloc (.cells (bools (List.replicate n false)).toArray 4)) := (Below.refl _ _).alloc (Nat.le_refl _) _
   have hk9 := Blk.new wd 4 (bools (List.replicate n false)).toArray
   have HKP := Lib.hid hk9
   have HLTP : Hid (w.heap.size < wd.heap.size) := KH.out.lt
   have KH := Lib.hid (KH.out.below hb9 KH.out.lt)
   have B0 := Lib.hid (B0.out.trans (hb9.mono B0.out.size))
   clear hb9 hk9 hHeld
   generalize wd.alloc (.cells (bools (List.replicate n false)).toArray 4) = uP at *
   generalize wd.heap.size = P at *
   have hHeld := KH.out
   refine tkv 8 (some 3) (.slice (some ⟨P, 0, none⟩) n n) rfl rfl (fun w' hSw => by (try dsimp only at hSw); go_simp) ?_
   try simp only [Act.put, sA, sB, sC]
   refine rdH [7] ?_
   refine AllReadyH.cons rfl (fun K hK => ?_) ?_
   ·go_simp
    refine hK.out _ _ (KH.out.alloc _) (fun hHeld => ?_)
    clear hK K
    try simp only [Act.put, sA, sB, sC]
    have hb9 : Below uP.heap.size uP (uP.alloc (.cells (bools (List.replicate n false)).toArray 4)) := (Below.refl _ _).alloc (Nat.le_refl _) _
    have hk9 := Blk.new uP 4 (bools (List.replicate n false)).toArray
    have HKQ := Lib.hid hk9
    have HLTQ : Hid (w.heap.size < uP.heap.size) := KH.out.lt
    have HNE : Hid (P ≠ uP.heap.size) := Nat.ne_of_lt HKP.out.lt
    have HKP := Lib.hid (HKP.out.below hb9 HKP.out.lt)
    have KH := Lib.hid (KH.out.below hb9 KH.out.lt)
    have B0 := Lib.hid (B0.out.trans (hb9.mono B0.out.size))
    clear hb9 hk9 hHeld
    generalize uP.alloc (.cells (bools (List.replicate n false)).toArray 4) = uQ at *
    generalize uP.heap.size = Q at *
    have hHeld := KH.out
    refine tkv 9 (some 4) (.slice (some ⟨Q, 0, none⟩) n n) rfl rfl (fun w' hSw => by (try dsimp only at hSw); go_simp) ?_
    try simp only [Act.put, sA, sB, sC]
    refine wpAnyH_done (by kernel_rfl) ?_ _
    refine NoPanic.normal ?_
    go_wp2_with fail
    go_meet
    exact ⟨P, Q, rfl, rfl, ⟨by rw [marks_nil]; exact HKP.out, by rw [marks_nil]; exact HKQ.out, KH.out, B0.out, ⟨HNE.out, HLTP.out, HLTQ.out⟩⟩⟩
   exact AllReadyH.nil
  refine AllReadyH.cons rfl (fun K hK => ?_) ?_
  ·go_simp
   refine hK.out _ _ (KH.out.alloc _) (fun hHeld => ?_)
   clear hK K
   try simp only [Act.put, sA, sB, sC]
   have hb9 : Below wd.heap.size wd (wd.alloc (.cells (bools (List.replicate n false)).toArray 4)) := (Below.refl _ _).alloc (Nat.le_refl _) _
   have hk9 := Blk.new wd 4 (bools (List.replicate n false)).toArray
   have HKP := Lib.hid hk9
   have HLTP : Hid (w.heap.size < wd.heap.size) := KH.out.lt
   have KH := Lib.hid (KH.out.below hb9 KH.out.lt)
   have B0 := Lib.hid (B0.out.trans (hb9.mono B0.out.size))
   clear hb9 hk9 hHeld
   generalize wd.alloc (.cells (bools (List.replicate n false)).toArray 4) = uP at *
   generalize wd.heap.size = P at *
   have hHeld := KH.out
   refine rdH [3] ?_
   refine AllReadyH.cons rfl (fun K hK => ?_) ?_
   ·go_simp
    refine hK.out _ _ (KH.out.alloc _) (fun hHeld => ?_)
    clear hK K
    try simp only [Act.put, sA, sB, sC]
    have hb9 : Below uP.heap.size uP (uP.alloc (.cells (bools (List.replicate n false)).toArray 4)) := (Below.refl _ _).alloc (Nat.le_refl _) _
    have hk9 := Blk.new uP 4 (bools (List.replicate n false)).toArray
    have HKQ := Lib.hid hk9
    have HLTQ : Hid (w.heap.size < uP.heap.size) := KH.out.lt
    have HNE : Hid (P ≠ uP.heap.size) := Nat.ne_of_lt HKP.out.lt
    have HKP := Lib.hid (HKP.out.below hb9 HKP.out.lt)
    have KH := Lib.hid (KH.out.below hb9 KH.out.lt)
    have B0 := Lib.hid (B0.out.trans (hb9.mono B0.out.size))
    clear hb9 hk9 hHeld
    generalize uP.alloc (.cells (bools (List.replicate n false)).toArray 4) = uQ at *
    generalize uP.heap.size = Q at *
    have hHeld := KH.out
    refine tkv 8 (some 3) (.slice (some ⟨Q, 0, none⟩) n n) rfl rfl (fun w' hSw => by (try dsimp only at hSw); go_simp) ?_
    try simp only [Act.put, sA, sB, sC]
    refine tkv 9 (some 4) (.slice (some ⟨P, 0, none⟩) n n) rfl rfl (fun w' hSw => by (try dsimp only at hSw); go_simp) ?_
    try simp only [Act.put, sA, sB, sC]
    refine wpAnyH_done (by kernel_rfl) ?_ _
    refine NoPanic.normal ?_
    go_wp2_with fail
    go_meet
    exact ⟨Q, P, rfl, rfl, ⟨by rw [marks_nil]; exact HKQ.out, by rw [marks_nil]; exact HKP.out, KH.out, B0.out, ⟨Ne.symm HNE.out, HLTQ.out, HLTP.out⟩⟩⟩
   exact AllReadyH.nil
  exact AllReadyH.nil
 case rest =>
  clear KH B0 hmk
  obtain ⟨P, Q, rfl, rfl, HM⟩ := hcut
  have z4 : wc.cell? ⟨w.heap.size, 4, none⟩ = some (.slice m.ev.1.A m.ev.1.n m.ev.1.c) := HM.out.h.cell 4
  go_wp2_with fail
  have HLEN : Hid (m.pl.ev.length = m.ev.1.n) := by show m.pl.ev.length = _; rw [← HFIT.out.ev.1]; unfold HistM.pl; simp
  obtain ⟨en, hen⟩ : ∃ en, m.ev.1.n = en := ⟨_, rfl⟩
  have HEN := Lib.hid hen
  have hn2 : en ≤ 200 := by have := hS.ev; have := HLEN.out; omega
  rw [hen] at HLEN z4 ⊢
  clear z4 hen
  go_loopw [20] (fun v wr => ∃ i : Nat, i ≤ en ∧ v = .int .i64 i ∧ Hid (MkI w m n P Q i wr)) (fun v _ => en - (intOf v).toNat)
  case atStart => exact ⟨0, Nat.zero_le _, rfl, HM⟩
  case round =>
   clear HM
   obtain ⟨i, hk, rfl, HM⟩ := hrel
   by_cases hlt : i < en
   ·have hlt2 : (i : Int) < (en : Int) := by omega
    obtain ⟨p, hp⟩ : ∃ p, m.ev.2[i]? = some p := ⟨m.ev.2[i]'(by rw [HFIT.out.ev.1, HEN.out]; exact hlt), List.getElem?_eq_getElem _⟩
    obtain ⟨b, o, hA, hb, hc⟩ := row_cells evCs_len (by omega) (hm.ev.below HM.out.below) hp
    have HE : Hid (m.pl.ev[i]? = some p.1) := by show m.pl.ev[i]? = _; unfold HistM.pl; simp [hp]
    have ht0 := shaped_in HSH.out (refs_t (List.mem_of_getElem? HE.out))
    obtain ⟨tn, htn⟩ : ∃ tn : Nat, p.1.t = (tn : Int) := ⟨p.1.t.toNat, by omega⟩
    have hmany : m.pl.many 0 = n := HNL.out
    have htl : tn < n := by rw [hmany] at ht0; simp only at ht0; omega
    have htl2 : (tn : Int) < (n : Int) := by omega
    rw [hA]
    have c0 : wr.cell? ⟨b, o + i * 9, none⟩ = some (.int .i64 p.1.kd) := hc 0 _ rfl
    have c1 : wr.cell? ⟨b, o + i * 9 + 1, none⟩ = some (.int .i64 (tn : Int)) := by rw [← htn]; exact hc 1 _ rfl
    have c2 : wr.cell? ⟨b, o + i * 9 + 2, none⟩ = some (.int .i64 p.1.s) := hc 2 _ rfl
    have c3 : wr.cell? ⟨b, o + i * 9 + 3, none⟩ = some (.int .i64 p.1.lev) := hc 3 _ rfl
    have c4 : wr.cell? ⟨b, o + i * 9 + 4, none⟩ = some (.int .i64 p.1.o) := hc 4 _ rfl
    have c5 : wr.cell? ⟨b, o + i * 9 + 5, none⟩ = some (.int .i64 p.1.vt) := hc 5 _ rfl
    have c6 : wr.cell? ⟨b, o + i * 9 + 6, none⟩ = some (.int .i64 p.1.vk) := hc 6 _ rfl
    have c7 : wr.cell? ⟨b, o + i * 9 + 7, none⟩ = some (.int .i64 p.1.p) := hc 7 _ rfl
    have c8 : wr.cell? ⟨b, o + i * 9 + 8, none⟩ = some (.slice p.2.A p.2.n p.2.c) := hc 8 _ rfl
    have HT := Lib.hid htn
    have HM2 := Lib.hid (HM.out.alloc (.cells #[.int .i64 p.1.kd, .int .i64 (tn : Int), .int .i64 p.1.s, .int .i64 p.1.lev, .int .i64 p.1.o, .int .i64 p.1.vt, .int .i64 p.1.vk, .int .i64 p.1.p, .slice p.2.A p.2.n p.2.c] 39))
    have yP := HM2.out.cellP htl
    have fP := HM2.out.p.frozen tn
    have yQ := HM2.out.cellQ htl
    have fQ := HM2.out.q.frozen tn
    clear hc hp hA ht0 hmany htn
    by_cases h1 : p.1.kd = 1
    ·have hb1 : (p.1.kd == 1) = true := by simpa using h1
     have HX := Lib.hid (HM2.out.one HE.out (by unfold kOne; simpa using h1) (by unfold kEnd; simp [h1]) HT.out htl)
     clear h1
     go_wp2_with fail
     go_roundw
     case rel => exact ⟨i + 1, by omega, by go_num, HX⟩
     case measure => simp [intOf]; omega
    ·have hb1 : (p.1.kd == 1) = false := by simpa using h1
     by_cases h5 : p.1.kd = 5
     ·have hb5 : (p.1.kd == 5) = true := by simpa using h5
      have HX := Lib.hid (HM2.out.fin HE.out (by unfold kOne; simpa using h1) (by unfold kEnd; simp [h5]) HT.out htl)
      clear h1 h5
      go_wp2_with fail
      go_roundw
      case rel => exact ⟨i + 1, by omega, by go_num, HX⟩
      case measure => simp [intOf]; omega
     ·have hb5 : (p.1.kd == 5) = false := by simpa using h5
      by_cases h6 : p.1.kd = 6
      ·have hb6 : (p.1.kd == 6) = true := by simpa using h6
       have HX := Lib.hid (HM2.out.fin HE.out (by unfold kOne; simpa using h1) (by unfold kEnd; simp [h6]) HT.out htl)
       clear h1 h5 h6
       go_wp2_with fail
       go_roundw
       case rel => exact ⟨i + 1, by omega, by go_num, HX⟩
       case measure => simp [intOf]; omega
      ·have hb6 : (p.1.kd == 6) = false := by simpa using h6
       have HX := Lib.hid (HM2.out.pass HE.out (by unfold kOne; simpa using h1) (by unfold kEnd; simp [h5, h6]))
       clear h1 h5 h6
       go_wp2_with fail
       go_roundw
       case rel => exact ⟨i + 1, by omega, by go_num, HX⟩
       case measure => simp [intOf]; omega
   ·obtain rfl : i = en := by omega
    have z0 : wr.cell? ⟨w.heap.size, 0, none⟩ = some (.slice m.tr.1.A n m.tr.1.c) := by rw [← HN.out]; exact HM.out.h.cell 0
    go_wp2_with fail
    rename World => wo
    clear z0
    have HALL := Lib.hid fun (u : Nat) => marks_all (u := u) (Nat.le_of_eq HLEN.out)
    clear HLEN
    have HG : Hid (GotI w (leftK m.pl 0) (.slice none 0 0) wo) := ⟨World.ownsRow_nil _ _ _ _, HM.out.below⟩
    go_loopw [7, 43] (fun v i3 wr => ∃ k : Nat, k ≤ n ∧ i3 = .int .i64 k ∧ Hid (MkI w m n P Q i wr) ∧ Hid (GotI w (leftK m.pl k) v wr)) (fun _ i3 _ => n - (intOf i3).toNat)
    case atStart => exact ⟨0, Nat.zero_le _, rfl, HM, HG⟩
    case round =>
     clear HM HG
     obtain ⟨k, hk3, rfl, HM, HG⟩ := hrel
     by_cases hkn : k < n
     ·have hkn2 : (k : Int) < (n : Int) := by omega
      have yP := HM.out.cellP hkn
      have yQ := HM.out.cellQ hkn
      have hop : openB m.pl k = (hasK m.pl k i kOne && !hasK m.pl k i kEnd) := by rw [(HALL.out k).1, (HALL.out k).2]; unfold openB; simp
      have hql := leftK_len m.pl k
      have HQL := Lib.hid hql
      clear hql
      cases h1 : hasK m.pl k i kOne
      ·rw [h1] at yP
       have HG2 := Lib.hid (HG.out.cast (leftK_no (by rw [hop, h1]; rfl)))
       clear hop h1
       go_wp2_with fail
       go_roundw
       case rel => exact ⟨k + 1, by omega, by go_num, HM, HG2⟩
       case measure => simp [intOf]; omega
      ·rw [h1] at yP
       cases h2 : hasK m.pl k i kEnd
       ·rw [h2] at yQ
        have HY := Lib.hid (leftK_yes (H := m.pl) (k := k) (by rw [hop, h1, h2]; rfl))
        clear hop h1 h2
        have OW := Lib.hid (HG.out.alloc (.cells #[.int .i64 (k : Int)] 3))
        have HM2 := Lib.hid (HM.out.alloc (.cells #[.int .i64 (k : Int)] 3))
        have hs1 := HG.out.below.size
        generalize hq : leftK m.pl k = q at *
        have hql := HQL.out
        go_wp2_with (at_builtin; refine wpList_append_own _ rfl (.tmp 57) (.tmp 59) 45 rfl w.heap.size 3 i0 _ 1 8 Tryz.underlying45 hi hz0 hz1 hz2 rfl (by decide) _ _ _ rfl OW.out.own ⟨wr.heap.size, 0, none⟩ 1 1 [.int .i64 (k : Int)] rfl rfl (cell_one_new wr (.int .i64 (k : Int)) 3) (by simp [Value.oneCell']) (by unfold maxLen; omega) (by omega) (by simp at hs1 ⊢; omega) ?_; intro v' w2 hown' hgrow _)
        have HN2 : Hid (GotI w (leftK m.pl (k + 1)) v' w2) := by show GotI _ _ _ _; rw [HY.out]; exact OW.out.more hown' hgrow
        have HM3 := Lib.hid (HM2.out.grown hown' hgrow OW.out.own)
        clear hown' hgrow OW HG hs1 hq hql HM2
        go_wp2_with fail
        go_roundw
        case rel => exact ⟨k + 1, by omega, by go_num, HM3, HN2⟩
        case measure => simp [intOf]; omega
       ·rw [h2] at yQ
        have HG2 := Lib.hid (HG.out.cast (leftK_no (by rw [hop, h1, h2]; rfl)))
        clear hop h1 h2
        go_wp2_with fail
        go_roundw
        case rel => exact ⟨k + 1, by omega, by go_num, HM, HG2⟩
        case measure => simp [intOf]; omega
     ·obtain rfl : k = n := by omega
      have HF : Hid (leftK m.pl k = leftL m.pl) := by show _ = _; rw [← leftK_all, HNL.out]
      obtain ⟨A, c, rfl, h1, h2⟩ := own_form2 HG.out.own
      go_wp2_with fail
      go_ret
      have h9 := HG.out.own
      rw [HF.out] at h9
      exact ⟨A, c, by rw [HF.out]; rfl, h9, HG.out.below⟩
end Go.Proofs.YtlnbmmaminflcaaGreatDoor
namespace Go.Proofs.YtlnbmmaminflcaaGreatDoor
open Go.RowKit Go.Shelf

theorem lit_of (w : World) (t : TypeId) (s : Nat) (xs : List Value) (cs : Array Value) (h : cs = xs.toArray) (hl : xs.length = 1 * s) : Reads (w.alloc (.cells cs t)) (w.alloc (.cells cs t)).heap.size s (some ⟨w.heap.size, 0, none⟩) 1 xs := by
 subst h
 exact ⟨hl, fun _ => ⟨_, rfl, by simp, fun j u hu => by
  rw [Go.WideShapes.add_plain, Nat.zero_add, (Blk.new w t xs.toArray).cell, List.getElem?_toArray]; exact hu⟩⟩
def emptyH : Hist := ⟨[], [], [], [], [], [], [], []⟩
def emptyM : HistM := ⟨nilS, nilS, nilS, nilS, (⟨none, 0, 0⟩, []), (⟨none, 0, 0⟩, []), (⟨none, 0, 0⟩, []), (⟨none, 0, 0⟩, [])⟩
theorem own_empty (B : Nat) (X : World) : HOwn B X emptyM := ⟨nil_names _, World.ownsRow_nil _ _ _ _, World.ownsRow_nil _ _ _ _, World.ownsRow_nil _ _ _ _, World.ownsRow_nil _ _ _ _, RG.nil, RG.nil⟩
def addEv (h : HistM) (A : Option Addr) (c : Nat) (e : EvP) : HistM := { h with ev := (⟨A, h.ev.1.n + 1, c⟩, h.ev.2 ++ [(e, ⟨none, 0, 0⟩)]) }
theorem add_pl (h : HistM) (A : Option Addr) (c : Nat) (e : EvP) : (addEv h A c e).pl = { h.pl with ev := h.pl.ev ++ [e] } := by
 unfold addEv HistM.pl
 simp
theorem HOwn.addE {B : Nat} {X Y : World} {h : HistM} (ho : HOwn B X h) {A : Option Addr} {c : Nat} {e : EvP} (he : e.scan = []) (hB : B ≤ X.heap.size)
 (hown : Y.ownsRow B 39 9 (.slice A (h.ev.1.n + 1) c) (h.ev.1.n + 1) (h.ev.2.flatMap evCs ++ evCs (e, ⟨none, 0, 0⟩))) (hg : X.grownBy Y (Value.slice h.ev.1.A h.ev.1.n h.ev.1.c).ownBlock) : HOwn B Y (addEv h A c e) := by
 have k1 : KeepT 39 X Y := KeepT.grown ho.ev hg
 have hs : X.heap.size ≤ Y.heap.size := by
  have := (Below.refl X.heap.size X).size
  exact hg.size
 refine ⟨ho.nm.keepT k1 (by decide), ?_, k1.own ho.od (by decide), k1.own ho.ma (by decide), k1.own ho.wa (by decide), ?_, ho.it.keepT k1 (by decide)⟩
 ·show Y.ownsRow B _ 9 _ _ ((h.ev.2 ++ [((e, ⟨none, 0, 0⟩) : EvP × SH)]).flatMap evCs)
  rw [List.flatMap_append, List.flatMap_cons, List.flatMap_nil, List.append_nil]
  exact hown
 ·show RG _ 3 B Y ((h.ev.2 ++ [((e, ⟨none, 0, 0⟩) : EvP × SH)]).map fun p => (p.1.scan.flatMap seCs, p.2))
  rw [List.map_append]
  have := (ho.sc.keepT k1 (by decide)).add (Below.refl Y.heap.size Y) (Nat.le_trans hB hs) (hd := ⟨none, 0, 0⟩) (xs := []) (World.ownsRow_nil _ _ _ _)
  rw [← show e.scan.flatMap seCs = [] by rw [he]; rfl] at this
  exact this
structure CmI (w : World) (B6 : Nat) (q : List Int) (A2 : Option Addr) (c2 : Nat) (H : Hist) (k : Nat) (X : World) (h : HistM) : Prop where
 own : HOwn w.heap.size X h
 b6 : Blk X B6 28 h.cs
 br : Blk X (w.heap.size + 1) 28 zeroH
 row : X.ownsRow w.heap.size 3 1 (.slice A2 q.length c2) q.length (ints q)
 below : Below w.heap.size w X
 ne : w.heap.size + 1 < B6
 pl : h.pl = { H with ev := H.ev ++ (q.take k).map abortE }
 n : h.ev.1.n = H.ev.length + k
section
variable {w X Y : World} {B6 : Nat} {q : List Int} {A2 : Option Addr} {c2 : Nat} {H : Hist} {k : Nat} {h : HistM}
theorem CmI.on (c : CmI w B6 q A2 c2 H k X h) (hb : Below X.heap.size X Y) : CmI w B6 q A2 c2 H k Y h :=
 ⟨c.own.on hb, c.b6.below hb c.b6.lt, c.br.below hb c.br.lt, own_on c.row hb, c.below.trans (hb.mono c.below.size), c.ne, c.pl, c.n⟩
theorem CmI.add (c : CmI w B6 q A2 c2 H k X h) {u : Int} (hu : q[k]? = some u) {A : Option Addr} {c' : Nat}
 (hown : Y.ownsRow w.heap.size 39 9 (.slice A (h.ev.1.n + 1) c') (h.ev.1.n + 1) (h.ev.2.flatMap evCs ++ evCs (abortE u, ⟨none, 0, 0⟩))) (hg : X.grownBy Y (Value.slice h.ev.1.A h.ev.1.n h.ev.1.c).ownBlock) :
 Blk Y B6 28 h.cs ∧ CmI w B6 q A2 c2 H (k + 1) (Y.setCell ⟨B6, 4, none⟩ (.slice A (h.ev.1.n + 1) c')) (addEv h A c' (abortE u)) := by
 have k1 : KeepT 39 X Y := KeepT.grown c.own.ev hg
 have b6 := k1.blk c.b6 (by decide)
 have k2 : KeepT 28 Y (Y.setCell ⟨B6, 4, none⟩ (.slice A (h.ev.1.n + 1) c')) := box_turn b6 4 _
 refine ⟨b6, (own_step (c.own.addE rfl c.below.size hown hg) b6 4 _).1, b6.set_ 4 _, (k1.blk c.br (by decide)).far (p := ⟨B6, 4, none⟩) (by show w.heap.size + 1 ≠ B6; have := c.ne; omega) _, k2.own (k1.own c.row (by decide)) (by decide), ?_, c.ne, ?_, ?_⟩
 ·exact (c.below.grown hg c.below.size fun g hg2 => (own_in_block c.own.ev hg2).1).setCell (p := ⟨B6, 4, none⟩) (by show w.heap.size ≤ B6; have := c.ne; omega) _
 ·rw [add_pl, c.pl, List.take_add_one, hu]
  simp
 ·show h.ev.1.n + 1 = _
  rw [c.n]
  omega
end
def ComIs (H : Hist) (w : World) : Ending → World → Prop := fun e w' => ∃ n : HistM, e = .returned (.tuple #[.agg #[.slice n.tr.1.A n.tr.1.n n.tr.1.c, .slice n.se.1.A n.se.1.n n.se.1.c, .slice n.ob.1.A n.ob.1.n n.ob.1.c, .slice n.pr.1.A n.pr.1.n n.pr.1.c, .slice n.ev.1.A n.ev.1.n n.ev.1.c, .slice n.od.1.A n.od.1.n n.od.1.c, .slice n.ma.1.A n.ma.1.n n.ma.1.c, .slice n.wa.1.A n.wa.1.n n.wa.1.c], .int .i64 (checkE H)]) ∧ HOwn w.heap.size w' n ∧ n.pl = (if rightB H = true then comP H else emptyH) ∧ Below w.heap.size w w'

set_option maxRecDepth 100000 in
set_option maxHeartbeats 8000000 in
theorem complete_any (m : HistM) (hS : Small m.pl) (w : World) (hT : Tabs w) (hm : HRd w w.heap.size m) : Calls Tryz.prog 19 #[.agg #[.slice m.tr.1.A m.tr.1.n m.tr.1.c, .slice m.se.1.A m.se.1.n m.se.1.c, .slice m.ob.1.A m.ob.1.n m.ob.1.c, .slice m.pr.1.A m.pr.1.n m.pr.1.c, .slice m.ev.1.A m.ev.1.n m.ev.1.c, .slice m.od.1.A m.od.1.n m.od.1.c, .slice m.ma.1.A m.ma.1.n m.ma.1.c, .slice m.wa.1.A m.wa.1.n m.wa.1.c]] w (ComIs m.pl w) := by
 obtain ⟨i0, hi, hz0, hz1, hz2⟩ := info_parts ev_info
 obtain ⟨kh, kr, b0, hs0⟩ := itwo w #[.slice m.tr.1.A m.tr.1.n m.tr.1.c, .slice m.se.1.A m.se.1.n m.se.1.c, .slice m.ob.1.A m.ob.1.n m.ob.1.c, .slice m.pr.1.A m.pr.1.n m.pr.1.c, .slice m.ev.1.A m.ev.1.n m.ev.1.c, .slice m.od.1.A m.od.1.n m.od.1.c, .slice m.ma.1.A m.ma.1.n m.ma.1.c, .slice m.wa.1.A m.wa.1.n m.wa.1.c] #[.slice none 0 0, .slice none 0 0, .slice none 0 0, .slice none 0 0, .slice none 0 0, .slice none 0 0, .slice none 0 0, .slice none 0 0] 28 28
 have HC := Lib.hid (check11_any m hS _ (hT.on b0 (Nat.le_refl _)) ((hm.on b0).more b0.size))
 have KH := Lib.hid kh
 have KR := Lib.hid kr
 have B0 := Lib.hid b0
 have HFIT := Lib.hid hm.fit
 have HRDS : Hid (∀ W, Below w.heap.size w W → HRd W W.heap.size m) := fun W hW => (hm.on hW).more hW.size
 clear kh kr b0 hs0 hm
 go_enter Tryz.func19, Tryz.ntmps19
 go_wp2_with fail
 refine HC.out.mono ?_
 rintro e w1 ⟨rfl, b1⟩
 have KH := Lib.hid (KH.out.below b1 KH.out.lt)
 have KR := Lib.hid (KR.out.below b1 KR.out.lt)
 have BW := Lib.hid (B0.out.trans (b1.mono B0.out.size))
 clear b1 HC B0
 cases hx : rightB m.pl
 ·have HX := Lib.hid (checkE_no hx)
  have HR := Lib.hid hx
  rw [checkE_no hx]
  clear hx
  have HOE := Lib.hid (own_empty w.heap.size w1)
  obtain ⟨y0, y1, y2, y3, y4, y5, y6, y7⟩ := c8 KR.out
  have f0 := KR.out.frozen 0
  have f1 := KR.out.frozen 1
  have f2 := KR.out.frozen 2
  have f3 := KR.out.frozen 3
  have f4 := KR.out.frozen 4
  have f5 := KR.out.frozen 5
  have f6 := KR.out.frozen 6
  have f7 := KR.out.frozen 7
  go_wp2_with fail
  clear y0 f0 y1 f1 y2 f2 y3 f3 y4 f4 y5 f5 y6 f6 y7 f7
  have HF0 := Lib.hid (own_step (HOE.out) (KR.out) 0 (.slice none 0 0))
  have HF1 := Lib.hid (own_step (HF0.out.1) (HF0.out.2) 1 (.slice none 0 0))
  have HF2 := Lib.hid (own_step (HF1.out.1) (HF1.out.2) 2 (.slice none 0 0))
  have HF3 := Lib.hid (own_step (HF2.out.1) (HF2.out.2) 3 (.slice none 0 0))
  have HF4 := Lib.hid (own_step (HF3.out.1) (HF3.out.2) 4 (.slice none 0 0))
  have HF5 := Lib.hid (own_step (HF4.out.1) (HF4.out.2) 5 (.slice none 0 0))
  have HF6 := Lib.hid (own_step (HF5.out.1) (HF5.out.2) 6 (.slice none 0 0))
  have HF7 := Lib.hid (own_step (HF6.out.1) (HF6.out.2) 7 (.slice none 0 0))
  have HBF := Lib.hid ((((((((((((((((BW.out).setCell (p := ⟨w.heap.size + 1, 0, none⟩) (Nat.le_succ _) (.slice none 0 0))).setCell (p := ⟨w.heap.size + 1, 1, none⟩) (Nat.le_succ _) (.slice none 0 0))).setCell (p := ⟨w.heap.size + 1, 2, none⟩) (Nat.le_succ _) (.slice none 0 0))).setCell (p := ⟨w.heap.size + 1, 3, none⟩) (Nat.le_succ _) (.slice none 0 0))).setCell (p := ⟨w.heap.size + 1, 4, none⟩) (Nat.le_succ _) (.slice none 0 0))).setCell (p := ⟨w.heap.size + 1, 5, none⟩) (Nat.le_succ _) (.slice none 0 0))).setCell (p := ⟨w.heap.size + 1, 6, none⟩) (Nat.le_succ _) (.slice none 0 0))).setCell (p := ⟨w.heap.size + 1, 7, none⟩) (Nat.le_succ _) (.slice none 0 0))
  have kf := HF7.out.2
  simp at kf
  have HOF := Lib.hid HF7.out.1
  clear HF0 HF1 HF2 HF3 HF4 HF5 HF6 HF7
  generalize ((((((((w1.setCell ⟨w.heap.size + 1, 0, none⟩ (.slice none 0 0)).setCell ⟨w.heap.size + 1, 1, none⟩ (.slice none 0 0)).setCell ⟨w.heap.size + 1, 2, none⟩ (.slice none 0 0)).setCell ⟨w.heap.size + 1, 3, none⟩ (.slice none 0 0)).setCell ⟨w.heap.size + 1, 4, none⟩ (.slice none 0 0)).setCell ⟨w.heap.size + 1, 5, none⟩ (.slice none 0 0)).setCell ⟨w.heap.size + 1, 6, none⟩ (.slice none 0 0)).setCell ⟨w.heap.size + 1, 7, none⟩ (.slice none 0 0)) = wf at *
  obtain ⟨r0, r1, r2, r3, r4, r5, r6, r7⟩ := c8 kf
  exact bodyPost_ret (v := .tuple #[.agg #[.slice none 0 0, .slice none 0 0, .slice none 0 0, .slice none 0 0, .slice none 0 0, .slice none 0 0, .slice none 0 0, .slice none 0 0], .int .i64 210]) (by simp [results, Tryz.results19, go_sem, r0, r1, r2, r3, r4, r5, r6, r7]) rfl ⟨emptyM, by rw [HX.out]; rfl, HOF.out, by rw [HR.out]; rfl, HBF.out⟩
 ·have HX := Lib.hid (checkE_ok hx)
  have HR := Lib.hid hx
  rw [checkE_ok hx]
  clear hx
  obtain ⟨z0, z1, z2, z3, z4, z5, z6, z7⟩ := c8 KH.out
  go_wp2_with fail
  refine (open_any m hS (right_shaped HR.out) w1 (HRDS.out w1 BW.out)).mono ?_
  rintro e w2 ⟨A2, c2, rfl, ho2, b2⟩
  clear z0 z1 z2 z3 z4 z5 z6 z7
  have KH := Lib.hid (KH.out.below b2 KH.out.lt)
  have KR := Lib.hid (KR.out.below b2 KR.out.lt)
  have ROW := Lib.hid (own_mono ho2 BW.out.size)
  have BW := Lib.hid (BW.out.trans (b2.mono BW.out.size))
  clear ho2 b2
  have HLEN : Hid (m.pl.ev.length = m.ev.1.n) := by show m.pl.ev.length = _; rw [← HFIT.out.ev.1]; unfold HistM.pl; simp
  have hev : m.ev.1.n ≤ 200 := by have := hS.ev; have := HLEN.out; omega
  have hln : (leftL m.pl).length ≤ 60 := by have := left_len m.pl; have := hS.tr; omega
  have HQ : Hid (comP m.pl = { m.pl with ev := m.pl.ev ++ (leftL m.pl).map abortE }) := rfl
  generalize leftL m.pl = q at *
  obtain ⟨ln, hlq⟩ : ∃ ln, q.length = ln := ⟨_, rfl⟩
  rw [hlq] at ROW hln ⊢
  have HLQ := Lib.hid hlq
  clear hlq
  obtain ⟨z0, z1, z2, z3, z4, z5, z6, z7⟩ := c8 KH.out
  go_wp2_with fail
  refine (copied_any m hS w2 (HRDS.out w2 BW.out)).mono ?_
  rintro e w3 ⟨n, rfl, hon, hpl, b3⟩
  clear z0 z1 z2 z3 z4 z5 z6 z7
  obtain ⟨k6, b6, hs6⟩ := ibox w3 #[.slice n.tr.1.A n.tr.1.n n.tr.1.c, .slice n.se.1.A n.se.1.n n.se.1.c, .slice n.ob.1.A n.ob.1.n n.ob.1.c, .slice n.pr.1.A n.pr.1.n n.pr.1.c, .slice n.ev.1.A n.ev.1.n n.ev.1.c, .slice n.od.1.A n.od.1.n n.od.1.c, .slice n.ma.1.A n.ma.1.n n.ma.1.c, .slice n.wa.1.A n.wa.1.n n.wa.1.c] 28
  have b36 := b3.trans (b6.mono b3.size)
  have HCM : Hid (CmI w w3.heap.size q A2 c2 m.pl 0 (w3.alloc (.cells #[.slice n.tr.1.A n.tr.1.n n.tr.1.c, .slice n.se.1.A n.se.1.n n.se.1.c, .slice n.ob.1.A n.ob.1.n n.ob.1.c, .slice n.pr.1.A n.pr.1.n n.pr.1.c, .slice n.ev.1.A n.ev.1.n n.ev.1.c, .slice n.od.1.A n.od.1.n n.od.1.c, .slice n.ma.1.A n.ma.1.n n.ma.1.c, .slice n.wa.1.A n.wa.1.n n.wa.1.c] 28)) n) := by
   refine ⟨(hon.on b6).mono BW.out.size, k6, KR.out.below b36 KR.out.lt, ?_, BW.out.trans (b36.mono BW.out.size), ?_, ?_, ?_⟩
   ·rw [HLQ.out]; exact own_on ROW.out b36
   ·have := KR.out.lt; have := b3.size; omega
   ·rw [hpl]; simp
   ·rw [Nat.add_zero, HLEN.out, ← HFIT.out.ev.1, ← hon.rd.fit.ev.1]
    have := congrArg (fun H => H.ev.length) hpl
    unfold HistM.pl at this
    simpa using this
  clear hon hpl b3 k6 b6 hs6 b36 KH KR ROW BW
  go_wp2_with fail
  generalize w3.alloc (.cells #[.slice n.tr.1.A n.tr.1.n n.tr.1.c, .slice n.se.1.A n.se.1.n n.se.1.c, .slice n.ob.1.A n.ob.1.n n.ob.1.c, .slice n.pr.1.A n.pr.1.n n.pr.1.c, .slice n.ev.1.A n.ev.1.n n.ev.1.c, .slice n.od.1.A n.od.1.n n.od.1.c, .slice n.ma.1.A n.ma.1.n n.ma.1.c, .slice n.wa.1.A n.wa.1.n n.wa.1.c] 28) = W3 at *
  generalize w3.heap.size = B6 at *
  go_loopw [29] (fun v wr => ∃ (k : Nat) (h : HistM), k ≤ ln ∧ v = .int .i64 k ∧ Hid (CmI w B6 q A2 c2 m.pl k wr h)) (fun v _ => ln - (intOf v).toNat)
  case atStart => exact ⟨0, n, Nat.zero_le _, rfl, HCM⟩
  case round =>
   clear HCM
   obtain ⟨k, h, hk, rfl, HCM⟩ := hrel
   by_cases hkl : k < ln
   ·have hkl2 : (k : Int) < (ln : Int) := by omega
    obtain ⟨u, hu⟩ : ∃ u, q[k]? = some u := ⟨q[k]'(by rw [HLQ.out]; exact hkl), List.getElem?_eq_getElem _⟩
    obtain ⟨b, o, rfl, hbl, g0⟩ := int_at (Reads.of_own HCM.out.row) hu
    have z4 : wr.cell? ⟨B6, 4, none⟩ = some (.slice h.ev.1.A h.ev.1.n h.ev.1.c) := HCM.out.b6.cell 4
    have hal : Below wr.heap.size wr (wr.alloc (.cells #[.int .i64 6, .int .i64 u, .int .i64 0, .int .i64 0, .int .i64 0, .int .i64 0, .int .i64 0, .int .i64 0, .slice none 0 0] 39)) := (Below.refl _ _).alloc (Nat.le_refl _) _
    have HC2 := Lib.hid (HCM.out.on hal)
    have SL := Lib.hid (lit_of wr 39 9 (evCs (abortE u, ⟨none, 0, 0⟩)) #[.int .i64 6, .int .i64 u, .int .i64 0, .int .i64 0, .int .i64 0, .int .i64 0, .int .i64 0, .int .i64 0, .slice none 0 0] rfl rfl)
    have HU := Lib.hid hu
    have hn4 : h.ev.1.n ≤ 1000 := by have := HCM.out.n; have := HLEN.out; omega
    clear hal hu hbl
    go_wp2_with (at_builtin; refine wpList_append_any _ rfl (.tmp 34) (.tmp 37) 23 rfl w.heap.size 39 i0 _ 9 88 Tryz.underlying23 hi hz0 hz1 hz2 rfl (by decide) _ _ _ rfl HC2.out.own.ev _ (some ⟨wr.heap.size, 0, none⟩) 1 _ (evCs (abortE u, ⟨none, 0, 0⟩)) rfl SL.out (evCs_one _) (by unfold maxLen; omega) (by omega) HC2.out.below.size ?_; intro v' w6 hown6 hgrow6 hat6; obtain ⟨A6, c6, rfl, -, -⟩ := own_form2 hown6; obtain ⟨hb6, hc6⟩ := HC2.out.add HU.out hown6 hgrow6; have y4 := hb6.cell 4; have f4 := hb6.frozen 4)
    have HC6 := Lib.hid hc6
    clear hown6 hgrow6 hat6 hb6 hc6 y4 f4 SL HC2
    go_wp2_with fail
    go_roundw
    case rel => exact ⟨k + 1, _, hkl, by go_num, HC6⟩
    case measure => simp [intOf]; omega
   ·obtain rfl : k = ln := by omega
    have KR := Lib.hid HCM.out.br
    have KB := Lib.hid HCM.out.b6
    have BW := Lib.hid HCM.out.below
    have HOE := Lib.hid HCM.out.own
    have HP : Hid (h.pl = comP m.pl) := by show h.pl = _; rw [HQ.out, HCM.out.pl, List.take_of_length_le (Nat.le_of_eq HLQ.out)]
    obtain ⟨z0, z1, z2, z3, z4, z5, z6, z7⟩ := c8 KB.out
    obtain ⟨y0, y1, y2, y3, y4, y5, y6, y7⟩ := c8 KR.out
    have f0 := KR.out.frozen 0
    have f1 := KR.out.frozen 1
    have f2 := KR.out.frozen 2
    have f3 := KR.out.frozen 3
    have f4 := KR.out.frozen 4
    have f5 := KR.out.frozen 5
    have f6 := KR.out.frozen 6
    have f7 := KR.out.frozen 7
    clear HCM
    go_wp2_with fail
    clear z0 y0 f0 z1 y1 f1 z2 y2 f2 z3 y3 f3 z4 y4 f4 z5 y5 f5 z6 y6 f6 z7 y7 f7
    have HF0 := Lib.hid (own_step (HOE.out) (KR.out) 0 (.slice h.tr.1.A h.tr.1.n h.tr.1.c))
    have HF1 := Lib.hid (own_step (HF0.out.1) (HF0.out.2) 1 (.slice h.se.1.A h.se.1.n h.se.1.c))
    have HF2 := Lib.hid (own_step (HF1.out.1) (HF1.out.2) 2 (.slice h.ob.1.A h.ob.1.n h.ob.1.c))
    have HF3 := Lib.hid (own_step (HF2.out.1) (HF2.out.2) 3 (.slice h.pr.1.A h.pr.1.n h.pr.1.c))
    have HF4 := Lib.hid (own_step (HF3.out.1) (HF3.out.2) 4 (.slice h.ev.1.A h.ev.1.n h.ev.1.c))
    have HF5 := Lib.hid (own_step (HF4.out.1) (HF4.out.2) 5 (.slice h.od.1.A h.od.1.n h.od.1.c))
    have HF6 := Lib.hid (own_step (HF5.out.1) (HF5.out.2) 6 (.slice h.ma.1.A h.ma.1.n h.ma.1.c))
    have HF7 := Lib.hid (own_step (HF6.out.1) (HF6.out.2) 7 (.slice h.wa.1.A h.wa.1.n h.wa.1.c))
    have HBF := Lib.hid ((((((((((((((((BW.out).setCell (p := ⟨w.heap.size + 1, 0, none⟩) (Nat.le_succ _) (.slice h.tr.1.A h.tr.1.n h.tr.1.c))).setCell (p := ⟨w.heap.size + 1, 1, none⟩) (Nat.le_succ _) (.slice h.se.1.A h.se.1.n h.se.1.c))).setCell (p := ⟨w.heap.size + 1, 2, none⟩) (Nat.le_succ _) (.slice h.ob.1.A h.ob.1.n h.ob.1.c))).setCell (p := ⟨w.heap.size + 1, 3, none⟩) (Nat.le_succ _) (.slice h.pr.1.A h.pr.1.n h.pr.1.c))).setCell (p := ⟨w.heap.size + 1, 4, none⟩) (Nat.le_succ _) (.slice h.ev.1.A h.ev.1.n h.ev.1.c))).setCell (p := ⟨w.heap.size + 1, 5, none⟩) (Nat.le_succ _) (.slice h.od.1.A h.od.1.n h.od.1.c))).setCell (p := ⟨w.heap.size + 1, 6, none⟩) (Nat.le_succ _) (.slice h.ma.1.A h.ma.1.n h.ma.1.c))).setCell (p := ⟨w.heap.size + 1, 7, none⟩) (Nat.le_succ _) (.slice h.wa.1.A h.wa.1.n h.wa.1.c))
    have kf := HF7.out.2
    simp [zeroH] at kf
    have HOF := Lib.hid HF7.out.1
    clear HF0 HF1 HF2 HF3 HF4 HF5 HF6 HF7
    generalize ((((((((wr.setCell ⟨w.heap.size + 1, 0, none⟩ (.slice h.tr.1.A h.tr.1.n h.tr.1.c)).setCell ⟨w.heap.size + 1, 1, none⟩ (.slice h.se.1.A h.se.1.n h.se.1.c)).setCell ⟨w.heap.size + 1, 2, none⟩ (.slice h.ob.1.A h.ob.1.n h.ob.1.c)).setCell ⟨w.heap.size + 1, 3, none⟩ (.slice h.pr.1.A h.pr.1.n h.pr.1.c)).setCell ⟨w.heap.size + 1, 4, none⟩ (.slice h.ev.1.A h.ev.1.n h.ev.1.c)).setCell ⟨w.heap.size + 1, 5, none⟩ (.slice h.od.1.A h.od.1.n h.od.1.c)).setCell ⟨w.heap.size + 1, 6, none⟩ (.slice h.ma.1.A h.ma.1.n h.ma.1.c)).setCell ⟨w.heap.size + 1, 7, none⟩ (.slice h.wa.1.A h.wa.1.n h.wa.1.c)) = wf at *
    obtain ⟨r0, r1, r2, r3, r4, r5, r6, r7⟩ := c8 kf
    exact bodyPost_ret (v := .tuple #[.agg #[.slice h.tr.1.A h.tr.1.n h.tr.1.c, .slice h.se.1.A h.se.1.n h.se.1.c, .slice h.ob.1.A h.ob.1.n h.ob.1.c, .slice h.pr.1.A h.pr.1.n h.pr.1.c, .slice h.ev.1.A h.ev.1.n h.ev.1.c, .slice h.od.1.A h.od.1.n h.od.1.c, .slice h.ma.1.A h.ma.1.n h.ma.1.c, .slice h.wa.1.A h.wa.1.n h.wa.1.c], .int .i64 0]) (by simp [results, Tryz.results19, go_sem, r0, r1, r2, r3, r4, r5, r6, r7]) rfl ⟨h, by rw [HX.out], HOF.out, by rw [HR.out, if_pos rfl]; exact HP.out, HBF.out⟩
end Go.Proofs.YtlnbmmaminflcaaGreatDoor
namespace Go.Proofs.YtlnbmmaminflcaaGreatDoor
open Go.RowKit Go.Shelf

def z0 : Nat → Int → Int := fun _ _ => 0
section
variable {f : Nat → Int → Int}
theorem reV_z {t k : Int} : reV z0 (reV f t k) k = reV z0 t k := by unfold reV z0; split <;> rfl
theorem reS_z (s : SeenP) : reS z0 (reS f s) = reS z0 s := by
 unfold reS
 simp only [reV_z]
 rfl
theorem reE_z (e : EvP) : reE z0 (reE f e) = reE z0 e := by
 by_cases h1 : e.kd = 1
 ·rw [reE_one h1, reE_one (by simpa using h1), reE_one h1]; rfl
 ·by_cases h2 : e.kd = 2 ∨ e.kd = 3
  ·rw [reE_two h2, reE_two (by simpa using h2), reE_two h2]
   simp only [reV_z]
   rfl
  ·by_cases h4 : e.kd = 4
   ·rw [reE_four h4, reE_four (by simpa using h4), reE_four h4]
    simp only [List.map_map]
    congr 1
    refine List.map_congr_left fun s _ => reS_z s
   ·rw [reE_end (f := f) ⟨h1, h2, h4⟩, reE_end (f := z0) (e := e) ⟨h1, h2, h4⟩]
    exact reE_end ⟨h1, h2, h4⟩
theorem reH_z (H : Hist) : reH z0 (reH f H) = reH z0 H := by
 unfold reH
 simp only [List.map_map]
 congr 1
 ·exact List.map_congr_left fun e _ => reE_z e
 ·exact List.map_congr_left fun r _ => by show reO z0 (reO f r) = reO z0 r; unfold reO; rw [List.map_map]; rfl
 ·exact List.map_congr_left fun r _ => by show reM z0 (reM f r) = reM z0 r; unfold reM; rw [List.map_map]; rfl
end
theorem list_len {α β : Type} {z : α → α} {g : α → List β} (hl : ∀ a b, z a = z b → (g a).length = (g b).length) : ∀ {l l' : List α}, l.map z = l'.map z → (l.flatMap g).length = (l'.flatMap g).length
 | [], [], _ => rfl
 | a :: l, b :: l', h => by
  rw [List.map_cons, List.map_cons, List.cons.injEq] at h
  rw [List.flatMap_cons, List.flatMap_cons, List.length_append, List.length_append, hl a b h.1, list_len hl h.2]
 | [], _ :: _, h => by simp at h
 | _ :: _, [], h => by simp at h
theorem list_inj {α β : Type} {z : α → α} {g : α → List β} (hg : ∀ a b, z a = z b → g a = g b → a = b) (hl : ∀ a b, z a = z b → (g a).length = (g b).length) : ∀ {l l' : List α}, l.map z = l'.map z → l.flatMap g = l'.flatMap g → l = l'
 | [], [], _, _ => rfl
 | a :: l, b :: l', h, e => by
  rw [List.map_cons, List.map_cons, List.cons.injEq] at h
  rw [List.flatMap_cons, List.flatMap_cons] at e
  obtain ⟨e1, e2⟩ := List.append_inj e (hl a b h.1)
  rw [hg a b h.1 e1, list_inj hg hl h.2 e2]
 | [], _ :: _, h, _ => by simp at h
 | _ :: _, [], h, _ => by simp at h
theorem reV_inj {a b k : Int} (h : reV z0 a k = reV z0 b k) (hr : refsV a k = refsV b k) : a = b := by
 unfold reV at h
 unfold refsV at hr
 split at h
 ·exact h
 ·rename_i hk
  rw [if_neg hk, if_neg hk] at hr
  simpa using hr
theorem lenV {a b k : Int} : (refsV a k).length = (refsV b k).length := by unfold refsV; split <;> rfl
theorem reS_len (a b : SeenP) (h : reS z0 a = reS z0 b) : (refsS a).length = (refsS b).length := by
 have hk : a.k = b.k := (by rw [h] : (reS z0 a).k = (reS z0 b).k)
 unfold refsS
 rw [List.length_cons, List.length_cons, hk, lenV (a := a.t) (b := b.t)]
theorem reS_inj (a b : SeenP) (h : reS z0 a = reS z0 b) (hr : refsS a = refsS b) : a = b := by
 have hk : a.k = b.k := (by rw [h] : (reS z0 a).k = (reS z0 b).k)
 have ht : reV z0 a.t a.k = reV z0 b.t b.k := (by rw [h] : (reS z0 a).t = (reS z0 b).t)
 unfold refsS at hr
 rw [List.cons.injEq] at hr
 obtain ⟨h1, h2⟩ := hr
 obtain ⟨ao, at', ak⟩ := a
 obtain ⟨bo, bt, bk⟩ := b
 simp only at hk ht h1 h2
 subst hk
 have h3 := reV_inj ht h2
 simp only [Prod.mk.injEq, true_and] at h1
 rw [h1, h3]
theorem reE_len (a b : EvP) (h : reE z0 a = reE z0 b) : (refsE a).length = (refsE b).length := by
 have hk : a.kd = b.kd := by have := congrArg EvP.kd h; rwa [reE_kd, reE_kd] at this
 have hv : a.vk = b.vk := by have := congrArg EvP.vk h; rwa [reE_vk, reE_vk] at this
 unfold refsE refsK
 rw [List.length_cons, List.length_cons, hk, hv]
 by_cases h1 : b.kd = 1
 ·rw [if_pos h1, if_pos h1]; rfl
 ·by_cases h2 : b.kd = 2 ∨ b.kd = 3
  ·rw [if_neg h1, if_neg h1, if_pos h2, if_pos h2, List.length_cons, List.length_cons, lenV (a := a.vt) (b := b.vt)]
  ·by_cases h4 : b.kd = 4
   ·rw [if_neg h1, if_neg h1, if_neg h2, if_neg h2, if_pos h4, if_pos h4, List.length_cons, List.length_cons]
    have hs := congrArg EvP.scan h
    rw [reE_four h4, reE_four (hk.trans h4)] at hs
    rw [list_len reS_len hs]
   ·rw [if_neg h1, if_neg h1, if_neg h2, if_neg h2, if_neg h4, if_neg h4]
theorem reE_inj (a b : EvP) (h : reE z0 a = reE z0 b) (hr : refsE a = refsE b) : a = b := by
 have hk : a.kd = b.kd := by have := congrArg EvP.kd h; rwa [reE_kd, reE_kd] at this
 have hv : a.vk = b.vk := by have := congrArg EvP.vk h; rwa [reE_vk, reE_vk] at this
 unfold refsE refsK at hr
 rw [List.cons.injEq] at hr
 obtain ⟨ht, hr⟩ := hr
 simp only [Prod.mk.injEq, true_and] at ht
 obtain ⟨akd, at', ase, alev, ao, avt, avk, ap, ascan⟩ := a
 obtain ⟨bkd, bt, bse, blev, bo, bvt, bvk, bp, bscan⟩ := b
 simp only at hk hv ht hr
 subst hk; subst hv; subst ht
 by_cases h1 : akd = 1
 ·rw [if_pos h1, if_pos h1] at hr
  rw [reE_one (by simpa using h1), reE_one (by simpa using h1)] at h
  simp only [EvP.mk.injEq, true_and] at h
  simp only [List.cons.injEq, Prod.mk.injEq, true_and, and_true] at hr
  rw [hr, h.2.1, h.2.2.1, h.2.2.2.1, h.2.2.2.2.1, h.2.2.2.2.2]
 ·by_cases h2 : akd = 2 ∨ akd = 3
  ·rw [if_neg h1, if_neg h1, if_pos h2, if_pos h2] at hr
   rw [reE_two (by simpa using h2), reE_two (by simpa using h2)] at h
   simp only [EvP.mk.injEq, true_and] at h
   simp only [List.cons.injEq, Prod.mk.injEq, true_and] at hr
   obtain ⟨q1, q2, _, q3, q4, q5⟩ := h
   rw [hr.1, q1, q2, reV_inj q3 hr.2, q4, q5]
  ·by_cases h4 : akd = 4
   ·rw [if_neg h1, if_neg h1, if_neg h2, if_neg h2, if_pos h4, if_pos h4] at hr
    rw [reE_four (by simpa using h4), reE_four (by simpa using h4)] at h
    simp only [EvP.mk.injEq, true_and] at h
    simp only [List.cons.injEq, Prod.mk.injEq, true_and] at hr
    obtain ⟨q1, q2, q3, q4, _, q5⟩ := h
    rw [hr.1, q1, q2, q3, q4, list_inj reS_inj reS_len q5 hr.2]
   ·rw [reE_end ⟨by simpa using h1, by simpa using h2, by simpa using h4⟩, reE_end ⟨by simpa using h1, by simpa using h2, by simpa using h4⟩] at h
    simp only [EvP.mk.injEq, true_and] at h
    obtain ⟨q1, q2, q3, q4, q5, q6⟩ := h
    rw [q1, q2, q3, q4, q5, q6]
theorem ts_inj {a b : List Int} (h : refsT a = refsT b) : a = b := by
 unfold refsT at h
 exact (List.map_inj_right fun x y e => by simpa using e).1 h
theorem ts_len {a b : List Int} (h : a.map (z0 0) = b.map (z0 0)) : (refsT a).length = (refsT b).length := by
 have := congrArg List.length h
 unfold refsT
 simpa using this
theorem reO_len (a b : OrdP) (h : reO z0 a = reO z0 b) : (refsO a).length = (refsO b).length := by
 unfold refsO
 rw [List.length_cons, List.length_cons, ts_len (congrArg (fun x : OrdP => x.ts) h)]
theorem reO_inj (a b : OrdP) (_h : reO z0 a = reO z0 b) (hr : refsO a = refsO b) : a = b := by
 unfold refsO at hr
 rw [List.cons.injEq] at hr
 obtain ⟨ao, at'⟩ := a
 obtain ⟨bo, bt⟩ := b
 simp only [Prod.mk.injEq, true_and] at hr
 rw [hr.1, ts_inj hr.2]
theorem reM_len (a b : MatP) (h : reM z0 a = reM z0 b) : (refsM a).length = (refsM b).length := by
 unfold refsM
 rw [List.length_cons, List.length_cons, List.length_cons, List.length_cons, ts_len (congrArg (fun x : MatP => x.ts) h)]
theorem reM_inj (a b : MatP) (h : reM z0 a = reM z0 b) (hr : refsM a = refsM b) : a = b := by
 have hf : a.fi = b.fi := (by rw [h] : (reM z0 a).fi = (reM z0 b).fi)
 unfold refsM at hr
 rw [List.cons.injEq, List.cons.injEq] at hr
 obtain ⟨ap, ao, af, at'⟩ := a
 obtain ⟨bp, bo, bf, bt⟩ := b
 simp only [Prod.mk.injEq, true_and] at hr hf
 rw [hr.1, hr.2.1, hf, ts_inj hr.2.2]
theorem reW_inj (a b : WantP) (h : reW z0 a = reW z0 b) (hr : refsW a = refsW b) : a = b := by
 have hf : a.b = b.b := (by rw [h] : (reW z0 a).b = (reW z0 b).b)
 unfold refsW at hr
 obtain ⟨ao, at'⟩ := a
 obtain ⟨bo, bt⟩ := b
 simp only [List.cons.injEq, Prod.mk.injEq, true_and, and_true] at hr hf
 rw [hr, hf]
theorem reH_inj {A B : Hist} (h : reH z0 A = reH z0 B) (hr : refs A = refs B) : A = B := by
 obtain ⟨a1, a2, a3, a4, aev, aod, ama, awa⟩ := A
 obtain ⟨b1, b2, b3, b4, bev, bod, bma, bwa⟩ := B
 unfold reH at h
 simp only [Hist.mk.injEq] at h
 obtain ⟨e1, e2, e3, e4, h1, h2, h3, h4⟩ := h
 unfold refs at hr
 simp only at hr
 obtain ⟨r1, hr⟩ := List.append_inj hr (list_len reE_len h1)
 obtain ⟨r2, hr⟩ := List.append_inj hr (list_len reO_len h2)
 obtain ⟨r3, r4⟩ := List.append_inj hr (list_len reM_len h3)
 rw [e1, e2, e3, e4, list_inj reE_inj reE_len h1 r1, list_inj reO_inj reO_len h2 r2, list_inj reM_inj reM_len h3 r3, list_inj reW_inj (fun _ _ _ => rfl) h4 r4]

/- A place among rows. -/
section
variable {α β γ : Type} {f : Nat → α → List β} {g : α → List γ}
theorem flatI_get : ∀ {l : List α} {i k : Nat} {y : β}, (flatI f i l)[k]? = some y → ∃ q x j, l[q]? = some x ∧ (f (i + q) x)[j]? = some y ∧ k = (flatI f i (l.take q)).length + j
 | [], _, _, _, h => by simp [flatI] at h
 | x :: l, i, k, y, h => by
  unfold flatI at h
  rcases Nat.lt_or_ge k (f i x).length with hk | hk
  ·rw [List.getElem?_append_left hk] at h
   exact ⟨0, x, k, rfl, h, by simp [flatI]⟩
  ·rw [List.getElem?_append_right hk] at h
   obtain ⟨q, x', j, h1, h2, h3⟩ := flatI_get h
   refine ⟨q + 1, x', j, by simpa using h1, by rwa [show i + (q + 1) = i + 1 + q by omega], ?_⟩
   rw [List.take_succ_cons]
   unfold flatI
   rw [List.length_append]
   omega
theorem flatI_len (hl : ∀ i x, (f i x).length = (g x).length) : ∀ {l : List α} {i : Nat}, (flatI f i l).length = (l.flatMap g).length
 | [], _ => rfl
 | x :: l, i => by
  unfold flatI
  rw [List.flatMap_cons, List.length_append, List.length_append, hl, flatI_len hl]
theorem flatI_set {x x' : α} (he : ∀ i, f i x' = f i x) : ∀ {l : List α} {i q : Nat}, l[q]? = some x → flatI f i (l.set q x') = flatI f i l
 | [], _, _, h => by simp at h
 | y :: l, i, 0, h => by
  simp only [List.getElem?_cons_zero, Option.some.injEq] at h
  subst h
  rw [List.set_cons_zero]
  unfold flatI
  rw [he]
 | y :: l, i, q + 1, h => by
  simp only [List.getElem?_cons_succ] at h
  rw [List.set_cons_succ]
  unfold flatI
  rw [flatI_set he h]
theorem flat_set {x x' : α} {j : Nat} {v : γ} (hs : g x' = (g x).set j v) (hj : j < (g x).length) : ∀ {l : List α} {q : Nat}, l[q]? = some x → (l.set q x').flatMap g = (l.flatMap g).set (((l.take q).flatMap g).length + j) v
 | [], _, h => by simp at h
 | y :: l, 0, h => by
  simp only [List.getElem?_cons_zero, Option.some.injEq] at h
  subst h
  rw [List.set_cons_zero, List.flatMap_cons, List.flatMap_cons, hs]
  simp [List.set_append_left _ _ hj]
 | y :: l, q + 1, h => by
  simp only [List.getElem?_cons_succ] at h
  rw [List.set_cons_succ, List.flatMap_cons, List.flatMap_cons, List.take_succ_cons, List.flatMap_cons, List.length_append, Nat.add_assoc, List.set_append_right _ _ (by omega), Nat.add_sub_cancel_left, flat_set hs hj h]
theorem map_set_eq {z : α → β} {x x' : α} (he : z x' = z x) {l : List α} {q : Nat} (h : l[q]? = some x) : (l.set q x').map z = l.map z := map_set_same h he
end
theorem lenPV {h : SH} {j : Nat} {t k : Int} : (plV h j k).length = (refsV t k).length := by unfold plV refsV; split <;> rfl
theorem lenPS {h : SH} (i : Nat) (s : SeenP) : (plS h i s).length = (refsS s).length := by unfold plS refsS; rw [List.length_cons, List.length_cons, lenPV]
theorem lenPE {h : SH} (i : Nat) (p : EvP × SH) : (plE h i p).length = (refsE p.1).length := by
 unfold plE refsE plK refsK
 rw [List.length_cons, List.length_cons]
 by_cases h1 : p.1.kd = 1
 ·rw [if_pos h1, if_pos h1]; rfl
 ·by_cases h2 : p.1.kd = 2 ∨ p.1.kd = 3
  ·rw [if_neg h1, if_neg h1, if_pos h2, if_pos h2, List.length_cons, List.length_cons, lenPV]
  ·by_cases h4 : p.1.kd = 4
   ·rw [if_neg h1, if_neg h1, if_neg h2, if_neg h2, if_pos h4, if_pos h4, List.length_cons, List.length_cons, flatI_len lenPS]
   ·rw [if_neg h1, if_neg h1, if_neg h2, if_neg h2, if_neg h4, if_neg h4]; rfl
theorem lenPT {h : SH} (ts : List Int) : (plT h ts).length = (refsT ts).length := by
 unfold plT refsT
 rw [flatI_len (f := fun j (_ : Int) => [((0 : Nat), h.ad j)]) (g := fun t : Int => [((0 : Nat), t)]) (fun _ _ => rfl), ← map_flat]
theorem lenPO {h : SH} (i : Nat) (p : OrdP × SH) : (plO h i p).length = (refsO p.1).length := by unfold plO refsO; rw [List.length_cons, List.length_cons, lenPT]
theorem lenPM {h : SH} (i : Nat) (p : MatP × SH) : (plM h i p).length = (refsM p.1).length := by unfold plM refsM; rw [List.length_cons, List.length_cons, List.length_cons, List.length_cons, lenPT]
theorem lenPW {h : SH} (i : Nat) (p : WantP) : (plW h i p).length = (refsW p).length := rfl
end Go.Proofs.YtlnbmmaminflcaaGreatDoor
namespace Go.Proofs.YtlnbmmaminflcaaGreatDoor
open Go.RowKit Go.Shelf

section
variable {γ : Type} {a b : List γ} {n k : Nat} {v y : γ}
theorem app_get (h : (a ++ b)[k]? = some y) : (k < a.length ∧ a[k]? = some y) ∨ ∃ k', k = a.length + k' ∧ b[k']? = some y := by
 rcases Nat.lt_or_ge k a.length with hk | hk
 ·rw [List.getElem?_append_left hk] at h
  exact .inl ⟨hk, h⟩
 ·rw [List.getElem?_append_right hk] at h
  exact .inr ⟨k - a.length, by omega, h⟩
theorem set_app (h : a.length = n) : (a ++ b).set (n + k) v = a ++ b.set k v := by
 subst h
 rw [List.set_append_right _ _ (by omega), Nat.add_sub_cancel_left]
theorem set_app_l (h : k < a.length) : (a ++ b).set k v = a.set k v ++ b := List.set_append_left _ _ h
theorem fm_same {α β : Type} {enc : α → List β} {l : List α} {q : Nat} {x x' : α} (hq : l[q]? = some x) (he : enc x' = enc x) : (l.set q x').flatMap enc = l.flatMap enc := by
 rw [List.flatMap_def, List.flatMap_def, map_set_eq he hq]
end
def EvP.withS (e : EvP) (l : List SeenP) : EvP := ⟨e.kd, e.t, e.s, e.lev, e.o, e.vt, e.vk, e.p, l⟩
def OrdP.withT (e : OrdP) (l : List Int) : OrdP := ⟨e.o, l⟩
def MatP.withT (e : MatP) (l : List Int) : MatP := ⟨e.p, e.o, e.fi, l⟩
theorem plV_at {h : SH} {c : Nat} {k : Int} {j s : Nat} {a : Addr} (hj : (plV h c k)[j]? = some (s, a)) : k ≠ 0 ∧ j = 0 ∧ s = 0 ∧ a = h.ad c := by
 unfold plV at hj
 by_cases hk : k = 0
 ·rw [if_pos hk] at hj; simp at hj
 ·rw [if_neg hk] at hj
  cases j with
  | zero => simp at hj; exact ⟨hk, rfl, hj.1.symm, hj.2.symm⟩
  | succ j => simp at hj
theorem plS_at {h : SH} {q j s : Nat} {sn : SeenP} {a : Addr} (hj : (plS h q sn)[j]? = some (s, a)) (v : Int) :
 ∃ (c : Nat) (sn' : SeenP), c < 3 ∧ a = h.ad (q * 3 + c) ∧ (seCs sn).set c (.int .i64 v) = seCs sn' ∧ refsS sn' = (refsS sn).set j (s, v) ∧ j < (refsS sn).length ∧ reS z0 sn' = reS z0 sn ∧ ∀ i, plS h i sn' = plS h i sn := by
 obtain ⟨so, st, sk⟩ := sn
 unfold plS at hj
 cases j with
 | zero =>
  simp only [List.getElem?_cons_zero, Option.some.injEq, Prod.mk.injEq] at hj
  obtain ⟨rfl, rfl⟩ := hj
  exact ⟨0, ⟨v, st, sk⟩, by omega, rfl, rfl, rfl, by simp [refsS], rfl, fun _ => rfl⟩
 | succ j =>
  simp only [List.getElem?_cons_succ] at hj
  obtain ⟨hk, rfl, rfl, rfl⟩ := plV_at hj
  have h1 : ∀ t, refsV t sk = [(0, t)] := fun t => by unfold refsV; rw [if_neg hk]
  refine ⟨1, ⟨so, v, sk⟩, by omega, rfl, rfl, ?_, by simp [refsS, h1], ?_, fun _ => rfl⟩
  ·unfold refsS; simp only [h1]; rfl
  ·unfold reS reV; simp only [if_neg hk]; rfl
theorem refsE_four {e : EvP} (h : e.kd = 4) : refsE e = (0, e.t) :: (3, e.p) :: e.scan.flatMap refsS := by
 unfold refsE refsK
 rw [if_neg (by omega), if_neg (by omega), if_pos h]
theorem plE_four {hd : SH} {i : Nat} {p : EvP × SH} (h : p.1.kd = 4) : plE hd i p = (0, hd.ad (i * 9 + 1)) :: (3, hd.ad (i * 9 + 7)) :: flatI (plS p.2) 0 p.1.scan := by
 unfold plE plK
 rw [if_neg (by omega), if_neg (by omega), if_pos h]
theorem plE_at {hd : SH} {i : Nat} {p : EvP × SH} {j s : Nat} {a : Addr} (h : (plE hd i p)[j]? = some (s, a)) (v : Int) :
 (∃ (c : Nat) (e' : EvP), c < 9 ∧ a = hd.ad (i * 9 + c) ∧ (evCs p).set c (.int .i64 v) = evCs (e', p.2) ∧ e'.scan = p.1.scan ∧ refsE e' = (refsE p.1).set j (s, v) ∧ reE z0 e' = reE z0 p.1 ∧ ∀ hd i, plE hd i (e', p.2) = plE hd i p) ∨
 ∃ (q c : Nat) (sn sn' : SeenP), c < 3 ∧ p.1.scan[q]? = some sn ∧ a = p.2.ad (q * 3 + c) ∧ (seCs sn).set c (.int .i64 v) = seCs sn' ∧ refsE (p.1.withS (p.1.scan.set q sn')) = (refsE p.1).set j (s, v) ∧ reE z0 (p.1.withS (p.1.scan.set q sn')) = reE z0 p.1 ∧ ∀ hd i, plE hd i ((p.1.withS (p.1.scan.set q sn')), p.2) = plE hd i p := by
 obtain ⟨⟨kd, t, se, lev, o, vt, vk, pr, scan⟩, hs⟩ := p
 unfold plE at h
 cases j with
 | zero =>
  simp only [List.getElem?_cons_zero, Option.some.injEq, Prod.mk.injEq] at h
  obtain ⟨rfl, rfl⟩ := h
  exact .inl ⟨1, ⟨kd, v, se, lev, o, vt, vk, pr, scan⟩, by omega, rfl, rfl, rfl, rfl, rfl, fun _ _ => rfl⟩
 | succ j =>
  simp only [List.getElem?_cons_succ] at h
  unfold plK at h
  simp only at h
  by_cases h1 : kd = 1
  ·rw [if_pos h1] at h
   cases j with
   | succ j => simp at h
   | zero =>
    simp only [List.getElem?_cons_zero, Option.some.injEq, Prod.mk.injEq] at h
    obtain ⟨rfl, rfl⟩ := h
    refine .inl ⟨2, ⟨kd, t, v, lev, o, vt, vk, pr, scan⟩, by omega, rfl, rfl, rfl, ?_, ?_, fun _ _ => rfl⟩
    ·unfold refsE refsK; simp only [if_pos h1]; rfl
    ·rw [reE_one (by exact h1), reE_one (by exact h1)]; rfl
  ·by_cases h2 : kd = 2 ∨ kd = 3
   ·rw [if_neg h1, if_pos h2] at h
    cases j with
    | zero =>
     simp only [List.getElem?_cons_zero, Option.some.injEq, Prod.mk.injEq] at h
     obtain ⟨rfl, rfl⟩ := h
     refine .inl ⟨4, ⟨kd, t, se, lev, v, vt, vk, pr, scan⟩, by omega, rfl, rfl, rfl, ?_, ?_, fun _ _ => rfl⟩
     ·unfold refsE refsK; simp only [if_neg h1, if_pos h2]; rfl
     ·rw [reE_two (by exact h2), reE_two (by exact h2)]; rfl
    | succ j =>
     simp only [List.getElem?_cons_succ] at h
     obtain ⟨hk, rfl, rfl, rfl⟩ := plV_at h
     have h3 : ∀ t, refsV t vk = [(0, t)] := fun t => by unfold refsV; rw [if_neg hk]
     refine .inl ⟨5, ⟨kd, t, se, lev, o, v, vk, pr, scan⟩, by omega, rfl, rfl, rfl, ?_, ?_, fun _ _ => rfl⟩
     ·unfold refsE refsK; simp only [if_neg h1, if_pos h2, h3]; rfl
     ·rw [reE_two (by exact h2), reE_two (by exact h2)]
      unfold reV
      simp only [if_neg hk]
      rfl
   ·by_cases h4 : kd = 4
    ·rw [if_neg h1, if_neg h2, if_pos h4] at h
     cases j with
     | zero =>
      simp only [List.getElem?_cons_zero, Option.some.injEq, Prod.mk.injEq] at h
      obtain ⟨rfl, rfl⟩ := h
      refine .inl ⟨7, ⟨kd, t, se, lev, o, vt, vk, v, scan⟩, by omega, rfl, rfl, rfl, ?_, ?_, fun _ _ => rfl⟩
      ·unfold refsE refsK; simp only [if_neg h1, if_neg h2, if_pos h4]; rfl
      ·rw [reE_four (by exact h4), reE_four (by exact h4)]; rfl
     | succ j =>
      simp only [List.getElem?_cons_succ] at h
      obtain ⟨q, sn, j2, hq, hj2, rfl⟩ := flatI_get h
      obtain ⟨c, sn', hc, ha, hcs, hr, hjl, hz, hp⟩ := plS_at hj2 v
      rw [Nat.zero_add] at ha
      refine .inr ⟨q, c, sn, sn', hc, hq, ha, hcs, ?_, ?_, fun hd2 i2 => ?_⟩
      ·rw [refsE_four (by exact h4), refsE_four (by exact h4)]
       simp only [EvP.withS, List.set_cons_succ]
       rw [flat_set hr hjl hq, flatI_len lenPS]
      ·rw [reE_four (by exact h4), reE_four (by exact h4)]
       simp only [EvP.withS]
       rw [map_set_eq hz hq]
      ·rw [plE_four (by exact h4), plE_four (by exact h4)]
       simp only [EvP.withS]
       rw [flatI_set (f := plS hs) hp hq]
    ·rw [if_neg h1, if_neg h2, if_neg h4] at h
     simp at h
theorem plTs_at {h : SH} {ts : List Int} {j s : Nat} {a : Addr} (hj : (plT h ts)[j]? = some (s, a)) (v : Int) :
 s = 0 ∧ j < ts.length ∧ a = h.ad j ∧ refsT (ts.set j v) = (refsT ts).set j (s, v) ∧ plT h (ts.set j v) = plT h ts := by
 unfold plT at hj
 obtain ⟨q, t, j2, hq, hj2, hk⟩ := flatI_get hj
 have hl : (flatI (fun j (_ : Int) => [((0 : Nat), h.ad j)]) 0 (ts.take q)).length = q := by
  rw [flatI_len (f := fun j (_ : Int) => [((0 : Nat), h.ad j)]) (g := fun t : Int => [((0 : Nat), t)]) (fun _ _ => rfl), ← map_flat, List.length_map, List.length_take]
  have := (List.getElem?_eq_some_iff.1 hq).1
  omega
 cases j2 with
 | succ j2 => simp at hj2
 | zero =>
  simp only [List.getElem?_cons_zero, Option.some.injEq, Prod.mk.injEq] at hj2
  rw [hl] at hk
  obtain rfl : j = q := hk
  obtain ⟨rfl, rfl⟩ := hj2
  refine ⟨rfl, (List.getElem?_eq_some_iff.1 hq).1, by rw [Nat.zero_add], ?_, ?_⟩
  ·unfold refsT; rw [List.map_set]
  ·unfold plT
   exact flatI_set (f := fun j (_ : Int) => [((0 : Nat), h.ad j)]) (fun _ => rfl) hq
theorem ints_set2 (ts : List Int) (j : Nat) (v : Int) : (ints ts).set j (.int .i64 v) = ints (ts.set j v) := by unfold ints; rw [List.map_set]
theorem plO_at {hd : SH} {i : Nat} {p : OrdP × SH} {j s : Nat} {a : Addr} (h : (plO hd i p)[j]? = some (s, a)) (v : Int) :
 (∃ (c : Nat) (e' : OrdP), c < 2 ∧ a = hd.ad (i * 2 + c) ∧ (odCs p).set c (.int .i64 v) = odCs (e', p.2) ∧ e'.ts = p.1.ts ∧ refsO e' = (refsO p.1).set j (s, v) ∧ reO z0 e' = reO z0 p.1 ∧ ∀ hd i, plO hd i (e', p.2) = plO hd i p) ∨
 ∃ q, q < p.1.ts.length ∧ a = p.2.ad q ∧ refsO (p.1.withT (p.1.ts.set q v)) = (refsO p.1).set j (s, v) ∧ reO z0 (p.1.withT (p.1.ts.set q v)) = reO z0 p.1 ∧ ∀ hd i, plO hd i ((p.1.withT (p.1.ts.set q v)), p.2) = plO hd i p := by
 obtain ⟨⟨o, ts⟩, hs⟩ := p
 unfold plO at h
 cases j with
 | zero =>
  simp only [List.getElem?_cons_zero, Option.some.injEq, Prod.mk.injEq] at h
  obtain ⟨rfl, rfl⟩ := h
  exact .inl ⟨0, ⟨v, ts⟩, by omega, rfl, rfl, rfl, rfl, rfl, fun _ _ => rfl⟩
 | succ j =>
  simp only [List.getElem?_cons_succ] at h
  obtain ⟨rfl, hl, rfl, h1, h2⟩ := plTs_at h v
  refine .inr ⟨j, hl, rfl, ?_, ?_, fun _ _ => ?_⟩
  ·unfold refsO; simp only [OrdP.withT, h1]; rfl
  ·unfold reO; simp only [OrdP.withT]; rw [map_set_same (f := z0 0) (x := v) (List.getElem?_eq_getElem hl) rfl]
  ·unfold plO; simp only [OrdP.withT, h2]
theorem plM_at {hd : SH} {i : Nat} {p : MatP × SH} {j s : Nat} {a : Addr} (h : (plM hd i p)[j]? = some (s, a)) (v : Int) :
 (∃ (c : Nat) (e' : MatP), c < 4 ∧ a = hd.ad (i * 4 + c) ∧ (maCs p).set c (.int .i64 v) = maCs (e', p.2) ∧ e'.ts = p.1.ts ∧ refsM e' = (refsM p.1).set j (s, v) ∧ reM z0 e' = reM z0 p.1 ∧ ∀ hd i, plM hd i (e', p.2) = plM hd i p) ∨
 ∃ q, q < p.1.ts.length ∧ a = p.2.ad q ∧ refsM (p.1.withT (p.1.ts.set q v)) = (refsM p.1).set j (s, v) ∧ reM z0 (p.1.withT (p.1.ts.set q v)) = reM z0 p.1 ∧ ∀ hd i, plM hd i ((p.1.withT (p.1.ts.set q v)), p.2) = plM hd i p := by
 obtain ⟨⟨pr, o, fi, ts⟩, hs⟩ := p
 unfold plM at h
 cases j with
 | zero =>
  simp only [List.getElem?_cons_zero, Option.some.injEq, Prod.mk.injEq] at h
  obtain ⟨rfl, rfl⟩ := h
  exact .inl ⟨0, ⟨v, o, fi, ts⟩, by omega, rfl, rfl, rfl, rfl, rfl, fun _ _ => rfl⟩
 | succ j =>
  cases j with
  | zero =>
   simp only [List.getElem?_cons_zero, List.getElem?_cons_succ, Option.some.injEq, Prod.mk.injEq] at h
   obtain ⟨rfl, rfl⟩ := h
   exact .inl ⟨1, ⟨pr, v, fi, ts⟩, by omega, rfl, rfl, rfl, rfl, rfl, fun _ _ => rfl⟩
  | succ j =>
   simp only [List.getElem?_cons_succ] at h
   obtain ⟨rfl, hl, rfl, h1, h2⟩ := plTs_at h v
   refine .inr ⟨j, hl, rfl, ?_, ?_, fun _ _ => ?_⟩
   ·unfold refsM; simp only [MatP.withT, h1]; rfl
   ·unfold reM; simp only [MatP.withT]; rw [map_set_same (f := z0 0) (x := v) (List.getElem?_eq_getElem hl) rfl]
   ·unfold plM; simp only [MatP.withT, h2]
theorem plW_at {hd : SH} {i : Nat} {p : WantP} {j s : Nat} {a : Addr} (h : (plW hd i p)[j]? = some (s, a)) (v : Int) :
 ∃ (c : Nat) (e' : WantP), c < 2 ∧ a = hd.ad (i * 2 + c) ∧ (waCs p).set c (.int .i64 v) = waCs e' ∧ refsW e' = (refsW p).set j (s, v) ∧ reW z0 e' = reW z0 p ∧ ∀ hd i, plW hd i e' = plW hd i p := by
 obtain ⟨se, b⟩ := p
 unfold plW at h
 cases j with
 | succ j => simp at h
 | zero =>
  simp only [List.getElem?_cons_zero, Option.some.injEq, Prod.mk.injEq] at h
  obtain ⟨rfl, rfl⟩ := h
  exact ⟨0, ⟨v, b⟩, by omega, rfl, rfl, rfl, rfl, fun _ _ => rfl⟩
end Go.Proofs.YtlnbmmaminflcaaGreatDoor
