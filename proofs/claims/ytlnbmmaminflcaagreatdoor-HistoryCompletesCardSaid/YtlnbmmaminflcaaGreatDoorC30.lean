/- Layer history: a history copied into memory of its own, its rows: what stands meanwhile: lemmas on the model alone. -/
import Derived.Test.YtlnbmmaminflcaaGreatDoorC12
import Derived.Test.YtlnbmmaminflcaaGreatDoorC29
import Derived.Test.YtlnbmmaminflcaaGreatDoorC18
-- holds: YtlnbmmaminflcaaGreatDoorSIv YtlnbmmaminflcaaGreatDoorSIva
namespace Go.Proofs.YtlnbmmaminflcaaGreatDoor
open Go.RowKit Go.Shelf

def setSort (h : HistM) (k : Nat) (x : SH × List ByteArray) : HistM :=
 if k = 0 then { h with tr := x } else if k = 1 then { h with se := x } else if k = 2 then { h with ob := x } else { h with pr := x }
def HistM.nms (h : HistM) : List (List Value × SH) := [(strs h.tr.2, h.tr.1), (strs h.se.2, h.se.1), (strs h.ob.2, h.ob.1), (strs h.pr.2, h.pr.1)]
section
variable {h : HistM} {k s : Nat} {x : SH × List ByteArray}
theorem set_sort (hk : k < 4) : (setSort h k x).sort k = x := by
 have : k = 0 ∨ k = 1 ∨ k = 2 ∨ k = 3 := by omega
 rcases this with rfl | rfl | rfl | rfl <;> rfl
theorem set_other (hk : k < 4) (hs : s < 4) (hne : s ≠ k) : (setSort h k x).sort s = h.sort s := by
 have h1 : k = 0 ∨ k = 1 ∨ k = 2 ∨ k = 3 := by omega
 have h2 : s = 0 ∨ s = 1 ∨ s = 2 ∨ s = 3 := by omega
 rcases h1 with rfl | rfl | rfl | rfl <;> rcases h2 with rfl | rfl | rfl | rfl <;> first | rfl | omega
theorem set_rest (hk : k < 4) : (setSort h k x).ev = h.ev ∧ (setSort h k x).od = h.od ∧ (setSort h k x).ma = h.ma ∧ (setSort h k x).wa = h.wa := by
 have : k = 0 ∨ k = 1 ∨ k = 2 ∨ k = 3 := by omega
 rcases this with rfl | rfl | rfl | rfl <;> exact ⟨rfl, rfl, rfl, rfl⟩
theorem set_cs (hk : k < 4) : (setSort h k x).cs = h.cs.setIfInBounds k (.slice x.1.A x.1.n x.1.c) := by
 have : k = 0 ∨ k = 1 ∨ k = 2 ∨ k = 3 := by omega
 rcases this with rfl | rfl | rfl | rfl <;> rfl
theorem set_nms (hk : k < 4) : (setSort h k x).nms = h.nms.set k (strs x.2, x.1) := by
 have : k = 0 ∨ k = 1 ∨ k = 2 ∨ k = 3 := by omega
 rcases this with rfl | rfl | rfl | rfl <;> rfl
theorem nms_at (hk : k < 4) : h.nms[k]? = some (strs (h.sort k).2, (h.sort k).1) := by
 have : k = 0 ∨ k = 1 ∨ k = 2 ∨ k = 3 := by omega
 rcases this with rfl | rfl | rfl | rfl <;> rfl
end

def zeroH : Array Value := #[.slice none 0 0, .slice none 0 0, .slice none 0 0, .slice none 0 0, .slice none 0 0, .slice none 0 0, .slice none 0 0, .slice none 0 0]
structure CpI (Bh B3 : Nat) (w X : World) (h : HistM) (scs its : List (List Value × SH)) : Prop where
 below : Below w.heap.size w X
 b3 : Blk X B3 28 h.cs
 br : Blk X (Bh + 1) 28 zeroH
 ne : B3 ≠ Bh ∧ B3 ≠ Bh + 1 ∧ w.heap.size ≤ B3 ∧ w.heap.size ≤ Bh
 nm : RG 9 1 w.heap.size X h.nms
 ev : X.ownsRow w.heap.size 39 9 (.slice h.ev.1.A h.ev.1.n h.ev.1.c) h.ev.1.n (h.ev.2.flatMap evCs)
 od : X.ownsRow w.heap.size 61 2 (.slice h.od.1.A h.od.1.n h.od.1.c) h.od.1.n (h.od.2.flatMap odCs)
 ma : X.ownsRow w.heap.size 64 4 (.slice h.ma.1.A h.ma.1.n h.ma.1.c) h.ma.1.n (h.ma.2.flatMap maCs)
 wa : X.ownsRow w.heap.size 67 2 (.slice h.wa.1.A h.wa.1.n h.wa.1.c) h.wa.1.n (h.wa.2.flatMap waCs)
 sc : RG 59 3 w.heap.size X scs
 it : RG 3 1 w.heap.size X its
section
variable {Bh B3 k i : Nat} {w X Y : World} {h : HistM} {scs its : List (List Value × SH)} {t : TypeId}
theorem CpI.on (c : CpI Bh B3 w X h scs its) (hb : Below X.heap.size X Y) : CpI Bh B3 w Y h scs its :=
 ⟨c.below.trans (hb.mono c.below.size), c.b3.below hb c.b3.lt, c.br.below hb c.br.lt, c.ne, c.nm.on hb, own_on c.ev hb, own_on c.od hb, own_on c.ma hb, own_on c.wa hb, c.sc.on hb, c.it.on hb⟩
theorem CpI.done (c : CpI Bh B3 w X h (h.ev.2.map fun p => (p.1.scan.flatMap seCs, p.2)) ((h.od.2.map fun p => (ints p.1.ts, p.2)) ++ h.ma.2.map fun p => (ints p.1.ts, p.2))) : HOwn w.heap.size X h := ⟨c.nm, c.ev, c.od, c.ma, c.wa, c.sc, c.it⟩
theorem box_turn {g : Nat} {cs : Array Value} (hb : Blk X g t cs) (j : Nat) (u : Value) : KeepT t X (X.setCell ⟨g, j, none⟩ u) := KeepT.set hb j u
theorem CpI.text (c : CpI Bh B3 w X h scs its) (hk : k < 4) {A' : Option Addr} {c' : Nat} {us : List ByteArray}
 (ho : Y.ownsRow w.heap.size 9 1 (.slice A' ((h.sort k).1.n + us.length) c') ((h.sort k).1.n + us.length) (strs (h.sort k).2 ++ strs us)) (hg : X.grownBy Y (Value.slice (h.sort k).1.A (h.sort k).1.n (h.sort k).1.c).ownBlock)
 (hat : (Value.slice A' ((h.sort k).1.n + us.length) c').ownBlock = (Value.slice (h.sort k).1.A (h.sort k).1.n (h.sort k).1.c).ownBlock ∨ (Value.slice A' ((h.sort k).1.n + us.length) c').ownBlock = some X.heap.size) :
 CpI Bh B3 w (Y.setCell ⟨B3, k, none⟩ (.slice A' ((h.sort k).1.n + us.length) c')) (setSort h k (⟨A', (h.sort k).1.n + us.length, c'⟩, (h.sort k).2 ++ us)) scs its := by
 have hold := c.nm.own k _ (nms_at hk)
 have k1 : KeepT 9 X Y := KeepT.grown hold hg
 have b3Y := k1.blk c.b3 (by decide)
 have k2 := box_turn b3Y k (.slice A' ((h.sort k).1.n + us.length) c')
 obtain ⟨e1, e2, e3, e4⟩ := set_rest (h := h) (x := (⟨A', (h.sort k).1.n + us.length, c'⟩, (h.sort k).2 ++ us)) hk
 have hnm := c.nm.grow (nms_at hk) ho hg hat
 constructor
 ·exact (c.below.grown hg c.below.size fun g hg2 => (own_in_block hold hg2).1).setCell (p := ⟨B3, k, none⟩) c.ne.2.2.1 _
 ·rw [set_cs hk]
  exact b3Y.set_ k _
 ·exact (k1.blk c.br (by decide)).far (p := ⟨B3, k, none⟩) (Ne.symm c.ne.2.1) _
 ·exact c.ne
 ·rw [set_nms hk]
  rw [← strs_append] at hnm
  exact hnm.keepT k2 (by decide)
 ·rw [e1]; exact k2.own (k1.own c.ev (by decide)) (by decide)
 ·rw [e2]; exact k2.own (k1.own c.od (by decide)) (by decide)
 ·rw [e3]; exact k2.own (k1.own c.ma (by decide)) (by decide)
 ·rw [e4]; exact k2.own (k1.own c.wa (by decide)) (by decide)
 ·exact (c.sc.keepT k1 (by decide)).keepT k2 (by decide)
 ·exact (c.it.keepT k1 (by decide)).keepT k2 (by decide)
theorem CpI.scan (c : CpI Bh B3 w X h scs its) {g n cc : Nat} (hA : h.ev.1 = ⟨some ⟨g, 0, none⟩, n, cc⟩) {e : EvP} {h0 hd : SH} (hi : h.ev.2[i]? = some (e, h0)) (hb : Below X.heap.size X Y)
 (ho : Y.ownsRow X.heap.size 59 3 (.slice hd.A hd.n hd.c) hd.n (e.scan.flatMap seCs)) :
 CpI Bh B3 w (Y.setCell ⟨g, i * 9 + 8, none⟩ (.slice hd.A hd.n hd.c)) { h with ev := (h.ev.1, h.ev.2.set i (e, hd)) } (scs ++ [(e.scan.flatMap seCs, hd)]) its := by
 have d := c.on hb
 have hev := d.ev
 rw [hA] at hev
 have st := (hev.stored (i * 9 + 8) (.slice hd.A hd.n hd.c)).1
 rw [fm_set evCs_len hi (by omega) (x' := (e, hd)) rfl] at st
 obtain ⟨hB, _, cur, hbk⟩ := own_in hev (g := g) rfl
 have k2 : KeepT 39 Y (Y.setCell ⟨g, i * 9 + 8, none⟩ (.slice hd.A hd.n hd.c)) := box_turn hbk _ _
 constructor
 ·exact d.below.setCell (p := ⟨g, i * 9 + 8, none⟩) hB _
 ·exact k2.blk d.b3 (by decide)
 ·exact k2.blk d.br (by decide)
 ·exact c.ne
 ·exact d.nm.keepT k2 (by decide)
 ·rw [hA]; exact st
 ·exact k2.own d.od (by decide)
 ·exact k2.own d.ma (by decide)
 ·exact k2.own d.wa (by decide)
 ·exact (c.sc.add hb c.below.size ho).keepT k2 (by decide)
 ·exact d.it.keepT k2 (by decide)
theorem CpI.ord (c : CpI Bh B3 w X h scs its) {g n cc : Nat} (hA : h.od.1 = ⟨some ⟨g, 0, none⟩, n, cc⟩) {e : OrdP} {h0 hd : SH} (hi : h.od.2[i]? = some (e, h0)) (hb : Below X.heap.size X Y)
 (ho : Y.ownsRow X.heap.size 3 1 (.slice hd.A hd.n hd.c) hd.n (ints e.ts)) :
 CpI Bh B3 w (Y.setCell ⟨g, i * 2 + 1, none⟩ (.slice hd.A hd.n hd.c)) { h with od := (h.od.1, h.od.2.set i (e, hd)) } scs (its ++ [(ints e.ts, hd)]) := by
 have d := c.on hb
 have hev := d.od
 rw [hA] at hev
 have st := (hev.stored (i * 2 + 1) (.slice hd.A hd.n hd.c)).1
 rw [fm_set odCs_len hi (by omega) (x' := (e, hd)) rfl] at st
 obtain ⟨hB, _, cur, hbk⟩ := own_in hev (g := g) rfl
 have k2 : KeepT 61 Y (Y.setCell ⟨g, i * 2 + 1, none⟩ (.slice hd.A hd.n hd.c)) := box_turn hbk _ _
 constructor
 ·exact d.below.setCell (p := ⟨g, i * 2 + 1, none⟩) hB _
 ·exact k2.blk d.b3 (by decide)
 ·exact k2.blk d.br (by decide)
 ·exact c.ne
 ·exact d.nm.keepT k2 (by decide)
 ·exact k2.own d.ev (by decide)
 ·rw [hA]; exact st
 ·exact k2.own d.ma (by decide)
 ·exact k2.own d.wa (by decide)
 ·exact d.sc.keepT k2 (by decide)
 ·exact (c.it.add hb c.below.size ho).keepT k2 (by decide)
theorem CpI.mat (c : CpI Bh B3 w X h scs its) {g n cc : Nat} (hA : h.ma.1 = ⟨some ⟨g, 0, none⟩, n, cc⟩) {e : MatP} {h0 hd : SH} (hi : h.ma.2[i]? = some (e, h0)) (hb : Below X.heap.size X Y)
 (ho : Y.ownsRow X.heap.size 3 1 (.slice hd.A hd.n hd.c) hd.n (ints e.ts)) :
 CpI Bh B3 w (Y.setCell ⟨g, i * 4 + 3, none⟩ (.slice hd.A hd.n hd.c)) { h with ma := (h.ma.1, h.ma.2.set i (e, hd)) } scs (its ++ [(ints e.ts, hd)]) := by
 have d := c.on hb
 have hev := d.ma
 rw [hA] at hev
 have st := (hev.stored (i * 4 + 3) (.slice hd.A hd.n hd.c)).1
 rw [fm_set maCs_len hi (by omega) (x' := (e, hd)) rfl] at st
 obtain ⟨hB, _, cur, hbk⟩ := own_in hev (g := g) rfl
 have k2 : KeepT 64 Y (Y.setCell ⟨g, i * 4 + 3, none⟩ (.slice hd.A hd.n hd.c)) := box_turn hbk _ _
 constructor
 ·exact d.below.setCell (p := ⟨g, i * 4 + 3, none⟩) hB _
 ·exact k2.blk d.b3 (by decide)
 ·exact k2.blk d.br (by decide)
 ·exact c.ne
 ·exact d.nm.keepT k2 (by decide)
 ·exact k2.own d.ev (by decide)
 ·exact k2.own d.od (by decide)
 ·rw [hA]; exact st
 ·exact k2.own d.wa (by decide)
 ·exact d.sc.keepT k2 (by decide)
 ·exact (c.it.add hb c.below.size ho).keepT k2 (by decide)
end
end Go.Proofs.YtlnbmmaminflcaaGreatDoor
namespace Go.Proofs.YtlnbmmaminflcaaGreatDoor
open Go.RowKit Go.Shelf

def scOf (p : EvP × SH) : List Value × SH := (p.1.scan.flatMap seCs, p.2)
def toOf (p : OrdP × SH) : List Value × SH := (ints p.1.ts, p.2)
def tmOf (p : MatP × SH) : List Value × SH := (ints p.1.ts, p.2)
def PlL (m h : HistM) : Prop := h.pl = m.pl ∧ h.ev.1.n = m.ev.1.n ∧ h.od.1.n = m.od.1.n ∧ h.ma.1.n = m.ma.1.n ∧ h.wa.1.n = m.wa.1.n
theorem take_set {α : Type} {l : List α} {i : Nat} {x y : α} (h : l[i]? = some y) : (l.set i x).take (i + 1) = l.take i ++ [x] := by
 have hi := (List.getElem?_eq_some_iff.1 h).1
 rw [List.take_add_one, List.getElem?_set_self hi, List.take_set_of_le (Nat.le_refl _)]
 rfl
theorem map_set_same {α β : Type} {f : α → β} {l : List α} {i : Nat} {x y : α} (h : l[i]? = some y) (hf : f x = f y) : (l.set i x).map f = l.map f := by
 rw [List.map_set]
 obtain ⟨hi, rfl⟩ := List.getElem?_eq_some_iff.1 h
 rw [hf]
 refine List.ext_getElem? fun k => ?_
 rw [List.getElem?_set]
 split
 ·rename_i e
  subst e
  rw [if_pos (by simpa using hi), List.getElem?_map, List.getElem?_eq_getElem hi]
  rfl
 ·rfl
theorem fst_at {α β : Type} {l : List (α × β)} {l' : List (α × β)} (h : l.map (·.1) = l'.map (·.1)) {i : Nat} {x : α} {y : β} (hi : l'[i]? = some (x, y)) : ∃ z, l[i]? = some (x, z) := by
 have e : (l.map (·.1))[i]? = some x := by rw [h, List.getElem?_map, hi]; rfl
 rw [List.getElem?_map] at e
 cases hl : l[i]? with
 | none => rw [hl] at e; cases e
 | some p =>
  rw [hl] at e
  injection e with e
  obtain ⟨a, b⟩ := p
  subst e
  exact ⟨b, rfl⟩
theorem own_pos {w : World} {base s n c : Nat} {t : TypeId} {A : Option Addr} {xs : List Value} (h : w.ownsRow base t s (.slice A n c) n xs) (hn : 0 < n) : ∃ g, A = some ⟨g, 0, none⟩ := by
 rcases h.2 with ⟨_, e⟩ | ⟨g, cap, cur, e, _⟩
 ·omega
 ·injection e with e1 _ _
  exact ⟨g, e1⟩
theorem own_long {α : Type} {enc : α → List Value} {w : World} {base s n c : Nat} {t : TypeId} {A : Option Addr} {l : List α} (hs : ∀ x, (enc x).length = s) (hp : 0 < s) (h : w.ownsRow base t s (.slice A n c) n (l.flatMap enc)) : l.length = n := by
 have := h.1
 rw [fm_len hs] at this
 exact Nat.eq_of_mul_eq_mul_right hp this
def BoxC (m : HistM) (Bh B3 B4 : Nat) (X : World) : Prop := Blk X Bh 28 m.cs ∧ Blk X B4 75 #[.pointer (some ⟨B3, 0, none⟩), .pointer (some ⟨B3, 1, none⟩), .pointer (some ⟨B3, 2, none⟩), .pointer (some ⟨B3, 3, none⟩)]
theorem BoxC.on {m : HistM} {Bh B3 B4 : Nat} {X Y : World} (h : BoxC m Bh B3 B4 X) (hb : Below X.heap.size X Y) : BoxC m Bh B3 B4 Y := ⟨h.1.below hb h.1.lt, h.2.below hb h.2.lt⟩
theorem BoxC.keepT {m : HistM} {Bh B3 B4 : Nat} {X Y : World} {t : TypeId} (h : BoxC m Bh B3 B4 X) (hk : KeepT t X Y) (h1 : 28 ≠ t) (h2 : 75 ≠ t) : BoxC m Bh B3 B4 Y := ⟨hk.blk h.1 h1, hk.blk h.2 h2⟩
theorem BoxC.far {m : HistM} {Bh B3 B4 : Nat} {X : World} (h : BoxC m Bh B3 B4 X) {h3 : Array Value} (hb : Blk X B3 28 h3) (hne : B3 ≠ Bh) (i : Nat) (u : Value) : BoxC m Bh B3 B4 (X.setCell ⟨B3, i, none⟩ u) := ⟨h.1.far (p := ⟨B3, i, none⟩) (Ne.symm hne) _, h.2.far (p := ⟨B3, i, none⟩) (Blk.ne_ h.2 hb (by decide)) _⟩
def CpS (Bh B3 : Nat) (w X : World) (h : HistM) (i : Nat) : Prop := CpI Bh B3 w X h ((h.ev.2.take i).map scOf) []
def CpO (Bh B3 : Nat) (w X : World) (h : HistM) (i : Nat) : Prop := CpI Bh B3 w X h (h.ev.2.map scOf) ((h.od.2.take i).map toOf)
def CpM (Bh B3 : Nat) (w X : World) (h : HistM) (i : Nat) : Prop := CpI Bh B3 w X h (h.ev.2.map scOf) (h.od.2.map toOf ++ (h.ma.2.take i).map tmOf)
section
variable {Bh B3 B4 i : Nat} {w X : World} {m h : HistM} {scs its : List (List Value × SH)}
theorem CpI.scan_next (c : CpI Bh B3 w X h ((h.ev.2.take i).map scOf) its) (hp : PlL m h) {e : EvP} {hd0 : SH} (hi : m.ev.2[i]? = some (e, hd0)) :
 ∃ (g : Nat) (h0 : SH), h.ev.1.A = some ⟨g, 0, none⟩ ∧ ∀ Y, Below X.heap.size X Y → Y.cell? ⟨g, i * 9 + 8, none⟩ = some (.slice h0.A h0.n h0.c) ∧ Y.frozen? ⟨g, i * 9 + 8, none⟩ = false ∧ ∀ hd : SH, Y.ownsRow X.heap.size 59 3 (.slice hd.A hd.n hd.c) hd.n (e.scan.flatMap seCs) → BoxC m Bh B3 B4 Y →
  BoxC m Bh B3 B4 (Y.setCell ⟨g, i * 9 + 8, none⟩ (.slice hd.A hd.n hd.c)) ∧ ∃ h' : HistM, CpI Bh B3 w (Y.setCell ⟨g, i * 9 + 8, none⟩ (.slice hd.A hd.n hd.c)) h' ((h'.ev.2.take (i + 1)).map scOf) its ∧ PlL m h' ∧ h'.cs = h.cs ∧ h'.od = h.od ∧ h'.ma = h.ma := by
 have hq : h.ev.2.map (·.1) = m.ev.2.map (·.1) := congrArg Hist.ev hp.1
 obtain ⟨h0, hk⟩ := fst_at hq hi
 have hkl := (List.getElem?_eq_some_iff.1 hk).1
 have hl := own_long evCs_len (by omega) c.ev
 obtain ⟨g, hA⟩ := own_pos c.ev (by omega)
 have hA' : h.ev.1 = ⟨some ⟨g, 0, none⟩, h.ev.1.n, h.ev.1.c⟩ := by rw [← hA]
 refine ⟨g, h0, hA, fun Y hb => ?_⟩
 have d := (c.on hb).ev
 rw [hA] at d
 refine ⟨?_, d.frozenAt _, fun hd ho hx => ?_⟩
 ·rw [d.cellAt _ (by omega)]
  exact fm_at evCs_len hk (j := 8) rfl
 ·obtain ⟨hB, _, cur, hbk⟩ := own_in d (g := g) rfl
  have k2 : KeepT 39 Y (Y.setCell ⟨g, i * 9 + 8, none⟩ (.slice hd.A hd.n hd.c)) := box_turn hbk _ _
  refine ⟨hx.keepT k2 (by decide) (by decide), { h with ev := (h.ev.1, h.ev.2.set i (e, hd)) }, ?_, ⟨?_, hp.2⟩, rfl, rfl, rfl⟩
  ·have := c.scan hA' hk hb ho
   show CpI Bh B3 w _ _ (((h.ev.2.set i (e, hd)).take (i + 1)).map scOf) its
   rw [take_set hk, List.map_append]
   exact this
  ·rw [← hp.1]
   unfold HistM.pl
   simp only [Hist.mk.injEq, true_and, and_true]
   exact map_set_same hk rfl
theorem CpI.ord_next (c : CpI Bh B3 w X h scs ((h.od.2.take i).map toOf)) (hp : PlL m h) {e : OrdP} {hd0 : SH} (hi : m.od.2[i]? = some (e, hd0)) :
 ∃ (g : Nat) (h0 : SH), h.od.1.A = some ⟨g, 0, none⟩ ∧ ∀ Y, Below X.heap.size X Y → Y.cell? ⟨g, i * 2 + 1, none⟩ = some (.slice h0.A h0.n h0.c) ∧ Y.frozen? ⟨g, i * 2 + 1, none⟩ = false ∧ ∀ hd : SH, Y.ownsRow X.heap.size 3 1 (.slice hd.A hd.n hd.c) hd.n (ints e.ts) → BoxC m Bh B3 B4 Y →
  BoxC m Bh B3 B4 (Y.setCell ⟨g, i * 2 + 1, none⟩ (.slice hd.A hd.n hd.c)) ∧ ∃ h' : HistM, CpI Bh B3 w (Y.setCell ⟨g, i * 2 + 1, none⟩ (.slice hd.A hd.n hd.c)) h' scs ((h'.od.2.take (i + 1)).map toOf) ∧ PlL m h' ∧ h'.cs = h.cs ∧ h'.ev = h.ev ∧ h'.ma = h.ma := by
 have hq : h.od.2.map (·.1) = m.od.2.map (·.1) := congrArg Hist.od hp.1
 obtain ⟨h0, hk⟩ := fst_at hq hi
 have hkl := (List.getElem?_eq_some_iff.1 hk).1
 have hl := own_long odCs_len (by omega) c.od
 obtain ⟨g, hA⟩ := own_pos c.od (by omega)
 have hA' : h.od.1 = ⟨some ⟨g, 0, none⟩, h.od.1.n, h.od.1.c⟩ := by rw [← hA]
 refine ⟨g, h0, hA, fun Y hb => ?_⟩
 have d := (c.on hb).od
 rw [hA] at d
 refine ⟨?_, d.frozenAt _, fun hd ho hx => ?_⟩
 ·rw [d.cellAt _ (by omega)]
  exact fm_at odCs_len hk (j := 1) rfl
 ·obtain ⟨hB, _, cur, hbk⟩ := own_in d (g := g) rfl
  have k2 : KeepT 61 Y (Y.setCell ⟨g, i * 2 + 1, none⟩ (.slice hd.A hd.n hd.c)) := box_turn hbk _ _
  refine ⟨hx.keepT k2 (by decide) (by decide), { h with od := (h.od.1, h.od.2.set i (e, hd)) }, ?_, ⟨?_, hp.2⟩, rfl, rfl, rfl⟩
  ·have := c.ord hA' hk hb ho
   show CpI Bh B3 w _ _ scs (((h.od.2.set i (e, hd)).take (i + 1)).map toOf)
   rw [take_set hk, List.map_append]
   exact this
  ·rw [← hp.1]
   unfold HistM.pl
   simp only [Hist.mk.injEq, true_and, and_true]
   exact map_set_same hk rfl
theorem CpI.mat_next (c : CpI Bh B3 w X h scs (its ++ (h.ma.2.take i).map tmOf)) (hp : PlL m h) {e : MatP} {hd0 : SH} (hi : m.ma.2[i]? = some (e, hd0)) :
 ∃ (g : Nat) (h0 : SH), h.ma.1.A = some ⟨g, 0, none⟩ ∧ ∀ Y, Below X.heap.size X Y → Y.cell? ⟨g, i * 4 + 3, none⟩ = some (.slice h0.A h0.n h0.c) ∧ Y.frozen? ⟨g, i * 4 + 3, none⟩ = false ∧ ∀ hd : SH, Y.ownsRow X.heap.size 3 1 (.slice hd.A hd.n hd.c) hd.n (ints e.ts) → BoxC m Bh B3 B4 Y →
  BoxC m Bh B3 B4 (Y.setCell ⟨g, i * 4 + 3, none⟩ (.slice hd.A hd.n hd.c)) ∧ ∃ h' : HistM, CpI Bh B3 w (Y.setCell ⟨g, i * 4 + 3, none⟩ (.slice hd.A hd.n hd.c)) h' scs (its ++ (h'.ma.2.take (i + 1)).map tmOf) ∧ PlL m h' ∧ h'.cs = h.cs ∧ h'.ev = h.ev ∧ h'.od = h.od := by
 have hq : h.ma.2.map (·.1) = m.ma.2.map (·.1) := congrArg Hist.ma hp.1
 obtain ⟨h0, hk⟩ := fst_at hq hi
 have hkl := (List.getElem?_eq_some_iff.1 hk).1
 have hl := own_long maCs_len (by omega) c.ma
 obtain ⟨g, hA⟩ := own_pos c.ma (by omega)
 have hA' : h.ma.1 = ⟨some ⟨g, 0, none⟩, h.ma.1.n, h.ma.1.c⟩ := by rw [← hA]
 refine ⟨g, h0, hA, fun Y hb => ?_⟩
 have d := (c.on hb).ma
 rw [hA] at d
 refine ⟨?_, d.frozenAt _, fun hd ho hx => ?_⟩
 ·rw [d.cellAt _ (by omega)]
  exact fm_at maCs_len hk (j := 3) rfl
 ·obtain ⟨hB, _, cur, hbk⟩ := own_in d (g := g) rfl
  have k2 : KeepT 64 Y (Y.setCell ⟨g, i * 4 + 3, none⟩ (.slice hd.A hd.n hd.c)) := box_turn hbk _ _
  refine ⟨hx.keepT k2 (by decide) (by decide), { h with ma := (h.ma.1, h.ma.2.set i (e, hd)) }, ?_, ⟨?_, hp.2⟩, rfl, rfl, rfl⟩
  ·have := c.mat hA' hk hb ho
   show CpI Bh B3 w _ _ scs (its ++ ((h.ma.2.set i (e, hd)).take (i + 1)).map tmOf)
   rw [take_set hk, List.map_append]
   rw [← List.append_assoc]
   exact this
  ·rw [← hp.1]
   unfold HistM.pl
   simp only [Hist.mk.injEq, true_and, and_true]
   exact map_set_same hk rfl
end
end Go.Proofs.YtlnbmmaminflcaaGreatDoor
