/- The laws of layer history, what they take of a history (few): contract. -/
import Derived.Test.YtlnbmmaminflcaaGreatDoorM26
import Derived.Test.YtlnbmmaminflcaaGreatDoorM12
import Derived.Test.YtlnbmmaminflcaaGreatDoorM16
import Derived.Test.YtlnbmmaminflcaaGreatDoorM17
-- holds: YtlnbmmaminflcaaGreatDoorVJm YtlnbmmaminflcaaGreatDoorVJo YtlnbmmaminflcaaGreatDoorVJn
namespace Go.Proofs.YtlnbmmaminflcaaGreatDoor
open Go.RowKit Go.Shelf

def cutE (e : EvP) : EvP := ⟨e.kd, e.t, e.s, e.lev, e.o, e.vt, e.vk, e.p, e.scan.take 41⟩
def cutO (r : OrdP) : OrdP := ⟨r.o, r.ts.take 20⟩
def cutM (r : MatP) : MatP := ⟨r.p, r.o, r.fi, r.ts.take 20⟩
def fewP (H : Hist) : Hist := ⟨cutL 20 H.tr, cutL 10 H.se, cutL 20 H.ob, cutL 10 H.pr, (H.ev.take 80).map cutE, (H.od.take 20).map cutO, (H.ma.take 20).map cutM, H.wa.take 20⟩
theorem cutL_size {k : Nat} {l : List ByteArray} : ∀ b ∈ cutL k l, b.size ≤ 40 := by
 intro b hb
 unfold cutL at hb
 obtain ⟨s, _, rfl⟩ := List.mem_map.1 hb
 exact cutN_size s
theorem few_small (H : Hist) : Small (fewP H) := by
 have hl := fun k l => cutL_len k l
 refine ⟨?_, ?_, ?_, ?_, ?_, ?_, ?_, ?_, ?_, ?_, ?_, ?_⟩
 ·exact Nat.le_trans (hl 20 H.tr) (by omega)
 ·exact Nat.le_trans (hl 10 H.se) (by omega)
 ·exact Nat.le_trans (hl 20 H.ob) (by omega)
 ·exact Nat.le_trans (hl 10 H.pr) (by omega)
 ·show ((H.ev.take 80).map cutE).length ≤ 200
  rw [List.length_map, List.length_take]; omega
 ·show ((H.od.take 20).map cutO).length ≤ 60
  rw [List.length_map, List.length_take]; omega
 ·show ((H.ma.take 20).map cutM).length ≤ 60
  rw [List.length_map, List.length_take]; omega
 ·show (H.wa.take 20).length ≤ 60
  rw [List.length_take]; omega
 ·intro e he
  obtain ⟨x, _, rfl⟩ := List.mem_map.1 (show e ∈ (H.ev.take 80).map cutE from he)
  show (x.scan.take 41).length ≤ 60
  rw [List.length_take]; omega
 ·intro e he
  obtain ⟨x, _, rfl⟩ := List.mem_map.1 (show e ∈ (H.od.take 20).map cutO from he)
  show (x.ts.take 20).length ≤ 60
  rw [List.length_take]; omega
 ·intro e he
  obtain ⟨x, _, rfl⟩ := List.mem_map.1 (show e ∈ (H.ma.take 20).map cutM from he)
  show (x.ts.take 20).length ≤ 60
  rw [List.length_take]; omega
 ·intro s hs b hb
  have : s = 0 ∨ s = 1 ∨ s = 2 ∨ s = 3 := by omega
  have hx : ∃ k l, b ∈ cutL k l := by
   rcases this with rfl | rfl | rfl | rfl
   ·exact ⟨20, H.tr, hb⟩
   ·exact ⟨10, H.se, hb⟩
   ·exact ⟨20, H.ob, hb⟩
   ·exact ⟨10, H.pr, hb⟩
  obtain ⟨k, l, hb⟩ := hx
  exact Nat.le_trans (cutL_size b hb) (by omega)
structure FewS (m h : HistM) (i j k : Nat) : Prop where
 tr : h.tr.2 = cutL 20 m.tr.2
 se : h.se.2 = cutL 10 m.se.2
 ob : h.ob.2 = cutL 20 m.ob.2
 pr : h.pr.2 = cutL 10 m.pr.2
 ev : h.ev.2.map (·.1) = (m.pl.ev.take i).map cutE
 od : h.od.2.map (·.1) = (m.pl.od.take j).map cutO
 ma : h.ma.2.map (·.1) = (m.pl.ma.take k).map cutM
 wa : h.wa.2 = []
 n : h.ev.1.n ≤ 80 ∧ h.od.1.n ≤ 20 ∧ h.ma.1.n ≤ 20
theorem FewS.all {m h : HistM} {i j k : Nat} (c : FewS m h i j k) (hi : i = min m.pl.ev.length 80) (hj : j = min m.pl.od.length 20) (hk : k = min m.pl.ma.length 20) {hd : SH} :
 ({ h with wa := (hd, m.wa.2.take 20) } : HistM).pl = fewP m.pl := by
 have e1 : m.pl.ev.take i = m.pl.ev.take 80 := by rw [hi]; rcases Nat.le_total m.pl.ev.length 80 with h1 | h1; rw [Nat.min_eq_left h1, List.take_of_length_le (Nat.le_refl _), List.take_of_length_le h1]; rw [Nat.min_eq_right h1]
 have e2 : m.pl.od.take j = m.pl.od.take 20 := by rw [hj]; rcases Nat.le_total m.pl.od.length 20 with h1 | h1; rw [Nat.min_eq_left h1, List.take_of_length_le (Nat.le_refl _), List.take_of_length_le h1]; rw [Nat.min_eq_right h1]
 have e3 : m.pl.ma.take k = m.pl.ma.take 20 := by rw [hk]; rcases Nat.le_total m.pl.ma.length 20 with h1 | h1; rw [Nat.min_eq_left h1, List.take_of_length_le (Nat.le_refl _), List.take_of_length_le h1]; rw [Nat.min_eq_right h1]
 show (⟨h.tr.2, h.se.2, h.ob.2, h.pr.2, h.ev.2.map (·.1), h.od.2.map (·.1), h.ma.2.map (·.1), m.wa.2.take 20⟩ : Hist) = _
 rw [c.tr, c.se, c.ob, c.pr, c.ev, c.od, c.ma, e1, e2, e3]
 rfl
section
variable {Bh B3 : Nat} {w X Y Z : World} {h : HistM} {scs its : List (List Value × SH)}
def addEv11 (h : HistM) (A : Option Addr) (c : Nat) (p : EvP × SH) : HistM := ⟨h.tr, h.se, h.ob, h.pr, (⟨A, h.ev.1.n + 1, c⟩, h.ev.2 ++ [p]), h.od, h.ma, h.wa⟩
theorem CpI.add_ev (c : CpI Bh B3 w X h scs its) {e : EvP} {hd : SH} {A : Option Addr} {c' : Nat} (hb : Below X.heap.size X Y)
 (hs : Y.ownsRow X.heap.size 59 3 (.slice hd.A hd.n hd.c) hd.n (e.scan.flatMap seCs)) (ho : Z.ownsRow w.heap.size 39 9 (.slice A (h.ev.1.n + 1) c') (h.ev.1.n + 1) (h.ev.2.flatMap evCs ++ evCs (e, hd))) (hg : Y.grownBy Z (Value.slice h.ev.1.A h.ev.1.n h.ev.1.c).ownBlock) :
 Blk Z B3 28 h.cs ∧ CpI Bh B3 w (Z.setCell ⟨B3, 4, none⟩ (.slice A (h.ev.1.n + 1) c')) (addEv11 h A c' (e, hd)) (scs ++ [(e.scan.flatMap seCs, hd)]) its := by
 have d := c.on hb
 have k1 : KeepT 39 Y Z := KeepT.grown d.ev hg
 have b3Z := k1.blk d.b3 (by decide)
 have k2 := box_turn b3Z 4 (.slice A (h.ev.1.n + 1) c')
 refine ⟨b3Z, ?_⟩
 constructor
 ·exact (d.below.grown hg d.below.size fun g hg2 => (own_in_block d.ev hg2).1).setCell (p := ⟨B3, 4, none⟩) c.ne.2.2.1 _
 ·exact b3Z.set_ 4 _
 ·exact (k1.blk d.br (by decide)).far (p := ⟨B3, 4, none⟩) (Ne.symm c.ne.2.1) _
 ·exact c.ne
 ·exact (d.nm.keepT k1 (by decide)).keepT k2 (by decide)
 ·have e2 : (h.ev.2 ++ [(e, hd)]).flatMap evCs = h.ev.2.flatMap evCs ++ evCs (e, hd) := by rw [List.flatMap_append, List.flatMap_cons, List.flatMap_nil, List.append_nil]
  show World.ownsRow _ _ _ _ _ _ ((h.ev.2 ++ [(e, hd)]).flatMap evCs)
  rw [e2]
  exact k2.own ho (by decide)
 ·exact k2.own (k1.own d.od (by decide)) (by decide)
 ·exact k2.own (k1.own d.ma (by decide)) (by decide)
 ·exact k2.own (k1.own d.wa (by decide)) (by decide)
 ·exact ((c.sc.add hb c.below.size hs).keepT k1 (by decide)).keepT k2 (by decide)
 ·exact (d.it.keepT k1 (by decide)).keepT k2 (by decide)
def addOd (h : HistM) (A : Option Addr) (c : Nat) (p : OrdP × SH) : HistM := ⟨h.tr, h.se, h.ob, h.pr, h.ev, (⟨A, h.od.1.n + 1, c⟩, h.od.2 ++ [p]), h.ma, h.wa⟩
theorem CpI.add_od (c : CpI Bh B3 w X h scs its) {e : OrdP} {hd : SH} {A : Option Addr} {c' : Nat} (hb : Below X.heap.size X Y)
 (hs : Y.ownsRow X.heap.size 3 1 (.slice hd.A hd.n hd.c) hd.n (ints e.ts)) (ho : Z.ownsRow w.heap.size 61 2 (.slice A (h.od.1.n + 1) c') (h.od.1.n + 1) (h.od.2.flatMap odCs ++ odCs (e, hd))) (hg : Y.grownBy Z (Value.slice h.od.1.A h.od.1.n h.od.1.c).ownBlock) :
 Blk Z B3 28 h.cs ∧ CpI Bh B3 w (Z.setCell ⟨B3, 5, none⟩ (.slice A (h.od.1.n + 1) c')) (addOd h A c' (e, hd)) scs (its ++ [(ints e.ts, hd)]) := by
 have d := c.on hb
 have k1 : KeepT 61 Y Z := KeepT.grown d.od hg
 have b3Z := k1.blk d.b3 (by decide)
 have k2 := box_turn b3Z 5 (.slice A (h.od.1.n + 1) c')
 refine ⟨b3Z, ?_⟩
 constructor
 ·exact (d.below.grown hg d.below.size fun g hg2 => (own_in_block d.od hg2).1).setCell (p := ⟨B3, 5, none⟩) c.ne.2.2.1 _
 ·exact b3Z.set_ 5 _
 ·exact (k1.blk d.br (by decide)).far (p := ⟨B3, 5, none⟩) (Ne.symm c.ne.2.1) _
 ·exact c.ne
 ·exact (d.nm.keepT k1 (by decide)).keepT k2 (by decide)
 ·exact k2.own (k1.own d.ev (by decide)) (by decide)
 ·have e2 : (h.od.2 ++ [(e, hd)]).flatMap odCs = h.od.2.flatMap odCs ++ odCs (e, hd) := by rw [List.flatMap_append, List.flatMap_cons, List.flatMap_nil, List.append_nil]
  show World.ownsRow _ _ _ _ _ _ ((h.od.2 ++ [(e, hd)]).flatMap odCs)
  rw [e2]
  exact k2.own ho (by decide)
 ·exact k2.own (k1.own d.ma (by decide)) (by decide)
 ·exact k2.own (k1.own d.wa (by decide)) (by decide)
 ·exact (d.sc.keepT k1 (by decide)).keepT k2 (by decide)
 ·exact ((c.it.add hb c.below.size hs).keepT k1 (by decide)).keepT k2 (by decide)
def addMa (h : HistM) (A : Option Addr) (c : Nat) (p : MatP × SH) : HistM := ⟨h.tr, h.se, h.ob, h.pr, h.ev, h.od, (⟨A, h.ma.1.n + 1, c⟩, h.ma.2 ++ [p]), h.wa⟩
theorem CpI.add_ma (c : CpI Bh B3 w X h scs its) {e : MatP} {hd : SH} {A : Option Addr} {c' : Nat} (hb : Below X.heap.size X Y)
 (hs : Y.ownsRow X.heap.size 3 1 (.slice hd.A hd.n hd.c) hd.n (ints e.ts)) (ho : Z.ownsRow w.heap.size 64 4 (.slice A (h.ma.1.n + 1) c') (h.ma.1.n + 1) (h.ma.2.flatMap maCs ++ maCs (e, hd))) (hg : Y.grownBy Z (Value.slice h.ma.1.A h.ma.1.n h.ma.1.c).ownBlock) :
 Blk Z B3 28 h.cs ∧ CpI Bh B3 w (Z.setCell ⟨B3, 6, none⟩ (.slice A (h.ma.1.n + 1) c')) (addMa h A c' (e, hd)) scs (its ++ [(ints e.ts, hd)]) := by
 have d := c.on hb
 have k1 : KeepT 64 Y Z := KeepT.grown d.ma hg
 have b3Z := k1.blk d.b3 (by decide)
 have k2 := box_turn b3Z 6 (.slice A (h.ma.1.n + 1) c')
 refine ⟨b3Z, ?_⟩
 constructor
 ·exact (d.below.grown hg d.below.size fun g hg2 => (own_in_block d.ma hg2).1).setCell (p := ⟨B3, 6, none⟩) c.ne.2.2.1 _
 ·exact b3Z.set_ 6 _
 ·exact (k1.blk d.br (by decide)).far (p := ⟨B3, 6, none⟩) (Ne.symm c.ne.2.1) _
 ·exact c.ne
 ·exact (d.nm.keepT k1 (by decide)).keepT k2 (by decide)
 ·exact k2.own (k1.own d.ev (by decide)) (by decide)
 ·exact k2.own (k1.own d.od (by decide)) (by decide)
 ·have e2 : (h.ma.2 ++ [(e, hd)]).flatMap maCs = h.ma.2.flatMap maCs ++ maCs (e, hd) := by rw [List.flatMap_append, List.flatMap_cons, List.flatMap_nil, List.append_nil]
  show World.ownsRow _ _ _ _ _ _ ((h.ma.2 ++ [(e, hd)]).flatMap maCs)
  rw [e2]
  exact k2.own ho (by decide)
 ·exact k2.own (k1.own d.wa (by decide)) (by decide)
 ·exact (d.sc.keepT k1 (by decide)).keepT k2 (by decide)
 ·exact ((c.it.add hb c.below.size hs).keepT k1 (by decide)).keepT k2 (by decide)
def setWa (h : HistM) (A : Option Addr) (n c : Nat) (l : List WantP) : HistM := ⟨h.tr, h.se, h.ob, h.pr, h.ev, h.od, h.ma, (⟨A, n, c⟩, l)⟩
theorem CpI.set_wa (c : CpI Bh B3 w X h scs its) {A : Option Addr} {n c' : Nat} {l : List WantP} (hb : Below X.heap.size X Y)
 (ho : Y.ownsRow X.heap.size 67 2 (.slice A n c') n (l.flatMap waCs)) :
 Blk Y B3 28 h.cs ∧ CpI Bh B3 w (Y.setCell ⟨B3, 7, none⟩ (.slice A n c')) (setWa h A n c' l) scs its := by
 have d := c.on hb
 have k2 := box_turn d.b3 7 (.slice A n c')
 refine ⟨d.b3, ?_⟩
 constructor
 ·exact d.below.setCell (p := ⟨B3, 7, none⟩) c.ne.2.2.1 _
 ·exact d.b3.set_ 7 _
 ·exact d.br.far (p := ⟨B3, 7, none⟩) (Ne.symm c.ne.2.1) _
 ·exact c.ne
 ·exact d.nm.keepT k2 (by decide)
 ·exact k2.own d.ev (by decide)
 ·exact k2.own d.od (by decide)
 ·exact k2.own d.ma (by decide)
 ·exact k2.own (own_mono ho c.below.size) (by decide)
 ·exact d.sc.keepT k2 (by decide)
 ·exact d.it.keepT k2 (by decide)
end
section
variable {m h : HistM} {i j k : Nat} {A : Option Addr} {c : Nat} {hd : SH}
theorem FewS.ev_next (s : FewS m h i j k) {e : EvP} (he : m.pl.ev[i]? = some e) (hn : h.ev.1.n < 80) : FewS m (addEv11 h A c (cutE e, hd)) (i + 1) j k :=
 ⟨s.tr, s.se, s.ob, s.pr, by show (h.ev.2 ++ [(cutE e, hd)]).map (·.1) = _; rw [List.map_append, s.ev, List.take_add_one, he, List.map_append]; rfl, s.od, s.ma, s.wa, hn, s.n.2⟩
theorem FewS.od_next (s : FewS m h i j k) {e : OrdP} (he : m.pl.od[j]? = some e) (hn : h.od.1.n < 20) : FewS m (addOd h A c (cutO e, hd)) i (j + 1) k :=
 ⟨s.tr, s.se, s.ob, s.pr, s.ev, by show (h.od.2 ++ [(cutO e, hd)]).map (·.1) = _; rw [List.map_append, s.od, List.take_add_one, he, List.map_append]; rfl, s.ma, s.wa, s.n.1, hn, s.n.2.2⟩
theorem FewS.ma_next (s : FewS m h i j k) {e : MatP} (he : m.pl.ma[k]? = some e) (hn : h.ma.1.n < 20) : FewS m (addMa h A c (cutM e, hd)) i j (k + 1) :=
 ⟨s.tr, s.se, s.ob, s.pr, s.ev, s.od, by show (h.ma.2 ++ [(cutM e, hd)]).map (·.1) = _; rw [List.map_append, s.ma, List.take_add_one, he, List.map_append]; rfl, s.wa, s.n.1, s.n.2.1, hn⟩
end
theorem reads_cut_s {α : Type} {en : α → List Value} {s B n q : Nat} {W : World} {A : Option Addr} {l : List α} (hs : ∀ x, (en x).length = s) (h : Reads W B s A n (l.flatMap en)) (hq : q ≤ n) : Reads W B s A q ((l.take q).flatMap en) := by
 have := reads_take h hq
 rwa [show (l.flatMap en).take (q * s) = (l.take q).flatMap en from ?_] at this
 have e : l.flatMap en = (l.take q).flatMap en ++ (l.drop q).flatMap en := by rw [← List.flatMap_append, List.take_append_drop]
 rcases Nat.le_total l.length q with h1 | h1
 ·rw [List.take_of_length_le (l := l) h1, List.take_of_length_le]
  rw [fm_len hs]
  exact Nat.mul_le_mul_right _ h1
 ·rw [e, List.take_append_of_le_length (by rw [fm_len hs, List.length_take, Nat.min_eq_left h1]; exact Nat.le_refl _), List.take_of_length_le (by rw [fm_len hs, List.length_take, Nat.min_eq_left h1]; exact Nat.le_refl _)]
theorem elem_se (W : World) : (sizeOf (Tryz.prog.elem 37)).run Tryz.prog W = .ok 3 W := by kernel_rfl
theorem cut_se (A : Option Addr) (len cap h : Nat) (hh : h ≤ cap) (W : World) :
 (Instr.slice 37 (.slice A len cap) none (some (.int .i64 (h : Int))) none).run Tryz.prog W = .ok (.slice A h cap) W := by
 have e0 : Value.slice (if cap = 0 then A else A.map (·.add (0 * 3))) (h - 0) (cap - 0) = .slice A h cap := by
  have : (if cap = 0 then A else A.map (·.add (0 * 3))) = A := by
   split
   ·rfl
   ·cases A <;> simp [Addr.add]
  rw [this, Nat.sub_zero, Nat.sub_zero]
 rw [run_slice_h W 37 A len cap (show Tryz.prog.underlying 37 = some (.slice (Tryz.prog.elem 37)) by kernel_rfl) .i64 h (by omega) (by omega), elem_se]
 exact congrArg (fun v => Result.ok v W) e0
theorem elem_in (W : World) : (sizeOf (Tryz.prog.elem 45)).run Tryz.prog W = .ok 1 W := by kernel_rfl
theorem cut_in (A : Option Addr) (len cap h : Nat) (hh : h ≤ cap) (W : World) :
 (Instr.slice 45 (.slice A len cap) none (some (.int .i64 (h : Int))) none).run Tryz.prog W = .ok (.slice A h cap) W := by
 have e0 : Value.slice (if cap = 0 then A else A.map (·.add (0 * 1))) (h - 0) (cap - 0) = .slice A h cap := by
  have : (if cap = 0 then A else A.map (·.add (0 * 1))) = A := by
   split
   ·rfl
   ·cases A <;> simp [Addr.add]
  rw [this, Nat.sub_zero, Nat.sub_zero]
 rw [run_slice_h W 45 A len cap (show Tryz.prog.underlying 45 = some (.slice (Tryz.prog.elem 45)) by kernel_rfl) .i64 h (by omega) (by omega), elem_in]
 exact congrArg (fun v => Result.ok v W) e0
theorem elem_wa (W : World) : (sizeOf (Tryz.prog.elem 26)).run Tryz.prog W = .ok 2 W := by kernel_rfl
theorem cut_wa (A : Option Addr) (len cap h : Nat) (hh : h ≤ cap) (W : World) :
 (Instr.slice 26 (.slice A len cap) none (some (.int .i64 (h : Int))) none).run Tryz.prog W = .ok (.slice A h cap) W := by
 have e0 : Value.slice (if cap = 0 then A else A.map (·.add (0 * 2))) (h - 0) (cap - 0) = .slice A h cap := by
  have : (if cap = 0 then A else A.map (·.add (0 * 2))) = A := by
   split
   ·rfl
   ·cases A <;> simp [Addr.add]
  rw [this, Nat.sub_zero, Nat.sub_zero]
 rw [run_slice_h W 26 A len cap (show Tryz.prog.underlying 26 = some (.slice (Tryz.prog.elem 26)) by kernel_rfl) .i64 h (by omega) (by omega), elem_wa]
 exact congrArg (fun v => Result.ok v W) e0
structure FwI (Bh B3 : Nat) (w : World) (m h : HistM) (X : World) (i j k : Nat) : Prop where
 cp : CpI Bh B3 w X h (h.ev.2.map scOf) (h.od.2.map toOf ++ h.ma.2.map tmOf)
 st : FewS m h i j k
 bh : Blk X Bh 28 m.cs
section
variable {Bh B3 : Nat} {w X Y Z : World} {m h : HistM} {i j k : Nat} {A : Option Addr} {c' : Nat} {hd : SH}
theorem FwI.on (c : FwI Bh B3 w m h X i j k) (hb : Below X.heap.size X Y) : FwI Bh B3 w m h Y i j k := ⟨c.cp.on hb, c.st, c.bh.below hb c.bh.lt⟩
theorem FwI.to {i2 j2 k2 : Nat} (c : FwI Bh B3 w m h X i j k) (e1 : i2 = i) (e2 : j2 = j) (e3 : k2 = k) : FwI Bh B3 w m h X i2 j2 k2 := by subst e1; subst e2; subst e3; exact c
theorem FwI.ev (c : FwI Bh B3 w m h X i 0 0) {e : EvP} (he : m.pl.ev[i]? = some e) (hb : Below X.heap.size X Y)
 (hs : Y.ownsRow X.heap.size 59 3 (.slice hd.A hd.n hd.c) hd.n ((cutE e).scan.flatMap seCs)) (hl : i < 80) (ho : Z.ownsRow w.heap.size 39 9 (.slice A (h.ev.1.n + 1) c') (h.ev.1.n + 1) (h.ev.2.flatMap evCs ++ evCs (cutE e, hd))) (hg : Y.grownBy Z (Value.slice h.ev.1.A h.ev.1.n h.ev.1.c).ownBlock) :
 Blk Z B3 28 h.cs ∧ FwI Bh B3 w m (addEv11 h A c' (cutE e, hd)) (Z.setCell ⟨B3, 4, none⟩ (.slice A (h.ev.1.n + 1) c')) (i + 1) 0 0 := by
 obtain ⟨h1, h2⟩ := c.cp.add_ev hb hs ho hg
 have k1 : KeepT 39 Y Z := KeepT.grown (c.cp.on hb).ev hg
 have hn : h.ev.1.n < 80 := by
  have e1 := own_long evCs_len (by omega) c.cp.ev
  have e2 := congrArg List.length c.st.ev
  rw [List.length_map, List.length_map, List.length_take] at e2
  omega
 refine ⟨h1, ⟨?_, c.st.ev_next he hn, (k1.blk (c.bh.below hb c.bh.lt) (by decide)).far (p := ⟨B3, 4, none⟩) (Ne.symm c.cp.ne.1) _⟩⟩
 ·show CpI _ _ _ _ _ _ _
  rw [← show (h.ev.2 ++ [(cutE e, hd)]).map scOf = h.ev.2.map scOf ++ [((cutE e).scan.flatMap seCs, hd)] by rw [List.map_append]; rfl] at h2
  exact h2
theorem FwI.od (c : FwI Bh B3 w m h X i j 0) {e : OrdP} (he : m.pl.od[j]? = some e) (hb : Below X.heap.size X Y)
 (hs : Y.ownsRow X.heap.size 3 1 (.slice hd.A hd.n hd.c) hd.n (ints (cutO e).ts)) (hl : j < 20) (ho : Z.ownsRow w.heap.size 61 2 (.slice A (h.od.1.n + 1) c') (h.od.1.n + 1) (h.od.2.flatMap odCs ++ odCs (cutO e, hd))) (hg : Y.grownBy Z (Value.slice h.od.1.A h.od.1.n h.od.1.c).ownBlock) :
 Blk Z B3 28 h.cs ∧ FwI Bh B3 w m (addOd h A c' (cutO e, hd)) (Z.setCell ⟨B3, 5, none⟩ (.slice A (h.od.1.n + 1) c')) i (j + 1) 0 := by
 obtain ⟨h1, h2⟩ := c.cp.add_od hb hs ho hg
 have k1 : KeepT 61 Y Z := KeepT.grown (c.cp.on hb).od hg
 have hn : h.od.1.n < 20 := by
  have e1 := own_long odCs_len (by omega) c.cp.od
  have e2 := congrArg List.length c.st.od
  rw [List.length_map, List.length_map, List.length_take] at e2
  omega
 refine ⟨h1, ⟨?_, c.st.od_next he hn, (k1.blk (c.bh.below hb c.bh.lt) (by decide)).far (p := ⟨B3, 5, none⟩) (Ne.symm c.cp.ne.1) _⟩⟩
 ·show CpI _ _ _ _ _ _ _
  have e0 : h.ma.2.map tmOf = [] := by have := c.st.ma; simp at this; rw [this]; rfl
  rw [e0, List.append_nil, ← show (h.od.2 ++ [(cutO e, hd)]).map toOf = h.od.2.map toOf ++ [(ints (cutO e).ts, hd)] by rw [List.map_append]; rfl] at h2
  show CpI _ _ _ _ _ _ ((h.od.2 ++ [(cutO e, hd)]).map toOf ++ h.ma.2.map tmOf)
  rw [e0, List.append_nil]
  exact h2
theorem FwI.ma (c : FwI Bh B3 w m h X i j k) {e : MatP} (he : m.pl.ma[k]? = some e) (hb : Below X.heap.size X Y)
 (hs : Y.ownsRow X.heap.size 3 1 (.slice hd.A hd.n hd.c) hd.n (ints (cutM e).ts)) (hl : k < 20) (ho : Z.ownsRow w.heap.size 64 4 (.slice A (h.ma.1.n + 1) c') (h.ma.1.n + 1) (h.ma.2.flatMap maCs ++ maCs (cutM e, hd))) (hg : Y.grownBy Z (Value.slice h.ma.1.A h.ma.1.n h.ma.1.c).ownBlock) :
 Blk Z B3 28 h.cs ∧ FwI Bh B3 w m (addMa h A c' (cutM e, hd)) (Z.setCell ⟨B3, 6, none⟩ (.slice A (h.ma.1.n + 1) c')) i j (k + 1) := by
 obtain ⟨h1, h2⟩ := c.cp.add_ma hb hs ho hg
 have k1 : KeepT 64 Y Z := KeepT.grown (c.cp.on hb).ma hg
 have hn : h.ma.1.n < 20 := by
  have e1 := own_long maCs_len (by omega) c.cp.ma
  have e2 := congrArg List.length c.st.ma
  rw [List.length_map, List.length_map, List.length_take] at e2
  omega
 refine ⟨h1, ⟨?_, c.st.ma_next he hn, (k1.blk (c.bh.below hb c.bh.lt) (by decide)).far (p := ⟨B3, 6, none⟩) (Ne.symm c.cp.ne.1) _⟩⟩
 ·show CpI _ _ _ _ _ _ _
  rw [List.append_assoc, ← show (h.ma.2 ++ [(cutM e, hd)]).map tmOf = h.ma.2.map tmOf ++ [(ints (cutM e).ts, hd)] by rw [List.map_append]; rfl] at h2
  exact h2
end
def FewIs (H : Hist) (w : World) (e : Ending) (w' : World) : Prop := ∃ n : HistM, e = .returned (.agg #[.slice n.tr.1.A n.tr.1.n n.tr.1.c, .slice n.se.1.A n.se.1.n n.se.1.c, .slice n.ob.1.A n.ob.1.n n.ob.1.c, .slice n.pr.1.A n.pr.1.n n.pr.1.c, .slice n.ev.1.A n.ev.1.n n.ev.1.c, .slice n.od.1.A n.od.1.n n.od.1.c, .slice n.ma.1.A n.ma.1.n n.ma.1.c, .slice n.wa.1.A n.wa.1.n n.wa.1.c]) ∧ HOwn w.heap.size w' n ∧ n.pl = H ∧ Below w.heap.size w w'
end Go.Proofs.YtlnbmmaminflcaaGreatDoor
namespace Go.Proofs.YtlnbmmaminflcaaGreatDoor
open Go.RowKit Go.Shelf

theorem own_lit (w : World) (t : TypeId) (s n : Nat) (xs : List Value) (cs : Array Value) (h : cs = xs.toArray) (hl : xs.length = n * s) (hn : n ≤ 1000) : (w.alloc (.cells cs t)).ownsRow w.heap.size t s (.slice (some ⟨w.heap.size, 0, none⟩) n n) n xs := by
 subst h
 refine ⟨hl, .inr ⟨w.heap.size, n, xs.toArray, rfl, Nat.le_refl _, by show (w.heap.push _)[w.heap.size]? = _; simp, Nat.le_refl _, by unfold maxLen; omega, by simp [hl], ?_⟩⟩
 rw [show xs.toArray.toList = xs from rfl, List.take_of_length_le (by omega)]
def tx : ByteArray := ⟨#[116]⟩
def sx : ByteArray := ⟨#[115]⟩
def ox : ByteArray := ⟨#[120]⟩
def oy : ByteArray := ⟨#[121]⟩
def e1S : EvP := ⟨1, 0, 0, 1, 0, 0, 0, 0, []⟩
def e2S : EvP := ⟨2, 0, 0, 0, 0, 0, 1, 0, []⟩
def e3S : EvP := ⟨5, 0, 0, 0, 0, 0, 0, 0, []⟩
def nilH : SH := ⟨none, 0, 0⟩
def evS : List (EvP × SH) := [(e1S, nilH), (e2S, nilH), (e3S, nilH)]
def smallH : Hist := ⟨[tx], [sx], [ox], [], [e1S, e2S, e3S], [], [], []⟩
def smallM (g : Nat) : HistM := ⟨(⟨some ⟨g, 0, none⟩, 1, 1⟩, [tx]), (⟨some ⟨g + 1, 0, none⟩, 1, 1⟩, [sx]), (⟨some ⟨g + 2, 0, none⟩, 1, 1⟩, [ox]), nilS, (⟨some ⟨g + 3, 0, none⟩, 3, 3⟩, evS), (⟨none, 0, 0⟩, []), (⟨none, 0, 0⟩, []), (⟨none, 0, 0⟩, [])⟩
section
variable {t : TypeId} {s B g0 g1 g2 n0 n1 n2 c0 c1 c2 : Nat} {X : World} {x0 x1 x2 : List Value}
theorem rg3 (h0 : X.ownsRow B t s (.slice (some ⟨g0, 0, none⟩) n0 c0) n0 x0) (h1 : X.ownsRow B t s (.slice (some ⟨g1, 0, none⟩) n1 c1) n1 x1) (h2 : X.ownsRow B t s (.slice (some ⟨g2, 0, none⟩) n2 c2) n2 x2) (d01 : g0 ≠ g1) (d02 : g0 ≠ g2) (d12 : g1 ≠ g2) :
 RG t s B X [(x0, ⟨some ⟨g0, 0, none⟩, n0, c0⟩), (x1, ⟨some ⟨g1, 0, none⟩, n1, c1⟩), (x2, ⟨some ⟨g2, 0, none⟩, n2, c2⟩), ([], ⟨none, 0, 0⟩)] := by
 constructor
 ·intro i p hp
  match i with
  | 0 => simp at hp; subst hp; exact h0
  | 1 => simp at hp; subst hp; exact h1
  | 2 => simp at hp; subst hp; exact h2
  | 3 => simp at hp; subst hp; exact World.ownsRow_nil _ _ _ _
  | k + 4 => simp at hp
 ·intro i j p q hp hq hij g hg hg2
  have key : ∀ (i : Nat) (p : List Value × SH), [(x0, (⟨some ⟨g0, 0, none⟩, n0, c0⟩ : SH)), (x1, ⟨some ⟨g1, 0, none⟩, n1, c1⟩), (x2, ⟨some ⟨g2, 0, none⟩, n2, c2⟩), ([], ⟨none, 0, 0⟩)][i]? = some p → (Value.slice p.2.A p.2.n p.2.c).ownBlock = some g → (i = 0 ∧ g = g0) ∨ (i = 1 ∧ g = g1) ∨ (i = 2 ∧ g = g2) := by
   intro i p hp hg
   match i with
   | 0 => simp at hp; subst hp; injection hg with hg; exact .inl ⟨rfl, hg.symm⟩
   | 1 => simp at hp; subst hp; injection hg with hg; exact .inr (.inl ⟨rfl, hg.symm⟩)
   | 2 => simp at hp; subst hp; injection hg with hg; exact .inr (.inr ⟨rfl, hg.symm⟩)
   | 3 => simp at hp; subst hp; cases hg
   | k + 4 => simp at hp
  have k1 := key i p hp hg
  have k2 := key j q hq hg2
  omega
theorem rg_nils (k : Nat) : RG t s B X (List.replicate k ([], ⟨none, 0, 0⟩)) := by
 have all : ∀ (i : Nat) (p : List Value × SH), (List.replicate k (([], ⟨none, 0, 0⟩) : List Value × SH))[i]? = some p → p = ([], ⟨none, 0, 0⟩) := by
  intro i p hp
  have := List.mem_of_getElem? hp
  exact List.eq_of_mem_replicate this
 exact ⟨fun i p hp => by rw [all i p hp]; exact World.ownsRow_nil _ _ _ _, fun i j p q hp hq hij g hg => by rw [all i p hp] at hg; cases hg⟩
end
def SmallIs (w : World) (e : Ending) (w' : World) : Prop := ∃ g : Nat, e = .returned (.agg #[.slice (some ⟨g, 0, none⟩) 1 1, .slice (some ⟨g + 1, 0, none⟩) 1 1, .slice (some ⟨g + 2, 0, none⟩) 1 1, .slice none 0 0, .slice (some ⟨g + 3, 0, none⟩) 3 3, .slice none 0 0, .slice none 0 0, .slice none 0 0]) ∧ HOwn w.heap.size w' (smallM g) ∧ Below w.heap.size w w'
theorem small_laid (w W1 W2 W3 W4 W5 : World) (h1 : W1 = w.alloc (.cells #[.slice (some ⟨w.heap.size + 1, 0, none⟩) 1 1, .slice (some ⟨w.heap.size + 1 + 1, 0, none⟩) 1 1, .slice (some ⟨w.heap.size + 1 + 1 + 1, 0, none⟩) 1 1, .slice none 0 0, .slice (some ⟨w.heap.size + 1 + 1 + 1 + 1, 0, none⟩) 3 3, .slice none 0 0, .slice none 0 0, .slice none 0 0] 28)) (h2 : W2 = W1.alloc (.cells #[.string ⟨#[116]⟩] 9)) (h3 : W3 = W2.alloc (.cells #[.string ⟨#[115]⟩] 9)) (h4 : W4 = W3.alloc (.cells #[.string ⟨#[120]⟩] 9)) (h5 : W5 = W4.alloc (.cells #[.int .i64 1, .int .i64 0, .int .i64 0, .int .i64 1, .int .i64 0, .int .i64 0, .int .i64 0, .int .i64 0, .slice none 0 0, .int .i64 2, .int .i64 0, .int .i64 0, .int .i64 0, .int .i64 0, .int .i64 0, .int .i64 1, .int .i64 0, .slice none 0 0, .int .i64 5, .int .i64 0, .int .i64 0, .int .i64 0, .int .i64 0, .int .i64 0, .int .i64 0, .int .i64 0, .slice none 0 0] 39)) :
 HOwn w.heap.size W5 (smallM (w.heap.size + 1)) ∧ Below w.heap.size w W5 ∧ Blk W5 w.heap.size 28 #[.slice (some ⟨w.heap.size + 1, 0, none⟩) 1 1, .slice (some ⟨w.heap.size + 1 + 1, 0, none⟩) 1 1, .slice (some ⟨w.heap.size + 1 + 1 + 1, 0, none⟩) 1 1, .slice none 0 0, .slice (some ⟨w.heap.size + 1 + 1 + 1 + 1, 0, none⟩) 3 3, .slice none 0 0, .slice none 0 0, .slice none 0 0] := by
 obtain ⟨k1, b1, s1⟩ := ibox w #[.slice (some ⟨w.heap.size + 1, 0, none⟩) 1 1, .slice (some ⟨w.heap.size + 1 + 1, 0, none⟩) 1 1, .slice (some ⟨w.heap.size + 1 + 1 + 1, 0, none⟩) 1 1, .slice none 0 0, .slice (some ⟨w.heap.size + 1 + 1 + 1 + 1, 0, none⟩) 3 3, .slice none 0 0, .slice none 0 0, .slice none 0 0] 28
 rw [← h1] at k1 b1 s1
 have o0 := own_lit W1 9 1 1 (strs [tx]) #[.string ⟨#[116]⟩] rfl rfl (by omega)
 obtain ⟨-, b2, s2⟩ := ibox W1 #[.string ⟨#[116]⟩] 9
 rw [← h2] at o0 b2 s2
 rw [s1] at o0
 rw [s1] at s2
 have o1 := own_lit W2 9 1 1 (strs [sx]) #[.string ⟨#[115]⟩] rfl rfl (by omega)
 obtain ⟨-, b3, s3⟩ := ibox W2 #[.string ⟨#[115]⟩] 9
 rw [← h3] at o1 b3 s3
 rw [s2] at o1
 rw [s2] at s3
 have o2 := own_lit W3 9 1 1 (strs [ox]) #[.string ⟨#[120]⟩] rfl rfl (by omega)
 obtain ⟨-, b4, s4⟩ := ibox W3 #[.string ⟨#[120]⟩] 9
 rw [← h4] at o2 b4 s4
 rw [s3] at o2
 rw [s3] at s4
 have o3 := own_lit W4 39 9 3 (evS.flatMap evCs) #[.int .i64 1, .int .i64 0, .int .i64 0, .int .i64 1, .int .i64 0, .int .i64 0, .int .i64 0, .int .i64 0, .slice none 0 0, .int .i64 2, .int .i64 0, .int .i64 0, .int .i64 0, .int .i64 0, .int .i64 0, .int .i64 1, .int .i64 0, .slice none 0 0, .int .i64 5, .int .i64 0, .int .i64 0, .int .i64 0, .int .i64 0, .int .i64 0, .int .i64 0, .int .i64 0, .slice none 0 0] rfl rfl (by omega)
 obtain ⟨-, b5, s5⟩ := ibox W4 #[.int .i64 1, .int .i64 0, .int .i64 0, .int .i64 1, .int .i64 0, .int .i64 0, .int .i64 0, .int .i64 0, .slice none 0 0, .int .i64 2, .int .i64 0, .int .i64 0, .int .i64 0, .int .i64 0, .int .i64 0, .int .i64 1, .int .i64 0, .slice none 0 0, .int .i64 5, .int .i64 0, .int .i64 0, .int .i64 0, .int .i64 0, .int .i64 0, .int .i64 0, .int .i64 0, .slice none 0 0] 39
 rw [← h5] at o3 b5 s5
 rw [s4] at o3
 rw [s4] at s5
 have hz1 : W1.heap.size = w.heap.size + 1 := s1
 have hz2 : W2.heap.size = w.heap.size + 2 := s2
 have hz3 : W3.heap.size = w.heap.size + 3 := s3
 have hz4 : W4.heap.size = w.heap.size + 4 := s4
 have c3 : Below W2.heap.size W2 W5 := b3.trans ((b4.trans (b5.mono (by omega))).mono (by omega))
 have c4 : Below W3.heap.size W3 W5 := b4.trans (b5.mono (by omega))
 have p0 := own_on (own_mono (base' := w.heap.size) o0 (by omega)) c3
 have p1 := own_on (own_mono (base' := w.heap.size) o1 (by omega)) c4
 have p2 := own_on (own_mono (base' := w.heap.size) o2 (by omega)) b5
 have p3 := own_mono (base' := w.heap.size) o3 (by omega)
 refine ⟨⟨rg3 p0 p1 p2 (by omega) (by omega) (by omega), p3, World.ownsRow_nil _ _ _ _, World.ownsRow_nil _ _ _ _, World.ownsRow_nil _ _ _ _, rg_nils 3, RG.nil⟩, b1.trans (((b2.trans (c3.mono (by omega))).mono (by omega))), k1.below (b2.trans (c3.mono (by omega))) k1.lt⟩
set_option maxRecDepth 100000 in
set_option maxHeartbeats 16000000 in
theorem small11_any (w : World) : Calls Tryz.prog 26 #[] w (SmallIs w) := by
 have HL := Lib.hid (small_laid w _ _ _ _ _ rfl rfl rfl rfl rfl)
 go_enter Tryz.func26, Tryz.ntmps26
 go_wp2_with fail
 generalize (((((w.alloc (.cells #[.slice (some ⟨w.heap.size + 1, 0, none⟩) 1 1, .slice (some ⟨w.heap.size + 1 + 1, 0, none⟩) 1 1, .slice (some ⟨w.heap.size + 1 + 1 + 1, 0, none⟩) 1 1, .slice none 0 0, .slice (some ⟨w.heap.size + 1 + 1 + 1 + 1, 0, none⟩) 3 3, .slice none 0 0, .slice none 0 0, .slice none 0 0] 28)).alloc (.cells #[.string ⟨#[116]⟩] 9)).alloc (.cells #[.string ⟨#[115]⟩] 9)).alloc (.cells #[.string ⟨#[120]⟩] 9)).alloc (.cells #[.int .i64 1, .int .i64 0, .int .i64 0, .int .i64 1, .int .i64 0, .int .i64 0, .int .i64 0, .int .i64 0, .slice none 0 0, .int .i64 2, .int .i64 0, .int .i64 0, .int .i64 0, .int .i64 0, .int .i64 0, .int .i64 1, .int .i64 0, .slice none 0 0, .int .i64 5, .int .i64 0, .int .i64 0, .int .i64 0, .int .i64 0, .int .i64 0, .int .i64 0, .int .i64 0, .slice none 0 0] 39)) = wf at *
 obtain ⟨r0, r1, r2, r3, r4, r5, r6, r7⟩ := c8 HL.out.2.2
 exact bodyPost_ret (v := .agg #[.slice (some ⟨w.heap.size + 1, 0, none⟩) 1 1, .slice (some ⟨w.heap.size + 1 + 1, 0, none⟩) 1 1, .slice (some ⟨w.heap.size + 1 + 1 + 1, 0, none⟩) 1 1, .slice none 0 0, .slice (some ⟨w.heap.size + 1 + 1 + 1 + 1, 0, none⟩) 3 3, .slice none 0 0, .slice none 0 0, .slice none 0 0]) (by simp [results, Tryz.results26, go_sem, r0, r1, r2, r3, r4, r5, r6, r7]) rfl ⟨w.heap.size + 1, rfl, HL.out.1, HL.out.2.1⟩
end Go.Proofs.YtlnbmmaminflcaaGreatDoor
namespace Go.Proofs.YtlnbmmaminflcaaGreatDoor
open Go.RowKit Go.Shelf

theorem few_store {Bh g : Nat} {A0 A1 A2 A3 : Option Addr} {n0 n1 n2 n3 c0 c1 c2 c3 : Nat} {w X : World} {m : HistM} (c : C0 Bh w m X) (hg : Blk X g 28 zeroH) (hn : g ≠ Bh ∧ g ≠ Bh + 1 ∧ w.heap.size ≤ g) (hB : w.heap.size ≤ Bh)
 (nm : RG 9 1 w.heap.size X [(strs (cutL 20 m.tr.2), ⟨A0, n0, c0⟩), (strs (cutL 10 m.se.2), ⟨A1, n1, c1⟩), (strs (cutL 20 m.ob.2), ⟨A2, n2, c2⟩), (strs (cutL 10 m.pr.2), ⟨A3, n3, c3⟩)]) :
 FwI Bh g w m ⟨(⟨A0, n0, c0⟩, cutL 20 m.tr.2), (⟨A1, n1, c1⟩, cutL 10 m.se.2), (⟨A2, n2, c2⟩, cutL 20 m.ob.2), (⟨A3, n3, c3⟩, cutL 10 m.pr.2), (⟨none, 0, 0⟩, []), (⟨none, 0, 0⟩, []), (⟨none, 0, 0⟩, []), (⟨none, 0, 0⟩, [])⟩
  ((((((((X.setCell ⟨g, 0, none⟩ (.slice A0 n0 c0)).setCell ⟨g, 1, none⟩ (.slice A1 n1 c1)).setCell ⟨g, 2, none⟩ (.slice A2 n2 c2)).setCell ⟨g, 3, none⟩ (.slice A3 n3 c3)).setCell ⟨g, 4, none⟩ (.slice none 0 0)).setCell ⟨g, 5, none⟩ (.slice none 0 0)).setCell ⟨g, 6, none⟩ (.slice none 0 0)).setCell ⟨g, 7, none⟩ (.slice none 0 0)) 0 0 0 := by
 obtain ⟨h1, h2, h3⟩ := fill8 hg (.slice A0 n0 c0) (.slice A1 n1 c1) (.slice A2 n2 c2) (.slice A3 n3 c3) (.slice none 0 0) (.slice none 0 0) (.slice none 0 0) (.slice none 0 0)
 have kt : KeepT 28 X _ := h2 (fun j => ∀ cs, ¬ Blk X j 28 cs) (fun h => h _ hg)
 have kg := h2 (fun j => j ≠ g) (fun h => h rfl)
 exact ⟨⟨h3 w c.bb hn.2.2, h1, Keep.blk kg c.kr (Ne.symm hn.2.1), ⟨hn.1, hn.2.1, hn.2.2, hB⟩, nm.keepT kt (by decide), World.ownsRow_nil _ _ _ _, World.ownsRow_nil _ _ _ _, World.ownsRow_nil _ _ _ _, World.ownsRow_nil _ _ _ _, RG.nil, RG.nil⟩,
  ⟨rfl, rfl, rfl, rfl, rfl, rfl, rfl, rfl, Nat.zero_le _, Nat.zero_le _, Nat.zero_le _⟩, Keep.blk kg c.kh (Ne.symm hn.1)⟩
set_option maxRecDepth 100000 in
set_option maxHeartbeats 40000000 in
theorem few11_any (m : HistM) (w : World) (hm : HArg w m) : Calls Tryz.prog 8 #[.agg #[.slice m.tr.1.A m.tr.1.n m.tr.1.c, .slice m.se.1.A m.se.1.n m.se.1.c, .slice m.ob.1.A m.ob.1.n m.ob.1.c, .slice m.pr.1.A m.pr.1.n m.pr.1.c, .slice m.ev.1.A m.ev.1.n m.ev.1.c, .slice m.od.1.A m.od.1.n m.od.1.c, .slice m.ma.1.A m.ma.1.n m.ma.1.c, .slice m.wa.1.A m.wa.1.n m.wa.1.c]] w (FewIs (fewP m.pl) w) := by
 obtain ⟨i0, hi, hz0, hz1, hz2⟩ := info_parts ev_info
 obtain ⟨j0, hj, hj0, hj1, hj2⟩ := info_parts od_info
 obtain ⟨l0, hl, hl0, hl1, hl2⟩ := info_parts ma_info
 obtain ⟨kh, kr, b0, hs0⟩ := itwo w #[.slice m.tr.1.A m.tr.1.n m.tr.1.c, .slice m.se.1.A m.se.1.n m.se.1.c, .slice m.ob.1.A m.ob.1.n m.ob.1.c, .slice m.pr.1.A m.pr.1.n m.pr.1.c, .slice m.ev.1.A m.ev.1.n m.ev.1.c, .slice m.od.1.A m.od.1.n m.od.1.c, .slice m.ma.1.A m.ma.1.n m.ma.1.c, .slice m.wa.1.A m.wa.1.n m.wa.1.c] #[.slice none 0 0, .slice none 0 0, .slice none 0 0, .slice none 0 0, .slice none 0 0, .slice none 0 0, .slice none 0 0, .slice none 0 0] 28 28
 obtain ⟨W0, hW0⟩ : ∃ W0, W0 = ((w.alloc (.cells #[.slice m.tr.1.A m.tr.1.n m.tr.1.c, .slice m.se.1.A m.se.1.n m.se.1.c, .slice m.ob.1.A m.ob.1.n m.ob.1.c, .slice m.pr.1.A m.pr.1.n m.pr.1.c, .slice m.ev.1.A m.ev.1.n m.ev.1.c, .slice m.od.1.A m.od.1.n m.od.1.c, .slice m.ma.1.A m.ma.1.n m.ma.1.c, .slice m.wa.1.A m.wa.1.n m.wa.1.c] 28)).alloc (.cells #[.slice none 0 0, .slice none 0 0, .slice none 0 0, .slice none 0 0, .slice none 0 0, .slice none 0 0, .slice none 0 0, .slice none 0 0] 28)) := ⟨_, rfl⟩
 rw [← hW0] at kh kr b0
 obtain ⟨Bh, hBh⟩ : ∃ Bh, Bh = w.heap.size := ⟨_, rfl⟩
 have HBH : Hid (w.heap.size ≤ Bh) := by show _ ≤ _; omega
 have C0 : Hid (C0 Bh w m W0) := by rw [hBh]; exact ⟨b0, kh, kr⟩
 have HARG := Lib.hid hm
 have HFIT := Lib.hid hm.rd.fit
 clear kh kr b0 hs0 hm
 go_enter Tryz.func8, Tryz.ntmps8
 go_upto_region 1 with fail
 rw [← hBh, ← hW0]
 clear hBh hW0
 go_cut [3] (fun s3 wx => ∃ (B3 : Nat) (h : HistM), s3 = .pointer (some ⟨B3, 0, none⟩) ∧ Hid (FwI Bh B3 w m h wx 0 0 0))
 case first =>
  refine wp_region_noPanic ?_
  refine wp_region_K (S := fun W => Blk W Bh 28 m.cs) 14 (by kernel_rfl) C0.out.kh.drew (fun hHeld => ?_)
  have C0 := Lib.hid (C0.out.on (Below.refl _ _).drew)
  generalize W0.drew = wd at *
  have NM : Hid (RG 9 1 w.heap.size wd []) := RG.nil
  refine ka 0 (some 10) (.pointer (some ⟨Bh, 0, none⟩)) rfl rfl (fun w' => by go_simp) ?_
  try simp only [Act.put, kA, kB, kC]
  refine kv 1 (some 11) (.slice m.tr.1.A m.tr.1.n m.tr.1.c) rfl rfl (fun w' hSw => by have c9 : w'.cell? ⟨Bh, 0, none⟩ = some (.slice m.tr.1.A m.tr.1.n m.tr.1.c) := Blk.cell (w := w') hSw 0; go_simp) ?_
  try simp only [Act.put, kA, kB, kC]
  refine ka 3 (some 13) (.pointer (some ⟨Bh, 1, none⟩)) rfl rfl (fun w' => by go_simp) ?_
  try simp only [Act.put, kA, kB, kC]
  refine kv 4 (some 14) (.slice m.se.1.A m.se.1.n m.se.1.c) rfl rfl (fun w' hSw => by have c9 : w'.cell? ⟨Bh, 1, none⟩ = some (.slice m.se.1.A m.se.1.n m.se.1.c) := Blk.cell (w := w') hSw 1; go_simp) ?_
  try simp only [Act.put, kA, kB, kC]
  refine ka 6 (some 16) (.pointer (some ⟨Bh, 2, none⟩)) rfl rfl (fun w' => by go_simp) ?_
  try simp only [Act.put, kA, kB, kC]
  refine kv 7 (some 17) (.slice m.ob.1.A m.ob.1.n m.ob.1.c) rfl rfl (fun w' hSw => by have c9 : w'.cell? ⟨Bh, 2, none⟩ = some (.slice m.ob.1.A m.ob.1.n m.ob.1.c) := Blk.cell (w := w') hSw 2; go_simp) ?_
  try simp only [Act.put, kA, kB, kC]
  refine ka 9 (some 19) (.pointer (some ⟨Bh, 3, none⟩)) rfl rfl (fun w' => by go_simp) ?_
  try simp only [Act.put, kA, kB, kC]
  refine kv 10 (some 20) (.slice m.pr.1.A m.pr.1.n m.pr.1.c) rfl rfl (fun w' hSw => by have c9 : w'.cell? ⟨Bh, 3, none⟩ = some (.slice m.pr.1.A m.pr.1.n m.pr.1.c) := Blk.cell (w := w') hSw 3; go_simp) ?_
  try simp only [Act.put, kA, kB, kC]
  refine kr [2, 13] ?_
  refine kc rfl (fun K hK => ?_) ?_
  ·go_simp
   refine (cut11_any m.tr.1.A m.tr.1.n m.tr.1.c 20 m.tr.2 (by omega) HARG.out.tr.1 HARG.out.z0 wd ((HARG.out.rd.tr.below C0.out.bb).more C0.out.bb.size)).mono ?_
   rintro e u0 ⟨A0, n0, c0, rfl, ho, hb⟩
   have NM := Lib.hid (NM.out.add (hd := ⟨A0, n0, c0⟩) hb C0.out.bb.size ho)
   have C0 := Lib.hid (C0.out.on hb)
   clear ho hb hHeld
   go_simp
   refine hK.out _ _ C0.out.kh (fun hHeld => ?_)
   clear hK K
   try simp only [Act.put, kA, kB, kC]
   refine kr [5, 13] ?_
   refine kc rfl (fun K hK => ?_) ?_
   ·go_simp
    refine (cut11_any m.se.1.A m.se.1.n m.se.1.c 10 m.se.2 (by omega) HARG.out.se.1 HARG.out.z1 u0 ((HARG.out.rd.se.below C0.out.bb).more C0.out.bb.size)).mono ?_
    rintro e u1 ⟨A1, n1, c1, rfl, ho, hb⟩
    have NM := Lib.hid (NM.out.add (hd := ⟨A1, n1, c1⟩) hb C0.out.bb.size ho)
    have C0 := Lib.hid (C0.out.on hb)
    clear ho hb hHeld
    go_simp
    refine hK.out _ _ C0.out.kh (fun hHeld => ?_)
    clear hK K
    try simp only [Act.put, kA, kB, kC]
    refine kr [8, 13] ?_
    refine kc rfl (fun K hK => ?_) ?_
    ·go_simp
     refine (cut11_any m.ob.1.A m.ob.1.n m.ob.1.c 20 m.ob.2 (by omega) HARG.out.ob.1 HARG.out.z2 u1 ((HARG.out.rd.ob.below C0.out.bb).more C0.out.bb.size)).mono ?_
     rintro e u2 ⟨A2, n2, c2, rfl, ho, hb⟩
     have NM := Lib.hid (NM.out.add (hd := ⟨A2, n2, c2⟩) hb C0.out.bb.size ho)
     have C0 := Lib.hid (C0.out.on hb)
     clear ho hb hHeld
     go_simp
     refine hK.out _ _ C0.out.kh (fun hHeld => ?_)
     clear hK K
     try simp only [Act.put, kA, kB, kC]
     refine kr [11, 13] ?_
     refine kc rfl (fun K hK => ?_) ?_
     ·go_simp
      refine (cut11_any m.pr.1.A m.pr.1.n m.pr.1.c 10 m.pr.2 (by omega) HARG.out.pr.1 HARG.out.z3 u2 ((HARG.out.rd.pr.below C0.out.bb).more C0.out.bb.size)).mono ?_
      rintro e u3 ⟨A3, n3, c3, rfl, ho, hb⟩
      have NM := Lib.hid (NM.out.add (hd := ⟨A3, n3, c3⟩) hb C0.out.bb.size ho)
      have C0 := Lib.hid (C0.out.on hb)
      clear ho hb hHeld
      go_simp
      refine hK.out _ _ C0.out.kh (fun hHeld => ?_)
      clear hK K
      try simp only [Act.put, kA, kB, kC]
      refine ka 12 (some 22) (.agg #[.slice A0 n0 c0, .slice A1 n1 c1, .slice A2 n2 c2, .slice A3 n3 c3, .slice none 0 0, .slice none 0 0, .slice none 0 0, .slice none 0 0]) rfl rfl (fun w' => by go_simp) ?_
      try simp only [Act.put, kA, kB, kC]
      refine kr [13] ?_
      refine kc rfl (fun K hK => ?_) kn
      go_simp
      refine hK.out _ _ (C0.out.kh.alloc _) (fun hHeld => ?_)
      clear hK K
      try simp only [Act.put, kA, kB, kC]
      have HGN := Lib.hid C0.out.apart
      have hb := (Below.refl _ u3).alloc (Nat.le_refl _) (.cells #[.slice none 0 0, .slice none 0 0, .slice none 0 0, .slice none 0 0, .slice none 0 0, .slice none 0 0, .slice none 0 0, .slice none 0 0] 28)
      have C0 := Lib.hid (C0.out.on hb)
      have NM := Lib.hid (NM.out.on hb)
      have KG : Hid (Blk (u3.alloc (.cells #[.slice none 0 0, .slice none 0 0, .slice none 0 0, .slice none 0 0, .slice none 0 0, .slice none 0 0, .slice none 0 0, .slice none 0 0] 28)) u3.heap.size 28 zeroH) := Blk.new _ _ _
      clear hHeld hb
      generalize u3.alloc (.cells #[.slice none 0 0, .slice none 0 0, .slice none 0 0, .slice none 0 0, .slice none 0 0, .slice none 0 0, .slice none 0 0, .slice none 0 0] 28) = ua at *
      generalize u3.heap.size = g at *
      have hHeld := C0.out.kh
      refine kr [14] ?_
      refine kz (o := { dst := none, op := Op.store 28 (Operand.tmp 3) (Operand.tmp 22), type := 0, pos := "law.go:41", after := #[{ on := 13, ground := Ground.data }, { on := 12, ground := Ground.data }, { on := 11, ground := Ground.chain }, { on := 0, ground := Ground.phase }, { on := 1, ground := Ground.phase }, { on := 2, ground := Ground.phase }, { on := 3, ground := Ground.phase }, { on := 4, ground := Ground.phase }, { on := 5, ground := Ground.phase }, { on := 6, ground := Ground.phase }, { on := 7, ground := Ground.phase }, { on := 8, ground := Ground.phase }, { on := 9, ground := Ground.phase }, { on := 10, ground := Ground.phase }, { on := 11, ground := Ground.phase }, { on := 12, ground := Ground.phase }, { on := 13, ground := Ground.phase }], guard := none }) rfl (fun K hK => ?_)
      obtain ⟨⟨y0, y1, y2, y3, y4, y5, y6, y7⟩, f0, f1, f2, f3, f4, f5, f6, f7⟩ := cf8 KG.out
      go_simp
      clear hHeld y0 f0 y1 f1 y2 f2 y3 f3 y4 f4 y5 f5 y6 f6 y7 f7
      refine hK.out _ _ ?_
      clear hK K
      try simp only [Act.put]
      refine kd (by kernel_rfl) ?_ _
      refine NoPanic.normal ?_
      go_wp2_with fail
      go_meet
      exact ⟨g, _, rfl, few_store C0.out KG.out HGN.out HBH.out NM.out⟩
     refine kc rfl (fun K hK => ?_) ?_
     ·go_simp
      refine hK.out _ _ (C0.out.kh.alloc _) (fun hHeld => ?_)
      clear hK K
      try simp only [Act.put, kA, kB, kC]
      have HGN := Lib.hid C0.out.apart
      have hb := (Below.refl _ u2).alloc (Nat.le_refl _) (.cells #[.slice none 0 0, .slice none 0 0, .slice none 0 0, .slice none 0 0, .slice none 0 0, .slice none 0 0, .slice none 0 0, .slice none 0 0] 28)
      have C0 := Lib.hid (C0.out.on hb)
      have NM := Lib.hid (NM.out.on hb)
      have KG : Hid (Blk (u2.alloc (.cells #[.slice none 0 0, .slice none 0 0, .slice none 0 0, .slice none 0 0, .slice none 0 0, .slice none 0 0, .slice none 0 0, .slice none 0 0] 28)) u2.heap.size 28 zeroH) := Blk.new _ _ _
      clear hHeld hb
      generalize u2.alloc (.cells #[.slice none 0 0, .slice none 0 0, .slice none 0 0, .slice none 0 0, .slice none 0 0, .slice none 0 0, .slice none 0 0, .slice none 0 0] 28) = ua at *
      generalize u2.heap.size = g at *
      have hHeld := C0.out.kh
      refine kr [11] ?_
      refine kc rfl (fun K hK => ?_) kn
      go_simp
      refine (cut11_any m.pr.1.A m.pr.1.n m.pr.1.c 10 m.pr.2 (by omega) HARG.out.pr.1 HARG.out.z3 ua ((HARG.out.rd.pr.below C0.out.bb).more C0.out.bb.size)).mono ?_
      rintro e u3 ⟨A3, n3, c3, rfl, ho, hb⟩
      have KG := Lib.hid (KG.out.below hb KG.out.lt)
      have NM := Lib.hid (NM.out.add (hd := ⟨A3, n3, c3⟩) hb C0.out.bb.size ho)
      have C0 := Lib.hid (C0.out.on hb)
      clear ho hb hHeld
      go_simp
      refine hK.out _ _ C0.out.kh (fun hHeld => ?_)
      clear hK K
      try simp only [Act.put, kA, kB, kC]
      refine ka 12 (some 22) (.agg #[.slice A0 n0 c0, .slice A1 n1 c1, .slice A2 n2 c2, .slice A3 n3 c3, .slice none 0 0, .slice none 0 0, .slice none 0 0, .slice none 0 0]) rfl rfl (fun w' => by go_simp) ?_
      try simp only [Act.put, kA, kB, kC]
      refine kr [14] ?_
      refine kz (o := { dst := none, op := Op.store 28 (Operand.tmp 3) (Operand.tmp 22), type := 0, pos := "law.go:41", after := #[{ on := 13, ground := Ground.data }, { on := 12, ground := Ground.data }, { on := 11, ground := Ground.chain }, { on := 0, ground := Ground.phase }, { on := 1, ground := Ground.phase }, { on := 2, ground := Ground.phase }, { on := 3, ground := Ground.phase }, { on := 4, ground := Ground.phase }, { on := 5, ground := Ground.phase }, { on := 6, ground := Ground.phase }, { on := 7, ground := Ground.phase }, { on := 8, ground := Ground.phase }, { on := 9, ground := Ground.phase }, { on := 10, ground := Ground.phase }, { on := 11, ground := Ground.phase }, { on := 12, ground := Ground.phase }, { on := 13, ground := Ground.phase }], guard := none }) rfl (fun K hK => ?_)
      obtain ⟨⟨y0, y1, y2, y3, y4, y5, y6, y7⟩, f0, f1, f2, f3, f4, f5, f6, f7⟩ := cf8 KG.out
      go_simp
      clear hHeld y0 f0 y1 f1 y2 f2 y3 f3 y4 f4 y5 f5 y6 f6 y7 f7
      refine hK.out _ _ ?_
      clear hK K
      try simp only [Act.put]
      refine kd (by kernel_rfl) ?_ _
      refine NoPanic.normal ?_
      go_wp2_with fail
      go_meet
      exact ⟨g, _, rfl, few_store C0.out KG.out HGN.out HBH.out NM.out⟩
     exact kn
    refine kc rfl (fun K hK => ?_) ?_
    ·go_simp
     refine hK.out _ _ (C0.out.kh.alloc _) (fun hHeld => ?_)
     clear hK K
     try simp only [Act.put, kA, kB, kC]
     have HGN := Lib.hid C0.out.apart
     have hb := (Below.refl _ u1).alloc (Nat.le_refl _) (.cells #[.slice none 0 0, .slice none 0 0, .slice none 0 0, .slice none 0 0, .slice none 0 0, .slice none 0 0, .slice none 0 0, .slice none 0 0] 28)
     have C0 := Lib.hid (C0.out.on hb)
     have NM := Lib.hid (NM.out.on hb)
     have KG : Hid (Blk (u1.alloc (.cells #[.slice none 0 0, .slice none 0 0, .slice none 0 0, .slice none 0 0, .slice none 0 0, .slice none 0 0, .slice none 0 0, .slice none 0 0] 28)) u1.heap.size 28 zeroH) := Blk.new _ _ _
     clear hHeld hb
     generalize u1.alloc (.cells #[.slice none 0 0, .slice none 0 0, .slice none 0 0, .slice none 0 0, .slice none 0 0, .slice none 0 0, .slice none 0 0, .slice none 0 0] 28) = ua at *
     generalize u1.heap.size = g at *
     have hHeld := C0.out.kh
     refine kr [8] ?_
     refine kc rfl (fun K hK => ?_) kn
     go_simp
     refine (cut11_any m.ob.1.A m.ob.1.n m.ob.1.c 20 m.ob.2 (by omega) HARG.out.ob.1 HARG.out.z2 ua ((HARG.out.rd.ob.below C0.out.bb).more C0.out.bb.size)).mono ?_
     rintro e u2 ⟨A2, n2, c2, rfl, ho, hb⟩
     have KG := Lib.hid (KG.out.below hb KG.out.lt)
     have NM := Lib.hid (NM.out.add (hd := ⟨A2, n2, c2⟩) hb C0.out.bb.size ho)
     have C0 := Lib.hid (C0.out.on hb)
     clear ho hb hHeld
     go_simp
     refine hK.out _ _ C0.out.kh (fun hHeld => ?_)
     clear hK K
     try simp only [Act.put, kA, kB, kC]
     refine kr [11] ?_
     refine kc rfl (fun K hK => ?_) kn
     go_simp
     refine (cut11_any m.pr.1.A m.pr.1.n m.pr.1.c 10 m.pr.2 (by omega) HARG.out.pr.1 HARG.out.z3 u2 ((HARG.out.rd.pr.below C0.out.bb).more C0.out.bb.size)).mono ?_
     rintro e u3 ⟨A3, n3, c3, rfl, ho, hb⟩
     have KG := Lib.hid (KG.out.below hb KG.out.lt)
     have NM := Lib.hid (NM.out.add (hd := ⟨A3, n3, c3⟩) hb C0.out.bb.size ho)
     have C0 := Lib.hid (C0.out.on hb)
     clear ho hb hHeld
     go_simp
     refine hK.out _ _ C0.out.kh (fun hHeld => ?_)
     clear hK K
     try simp only [Act.put, kA, kB, kC]
     refine ka 12 (some 22) (.agg #[.slice A0 n0 c0, .slice A1 n1 c1, .slice A2 n2 c2, .slice A3 n3 c3, .slice none 0 0, .slice none 0 0, .slice none 0 0, .slice none 0 0]) rfl rfl (fun w' => by go_simp) ?_
     try simp only [Act.put, kA, kB, kC]
     refine kr [14] ?_
     refine kz (o := { dst := none, op := Op.store 28 (Operand.tmp 3) (Operand.tmp 22), type := 0, pos := "law.go:41", after := #[{ on := 13, ground := Ground.data }, { on := 12, ground := Ground.data }, { on := 11, ground := Ground.chain }, { on := 0, ground := Ground.phase }, { on := 1, ground := Ground.phase }, { on := 2, ground := Ground.phase }, { on := 3, ground := Ground.phase }, { on := 4, ground := Ground.phase }, { on := 5, ground := Ground.phase }, { on := 6, ground := Ground.phase }, { on := 7, ground := Ground.phase }, { on := 8, ground := Ground.phase }, { on := 9, ground := Ground.phase }, { on := 10, ground := Ground.phase }, { on := 11, ground := Ground.phase }, { on := 12, ground := Ground.phase }, { on := 13, ground := Ground.phase }], guard := none }) rfl (fun K hK => ?_)
     obtain ⟨⟨y0, y1, y2, y3, y4, y5, y6, y7⟩, f0, f1, f2, f3, f4, f5, f6, f7⟩ := cf8 KG.out
     go_simp
     clear hHeld y0 f0 y1 f1 y2 f2 y3 f3 y4 f4 y5 f5 y6 f6 y7 f7
     refine hK.out _ _ ?_
     clear hK K
     try simp only [Act.put]
     refine kd (by kernel_rfl) ?_ _
     refine NoPanic.normal ?_
     go_wp2_with fail
     go_meet
     exact ⟨g, _, rfl, few_store C0.out KG.out HGN.out HBH.out NM.out⟩
    exact kn
   refine kc rfl (fun K hK => ?_) ?_
   ·go_simp
    refine hK.out _ _ (C0.out.kh.alloc _) (fun hHeld => ?_)
    clear hK K
    try simp only [Act.put, kA, kB, kC]
    have HGN := Lib.hid C0.out.apart
    have hb := (Below.refl _ u0).alloc (Nat.le_refl _) (.cells #[.slice none 0 0, .slice none 0 0, .slice none 0 0, .slice none 0 0, .slice none 0 0, .slice none 0 0, .slice none 0 0, .slice none 0 0] 28)
    have C0 := Lib.hid (C0.out.on hb)
    have NM := Lib.hid (NM.out.on hb)
    have KG : Hid (Blk (u0.alloc (.cells #[.slice none 0 0, .slice none 0 0, .slice none 0 0, .slice none 0 0, .slice none 0 0, .slice none 0 0, .slice none 0 0, .slice none 0 0] 28)) u0.heap.size 28 zeroH) := Blk.new _ _ _
    clear hHeld hb
    generalize u0.alloc (.cells #[.slice none 0 0, .slice none 0 0, .slice none 0 0, .slice none 0 0, .slice none 0 0, .slice none 0 0, .slice none 0 0, .slice none 0 0] 28) = ua at *
    generalize u0.heap.size = g at *
    have hHeld := C0.out.kh
    refine kr [5] ?_
    refine kc rfl (fun K hK => ?_) kn
    go_simp
    refine (cut11_any m.se.1.A m.se.1.n m.se.1.c 10 m.se.2 (by omega) HARG.out.se.1 HARG.out.z1 ua ((HARG.out.rd.se.below C0.out.bb).more C0.out.bb.size)).mono ?_
    rintro e u1 ⟨A1, n1, c1, rfl, ho, hb⟩
    have KG := Lib.hid (KG.out.below hb KG.out.lt)
    have NM := Lib.hid (NM.out.add (hd := ⟨A1, n1, c1⟩) hb C0.out.bb.size ho)
    have C0 := Lib.hid (C0.out.on hb)
    clear ho hb hHeld
    go_simp
    refine hK.out _ _ C0.out.kh (fun hHeld => ?_)
    clear hK K
    try simp only [Act.put, kA, kB, kC]
    refine kr [8] ?_
    refine kc rfl (fun K hK => ?_) kn
    go_simp
    refine (cut11_any m.ob.1.A m.ob.1.n m.ob.1.c 20 m.ob.2 (by omega) HARG.out.ob.1 HARG.out.z2 u1 ((HARG.out.rd.ob.below C0.out.bb).more C0.out.bb.size)).mono ?_
    rintro e u2 ⟨A2, n2, c2, rfl, ho, hb⟩
    have KG := Lib.hid (KG.out.below hb KG.out.lt)
    have NM := Lib.hid (NM.out.add (hd := ⟨A2, n2, c2⟩) hb C0.out.bb.size ho)
    have C0 := Lib.hid (C0.out.on hb)
    clear ho hb hHeld
    go_simp
    refine hK.out _ _ C0.out.kh (fun hHeld => ?_)
    clear hK K
    try simp only [Act.put, kA, kB, kC]
    refine kr [11] ?_
    refine kc rfl (fun K hK => ?_) kn
    go_simp
    refine (cut11_any m.pr.1.A m.pr.1.n m.pr.1.c 10 m.pr.2 (by omega) HARG.out.pr.1 HARG.out.z3 u2 ((HARG.out.rd.pr.below C0.out.bb).more C0.out.bb.size)).mono ?_
    rintro e u3 ⟨A3, n3, c3, rfl, ho, hb⟩
    have KG := Lib.hid (KG.out.below hb KG.out.lt)
    have NM := Lib.hid (NM.out.add (hd := ⟨A3, n3, c3⟩) hb C0.out.bb.size ho)
    have C0 := Lib.hid (C0.out.on hb)
    clear ho hb hHeld
    go_simp
    refine hK.out _ _ C0.out.kh (fun hHeld => ?_)
    clear hK K
    try simp only [Act.put, kA, kB, kC]
    refine ka 12 (some 22) (.agg #[.slice A0 n0 c0, .slice A1 n1 c1, .slice A2 n2 c2, .slice A3 n3 c3, .slice none 0 0, .slice none 0 0, .slice none 0 0, .slice none 0 0]) rfl rfl (fun w' => by go_simp) ?_
    try simp only [Act.put, kA, kB, kC]
    refine kr [14] ?_
    refine kz (o := { dst := none, op := Op.store 28 (Operand.tmp 3) (Operand.tmp 22), type := 0, pos := "law.go:41", after := #[{ on := 13, ground := Ground.data }, { on := 12, ground := Ground.data }, { on := 11, ground := Ground.chain }, { on := 0, ground := Ground.phase }, { on := 1, ground := Ground.phase }, { on := 2, ground := Ground.phase }, { on := 3, ground := Ground.phase }, { on := 4, ground := Ground.phase }, { on := 5, ground := Ground.phase }, { on := 6, ground := Ground.phase }, { on := 7, ground := Ground.phase }, { on := 8, ground := Ground.phase }, { on := 9, ground := Ground.phase }, { on := 10, ground := Ground.phase }, { on := 11, ground := Ground.phase }, { on := 12, ground := Ground.phase }, { on := 13, ground := Ground.phase }], guard := none }) rfl (fun K hK => ?_)
    obtain ⟨⟨y0, y1, y2, y3, y4, y5, y6, y7⟩, f0, f1, f2, f3, f4, f5, f6, f7⟩ := cf8 KG.out
    go_simp
    clear hHeld y0 f0 y1 f1 y2 f2 y3 f3 y4 f4 y5 f5 y6 f6 y7 f7
    refine hK.out _ _ ?_
    clear hK K
    try simp only [Act.put]
    refine kd (by kernel_rfl) ?_ _
    refine NoPanic.normal ?_
    go_wp2_with fail
    go_meet
    exact ⟨g, _, rfl, few_store C0.out KG.out HGN.out HBH.out NM.out⟩
   exact kn
  refine kc rfl (fun K hK => ?_) ?_
  ·go_simp
   refine hK.out _ _ (C0.out.kh.alloc _) (fun hHeld => ?_)
   clear hK K
   try simp only [Act.put, kA, kB, kC]
   have HGN := Lib.hid C0.out.apart
   have hb := (Below.refl _ wd).alloc (Nat.le_refl _) (.cells #[.slice none 0 0, .slice none 0 0, .slice none 0 0, .slice none 0 0, .slice none 0 0, .slice none 0 0, .slice none 0 0, .slice none 0 0] 28)
   have C0 := Lib.hid (C0.out.on hb)
   have NM := Lib.hid (NM.out.on hb)
   have KG : Hid (Blk (wd.alloc (.cells #[.slice none 0 0, .slice none 0 0, .slice none 0 0, .slice none 0 0, .slice none 0 0, .slice none 0 0, .slice none 0 0, .slice none 0 0] 28)) wd.heap.size 28 zeroH) := Blk.new _ _ _
   clear hHeld hb
   generalize wd.alloc (.cells #[.slice none 0 0, .slice none 0 0, .slice none 0 0, .slice none 0 0, .slice none 0 0, .slice none 0 0, .slice none 0 0, .slice none 0 0] 28) = ua at *
   generalize wd.heap.size = g at *
   have hHeld := C0.out.kh
   refine kr [2] ?_
   refine kc rfl (fun K hK => ?_) kn
   go_simp
   refine (cut11_any m.tr.1.A m.tr.1.n m.tr.1.c 20 m.tr.2 (by omega) HARG.out.tr.1 HARG.out.z0 ua ((HARG.out.rd.tr.below C0.out.bb).more C0.out.bb.size)).mono ?_
   rintro e u0 ⟨A0, n0, c0, rfl, ho, hb⟩
   have KG := Lib.hid (KG.out.below hb KG.out.lt)
   have NM := Lib.hid (NM.out.add (hd := ⟨A0, n0, c0⟩) hb C0.out.bb.size ho)
   have C0 := Lib.hid (C0.out.on hb)
   clear ho hb hHeld
   go_simp
   refine hK.out _ _ C0.out.kh (fun hHeld => ?_)
   clear hK K
   try simp only [Act.put, kA, kB, kC]
   refine kr [5] ?_
   refine kc rfl (fun K hK => ?_) kn
   go_simp
   refine (cut11_any m.se.1.A m.se.1.n m.se.1.c 10 m.se.2 (by omega) HARG.out.se.1 HARG.out.z1 u0 ((HARG.out.rd.se.below C0.out.bb).more C0.out.bb.size)).mono ?_
   rintro e u1 ⟨A1, n1, c1, rfl, ho, hb⟩
   have KG := Lib.hid (KG.out.below hb KG.out.lt)
   have NM := Lib.hid (NM.out.add (hd := ⟨A1, n1, c1⟩) hb C0.out.bb.size ho)
   have C0 := Lib.hid (C0.out.on hb)
   clear ho hb hHeld
   go_simp
   refine hK.out _ _ C0.out.kh (fun hHeld => ?_)
   clear hK K
   try simp only [Act.put, kA, kB, kC]
   refine kr [8] ?_
   refine kc rfl (fun K hK => ?_) kn
   go_simp
   refine (cut11_any m.ob.1.A m.ob.1.n m.ob.1.c 20 m.ob.2 (by omega) HARG.out.ob.1 HARG.out.z2 u1 ((HARG.out.rd.ob.below C0.out.bb).more C0.out.bb.size)).mono ?_
   rintro e u2 ⟨A2, n2, c2, rfl, ho, hb⟩
   have KG := Lib.hid (KG.out.below hb KG.out.lt)
   have NM := Lib.hid (NM.out.add (hd := ⟨A2, n2, c2⟩) hb C0.out.bb.size ho)
   have C0 := Lib.hid (C0.out.on hb)
   clear ho hb hHeld
   go_simp
   refine hK.out _ _ C0.out.kh (fun hHeld => ?_)
   clear hK K
   try simp only [Act.put, kA, kB, kC]
   refine kr [11] ?_
   refine kc rfl (fun K hK => ?_) kn
   go_simp
   refine (cut11_any m.pr.1.A m.pr.1.n m.pr.1.c 10 m.pr.2 (by omega) HARG.out.pr.1 HARG.out.z3 u2 ((HARG.out.rd.pr.below C0.out.bb).more C0.out.bb.size)).mono ?_
   rintro e u3 ⟨A3, n3, c3, rfl, ho, hb⟩
   have KG := Lib.hid (KG.out.below hb KG.out.lt)
   have NM := Lib.hid (NM.out.add (hd := ⟨A3, n3, c3⟩) hb C0.out.bb.size ho)
   have C0 := Lib.hid (C0.out.on hb)
   clear ho hb hHeld
   go_simp
   refine hK.out _ _ C0.out.kh (fun hHeld => ?_)
   clear hK K
   try simp only [Act.put, kA, kB, kC]
   refine ka 12 (some 22) (.agg #[.slice A0 n0 c0, .slice A1 n1 c1, .slice A2 n2 c2, .slice A3 n3 c3, .slice none 0 0, .slice none 0 0, .slice none 0 0, .slice none 0 0]) rfl rfl (fun w' => by go_simp) ?_
   try simp only [Act.put, kA, kB, kC]
   refine kr [14] ?_
   refine kz (o := { dst := none, op := Op.store 28 (Operand.tmp 3) (Operand.tmp 22), type := 0, pos := "law.go:41", after := #[{ on := 13, ground := Ground.data }, { on := 12, ground := Ground.data }, { on := 11, ground := Ground.chain }, { on := 0, ground := Ground.phase }, { on := 1, ground := Ground.phase }, { on := 2, ground := Ground.phase }, { on := 3, ground := Ground.phase }, { on := 4, ground := Ground.phase }, { on := 5, ground := Ground.phase }, { on := 6, ground := Ground.phase }, { on := 7, ground := Ground.phase }, { on := 8, ground := Ground.phase }, { on := 9, ground := Ground.phase }, { on := 10, ground := Ground.phase }, { on := 11, ground := Ground.phase }, { on := 12, ground := Ground.phase }, { on := 13, ground := Ground.phase }], guard := none }) rfl (fun K hK => ?_)
   obtain ⟨⟨y0, y1, y2, y3, y4, y5, y6, y7⟩, f0, f1, f2, f3, f4, f5, f6, f7⟩ := cf8 KG.out
   go_simp
   clear hHeld y0 f0 y1 f1 y2 f2 y3 f3 y4 f4 y5 f5 y6 f6 y7 f7
   refine hK.out _ _ ?_
   clear hK K
   try simp only [Act.put]
   refine kd (by kernel_rfl) ?_ _
   refine NoPanic.normal ?_
   go_wp2_with fail
   go_meet
   exact ⟨g, _, rfl, few_store C0.out KG.out HGN.out HBH.out NM.out⟩
  exact kn
 case rest =>
  clear C0
  obtain ⟨B3, h, rfl, HF⟩ := hcut
  have z4 : wc.cell? ⟨Bh, 4, none⟩ = some (.slice m.ev.1.A m.ev.1.n m.ev.1.c) := HF.out.bh.cell 4
  have hmx : m.ev.1.n ≤ 9223372036854775807 := Nat.le_trans HARG.out.ev.1 HARG.out.ev.2
  go_wp2_with fail
  clear z4
  go_loopw [26] (fun v wr => ∃ (i : Nat) (h : HistM), i ≤ m.ev.1.n ∧ v = .int .i64 i ∧ Hid (FwI Bh B3 w m h wr (min i 80) 0 0)) (fun v _ => m.ev.1.n - (intOf v).toNat)
  case atStart => exact ⟨0, h, Nat.zero_le _, rfl, HF⟩
  case round =>
   clear HF
   obtain ⟨i, h, hi0, rfl, HF⟩ := hrel
   by_cases hin : i < m.ev.1.n
   ·have hlt : (i : Int) < (m.ev.1.n : Int) := by omega
    obtain ⟨⟨e, hd⟩, hs⟩ : ∃ p, m.ev.2[i]? = some p := ⟨m.ev.2[i]'(by rw [HFIT.out.ev.1]; exact hin), List.getElem?_eq_getElem _⟩
    obtain ⟨b, o, hA, hbl, hc⟩ := row_cells evCs_len (by omega) (HARG.out.rd.ev.below HF.out.cp.below) hs
    rw [hA]
    have c0 : wr.cell? ⟨b, o + i * 9, none⟩ = some (.int .i64 e.kd) := hc 0 _ rfl
    have c1 : wr.cell? ⟨b, o + i * 9 + 1, none⟩ = some (.int .i64 e.t) := hc 1 _ rfl
    have c2 : wr.cell? ⟨b, o + i * 9 + 2, none⟩ = some (.int .i64 e.s) := hc 2 _ rfl
    have c3 : wr.cell? ⟨b, o + i * 9 + 3, none⟩ = some (.int .i64 e.lev) := hc 3 _ rfl
    have c4 : wr.cell? ⟨b, o + i * 9 + 4, none⟩ = some (.int .i64 e.o) := hc 4 _ rfl
    have c5 : wr.cell? ⟨b, o + i * 9 + 5, none⟩ = some (.int .i64 e.vt) := hc 5 _ rfl
    have c6 : wr.cell? ⟨b, o + i * 9 + 6, none⟩ = some (.int .i64 e.vk) := hc 6 _ rfl
    have c7 : wr.cell? ⟨b, o + i * 9 + 7, none⟩ = some (.int .i64 e.p) := hc 7 _ rfl
    have c8 : wr.cell? ⟨b, o + i * 9 + 8, none⟩ = some (.slice hd.A hd.n hd.c) := hc 8 _ rfl
    have HSI := Lib.hid hs
    have HA := Lib.hid hA
    clear hc hbl hs hA
    have hal : Below wr.heap.size wr (wr.alloc (.cells #[.int .i64 e.kd, .int .i64 e.t, .int .i64 e.s, .int .i64 e.lev, .int .i64 e.o, .int .i64 e.vt, .int .i64 e.vk, .int .i64 e.p, .slice hd.A hd.n hd.c] 39)) := (Below.refl _ _).alloc (Nat.le_refl _) _
    by_cases h80 : i < 80
    ·have h80i : (i : Int) < 80 := by omega
     obtain ⟨q, hq, hqn, hq41⟩ : ∃ q : Nat, min (hd.n : Int) 41 = (q : Int) ∧ q ≤ hd.n ∧ q = min hd.n 41 := ⟨min hd.n 41, by omega, by omega, rfl⟩
     have hsc := HFIT.out.sc _ (List.mem_of_getElem? HSI.out)
     have HTK : Hid (e.scan.take q = (cutE e).scan) := by
      show _ = e.scan.take 41
      have h9 : e.scan.length = hd.n := hsc.1
      rw [hq41]
      rcases Nat.le_total hd.n 41 with h1 | h1
      ·rw [Nat.min_eq_left h1, List.take_of_length_le (by omega), List.take_of_length_le (by omega)]
      ·rw [Nat.min_eq_right h1]
     have HBW := Lib.hid (HF.out.cp.below.trans (hal.mono HF.out.cp.below.size))
     have HCL := Lib.hid (clone_se hd.A q hd.c (e.scan.take q) (by omega) _ (((reads_cut_s seCs_len (HARG.out.rd.sc _ (List.mem_of_getElem? HSI.out)) hqn).below HBW.out).more HBW.out.size))
     have hcut := fun W => cut_se hd.A hd.n hd.c q (by have := (HARG.out.sc _ (List.mem_of_getElem? HSI.out)).1; simp only at this; omega) W
     have HE : Hid (m.pl.ev[i]? = some e) := by show m.pl.ev[i]? = _; unfold HistM.pl; simp [HSI.out]
     have KE : Hid (Blk (wr.alloc (.cells #[.int .i64 e.kd, .int .i64 e.t, .int .i64 e.s, .int .i64 e.lev, .int .i64 e.o, .int .i64 e.vt, .int .i64 e.vk, .int .i64 e.p, .slice hd.A hd.n hd.c] 39)) wr.heap.size 39 #[.int .i64 e.kd, .int .i64 e.t, .int .i64 e.s, .int .i64 e.lev, .int .i64 e.o, .int .i64 e.vt, .int .i64 e.vk, .int .i64 e.p, .slice hd.A hd.n hd.c]) := Blk.new _ _ _
     have HAL := Lib.hid hal
     clear hal hsc hq41
     go_wp2_with fail
     refine HCL.out.mono ?_
     rintro e5 w5 ⟨A5, c5, rfl, ho5, hb5⟩
     rw [HTK.out] at ho5
     clear c0 c1 c2 c3 c4 c6 c7 c8 HCL hcut
     generalize hW1 : wr.alloc (.cells #[.int .i64 e.kd, .int .i64 e.t, .int .i64 e.s, .int .i64 e.lev, .int .i64 e.o, .int .i64 e.vt, .int .i64 e.vk, .int .i64 e.p, .slice hd.A hd.n hd.c] 39) = W1 at *
     have HHW := Lib.hid hW1
     clear hW1
     have ke5 := KE.out.below hb5 KE.out.lt
     have y8 := ke5.cell 8
     have f8 := ke5.frozen 8
     have ke6 := ke5.set_ 8 (.slice A5 q c5)
     simp at ke6
     have hb6 : Below wr.heap.size wr (w5.setCell ⟨wr.heap.size, 8, none⟩ (.slice A5 q c5)) := (HAL.out.trans (hb5.mono HAL.out.size)).setCell (p := ⟨wr.heap.size, 8, none⟩) (Nat.le_refl _) _
     have hs6 : (w5.setCell ⟨wr.heap.size, 8, none⟩ (.slice A5 q c5)).ownsRow wr.heap.size 59 3 (.slice A5 q c5) q ((cutE e).scan.flatMap seCs) := (KeepT.set ke5 8 _).own (own_mono ho5 HAL.out.size) (by decide)
     have z4 : (w5.setCell ⟨wr.heap.size, 8, none⟩ (.slice A5 q c5)).cell? ⟨B3, 4, none⟩ = some (.slice h.ev.1.A h.ev.1.n h.ev.1.c) := (HF.out.on hb6).cp.b3.cell 4
     have d0 : (w5.setCell ⟨wr.heap.size, 8, none⟩ (.slice A5 q c5)).cell? ⟨wr.heap.size, 0, none⟩ = some (.int .i64 e.kd) := ke6.cell 0
     have d1 : (w5.setCell ⟨wr.heap.size, 8, none⟩ (.slice A5 q c5)).cell? ⟨wr.heap.size, 1, none⟩ = some (.int .i64 e.t) := ke6.cell 1
     have d2 : (w5.setCell ⟨wr.heap.size, 8, none⟩ (.slice A5 q c5)).cell? ⟨wr.heap.size, 2, none⟩ = some (.int .i64 e.s) := ke6.cell 2
     have d3 : (w5.setCell ⟨wr.heap.size, 8, none⟩ (.slice A5 q c5)).cell? ⟨wr.heap.size, 3, none⟩ = some (.int .i64 e.lev) := ke6.cell 3
     have d4 : (w5.setCell ⟨wr.heap.size, 8, none⟩ (.slice A5 q c5)).cell? ⟨wr.heap.size, 4, none⟩ = some (.int .i64 e.o) := ke6.cell 4
     have d5 : (w5.setCell ⟨wr.heap.size, 8, none⟩ (.slice A5 q c5)).cell? ⟨wr.heap.size, 5, none⟩ = some (.int .i64 e.vt) := ke6.cell 5
     have d6 : (w5.setCell ⟨wr.heap.size, 8, none⟩ (.slice A5 q c5)).cell? ⟨wr.heap.size, 6, none⟩ = some (.int .i64 e.vk) := ke6.cell 6
     have d7 : (w5.setCell ⟨wr.heap.size, 8, none⟩ (.slice A5 q c5)).cell? ⟨wr.heap.size, 7, none⟩ = some (.int .i64 e.p) := ke6.cell 7
     have d8 : (w5.setCell ⟨wr.heap.size, 8, none⟩ (.slice A5 q c5)).cell? ⟨wr.heap.size, 8, none⟩ = some (.slice A5 q c5) := ke6.cell 8
     have hal7 : Below (w5.setCell ⟨wr.heap.size, 8, none⟩ (.slice A5 q c5)).heap.size (w5.setCell ⟨wr.heap.size, 8, none⟩ (.slice A5 q c5)) ((w5.setCell ⟨wr.heap.size, 8, none⟩ (.slice A5 q c5)).alloc (.cells #[.int .i64 e.kd, .int .i64 e.t, .int .i64 e.s, .int .i64 e.lev, .int .i64 e.o, .int .i64 e.vt, .int .i64 e.vk, .int .i64 e.p, .slice A5 q c5] 39)) := (Below.refl _ _).alloc (Nat.le_refl _) _
     have HB7 := Lib.hid (hb6.trans (hal7.mono hb6.size))
     have HS7 := Lib.hid (own_on hs6 hal7)
     have hsz5 : (w5.setCell ⟨wr.heap.size, 8, none⟩ (.slice A5 q c5)).heap.size = w5.heap.size := by simp
     have sl := (lit_of (w5.setCell ⟨wr.heap.size, 8, none⟩ (.slice A5 q c5)) 39 9 (evCs (cutE e, ⟨A5, q, c5⟩)) #[.int .i64 e.kd, .int .i64 e.t, .int .i64 e.s, .int .i64 e.lev, .int .i64 e.o, .int .i64 e.vt, .int .i64 e.vk, .int .i64 e.p, .slice A5 q c5] rfl rfl)
     rw [hsz5] at sl
     have SL := Lib.hid sl
     clear sl hsz5
     have HF7 := Lib.hid (HF.out.on HB7.out)
     have hn4 : h.ev.1.n ≤ 80 := HF.out.st.n.1
     have HFi : Hid (FwI Bh B3 w m h wr i 0 0) := HF.out.to (by omega) rfl rfl
     clear ho5 hb5 ke5 ke6 hb6 hs6 hal7
     go_wp2_with (at_builtin; refine wpList_append_any _ rfl (.tmp 43) (.tmp 45) 23 rfl w.heap.size 39 i0 _ 9 88 Tryz.underlying23 hi hz0 hz1 hz2 rfl (by decide) _ _ _ rfl HF7.out.cp.ev _ (some ⟨w5.heap.size, 0, none⟩) 1 _ (evCs (cutE e, ⟨A5, q, c5⟩)) rfl SL.out (evCs_one _) (by unfold maxLen; omega) (by omega) HF7.out.cp.below.size ?_; intro v' w8 hown8 hgrow8 hat8; obtain ⟨A8, c8, rfl, -, -⟩ := own_form2 hown8; obtain ⟨hb8, hf8⟩ := HFi.out.ev HE.out HB7.out HS7.out h80 hown8 hgrow8; have y4 := hb8.cell 4; have f4 := hb8.frozen 4)
     have HF8 := Lib.hid (hf8.to (i2 := min (i + 1) 80) (by omega) rfl rfl)
     clear hown8 hgrow8 hat8 hb8 hf8 y4 f4 SL HF7 HFi HF HB7 HS7 z4 y8 f8 d0 d1 d2 d3 d4 d5 d6 d7 d8
     go_wp2_with fail
     go_roundw
     case rel => exact ⟨i + 1, _, hin, by go_num, HF8⟩
     case measure => simp [intOf]; omega
    ·have h80i : ¬ (i : Int) < 80 := by omega
     have HF8 := Lib.hid ((HF.out.on hal).to (i2 := min (i + 1) 80) (by omega) rfl rfl)
     clear hal HF
     go_wp2_with fail
     go_roundw
     case rel => exact ⟨i + 1, _, hin, by go_num, HF8⟩
     case measure => simp [intOf]; omega
   ·have hie : i = m.ev.1.n := by omega
    have HF : Hid (FwI Bh B3 w m h wr (min m.ev.1.n 80) 0 0) := by rw [← hie]; exact HF.out
    rw [hie]
    clear hie hi0 hin
    generalize hIE : min m.ev.1.n 80 = I at *
    have HIE := Lib.hid hIE
    clear hIE
    have z5 : wr.cell? ⟨Bh, 5, none⟩ = some (.slice m.od.1.A m.od.1.n m.od.1.c) := HF.out.bh.cell 5
    have hmo : m.od.1.n ≤ 9223372036854775807 := Nat.le_trans HARG.out.od.1 HARG.out.od.2
    go_wp2_with fail
    rename World => wev
    clear z5
    go_loopw [52] (fun v wr => ∃ (i : Nat) (h : HistM), i ≤ m.od.1.n ∧ v = .int .i64 i ∧ Hid (FwI Bh B3 w m h wr I (min i 20) 0)) (fun v _ => m.od.1.n - (intOf v).toNat)
    case atStart => exact ⟨0, h, Nat.zero_le _, rfl, HF⟩
    case round =>
     clear HF
     obtain ⟨i, h, hi0, rfl, HF⟩ := hrel
     by_cases hin : i < m.od.1.n
     ·have hlt : (i : Int) < (m.od.1.n : Int) := by omega
      obtain ⟨⟨e, hd⟩, hs⟩ : ∃ p, m.od.2[i]? = some p := ⟨m.od.2[i]'(by rw [HFIT.out.od.1]; exact hin), List.getElem?_eq_getElem _⟩
      obtain ⟨b, o, hA, hbl, hc⟩ := row_cells odCs_len (by omega) (HARG.out.rd.od.below HF.out.cp.below) hs
      rw [hA]
      have c0 : wr.cell? ⟨b, o + i * 2, none⟩ = some (.int .i64 e.o) := hc 0 _ rfl
      have c1 : wr.cell? ⟨b, o + i * 2 + 1, none⟩ = some (.slice hd.A hd.n hd.c) := hc 1 _ rfl
      have HSI := Lib.hid hs
      have HA := Lib.hid hA
      clear hc hbl hs hA
      have hal : Below wr.heap.size wr (wr.alloc (.cells #[.int .i64 e.o, .slice hd.A hd.n hd.c] 61)) := (Below.refl _ _).alloc (Nat.le_refl _) _
      by_cases h80 : i < 20
      ·have h80i : (i : Int) < 20 := by omega
       obtain ⟨q, hq, hqn, hq41⟩ : ∃ q : Nat, min (hd.n : Int) 20 = (q : Int) ∧ q ≤ hd.n ∧ q = min hd.n 20 := ⟨min hd.n 20, by omega, by omega, rfl⟩
       have hsc := HFIT.out.ot _ (List.mem_of_getElem? HSI.out)
       have HTK : Hid (e.ts.take q = (cutO e).ts) := by
        show _ = e.ts.take 20
        have h9 : e.ts.length = hd.n := hsc.1
        rw [hq41]
        rcases Nat.le_total hd.n 20 with h1 | h1
        ·rw [Nat.min_eq_left h1, List.take_of_length_le (by omega), List.take_of_length_le (by omega)]
        ·rw [Nat.min_eq_right h1]
       have HCL := Lib.hid fun W (hW : Below w.heap.size w W) => clone_in hd.A q hd.c (e.ts.take q) (by omega) W (((reads_cut (HARG.out.rd.ot _ (List.mem_of_getElem? HSI.out)) hqn).below hW).more hW.size)
       have hcut := fun W => cut_in hd.A hd.n hd.c q (by have := (HARG.out.ot _ (List.mem_of_getElem? HSI.out)).1; simp only at this; omega) W
       have HE : Hid (m.pl.od[i]? = some e) := by show m.pl.od[i]? = _; unfold HistM.pl; simp [HSI.out]
       have KE : Hid (Blk (wr.alloc (.cells #[.int .i64 e.o, .slice hd.A hd.n hd.c] 61)) wr.heap.size 61 #[.int .i64 e.o, .slice hd.A hd.n hd.c]) := Blk.new _ _ _
       have HNE : Hid (∀ g, (Value.slice h.od.1.A h.od.1.n h.od.1.c).ownBlock = some g → g ≠ wr.heap.size) := fun g hg => Nat.ne_of_lt (own_in_block HF.out.cp.od hg).2
       have HNB : Hid (wr.heap.size ≠ B3) := Ne.symm (Nat.ne_of_lt HF.out.cp.b3.lt)
       have HF1 : Hid (FwI Bh B3 w m h _ I i 0) := (HF.out.on hal).to rfl (by omega) rfl
       clear hal hsc hq41 HF
       go_wp2_with fail
       clear c0 c1
       generalize wr.heap.size = BW at *
       refine wp_region_noPanic ?_
       refine wp_region_K (S := fun W => Blk W BW 61 #[.int .i64 e.o, .slice hd.A hd.n hd.c] ∧ W.cell? ⟨B3, 5, none⟩ = some (.slice h.od.1.A h.od.1.n h.od.1.c)) 16 (by kernel_rfl) ⟨KE.out.drew, Blk.cell (Blk.drew HF1.out.cp.b3) 5⟩ (fun hHeld => ?_)
       have HF1 := Lib.hid (HF1.out.on (Below.refl _ _).drew)
       have KE := Lib.hid KE.out.drew
       generalize (wr.alloc (.cells #[.int .i64 e.o, .slice hd.A hd.n hd.c] 61)).drew = wd at *
       have HFw := HF1
       refine ka 0 (some 59) (.pointer (some ⟨B3, 5, none⟩)) rfl rfl (fun w' => by go_simp) ?_
       try simp only [Act.put, kA, kB, kC]
       refine kv 1 (some 60) (.slice h.od.1.A h.od.1.n h.od.1.c) rfl rfl (fun w' hSw => by have c9 : w'.cell? ⟨B3, 5, none⟩ = some (.slice h.od.1.A h.od.1.n h.od.1.c) := hSw.2; go_simp) ?_
       try simp only [Act.put, kA, kB, kC]
       refine ka 2 (some 61) (.pointer (some ⟨BW, 0, none⟩)) rfl rfl (fun w' => by go_simp) ?_
       try simp only [Act.put, kA, kB, kC]
       refine kv 3 (some 62) (.int .i64 e.o) rfl rfl (fun w' hSw => by have c9 : w'.cell? ⟨BW, 0, none⟩ = some (.int .i64 e.o) := Blk.cell (w := w') hSw.1 0; go_simp) ?_
       try simp only [Act.put, kA, kB, kC]
       refine ka 4 (some 63) (.pointer (some ⟨BW, 1, none⟩)) rfl rfl (fun w' => by go_simp) ?_
       try simp only [Act.put, kA, kB, kC]
       refine kv 5 (some 64) (.slice hd.A hd.n hd.c) rfl rfl (fun w' hSw => by have c9 : w'.cell? ⟨BW, 1, none⟩ = some (.slice hd.A hd.n hd.c) := Blk.cell (w := w') hSw.1 1; go_simp) ?_
       try simp only [Act.put, kA, kB, kC]
       refine ka 6 (some 65) (.pointer (some ⟨BW, 1, none⟩)) rfl rfl (fun w' => by go_simp) ?_
       try simp only [Act.put, kA, kB, kC]
       refine kv 7 (some 66) (.slice hd.A hd.n hd.c) rfl rfl (fun w' hSw => by have c9 : w'.cell? ⟨BW, 1, none⟩ = some (.slice hd.A hd.n hd.c) := Blk.cell (w := w') hSw.1 1; go_simp) ?_
       try simp only [Act.put, kA, kB, kC]
       refine ka 8 (some 67) (.int .i64 (hd.n : Int)) rfl rfl (fun w' => by go_simp) ?_
       try simp only [Act.put, kA, kB, kC]
       refine ka 9 (some 68) (.int .i64 (q : Int)) rfl rfl (fun w' => by go_simp) ?_
       try simp only [Act.put, kA, kB, kC]
       refine ka 10 (some 69) (.slice hd.A q hd.c) rfl rfl (fun w' => by go_simp) ?_
       try simp only [Act.put, kA, kB, kC]
       refine kr [11] ?_
       refine kc rfl (fun K hK => ?_) kn
       go_simp
       refine (HCL.out _ HF1.out.cp.below).mono ?_
       rintro e5 w5 ⟨A5, c5, rfl, ho5, hb5⟩
       rw [HTK.out] at ho5
       have HF1 := Lib.hid (HF1.out.on hb5)
       have KE := Lib.hid (KE.out.below hb5 KE.out.lt)
       have HB5 := Lib.hid hb5
       have HS5 := Lib.hid ho5
       clear ho5 hb5 hHeld
       go_simp
       refine hK.out _ _ ⟨KE.out, HF1.out.cp.b3.cell 5⟩ (fun hHeld => ?_)
       clear hK K
       try simp only [Act.put, kA, kB, kC]
       refine ka 12 (some 71) (.agg #[.int .i64 e.o, .slice A5 q c5]) rfl rfl (fun w' => by go_simp) ?_
       try simp only [Act.put, kA, kB, kC]
       refine kr [13] ?_
       refine kc rfl (fun K hK => ?_) kn
       go_simp
       have hal6 := (Below.refl _ w5).alloc (Nat.le_refl _) (.cells #[.int .i64 e.o, .slice A5 q c5] 61)
       have HF1 := Lib.hid (HF1.out.on hal6)
       have KE := Lib.hid (KE.out.below hal6 KE.out.lt)
       have HB5 := Lib.hid (HB5.out.trans (hal6.mono HB5.out.size))
       have HS5 := Lib.hid (own_on HS5.out hal6)
       have SL := Lib.hid (lit_of w5 61 2 (odCs (cutO e, ⟨A5, q, c5⟩)) #[.int .i64 e.o, .slice A5 q c5] rfl rfl)
       clear hal6 hHeld
       refine hK.out _ _ ⟨KE.out, HF1.out.cp.b3.cell 5⟩ (fun hHeld => ?_)
       clear hK K
       try simp only [Act.put, kA, kB, kC]
       generalize w5.alloc (.cells #[.int .i64 e.o, .slice A5 q c5] 61) = ua at *
       generalize w5.heap.size = XS at *
       refine kr [14] ?_
       refine kc (o := { dst := some 73, op := Op.call { callee := Callee.builtin Builtin.append, args := #[Operand.tmp 60, Operand.tmp 72], argTypes := #[24, 24] }, type := 24, pos := "law.go:50", after := #[{ on := 1, ground := Ground.data }, { on := 13, ground := Ground.data }, { on := 11, ground := Ground.chain }], guard := none }) rfl (fun K hK => ?_) kn
       have OWN := Lib.hid HF1.out.cp.od
       have hn3 : h.od.1.n ≤ 20 := HF1.out.st.n.2.1
       refine step_append_any _ rfl (.tmp 60) (.tmp 72) 24 rfl w.heap.size 61 j0 _ 2 32 Tryz.underlying24 hj hj0 hj1 hj2 rfl (by decide) (.slice h.od.1.A h.od.1.n h.od.1.c) h.od.1.n _ rfl OWN.out _ (some ⟨XS, 0, none⟩) 1 _ (odCs (cutO e, ⟨A5, q, c5⟩)) rfl SL.out (odCs_one _) (by unfold maxLen; omega) (by omega) HF1.out.cp.below.size ?_
       intro v' w6 hown6 hgrow6 hat6; obtain ⟨A6, c6, rfl, -, -⟩ := own_form2 hown6
       obtain ⟨hb6, hf6⟩ := HFw.out.od HE.out HB5.out HS5.out h80 hown6 hgrow6
       have KE6 := Lib.hid (Keep.blk ((Keep.refl (fun j => (Value.slice h.od.1.A h.od.1.n h.od.1.c).ownBlock ≠ some j) _).grown hgrow6 fun g hg => .inr fun h => h hg) KE.out fun hg => HNE.out _ hg rfl)
       have KB6 := Lib.hid hb6
       have HF6 := Lib.hid (hf6.to (j2 := min (i + 1) 20) rfl (by omega) rfl)
       clear hown6 hgrow6 hat6 hb6 hf6 hHeld
       refine hK.out _ _ ⟨KE6.out, KB6.out.cell 5⟩ (fun hHeld => ?_)
       clear hK K
       try simp only [Act.put, kA, kB, kC]
       refine ka 15 (some 74) (.pointer (some ⟨B3, 5, none⟩)) rfl rfl (fun w' => by go_simp) ?_
       try simp only [Act.put, kA, kB, kC]
       refine kr [16] ?_
       refine kz (o := { dst := none, op := Op.store 24 (Operand.tmp 74) (Operand.tmp 73), type := 0, pos := "law.go:50", after := #[{ on := 15, ground := Ground.data }, { on := 14, ground := Ground.data }, { on := 14, ground := Ground.chain }, { on := 0, ground := Ground.phase }, { on := 1, ground := Ground.phase }, { on := 2, ground := Ground.phase }, { on := 3, ground := Ground.phase }, { on := 4, ground := Ground.phase }, { on := 5, ground := Ground.phase }, { on := 6, ground := Ground.phase }, { on := 7, ground := Ground.phase }, { on := 8, ground := Ground.phase }, { on := 9, ground := Ground.phase }, { on := 10, ground := Ground.phase }, { on := 11, ground := Ground.phase }, { on := 12, ground := Ground.phase }, { on := 13, ground := Ground.phase }, { on := 14, ground := Ground.phase }], guard := none }) rfl (fun K hK => ?_)
       have y5 := KB6.out.cell 5
       have f5 := KB6.out.frozen 5
       go_simp
       clear KE6 KB6 OWN SL hn3 y5 f5 hHeld
       refine hK.out _ _ ?_
       clear hK K
       try simp only [Act.put]
       refine kd (by kernel_rfl) ?_ _
       refine NoPanic.normal ?_
       go_wp2_with fail
       go_roundw
       case rel => exact ⟨i + 1, _, hin, by go_num, HF6⟩
       case measure => simp [intOf]; omega
      ·have h80i : ¬ (i : Int) < 20 := by omega
       have HF8 := Lib.hid ((HF.out.on hal).to (j2 := min (i + 1) 20) rfl (by omega) rfl)
       clear hal HF
       go_wp2_with fail
       go_roundw
       case rel => exact ⟨i + 1, _, hin, by go_num, HF8⟩
       case measure => simp [intOf]; omega
     ·have hie : i = m.od.1.n := by omega
      have HF : Hid (FwI Bh B3 w m h wr I (min m.od.1.n 20) 0) := by rw [← hie]; exact HF.out
      rw [hie]
      clear hie hi0 hin
      generalize hIE : min m.od.1.n 20 = J at *
      have HJE := Lib.hid hIE
      clear hIE
      have z6 : wr.cell? ⟨Bh, 6, none⟩ = some (.slice m.ma.1.A m.ma.1.n m.ma.1.c) := HF.out.bh.cell 6
      have hmm : m.ma.1.n ≤ 9223372036854775807 := Nat.le_trans HARG.out.ma.1 HARG.out.ma.2
      go_wp2_with fail
      rename World => wod
      clear z6
      go_loopw [79] (fun v wr => ∃ (i : Nat) (h : HistM), i ≤ m.ma.1.n ∧ v = .int .i64 i ∧ Hid (FwI Bh B3 w m h wr I J (min i 20))) (fun v _ => m.ma.1.n - (intOf v).toNat)
      case atStart => exact ⟨0, h, Nat.zero_le _, rfl, HF⟩
      case round =>
       clear HF
       obtain ⟨i, h, hi0, rfl, HF⟩ := hrel
       by_cases hin : i < m.ma.1.n
       ·have hlt : (i : Int) < (m.ma.1.n : Int) := by omega
        obtain ⟨⟨e, hd⟩, hs⟩ : ∃ p, m.ma.2[i]? = some p := ⟨m.ma.2[i]'(by rw [HFIT.out.ma.1]; exact hin), List.getElem?_eq_getElem _⟩
        obtain ⟨b, o, hA, hbl, hc⟩ := row_cells maCs_len (by omega) (HARG.out.rd.ma.below HF.out.cp.below) hs
        rw [hA]
        have c0 : wr.cell? ⟨b, o + i * 4, none⟩ = some (.int .i64 e.p) := hc 0 _ rfl
        have c1 : wr.cell? ⟨b, o + i * 4 + 1, none⟩ = some (.int .i64 e.o) := hc 1 _ rfl
        have c2 : wr.cell? ⟨b, o + i * 4 + 2, none⟩ = some (.bool e.fi) := hc 2 _ rfl
        have c3 : wr.cell? ⟨b, o + i * 4 + 3, none⟩ = some (.slice hd.A hd.n hd.c) := hc 3 _ rfl
        have HSI := Lib.hid hs
        have HA := Lib.hid hA
        clear hc hbl hs hA
        have hal : Below wr.heap.size wr (wr.alloc (.cells #[.int .i64 e.p, .int .i64 e.o, .bool e.fi, .slice hd.A hd.n hd.c] 64)) := (Below.refl _ _).alloc (Nat.le_refl _) _
        by_cases h80 : i < 20
        ·have h80i : (i : Int) < 20 := by omega
         obtain ⟨q, hq, hqn, hq41⟩ : ∃ q : Nat, min (hd.n : Int) 20 = (q : Int) ∧ q ≤ hd.n ∧ q = min hd.n 20 := ⟨min hd.n 20, by omega, by omega, rfl⟩
         have hsc := HFIT.out.mt _ (List.mem_of_getElem? HSI.out)
         have HTK : Hid (e.ts.take q = (cutM e).ts) := by
          show _ = e.ts.take 20
          have h9 : e.ts.length = hd.n := hsc.1
          rw [hq41]
          rcases Nat.le_total hd.n 20 with h1 | h1
          ·rw [Nat.min_eq_left h1, List.take_of_length_le (by omega), List.take_of_length_le (by omega)]
          ·rw [Nat.min_eq_right h1]
         have HBW := Lib.hid (HF.out.cp.below.trans (hal.mono HF.out.cp.below.size))
         have HCL := Lib.hid (clone_in hd.A q hd.c (e.ts.take q) (by omega) _ (((reads_cut (HARG.out.rd.mt _ (List.mem_of_getElem? HSI.out)) hqn).below HBW.out).more HBW.out.size))
         have hcut := fun W => cut_in hd.A hd.n hd.c q (by have := (HARG.out.mt _ (List.mem_of_getElem? HSI.out)).1; simp only at this; omega) W
         have HE : Hid (m.pl.ma[i]? = some e) := by show m.pl.ma[i]? = _; unfold HistM.pl; simp [HSI.out]
         have KE : Hid (Blk (wr.alloc (.cells #[.int .i64 e.p, .int .i64 e.o, .bool e.fi, .slice hd.A hd.n hd.c] 64)) wr.heap.size 64 #[.int .i64 e.p, .int .i64 e.o, .bool e.fi, .slice hd.A hd.n hd.c]) := Blk.new _ _ _
         have HAL := Lib.hid hal
         clear hal hsc hq41
         go_wp2_with fail
         refine HCL.out.mono ?_
         rintro e5 w5 ⟨A5, c5, rfl, ho5, hb5⟩
         rw [HTK.out] at ho5
         clear c0 c1 c2 c3 HCL hcut
         generalize hW1 : wr.alloc (.cells #[.int .i64 e.p, .int .i64 e.o, .bool e.fi, .slice hd.A hd.n hd.c] 64) = W1 at *
         have HHW := Lib.hid hW1
         clear hW1
         have ke5 := KE.out.below hb5 KE.out.lt
         have y8 := ke5.cell 3
         have f8 := ke5.frozen 3
         have ke6 := ke5.set_ 3 (.slice A5 q c5)
         simp at ke6
         have hb6 : Below wr.heap.size wr (w5.setCell ⟨wr.heap.size, 3, none⟩ (.slice A5 q c5)) := (HAL.out.trans (hb5.mono HAL.out.size)).setCell (p := ⟨wr.heap.size, 3, none⟩) (Nat.le_refl _) _
         have hs6 : (w5.setCell ⟨wr.heap.size, 3, none⟩ (.slice A5 q c5)).ownsRow wr.heap.size 3 1 (.slice A5 q c5) q (ints (cutM e).ts) := (KeepT.set ke5 3 _).own (own_mono ho5 HAL.out.size) (by decide)
         have z4 : (w5.setCell ⟨wr.heap.size, 3, none⟩ (.slice A5 q c5)).cell? ⟨B3, 6, none⟩ = some (.slice h.ma.1.A h.ma.1.n h.ma.1.c) := (HF.out.on hb6).cp.b3.cell 6
         have d0 : (w5.setCell ⟨wr.heap.size, 3, none⟩ (.slice A5 q c5)).cell? ⟨wr.heap.size, 0, none⟩ = some (.int .i64 e.p) := ke6.cell 0
         have d1 : (w5.setCell ⟨wr.heap.size, 3, none⟩ (.slice A5 q c5)).cell? ⟨wr.heap.size, 1, none⟩ = some (.int .i64 e.o) := ke6.cell 1
         have d2 : (w5.setCell ⟨wr.heap.size, 3, none⟩ (.slice A5 q c5)).cell? ⟨wr.heap.size, 2, none⟩ = some (.bool e.fi) := ke6.cell 2
         have d3 : (w5.setCell ⟨wr.heap.size, 3, none⟩ (.slice A5 q c5)).cell? ⟨wr.heap.size, 3, none⟩ = some (.slice A5 q c5) := ke6.cell 3
         have hal7 : Below (w5.setCell ⟨wr.heap.size, 3, none⟩ (.slice A5 q c5)).heap.size (w5.setCell ⟨wr.heap.size, 3, none⟩ (.slice A5 q c5)) ((w5.setCell ⟨wr.heap.size, 3, none⟩ (.slice A5 q c5)).alloc (.cells #[.int .i64 e.p, .int .i64 e.o, .bool e.fi, .slice A5 q c5] 64)) := (Below.refl _ _).alloc (Nat.le_refl _) _
         have HB7 := Lib.hid (hb6.trans (hal7.mono hb6.size))
         have HS7 := Lib.hid (own_on hs6 hal7)
         have hsz5 : (w5.setCell ⟨wr.heap.size, 3, none⟩ (.slice A5 q c5)).heap.size = w5.heap.size := by simp
         have sl := (lit_of (w5.setCell ⟨wr.heap.size, 3, none⟩ (.slice A5 q c5)) 64 4 (maCs (cutM e, ⟨A5, q, c5⟩)) #[.int .i64 e.p, .int .i64 e.o, .bool e.fi, .slice A5 q c5] rfl rfl)
         rw [hsz5] at sl
         have SL := Lib.hid sl
         clear sl hsz5
         have HF7 := Lib.hid (HF.out.on HB7.out)
         have hn4 : h.ma.1.n ≤ 20 := HF.out.st.n.2.2
         have HFi : Hid (FwI Bh B3 w m h wr I J i) := HF.out.to rfl rfl (by omega)
         clear ho5 hb5 ke5 ke6 hb6 hs6 hal7
         go_wp2_with (at_builtin; refine wpList_append_any _ rfl (.tmp 96) (.tmp 98) 25 rfl w.heap.size 64 l0 _ 4 48 Tryz.underlying25 hl hl0 hl1 hl2 rfl (by decide) _ _ _ rfl HF7.out.cp.ma _ (some ⟨w5.heap.size, 0, none⟩) 1 _ (maCs (cutM e, ⟨A5, q, c5⟩)) rfl SL.out (maCs_one _) (by unfold maxLen; omega) (by omega) HF7.out.cp.below.size ?_; intro v' w8 hown8 hgrow8 hat8; obtain ⟨A8, c8, rfl, -, -⟩ := own_form2 hown8; obtain ⟨hb8, hf8⟩ := HFi.out.ma HE.out HB7.out HS7.out h80 hown8 hgrow8; have y4 := hb8.cell 6; have f4 := hb8.frozen 6)
         have HF8 := Lib.hid (hf8.to (k2 := min (i + 1) 20) rfl rfl (by omega))
         clear hown8 hgrow8 hat8 hb8 hf8 y4 f4 SL HF7 HFi HF HB7 HS7 z4 y8 f8 d0 d1 d2 d3
         go_wp2_with fail
         go_roundw
         case rel => exact ⟨i + 1, _, hin, by go_num, HF8⟩
         case measure => simp [intOf]; omega
        ·have h80i : ¬ (i : Int) < 20 := by omega
         have HF8 := Lib.hid ((HF.out.on hal).to (k2 := min (i + 1) 20) rfl rfl (by omega))
         clear hal HF
         go_wp2_with fail
         go_roundw
         case rel => exact ⟨i + 1, _, hin, by go_num, HF8⟩
         case measure => simp [intOf]; omega
       ·have hie : i = m.ma.1.n := by omega
        have HF : Hid (FwI Bh B3 w m h wr I J (min m.ma.1.n 20)) := by rw [← hie]; exact HF.out
        rw [hie]
        clear hie hi0 hin
        generalize hIE : min m.ma.1.n 20 = K at *
        have HKE := Lib.hid hIE
        clear hIE
        obtain ⟨q, hq, hqn, hq41⟩ : ∃ q : Nat, min (m.wa.1.n : Int) 20 = (q : Int) ∧ q ≤ m.wa.1.n ∧ q = min m.wa.1.n 20 := ⟨min m.wa.1.n 20, by omega, by omega, rfl⟩
        have HTK : Hid (m.wa.2.take q = m.wa.2.take 20) := by
         show _ = m.wa.2.take 20
         have h9 : m.wa.2.length = m.wa.1.n := HFIT.out.wa.1
         rw [hq41]
         rcases Nat.le_total m.wa.1.n 20 with h1 | h1
         ·rw [Nat.min_eq_left h1, List.take_of_length_le (by omega), List.take_of_length_le (by omega)]
         ·rw [Nat.min_eq_right h1]
        have HCL := Lib.hid (clone_wa m.wa.1.A q m.wa.1.c (m.wa.2.take q) (by omega) _ (((reads_cut_s waCs_len HARG.out.rd.wa hqn).below HF.out.cp.below).more HF.out.cp.below.size))
        have hcut := fun W => cut_wa m.wa.1.A m.wa.1.n m.wa.1.c q (by have := HARG.out.wa.1; omega) W
        have z7 : wr.cell? ⟨Bh, 7, none⟩ = some (.slice m.wa.1.A m.wa.1.n m.wa.1.c) := HF.out.bh.cell 7
        clear hq41
        go_wp2_with fail
        refine HCL.out.mono ?_
        rintro e5 w5 ⟨A5, c5, rfl, ho5, hb5⟩
        clear z7 HCL hcut
        rw [HTK.out] at ho5
        obtain ⟨hbw, hcw⟩ := HF.out.cp.set_wa hb5 ho5
        have y7 := hbw.cell 7
        have f7 := hbw.frozen 7
        have HPL : Hid ((setWa h A5 q c5 (m.wa.2.take 20)).pl = fewP m.pl) := HF.out.st.all (by rw [← HIE.out, ← HFIT.out.ev.1]; unfold HistM.pl; simp) (by rw [← HJE.out, ← HFIT.out.od.1]; unfold HistM.pl; simp) (by rw [← HKE.out, ← HFIT.out.ma.1]; unfold HistM.pl; simp) (hd := ⟨A5, q, c5⟩)
        have HD : Hid (HOwn w.heap.size (w5.setCell ⟨B3, 7, none⟩ (.slice A5 q c5)) (setWa h A5 q c5 (m.wa.2.take 20))) := hcw.done
        have HB := Lib.hid hcw.below
        have KR := Lib.hid hcw.br
        have HNE := Lib.hid hcw.ne
        have hb3 := hcw.b3
        clear hcw hbw ho5 hb5 HF
        have z0 : (w5.setCell ⟨B3, 7, none⟩ (.slice A5 q c5)).cell? ⟨B3, 0, none⟩ = some (.slice h.tr.1.A h.tr.1.n h.tr.1.c) := hb3.cell 0
        have z1 : (w5.setCell ⟨B3, 7, none⟩ (.slice A5 q c5)).cell? ⟨B3, 1, none⟩ = some (.slice h.se.1.A h.se.1.n h.se.1.c) := hb3.cell 1
        have z2 : (w5.setCell ⟨B3, 7, none⟩ (.slice A5 q c5)).cell? ⟨B3, 2, none⟩ = some (.slice h.ob.1.A h.ob.1.n h.ob.1.c) := hb3.cell 2
        have z3 : (w5.setCell ⟨B3, 7, none⟩ (.slice A5 q c5)).cell? ⟨B3, 3, none⟩ = some (.slice h.pr.1.A h.pr.1.n h.pr.1.c) := hb3.cell 3
        have z4 : (w5.setCell ⟨B3, 7, none⟩ (.slice A5 q c5)).cell? ⟨B3, 4, none⟩ = some (.slice h.ev.1.A h.ev.1.n h.ev.1.c) := hb3.cell 4
        have z5 : (w5.setCell ⟨B3, 7, none⟩ (.slice A5 q c5)).cell? ⟨B3, 5, none⟩ = some (.slice h.od.1.A h.od.1.n h.od.1.c) := hb3.cell 5
        have z6 : (w5.setCell ⟨B3, 7, none⟩ (.slice A5 q c5)).cell? ⟨B3, 6, none⟩ = some (.slice h.ma.1.A h.ma.1.n h.ma.1.c) := hb3.cell 6
        have z7 : (w5.setCell ⟨B3, 7, none⟩ (.slice A5 q c5)).cell? ⟨B3, 7, none⟩ = some (.slice A5 q c5) := hb3.cell 7
        have u0 : (w5.setCell ⟨B3, 7, none⟩ (.slice A5 q c5)).cell? ⟨Bh + 1, 0, none⟩ = some (.slice none 0 0) := KR.out.cell 0
        have u1 : (w5.setCell ⟨B3, 7, none⟩ (.slice A5 q c5)).cell? ⟨Bh + 1, 1, none⟩ = some (.slice none 0 0) := KR.out.cell 1
        have u2 : (w5.setCell ⟨B3, 7, none⟩ (.slice A5 q c5)).cell? ⟨Bh + 1, 2, none⟩ = some (.slice none 0 0) := KR.out.cell 2
        have u3 : (w5.setCell ⟨B3, 7, none⟩ (.slice A5 q c5)).cell? ⟨Bh + 1, 3, none⟩ = some (.slice none 0 0) := KR.out.cell 3
        have u4 : (w5.setCell ⟨B3, 7, none⟩ (.slice A5 q c5)).cell? ⟨Bh + 1, 4, none⟩ = some (.slice none 0 0) := KR.out.cell 4
        have u5 : (w5.setCell ⟨B3, 7, none⟩ (.slice A5 q c5)).cell? ⟨Bh + 1, 5, none⟩ = some (.slice none 0 0) := KR.out.cell 5
        have u6 : (w5.setCell ⟨B3, 7, none⟩ (.slice A5 q c5)).cell? ⟨Bh + 1, 6, none⟩ = some (.slice none 0 0) := KR.out.cell 6
        have u7 : (w5.setCell ⟨B3, 7, none⟩ (.slice A5 q c5)).cell? ⟨Bh + 1, 7, none⟩ = some (.slice none 0 0) := KR.out.cell 7
        have g0 := KR.out.frozen 0
        have g1 := KR.out.frozen 1
        have g2 := KR.out.frozen 2
        have g3 := KR.out.frozen 3
        have g4 := KR.out.frozen 4
        have g5 := KR.out.frozen 5
        have g6 := KR.out.frozen 6
        have g7 := KR.out.frozen 7
        clear hb3
        go_wp2_with fail
        clear y7 f7 z0 u0 g0 z1 u1 g1 z2 u2 g2 z3 u3 g3 z4 u4 g4 z5 u5 g5 z6 u6 g6 z7 u7 g7
        have FL := Lib.hid (fill8 KR.out (.slice h.tr.1.A h.tr.1.n h.tr.1.c) (.slice h.se.1.A h.se.1.n h.se.1.c) (.slice h.ob.1.A h.ob.1.n h.ob.1.c) (.slice h.pr.1.A h.pr.1.n h.pr.1.c) (.slice h.ev.1.A h.ev.1.n h.ev.1.c) (.slice h.od.1.A h.od.1.n h.od.1.c) (.slice h.ma.1.A h.ma.1.n h.ma.1.c) (.slice A5 q c5))
        have HOF := Lib.hid (HD.out.keepT (FL.out.2.1 (fun j => ∀ cs, ¬ Blk (w5.setCell ⟨B3, 7, none⟩ (.slice A5 q c5)) j 28 cs) (fun h => h _ KR.out)) (by decide) (by decide) (by decide) (by decide) (by decide) (by decide) (by decide))
        have HBF := Lib.hid (FL.out.2.2 w HB.out (Nat.le_succ_of_le HNE.out.2.2.2))
        have kf := FL.out.1
        clear FL HD HB KR
        generalize (((((((((w5.setCell ⟨B3, 7, none⟩ (.slice A5 q c5)).setCell ⟨Bh + 1, 0, none⟩ (.slice h.tr.1.A h.tr.1.n h.tr.1.c)).setCell ⟨Bh + 1, 1, none⟩ (.slice h.se.1.A h.se.1.n h.se.1.c)).setCell ⟨Bh + 1, 2, none⟩ (.slice h.ob.1.A h.ob.1.n h.ob.1.c)).setCell ⟨Bh + 1, 3, none⟩ (.slice h.pr.1.A h.pr.1.n h.pr.1.c)).setCell ⟨Bh + 1, 4, none⟩ (.slice h.ev.1.A h.ev.1.n h.ev.1.c)).setCell ⟨Bh + 1, 5, none⟩ (.slice h.od.1.A h.od.1.n h.od.1.c)).setCell ⟨Bh + 1, 6, none⟩ (.slice h.ma.1.A h.ma.1.n h.ma.1.c)).setCell ⟨Bh + 1, 7, none⟩ (.slice A5 q c5)) = wf at *
        obtain ⟨r0, r1, r2, r3, r4, r5, r6, r7⟩ := c8 kf
        exact bodyPost_ret (v := .agg #[.slice h.tr.1.A h.tr.1.n h.tr.1.c, .slice h.se.1.A h.se.1.n h.se.1.c, .slice h.ob.1.A h.ob.1.n h.ob.1.c, .slice h.pr.1.A h.pr.1.n h.pr.1.c, .slice h.ev.1.A h.ev.1.n h.ev.1.c, .slice h.od.1.A h.od.1.n h.od.1.c, .slice h.ma.1.A h.ma.1.n h.ma.1.c, .slice A5 q c5]) (by simp [results, Tryz.results8, go_sem, r0, r1, r2, r3, r4, r5, r6, r7]) rfl ⟨setWa h A5 q c5 (m.wa.2.take 20), rfl, HOF.out, HPL.out, HBF.out⟩
end Go.Proofs.YtlnbmmaminflcaaGreatDoor
