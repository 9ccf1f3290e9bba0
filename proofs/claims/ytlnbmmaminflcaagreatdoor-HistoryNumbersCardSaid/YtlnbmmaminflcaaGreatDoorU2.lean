/- HistoryNumbers: the walk. -/
import Derived.Test.YtlnbmmaminflcaaGreatDoorM27
import Derived.Test.YtlnbmmaminflcaaGreatDoorM34
import Derived.Test.YtlnbmmaminflcaaGreatDoorU1
import Derived.Test.YtlnbmmaminflcaaGreatDoorM26
import Derived.Test.YtlnbmmaminflcaaGreatDoorM17
import Derived.Test.YtlnbmmaminflcaaGreatDoorM30
import Derived.Test.YtlnbmmaminflcaaGreatDoorM33
import Derived.Test.YtlnbmmaminflcaaGreatDoorM35
-- holds: YtlnbmmaminflcaaGreatDoorVJxe YtlnbmmaminflcaaGreatDoorVJxf YtlnbmmaminflcaaGreatDoorVJyf
namespace Go.Proofs.YtlnbmmaminflcaaGreatDoor
open Go.RowKit Go.Shelf

section
variable {r : List (Nat × Int)} {s : Nat} {n t k : Int} {e : EvP} {f : Nat → Int → Int}
theorem at_anew (h : (s, n) ∈ r) : atI (spk s r) n = anewI r s n := by
 unfold atI anewI
 rw [if_pos (mem_spk.2 h)]
theorem anew_re (hk : 0 ≤ k) (h : ∀ p ∈ refsV t k, p ∈ r) : anewV (spk 0 r) t k = reV (anewI r) t k := by
 unfold anewV reV
 by_cases h0 : k = 0
 ·rw [if_neg (by omega), if_pos h0]
 ·rw [if_pos (by omega), if_neg h0]
  exact at_anew (h _ (by unfold refsV; rw [if_neg h0]; simp))
theorem places_anew {ts : List Int} (h : ∀ p ∈ refsT ts, p ∈ r) : placesL (spk 0 r) ts = ts.map (anewI r 0) := by
 unfold placesL
 exact List.map_congr_left fun x hx => at_anew (h _ (List.mem_map.2 ⟨x, hx, rfl⟩))
theorem told_pos (h : toldB t k = true) : 0 ≤ k := by
 unfold toldB at h
 split at h
 ·omega
 ·simp at h
  omega
theorem fine_ver (h : fineE e = true) (hk : e.kd = 2 ∨ e.kd = 3) : 0 ≤ e.vk := by
 have hm := fine_may h
 unfold mayE at hm
 rw [if_neg (by omega)] at hm
 rcases hk with hk | hk
 ·rw [if_pos hk] at hm
  simp only [Bool.and_eq_true] at hm
  exact told_pos hm.2
 ·rw [if_neg (by omega), if_pos hk] at hm
  exact told_pos hm
theorem fine_seen (h : fineE e = true) {s : SeenP} (hs : s ∈ e.scan) : 0 ≤ s.k := by
 by_cases hk : e.kd = 4
 ·have hm := fine_may h
  unfold mayE at hm
  rw [if_neg (by omega), if_neg (by omega), if_neg (by omega), if_pos hk] at hm
  simp only [Bool.and_eq_true, List.all_eq_true] at hm
  exact told_pos (hm.2 s hs)
 ·rw [fine_scan h hk] at hs
  cases hs
theorem fine_re1 (h : fineE e = true) (hk : e.kd = 1) : reE f e = ⟨e.kd, f 0 e.t, f 1 e.s, e.lev, 0, 0, 0, 0, []⟩ := by
 have hb := fine_bare h
 rw [reE_one hk]
 unfold bareE at hb
 rw [if_pos hk] at hb
 obtain ⟨kd, t, s, lev, o, vt, vk, p, scan⟩ := e
 simp only [EvP.mk.injEq, true_and] at hb ⊢
 obtain ⟨h1, h2, h3, h4, h5⟩ := hb
 exact ⟨h1.symm, h2.symm, h3.symm, h4.symm, h5.symm⟩
theorem fine_re2 (h : fineE e = true) (hk : e.kd = 2 ∨ e.kd = 3) : reE f e = ⟨e.kd, f 0 e.t, 0, e.lev, f 2 e.o, reV f e.vt e.vk, e.vk, 0, []⟩ := by
 have hb := fine_bare h
 rw [reE_two hk]
 unfold bareE at hb
 rw [if_neg (by omega), if_pos hk] at hb
 obtain ⟨kd, t, s, lev, o, vt, vk, p, scan⟩ := e
 simp only [EvP.mk.injEq, true_and] at hb ⊢
 obtain ⟨h1, h2, h3, h4⟩ := hb
 exact ⟨h1.symm, h3.symm, h4.symm⟩
theorem fine_re4 (h : fineE e = true) (hk : e.kd = 4) : reE f e = ⟨e.kd, f 0 e.t, 0, e.lev, 0, 0, 0, f 3 e.p, e.scan.map (reS f)⟩ := by
 have hb := fine_bare h
 rw [reE_four hk]
 unfold bareE at hb
 rw [if_neg (by omega), if_neg (by omega), if_pos hk] at hb
 obtain ⟨kd, t, s, lev, o, vt, vk, p, scan⟩ := e
 simp only [EvP.mk.injEq, true_and, and_true] at hb ⊢
 obtain ⟨h1, h2, h3, h4, h5⟩ := hb
 exact ⟨h1.symm, h3.symm, h4.symm, h5.symm⟩
theorem fine_re5 (h : fineE e = true) (hk : ¬ e.kd = 1 ∧ ¬ (e.kd = 2 ∨ e.kd = 3) ∧ ¬ e.kd = 4) : reE f e = ⟨e.kd, f 0 e.t, 0, e.lev, 0, 0, 0, 0, []⟩ := by
 have hb := fine_bare h
 rw [reE_end hk]
 unfold bareE at hb
 rw [if_neg hk.1, if_neg hk.2.1, if_neg hk.2.2] at hb
 obtain ⟨kd, t, s, lev, o, vt, vk, p, scan⟩ := e
 simp only [EvP.mk.injEq, true_and] at hb ⊢
 obtain ⟨h1, h2, h3, h4, h5, h6, h7⟩ := hb
 exact ⟨h1.symm, h3.symm, h4.symm, h5.symm, h6.symm, h7.symm⟩
theorem fine_rescan (h : fineE e = true) : (reE f e).scan = e.scan.map (reS f) := by
 by_cases hk : e.kd = 4
 ·rw [fine_re4 h hk]
 ·have hs := fine_scan h hk
  rw [hs]
  by_cases h1 : e.kd = 1
  ·rw [fine_re1 h h1]; rfl
  ·by_cases h2 : e.kd = 2 ∨ e.kd = 3
   ·rw [fine_re2 h h2]; rfl
   ·rw [fine_re5 h ⟨h1, h2, hk⟩]; rfl
end

structure NumS (m h : HistM) (i j k l : Nat) : Prop where
 tr : h.tr.2 = namedN m.tr.2 (spk 0 (refs m.pl))
 se : h.se.2 = namedN m.se.2 (spk 1 (refs m.pl))
 ob : h.ob.2 = namedN m.ob.2 (spk 2 (refs m.pl))
 pr : h.pr.2 = namedN m.pr.2 (spk 3 (refs m.pl))
 ev : h.ev.2.map (·.1) = (m.pl.ev.take i).map (reE (anewI (refs m.pl)))
 od : h.od.2.map (·.1) = (m.pl.od.take j).map (reO (anewI (refs m.pl)))
 ma : h.ma.2.map (·.1) = (m.pl.ma.take k).map (reM (anewI (refs m.pl)))
 wa : h.wa.2 = (m.pl.wa.take l).map (reW (anewI (refs m.pl)))
theorem NumS.all {m h : HistM} {i j k l : Nat} (c : NumS m h i j k l) (hi : m.pl.ev.length = i) (hj : m.pl.od.length = j) (hk : m.pl.ma.length = k) (hl : m.pl.wa.length = l) : h.pl = numP m.pl := by
 show (⟨h.tr.2, h.se.2, h.ob.2, h.pr.2, h.ev.2.map (·.1), h.od.2.map (·.1), h.ma.2.map (·.1), h.wa.2⟩ : Hist) = _
 rw [c.tr, c.se, c.ob, c.pr, c.ev, c.od, c.ma, c.wa, List.take_of_length_le (Nat.le_of_eq hi), List.take_of_length_le (Nat.le_of_eq hj), List.take_of_length_le (Nat.le_of_eq hk), List.take_of_length_le (Nat.le_of_eq hl)]
 rfl
def addWa (h : HistM) (A : Option Addr) (c : Nat) (p : WantP) : HistM := ⟨h.tr, h.se, h.ob, h.pr, h.ev, h.od, h.ma, (⟨A, h.wa.1.n + 1, c⟩, h.wa.2 ++ [p])⟩
section
variable {Bh B3 : Nat} {w X Y Z : World} {h : HistM} {scs its : List (List Value × SH)}
theorem CpI.add_wa (c : CpI Bh B3 w X h scs its) {e : WantP} {A : Option Addr} {c' : Nat} (hb : Below X.heap.size X Y)
 (ho : Z.ownsRow w.heap.size 67 2 (.slice A (h.wa.1.n + 1) c') (h.wa.1.n + 1) (h.wa.2.flatMap waCs ++ waCs e)) (hg : Y.grownBy Z (Value.slice h.wa.1.A h.wa.1.n h.wa.1.c).ownBlock) :
 Blk Z B3 28 h.cs ∧ CpI Bh B3 w (Z.setCell ⟨B3, 7, none⟩ (.slice A (h.wa.1.n + 1) c')) (addWa h A c' e) scs its := by
 have d := c.on hb
 have k1 : KeepT 67 Y Z := KeepT.grown d.wa hg
 have b3Z := k1.blk d.b3 (by decide)
 have k2 := box_turn b3Z 7 (.slice A (h.wa.1.n + 1) c')
 refine ⟨b3Z, ?_⟩
 constructor
 ·exact (d.below.grown hg d.below.size fun g hg2 => (own_in_block d.wa hg2).1).setCell (p := ⟨B3, 7, none⟩) c.ne.2.2.1 _
 ·exact b3Z.set_ 7 _
 ·exact (k1.blk d.br (by decide)).far (p := ⟨B3, 7, none⟩) (Ne.symm c.ne.2.1) _
 ·exact c.ne
 ·exact (d.nm.keepT k1 (by decide)).keepT k2 (by decide)
 ·exact k2.own (k1.own d.ev (by decide)) (by decide)
 ·exact k2.own (k1.own d.od (by decide)) (by decide)
 ·exact k2.own (k1.own d.ma (by decide)) (by decide)
 ·have e2 : (h.wa.2 ++ [e]).flatMap waCs = h.wa.2.flatMap waCs ++ waCs e := by rw [List.flatMap_append, List.flatMap_cons, List.flatMap_nil, List.append_nil]
  show World.ownsRow _ _ _ _ _ _ ((h.wa.2 ++ [e]).flatMap waCs)
  rw [e2]
  exact k2.own ho (by decide)
 ·exact (d.sc.keepT k1 (by decide)).keepT k2 (by decide)
 ·exact (d.it.keepT k1 (by decide)).keepT k2 (by decide)
end
structure NuX (Bh B3 Bs : Nat) (w : World) (m h : HistM) (L : H4) (X : World) (i j k l : Nat) : Prop where
 cp : CpI Bh B3 w X h (h.ev.2.map scOf) (h.od.2.map toOf ++ h.ma.2.map tmOf)
 st : NumS m h i j k l
 bh : Blk X Bh 28 m.cs
 bs : Blk X Bs 77 L.cs
 sp : RG 3 1 w.heap.size X (L.rows (refs m.pl))
section
variable {Bh B3 Bs : Nat} {w X Y Z : World} {m h : HistM} {L : H4} {i j k l : Nat} {A : Option Addr} {c' : Nat} {hd : SH} {t : TypeId}
theorem NuX.on (c : NuX Bh B3 Bs w m h L X i j k l) (hb : Below X.heap.size X Y) : NuX Bh B3 Bs w m h L Y i j k l := ⟨c.cp.on hb, c.st, c.bh.below hb c.bh.lt, c.bs.below hb c.bs.lt, c.sp.on hb⟩
theorem NuX.keep (c : NuX Bh B3 Bs w m h L X i j k l) (hb : Below X.heap.size X Y) (k1 : KeepT t Y Z) (h1 : 28 ≠ t) (h2 : 77 ≠ t) (h3 : 3 ≠ t) (q : Nat) (u : Value) :
 Blk (Z.setCell ⟨B3, q, none⟩ u) Bh 28 m.cs ∧ Blk (Z.setCell ⟨B3, q, none⟩ u) Bs 77 L.cs ∧ RG 3 1 w.heap.size (Z.setCell ⟨B3, q, none⟩ u) (L.rows (refs m.pl)) := by
 have d := c.on hb
 have k2 := box_turn (k1.blk d.cp.b3 h1) q u
 exact ⟨(k1.blk d.bh h1).far (p := ⟨B3, q, none⟩) (Ne.symm c.cp.ne.1) _, k2.blk (k1.blk d.bs h2) (by decide), (d.sp.keepT k1 h3).keepT k2 (by decide)⟩
theorem NuX.ev (c : NuX Bh B3 Bs w m h L X i 0 0 0) {e : EvP} (he : m.pl.ev[i]? = some e) (hb : Below X.heap.size X Y) {g : EvP} (hge : reE (anewI (refs m.pl)) e = g)
 (hs : Y.ownsRow X.heap.size 59 3 (.slice hd.A hd.n hd.c) hd.n (g.scan.flatMap seCs)) (ho : Z.ownsRow w.heap.size 39 9 (.slice A (h.ev.1.n + 1) c') (h.ev.1.n + 1) (h.ev.2.flatMap evCs ++ evCs (g, hd))) (hg : Y.grownBy Z (Value.slice h.ev.1.A h.ev.1.n h.ev.1.c).ownBlock) :
 Blk Z B3 28 h.cs ∧ NuX Bh B3 Bs w m (addEv11 h A c' (g, hd)) L (Z.setCell ⟨B3, 4, none⟩ (.slice A (h.ev.1.n + 1) c')) (i + 1) 0 0 0 := by
 obtain ⟨h1, h2⟩ := c.cp.add_ev hb hs ho hg
 obtain ⟨q1, q2, q3⟩ := c.keep hb (KeepT.grown (c.cp.on hb).ev hg) (by decide) (by decide) (by decide) 4 (.slice A (h.ev.1.n + 1) c')
 refine ⟨h1, ⟨?_, ⟨c.st.tr, c.st.se, c.st.ob, c.st.pr, ?_, c.st.od, c.st.ma, c.st.wa⟩, q1, q2, q3⟩⟩
 ·show CpI _ _ _ _ _ _ _
  rw [← show (h.ev.2 ++ [(g, hd)]).map scOf = h.ev.2.map scOf ++ [(g.scan.flatMap seCs, hd)] by rw [List.map_append]; rfl] at h2
  exact h2
 ·show (h.ev.2 ++ [(g, hd)]).map (·.1) = _
  rw [List.map_append, c.st.ev, List.take_add_one, he, List.map_append, ← hge]
  rfl
theorem NuX.od (c : NuX Bh B3 Bs w m h L X i j 0 0) {e : OrdP} (he : m.pl.od[j]? = some e) (hb : Below X.heap.size X Y) {g : OrdP} (hge : reO (anewI (refs m.pl)) e = g)
 (hs : Y.ownsRow X.heap.size 3 1 (.slice hd.A hd.n hd.c) hd.n (ints g.ts)) (ho : Z.ownsRow w.heap.size 61 2 (.slice A (h.od.1.n + 1) c') (h.od.1.n + 1) (h.od.2.flatMap odCs ++ odCs (g, hd))) (hg : Y.grownBy Z (Value.slice h.od.1.A h.od.1.n h.od.1.c).ownBlock) :
 Blk Z B3 28 h.cs ∧ NuX Bh B3 Bs w m (addOd h A c' (g, hd)) L (Z.setCell ⟨B3, 5, none⟩ (.slice A (h.od.1.n + 1) c')) i (j + 1) 0 0 := by
 obtain ⟨h1, h2⟩ := c.cp.add_od hb hs ho hg
 obtain ⟨q1, q2, q3⟩ := c.keep hb (KeepT.grown (c.cp.on hb).od hg) (by decide) (by decide) (by decide) 5 (.slice A (h.od.1.n + 1) c')
 refine ⟨h1, ⟨?_, ⟨c.st.tr, c.st.se, c.st.ob, c.st.pr, c.st.ev, ?_, c.st.ma, c.st.wa⟩, q1, q2, q3⟩⟩
 ·show CpI _ _ _ _ _ _ _
  have e0 : h.ma.2.map tmOf = [] := by have := c.st.ma; simp at this; rw [this]; rfl
  rw [e0, List.append_nil, ← show (h.od.2 ++ [(g, hd)]).map toOf = h.od.2.map toOf ++ [(ints g.ts, hd)] by rw [List.map_append]; rfl] at h2
  show CpI _ _ _ _ _ _ ((h.od.2 ++ [(g, hd)]).map toOf ++ h.ma.2.map tmOf)
  rw [e0, List.append_nil]
  exact h2
 ·show (h.od.2 ++ [(g, hd)]).map (·.1) = _
  rw [List.map_append, c.st.od, List.take_add_one, he, List.map_append, ← hge]
  rfl
theorem NuX.ma (c : NuX Bh B3 Bs w m h L X i j k 0) {e : MatP} (he : m.pl.ma[k]? = some e) (hb : Below X.heap.size X Y) {g : MatP} (hge : reM (anewI (refs m.pl)) e = g)
 (hs : Y.ownsRow X.heap.size 3 1 (.slice hd.A hd.n hd.c) hd.n (ints g.ts)) (ho : Z.ownsRow w.heap.size 64 4 (.slice A (h.ma.1.n + 1) c') (h.ma.1.n + 1) (h.ma.2.flatMap maCs ++ maCs (g, hd))) (hg : Y.grownBy Z (Value.slice h.ma.1.A h.ma.1.n h.ma.1.c).ownBlock) :
 Blk Z B3 28 h.cs ∧ NuX Bh B3 Bs w m (addMa h A c' (g, hd)) L (Z.setCell ⟨B3, 6, none⟩ (.slice A (h.ma.1.n + 1) c')) i j (k + 1) 0 := by
 obtain ⟨h1, h2⟩ := c.cp.add_ma hb hs ho hg
 obtain ⟨q1, q2, q3⟩ := c.keep hb (KeepT.grown (c.cp.on hb).ma hg) (by decide) (by decide) (by decide) 6 (.slice A (h.ma.1.n + 1) c')
 refine ⟨h1, ⟨?_, ⟨c.st.tr, c.st.se, c.st.ob, c.st.pr, c.st.ev, c.st.od, ?_, c.st.wa⟩, q1, q2, q3⟩⟩
 ·show CpI _ _ _ _ _ _ _
  rw [List.append_assoc, ← show (h.ma.2 ++ [(g, hd)]).map tmOf = h.ma.2.map tmOf ++ [(ints g.ts, hd)] by rw [List.map_append]; rfl] at h2
  exact h2
 ·show (h.ma.2 ++ [(g, hd)]).map (·.1) = _
  rw [List.map_append, c.st.ma, List.take_add_one, he, List.map_append, ← hge]
  rfl
theorem NuX.wa (c : NuX Bh B3 Bs w m h L X i j k l) {e : WantP} (he : m.pl.wa[l]? = some e) (hb : Below X.heap.size X Y) {g : WantP} (hge : reW (anewI (refs m.pl)) e = g)
 (ho : Z.ownsRow w.heap.size 67 2 (.slice A (h.wa.1.n + 1) c') (h.wa.1.n + 1) (h.wa.2.flatMap waCs ++ waCs g)) (hg : Y.grownBy Z (Value.slice h.wa.1.A h.wa.1.n h.wa.1.c).ownBlock) :
 Blk Z B3 28 h.cs ∧ NuX Bh B3 Bs w m (addWa h A c' g) L (Z.setCell ⟨B3, 7, none⟩ (.slice A (h.wa.1.n + 1) c')) i j k (l + 1) := by
 obtain ⟨h1, h2⟩ := c.cp.add_wa hb ho hg
 obtain ⟨q1, q2, q3⟩ := c.keep hb (KeepT.grown (c.cp.on hb).wa hg) (by decide) (by decide) (by decide) 7 (.slice A (h.wa.1.n + 1) c')
 refine ⟨h1, ⟨h2, ⟨c.st.tr, c.st.se, c.st.ob, c.st.pr, c.st.ev, c.st.od, c.st.ma, ?_⟩, q1, q2, q3⟩⟩
 show h.wa.2 ++ [g] = _
 rw [c.st.wa, List.take_add_one, he, List.map_append, ← hge]
 rfl
theorem NuX.lens (c : NuX Bh B3 Bs w m h L X i j k l) : h.ev.1.n ≤ i ∧ h.od.1.n ≤ j ∧ h.ma.1.n ≤ k ∧ h.wa.1.n ≤ l := by
 have a1 := own_long evCs_len (by omega) c.cp.ev
 have a2 := own_long odCs_len (by omega) c.cp.od
 have a3 := own_long maCs_len (by omega) c.cp.ma
 have a4 := own_long waCs_len (by omega) c.cp.wa
 have b1 := congrArg List.length c.st.ev
 have b2 := congrArg List.length c.st.od
 have b3 := congrArg List.length c.st.ma
 have b4 := congrArg List.length c.st.wa
 rw [List.length_map, List.length_map, List.length_take] at b1 b2 b3
 rw [List.length_map, List.length_take] at b4
 omega
theorem sp_len {r : List (Nat × Int)} {B s : Nat} (sp : RG 3 1 B X (L.rows r)) (hs : s < 4) : (L.at_ s).n = (spk s r).length := by
 have h2 := (sp.own s _ (h4_at hs)).1
 unfold ints at h2
 rw [List.length_map] at h2
 simp only at h2
 omega
theorem NuX.at_ (c : NuX Bh B3 Bs w m h L X i j k l) (hY : Below X.heap.size X Y) (hl : (refs m.pl).length ≤ 1000000) {s : Nat} (hs : s < 4) {x y : Int} (hx : (s, x) ∈ refs m.pl) (hy : anewI (refs m.pl) s x = y) : Calls Tryz.prog 53 #[.slice (L.at_ s).A (L.at_ s).n (L.at_ s).c, .int .i64 x] Y fun e w' => e = .returned (.int .i64 y) ∧ w' = Y := by
 have ho := (c.sp.on hY).own s _ (h4_at hs)
 rw [← hy, ← at_anew hx]
 have h1 := spk_le s (refs m.pl)
 have h2 := sp_len (c.sp.on hY) hs
 exact at11_any _ _ _ _ x (by omega) Y (Reads.of_own ho)
theorem NuX.anew (c : NuX Bh B3 Bs w m h L X i j k l) (hY : Below X.heap.size X Y) (hl : (refs m.pl).length ≤ 1000000) {t v y : Int} (hv : 0 ≤ v) (hx : ∀ p ∈ refsV t v, p ∈ refs m.pl) (hy : reV (anewI (refs m.pl)) t v = y) : Calls Tryz.prog 54 #[.slice L.a0.A L.a0.n L.a0.c, .agg #[.int .i64 t, .int .i64 v]] Y fun e w' => e = .returned (.agg #[.int .i64 y, .int .i64 v]) ∧ Below Y.heap.size Y w' := by
 have ho := (c.sp.on hY).own 0 _ (h4_at (by omega))
 rw [← hy, ← anew_re hv hx]
 have h1 := spk_le 0 (refs m.pl)
 have h2 := sp_len (s := 0) (c.sp.on hY) (by omega)
 exact anew_any L.a0.A L.a0.n L.a0.c _ t v (by show (L.at_ 0).n ≤ _; omega) Y (Reads.of_own ho)
theorem NuX.places (c : NuX Bh B3 Bs w m h L X i j k l) (hY : Below X.heap.size X Y) (hl : (refs m.pl).length ≤ 1000000) {A2 : Option Addr} {q c2 : Nat} {ts ys : List Int} (hq : q ≤ 1000) (hx : ∀ p ∈ refsT ts, p ∈ refs m.pl) (hy : ts.map (anewI (refs m.pl) 0) = ys) (hR : Reads Y Y.heap.size 1 A2 q (ints ts)) :
 Calls Tryz.prog 55 #[.slice L.a0.A L.a0.n L.a0.c, .slice A2 q c2] Y fun e w' => ∃ (A : Option Addr) (c : Nat), e = .returned (.slice A q c) ∧ w'.ownsRow Y.heap.size 3 1 (.slice A q c) q (ints ys) ∧ Below Y.heap.size Y w' := by
 have ho := (c.sp.on hY).own 0 _ (h4_at (by omega))
 have hpl := places_anew hx
 have hql : ys.length = q := by rw [← hy, List.length_map]; exact ints_len hR
 rw [hy] at hpl
 have h1 := spk_le 0 (refs m.pl)
 have h2 := sp_len (s := 0) (c.sp.on hY) (by omega)
 refine (places_any L.a0.A L.a0.n L.a0.c _ _ _ _ _ (by show (L.at_ 0).n ≤ _; omega) hq Y (Reads.of_own ho) hR).mono ?_
 rintro e w' ⟨A, c, he, ho, hb⟩
 rw [hpl, hql] at he ho
 exact ⟨A, c, he, ho, hb⟩
end
theorem named_L {H : Hist} (hS : Small H) (hsh : shapedB H = true) {L : H4} {B : Nat} {X : World} (sp : RG 3 1 B X (L.rows (refs H))) {s : Nat} (hs : s < 4) {A : Option Addr} {n c : Nat} (hR : Reads X X.heap.size 1 A n (strs (H.names s))) :
 Calls Tryz.prog 52 #[.slice A n c, .slice (L.at_ s).A (L.at_ s).n (L.at_ s).c] X (CopyS (namedN (H.names s) (spk s (refs H))) X) := by
 have h1 := spk_small hsh hS s (refs H).length
 rw [List.take_length] at h1
 have h2 := sp_len sp hs
 exact named_any _ _ _ _ _ _ _ _ (by omega) (fun x hx => by rw [← many_len]; exact shaped_in hsh (mem_spk.1 hx)) X hR (Reads.of_own (sp.own s _ (h4_at hs)))
theorem refs_few {H : Hist} (hS : Small H) : (refs H).length ≤ 1000000 := by
 have h1 := flat_le (g := refsE) (c := 130) (l := H.ev) fun e he => refsE_len (hS.sc e he)
 have h2 := flat_le (g := refsO) (c := 61) (l := H.od) fun r hr => by unfold refsO; rw [List.length_cons, refsT_len]; have := hS.ot r hr; omega
 have h3 := flat_le (g := refsM) (c := 62) (l := H.ma) fun r hr => by unfold refsM; rw [List.length_cons, List.length_cons, refsT_len]; have := hS.mt r hr; omega
 have h4 := flat_le (g := refsW) (c := 1) (l := H.wa) fun r _ => by unfold refsW; simp
 have e1 := hS.ev
 have e2 := hS.od
 have e3 := hS.ma
 have e4 := hS.wa
 unfold refs
 simp only [List.length_append]
 omega
theorem in_ev {H : Hist} {e : EvP} {i : Nat} (he : H.ev[i]? = some e) : ∀ p ∈ refsE e, p ∈ refs H := fun _ hp => List.mem_append_left _ (List.mem_flatMap.2 ⟨e, List.mem_of_getElem? he, hp⟩)
theorem in_od {H : Hist} {e : OrdP} {i : Nat} (he : H.od[i]? = some e) : ∀ p ∈ refsO e, p ∈ refs H := fun _ hp => List.mem_append_right _ (List.mem_append_left _ (List.mem_flatMap.2 ⟨e, List.mem_of_getElem? he, hp⟩))
theorem in_ma {H : Hist} {e : MatP} {i : Nat} (he : H.ma[i]? = some e) : ∀ p ∈ refsM e, p ∈ refs H := fun _ hp => List.mem_append_right _ (List.mem_append_right _ (List.mem_append_left _ (List.mem_flatMap.2 ⟨e, List.mem_of_getElem? he, hp⟩)))
theorem in_wa {H : Hist} {e : WantP} {i : Nat} (he : H.wa[i]? = some e) : ∀ p ∈ refsW e, p ∈ refs H := fun _ hp => List.mem_append_right _ (List.mem_append_right _ (List.mem_append_right _ (List.mem_flatMap.2 ⟨e, List.mem_of_getElem? he, hp⟩)))
structure RdE (t : TypeId) (Be : Nat) (ecs : Array Value) (w X : World) : Prop where
 below : Below w.heap.size w X
 be : Blk X Be t ecs
 ge : w.heap.size ≤ Be
section
variable {t u : TypeId} {Be B s n : Nat} {ecs : Array Value} {w X Y Z : World} {v : Value} {xs : List Value}
theorem RdE.new : RdE t w.heap.size ecs w (w.alloc (.cells ecs t)) := ⟨(Below.refl _ _).alloc (Nat.le_refl _) _, Blk.new _ _ _, Nat.le_refl _⟩
theorem RdE.on (c : RdE t Be ecs w X) (hb : Below X.heap.size X Y) : RdE t Be ecs w Y := ⟨c.below.trans (hb.mono c.below.size), c.be.below hb c.be.lt, c.ge⟩
theorem RdE.grown (c : RdE t Be ecs w X) (ho : w.ownsRow B u s v n xs) (hg : X.grownBy Y v.ownBlock) : Blk Y Be t ecs :=
 Keep.blk ((Keep.refl (fun j => v.ownBlock ≠ some j) X).grown hg fun _ hg => .inr fun h => h hg) c.be fun hg => by
  have h1 := (own_in_block ho hg).2
  have h2 := c.ge
  omega
end
theorem blk_grown {u : TypeId} {Be : Nat} {ecs : Array Value} {X Y : World} {v : Value} (hn : ∀ q, v.ownBlock = some q → q ≠ Be) (hg : X.grownBy Y v.ownBlock) (hb : Blk X Be u ecs) : Blk Y Be u ecs :=
 Keep.blk ((Keep.refl (fun j => v.ownBlock ≠ some j) X).grown hg fun _ hg => .inr fun h => h hg) hb fun hg => hn _ hg rfl
structure RdX (Be Bx : Nat) (ecs xcs : Array Value) (w X : World) : Prop where
 below : Below w.heap.size w X
 be : Blk X Be 39 ecs
 bx : Blk X Bx 39 xcs
 ne : Be ≠ Bx ∧ w.heap.size ≤ Be ∧ w.heap.size ≤ Bx
section
variable {Be Bx : Nat} {ecs xcs : Array Value} {w X Y : World}
theorem RdX.on (c : RdX Be Bx ecs xcs w X) (hb : Below X.heap.size X Y) : RdX Be Bx ecs xcs w Y := ⟨c.below.trans (hb.mono c.below.size), c.be.below hb c.be.lt, c.bx.below hb c.bx.lt, c.ne⟩
theorem RdX.to {ycs : Array Value} (c : RdX Be Bx ecs xcs w X) (e : xcs = ycs) : RdX Be Bx ecs ycs w X := e ▸ c
theorem RdX.set (c : RdX Be Bx ecs xcs w X) (q : Nat) (u : Value) : RdX Be Bx ecs (xcs.setIfInBounds q u) w (X.setCell ⟨Bx, q, none⟩ u) :=
 ⟨c.below.setCell (p := ⟨Bx, q, none⟩) c.ne.2.2 _, c.be.far (p := ⟨Bx, q, none⟩) c.ne.1 _, c.bx.set_ q u, c.ne⟩
end
structure ScX (Bx : Nat) (g : EvP) (f : Nat → Int → Int) (l : List SeenP) (w X : World) (A : Option Addr) (j c : Nat) : Prop where
 below : Below w.heap.size w X
 bx : Blk X Bx 39 #[.int .i64 g.kd, .int .i64 g.t, .int .i64 g.s, .int .i64 g.lev, .int .i64 g.o, .int .i64 g.vt, .int .i64 g.vk, .int .i64 g.p, .slice A j c]
 ge : w.heap.size ≤ Bx
 sc : X.ownsRow w.heap.size 59 3 (.slice A j c) j (((l.take j).map (reS f)).flatMap seCs)
section
variable {Bx j c c2 : Nat} {g : EvP} {f : Nat → Int → Int} {l : List SeenP} {w X Y Z : World} {A A2 : Option Addr}
theorem ScX.on (h : ScX Bx g f l w X A j c) (hb : Below X.heap.size X Y) : ScX Bx g f l w Y A j c := ⟨h.below.trans (hb.mono h.below.size), h.bx.below hb h.bx.lt, h.ge, own_on h.sc hb⟩
theorem ScX.more (h : ScX Bx g f l w X A j c) {s : SeenP} (hs : l[j]? = some s) (ho : Y.ownsRow w.heap.size 59 3 (.slice A2 (j + 1) c2) (j + 1) (((l.take j).map (reS f)).flatMap seCs ++ seCs (reS f s))) (hg : X.grownBy Y (Value.slice A j c).ownBlock) :
 Blk Y Bx 39 #[.int .i64 g.kd, .int .i64 g.t, .int .i64 g.s, .int .i64 g.lev, .int .i64 g.o, .int .i64 g.vt, .int .i64 g.vk, .int .i64 g.p, .slice A j c] ∧ ScX Bx g f l w (Y.setCell ⟨Bx, 8, none⟩ (.slice A2 (j + 1) c2)) A2 (j + 1) c2 := by
 have k1 : KeepT 59 X Y := KeepT.grown h.sc hg
 have bY := k1.blk h.bx (by decide)
 have k2 := box_turn bY 8 (.slice A2 (j + 1) c2)
 have b2 := bY.set_ 8 (.slice A2 (j + 1) c2)
 simp at b2
 refine ⟨bY, ⟨(h.below.grown hg h.below.size fun q hq => (own_in_block h.sc hq).1).setCell (p := ⟨Bx, 8, none⟩) h.ge _, b2, h.ge, ?_⟩⟩
 have e : ((l.take (j + 1)).map (reS f)).flatMap seCs = ((l.take j).map (reS f)).flatMap seCs ++ seCs (reS f s) := by
  rw [List.take_add_one, hs, List.map_append, List.flatMap_append]
  simp
 rw [e]
 exact k2.own ho (by decide)
end
theorem RdX.make {Be Bx : Nat} {ecs : Array Value} {w X : World} (c : RdE 39 Be ecs w X) {c0 c1 c2 c3 c4 c5 c6 c7 c8 : Value} (hb : Blk X Bx 39 #[c0, c1, c2, c3, c4, c5, c6, c7, c8]) (hn : Be ≠ Bx ∧ w.heap.size ≤ Bx) {v0 v1 v2 v3 v4 v5 v6 v7 v8 : Value} :
 RdX Be Bx ecs #[v0, v1, v2, v3, v4, v5, v6, v7, v8] w (((((((((X.setCell ⟨Bx, 0, none⟩ v0).setCell ⟨Bx, 1, none⟩ v1).setCell ⟨Bx, 2, none⟩ v2).setCell ⟨Bx, 3, none⟩ v3).setCell ⟨Bx, 4, none⟩ v4).setCell ⟨Bx, 5, none⟩ v5).setCell ⟨Bx, 6, none⟩ v6).setCell ⟨Bx, 7, none⟩ v7).setCell ⟨Bx, 8, none⟩ v8) := by
 have h0 : RdX Be Bx ecs #[c0, c1, c2, c3, c4, c5, c6, c7, c8] w X := ⟨c.below, c.be, hb, hn.1, c.ge, hn.2⟩
 have := ((((((((h0.set 0 v0).set 1 v1).set 2 v2).set 3 v3).set 4 v4).set 5 v5).set 6 v6).set 7 v7).set 8 v8
 simpa using this
structure N2 (Bh Bs : Nat) (w : World) (m : HistM) (L : H4) (X : World) (ns : List (List Value × SH)) : Prop where
 bb : Below w.heap.size w X
 kh : Blk X Bh 28 m.cs
 kr : Blk X (Bh + 1) 28 zeroH
 ks : Blk X Bs 77 L.cs
 sp : RG 3 1 w.heap.size X (L.rows (refs m.pl))
 nm : RG 9 1 w.heap.size X ns
section
variable {Bh Bs g : Nat} {w X Y : World} {m : HistM} {L : H4} {ns : List (List Value × SH)} {xs : List Value} {hd : SH}
theorem N2.on (c : N2 Bh Bs w m L X ns) (hb : Below X.heap.size X Y) : N2 Bh Bs w m L Y ns := ⟨c.bb.trans (hb.mono c.bb.size), c.kh.below hb c.kh.lt, c.kr.below hb c.kr.lt, c.ks.below hb c.ks.lt, c.sp.on hb, c.nm.on hb⟩
theorem N2.add (c : N2 Bh Bs w m L X ns) (hb : Below X.heap.size X Y) (ho : Y.ownsRow X.heap.size 9 1 (.slice hd.A hd.n hd.c) hd.n xs) : N2 Bh Bs w m L Y (ns ++ [(xs, hd)]) :=
 let d := c.on hb; ⟨d.bb, d.kh, d.kr, d.ks, d.sp, c.nm.add hb c.bb.size ho⟩
theorem N2.apart (c : N2 Bh Bs w m L X ns) : X.heap.size ≠ Bh ∧ X.heap.size ≠ Bh + 1 ∧ w.heap.size ≤ X.heap.size := ⟨Ne.symm (Nat.ne_of_lt c.kh.lt), Ne.symm (Nat.ne_of_lt c.kr.lt), c.bb.size⟩
theorem N2.store {A0 A1 A2 A3 : Option Addr} {n0 n1 n2 n3 c0 c1 c2 c3 : Nat} (c : N2 Bh Bs w m L X [(strs (namedN m.tr.2 (spk 0 (refs m.pl))), ⟨A0, n0, c0⟩), (strs (namedN m.se.2 (spk 1 (refs m.pl))), ⟨A1, n1, c1⟩), (strs (namedN m.ob.2 (spk 2 (refs m.pl))), ⟨A2, n2, c2⟩), (strs (namedN m.pr.2 (spk 3 (refs m.pl))), ⟨A3, n3, c3⟩)])
 (hg : Blk X g 28 zeroH) (hn : g ≠ Bh ∧ g ≠ Bh + 1 ∧ w.heap.size ≤ g) (hB : w.heap.size ≤ Bh) :
 NuX Bh g Bs w m ⟨(⟨A0, n0, c0⟩, namedN m.tr.2 (spk 0 (refs m.pl))), (⟨A1, n1, c1⟩, namedN m.se.2 (spk 1 (refs m.pl))), (⟨A2, n2, c2⟩, namedN m.ob.2 (spk 2 (refs m.pl))), (⟨A3, n3, c3⟩, namedN m.pr.2 (spk 3 (refs m.pl))), (⟨none, 0, 0⟩, []), (⟨none, 0, 0⟩, []), (⟨none, 0, 0⟩, []), (⟨none, 0, 0⟩, [])⟩ L
  ((((((((X.setCell ⟨g, 0, none⟩ (.slice A0 n0 c0)).setCell ⟨g, 1, none⟩ (.slice A1 n1 c1)).setCell ⟨g, 2, none⟩ (.slice A2 n2 c2)).setCell ⟨g, 3, none⟩ (.slice A3 n3 c3)).setCell ⟨g, 4, none⟩ (.slice none 0 0)).setCell ⟨g, 5, none⟩ (.slice none 0 0)).setCell ⟨g, 6, none⟩ (.slice none 0 0)).setCell ⟨g, 7, none⟩ (.slice none 0 0)) 0 0 0 0 := by
 obtain ⟨h1, h2, h3⟩ := fill8 hg (.slice A0 n0 c0) (.slice A1 n1 c1) (.slice A2 n2 c2) (.slice A3 n3 c3) (.slice none 0 0) (.slice none 0 0) (.slice none 0 0) (.slice none 0 0)
 have kt : KeepT 28 X _ := h2 (fun j => ∀ cs, ¬ Blk X j 28 cs) (fun h => h _ hg)
 have kg := h2 (fun j => j ≠ g) (fun h => h rfl)
 exact ⟨⟨h3 w c.bb hn.2.2, h1, Keep.blk kg c.kr (Ne.symm hn.2.1), ⟨hn.1, hn.2.1, hn.2.2, hB⟩, c.nm.keepT kt (by decide), World.ownsRow_nil _ _ _ _, World.ownsRow_nil _ _ _ _, World.ownsRow_nil _ _ _ _, World.ownsRow_nil _ _ _ _, RG.nil, RG.nil⟩,
  ⟨rfl, rfl, rfl, rfl, rfl, rfl, rfl, rfl⟩, Keep.blk kg c.kh (Ne.symm hn.1), kt.blk c.ks (by decide), c.sp.keepT kt (by decide)⟩
end
end Go.Proofs.YtlnbmmaminflcaaGreatDoor
namespace Go.Proofs.YtlnbmmaminflcaaGreatDoor
open Go.RowKit Go.Shelf

set_option maxRecDepth 100000 in
set_option maxHeartbeats 40000000 in
theorem rnumber11_any (m : HistM) (hS : Small m.pl) (hsh : shapedB m.pl = true) (w : World) (hm : HRd w w.heap.size m) : Calls Tryz.prog 17 #[.agg #[.slice m.tr.1.A m.tr.1.n m.tr.1.c, .slice m.se.1.A m.se.1.n m.se.1.c, .slice m.ob.1.A m.ob.1.n m.ob.1.c, .slice m.pr.1.A m.pr.1.n m.pr.1.c, .slice m.ev.1.A m.ev.1.n m.ev.1.c, .slice m.od.1.A m.od.1.n m.od.1.c, .slice m.ma.1.A m.ma.1.n m.ma.1.c, .slice m.wa.1.A m.wa.1.n m.wa.1.c]] w (FewIs (numP m.pl) w) := by
 obtain ⟨i0, hi, hz0, hz1, hz2⟩ := info_parts ev_info
 obtain ⟨j0, hj, hj0, hj1, hj2⟩ := info_parts od_info
 obtain ⟨k0, hk, hk0, hk1, hk2⟩ := info_parts ma_info
 obtain ⟨l0, hl, hl0, hl1, hl2⟩ := info_parts wa_info
 obtain ⟨s0, hs, hs0, hs1, hs2⟩ := info_parts se_info
 obtain ⟨kh, kr, b0, hs0_⟩ := itwo w #[.slice m.tr.1.A m.tr.1.n m.tr.1.c, .slice m.se.1.A m.se.1.n m.se.1.c, .slice m.ob.1.A m.ob.1.n m.ob.1.c, .slice m.pr.1.A m.pr.1.n m.pr.1.c, .slice m.ev.1.A m.ev.1.n m.ev.1.c, .slice m.od.1.A m.od.1.n m.od.1.c, .slice m.ma.1.A m.ma.1.n m.ma.1.c, .slice m.wa.1.A m.wa.1.n m.wa.1.c] #[.slice none 0 0, .slice none 0 0, .slice none 0 0, .slice none 0 0, .slice none 0 0, .slice none 0 0, .slice none 0 0, .slice none 0 0] 28 28
 have HM := Lib.hid hm
 have HSM := Lib.hid hS
 have HSH := Lib.hid hsh
 have HFIT := Lib.hid hm.fit
 have HRL := Lib.hid (refs_few hS)
 have HNN : Hid (m.ev.1.n ≤ 200 ∧ m.od.1.n ≤ 60 ∧ m.ma.1.n ≤ 60 ∧ m.wa.1.n ≤ 60) := by have h1 := hS.ev; have h2 := hS.od; have h3 := hS.ma; have h4 := hS.wa; have h5 := hm.fit; have e1 : m.pl.ev.length = m.ev.2.length := List.length_map ..; have e2 : m.pl.od.length = m.od.2.length := List.length_map ..; have e3 : m.pl.ma.length = m.ma.2.length := List.length_map ..; have e4 : m.pl.wa.length = m.wa.2.length := rfl; have f1 := h5.ev.1; have f2 := h5.od.1; have f3 := h5.ma.1; have f4 := h5.wa.1; show _ ∧ _; omega
 obtain ⟨W0, hW0⟩ : ∃ W0, W0 = ((w.alloc (.cells #[.slice m.tr.1.A m.tr.1.n m.tr.1.c, .slice m.se.1.A m.se.1.n m.se.1.c, .slice m.ob.1.A m.ob.1.n m.ob.1.c, .slice m.pr.1.A m.pr.1.n m.pr.1.c, .slice m.ev.1.A m.ev.1.n m.ev.1.c, .slice m.od.1.A m.od.1.n m.od.1.c, .slice m.ma.1.A m.ma.1.n m.ma.1.c, .slice m.wa.1.A m.wa.1.n m.wa.1.c] 28)).alloc (.cells #[.slice none 0 0, .slice none 0 0, .slice none 0 0, .slice none 0 0, .slice none 0 0, .slice none 0 0, .slice none 0 0, .slice none 0 0] 28)) := ⟨_, rfl⟩
 rw [← hW0] at kh kr b0
 obtain ⟨Bh, hBh⟩ : ∃ Bh, Bh = w.heap.size := ⟨_, rfl⟩
 have HBH : Hid (w.heap.size ≤ Bh) := by show _ ≤ _; omega
 have KH : Hid (Blk W0 Bh 28 m.cs) := by rw [hBh]; exact kh
 have KR : Hid (Blk W0 (Bh + 1) 28 zeroH) := by rw [hBh]; exact kr
 have BB := Lib.hid b0
 clear kh kr b0 hs0_ hS hsh hm
 go_enter Tryz.func17, Tryz.ntmps17
 go_upto_region 1 with fail
 rw [← hBh, ← hW0]
 clear hBh hW0
 obtain ⟨z0, z1, z2, z3, z4, z5, z6, z7⟩ := c8 KH.out
 go_wp2_with fail
 refine (spoken11_any m HSM.out (fun e he => fine_scan (shaped_ev HSH.out he)) W0 ((HM.out.on BB.out).more BB.out.size)).mono ?_
 rintro _ w1 ⟨L, rfl, hrg, hb⟩
 have hal : Below w1.heap.size w1 (w1.alloc (.cells #[.slice L.a0.A L.a0.n L.a0.c, .slice L.a1.A L.a1.n L.a1.c, .slice L.a2.A L.a2.n L.a2.c, .slice L.a3.A L.a3.n L.a3.c] 77)) := (Below.refl _ _).alloc (Nat.le_refl _) _
 have KS : Hid (Blk (w1.alloc (.cells #[.slice L.a0.A L.a0.n L.a0.c, .slice L.a1.A L.a1.n L.a1.c, .slice L.a2.A L.a2.n L.a2.c, .slice L.a3.A L.a3.n L.a3.c] 77)) w1.heap.size 77 L.cs) := Blk.new _ _ _
 have hbb := hb.trans (hal.mono hb.size)
 have N2 : Hid (N2 Bh w1.heap.size w m L (w1.alloc (.cells #[.slice L.a0.A L.a0.n L.a0.c, .slice L.a1.A L.a1.n L.a1.c, .slice L.a2.A L.a2.n L.a2.c, .slice L.a3.A L.a3.n L.a3.c] 77)) []) := ⟨BB.out.trans (hbb.mono BB.out.size), KH.out.below hbb KH.out.lt, KR.out.below hbb KR.out.lt, KS.out, (hrg.mono BB.out.size).on hal, RG.nil⟩
 clear hrg hb hal hbb KS KH KR BB z0 z1 z2 z3 z4 z5 z6 z7
 go_upto_region 2 with fail
 generalize (w1.alloc (.cells #[.slice L.a0.A L.a0.n L.a0.c, .slice L.a1.A L.a1.n L.a1.c, .slice L.a2.A L.a2.n L.a2.c, .slice L.a3.A L.a3.n L.a3.c] 77)) = W2 at *
 generalize w1.heap.size = Bs at *
 go_cut [4] (fun s4 wx => ∃ (B3 : Nat) (h : HistM), s4 = .pointer (some ⟨B3, 0, none⟩) ∧ Hid (NuX Bh B3 Bs w m h L wx 0 0 0 0))
 case first =>
  refine wp_region_noPanic ?_
  refine wp_region_K (S := fun W => Blk W Bh 28 m.cs ∧ Blk W Bs 77 L.cs) 22 (by kernel_rfl) ⟨N2.out.kh.drew, N2.out.ks.drew⟩ (fun hHeld => ?_)
  have N2 := Lib.hid (N2.out.on (Below.refl _ _).drew)
  generalize W2.drew = wd at *
  refine ka2 0 (some 18) (.pointer (some ⟨Bh, 0, none⟩)) rfl rfl (fun w' => by go_simp) ?_
  try simp only [Act.put, kA, kB, kC]
  refine kv2 1 (some 19) (.slice m.tr.1.A m.tr.1.n m.tr.1.c) rfl rfl (fun w' hSw => by have c9 : w'.cell? ⟨Bh, 0, none⟩ = some (.slice m.tr.1.A m.tr.1.n m.tr.1.c) := Blk.cell (w := w') hSw.1 0; go_simp) ?_
  try simp only [Act.put, kA, kB, kC]
  refine ka2 2 (some 20) (.pointer (some ⟨Bs, 0, none⟩)) rfl rfl (fun w' => by go_simp) ?_
  try simp only [Act.put, kA, kB, kC]
  refine kv2 3 (some 21) (.slice L.a0.A L.a0.n L.a0.c) rfl rfl (fun w' hSw => by have c9 : w'.cell? ⟨Bs, 0, none⟩ = some (.slice L.a0.A L.a0.n L.a0.c) := Blk.cell (w := w') hSw.2 0; go_simp) ?_
  try simp only [Act.put, kA, kB, kC]
  refine ka2 5 (some 23) (.pointer (some ⟨Bh, 1, none⟩)) rfl rfl (fun w' => by go_simp) ?_
  try simp only [Act.put, kA, kB, kC]
  refine kv2 6 (some 24) (.slice m.se.1.A m.se.1.n m.se.1.c) rfl rfl (fun w' hSw => by have c9 : w'.cell? ⟨Bh, 1, none⟩ = some (.slice m.se.1.A m.se.1.n m.se.1.c) := Blk.cell (w := w') hSw.1 1; go_simp) ?_
  try simp only [Act.put, kA, kB, kC]
  refine ka2 7 (some 25) (.pointer (some ⟨Bs, 1, none⟩)) rfl rfl (fun w' => by go_simp) ?_
  try simp only [Act.put, kA, kB, kC]
  refine kv2 8 (some 26) (.slice L.a1.A L.a1.n L.a1.c) rfl rfl (fun w' hSw => by have c9 : w'.cell? ⟨Bs, 1, none⟩ = some (.slice L.a1.A L.a1.n L.a1.c) := Blk.cell (w := w') hSw.2 1; go_simp) ?_
  try simp only [Act.put, kA, kB, kC]
  refine ka2 10 (some 28) (.pointer (some ⟨Bh, 2, none⟩)) rfl rfl (fun w' => by go_simp) ?_
  try simp only [Act.put, kA, kB, kC]
  refine kv2 11 (some 29) (.slice m.ob.1.A m.ob.1.n m.ob.1.c) rfl rfl (fun w' hSw => by have c9 : w'.cell? ⟨Bh, 2, none⟩ = some (.slice m.ob.1.A m.ob.1.n m.ob.1.c) := Blk.cell (w := w') hSw.1 2; go_simp) ?_
  try simp only [Act.put, kA, kB, kC]
  refine ka2 12 (some 30) (.pointer (some ⟨Bs, 2, none⟩)) rfl rfl (fun w' => by go_simp) ?_
  try simp only [Act.put, kA, kB, kC]
  refine kv2 13 (some 31) (.slice L.a2.A L.a2.n L.a2.c) rfl rfl (fun w' hSw => by have c9 : w'.cell? ⟨Bs, 2, none⟩ = some (.slice L.a2.A L.a2.n L.a2.c) := Blk.cell (w := w') hSw.2 2; go_simp) ?_
  try simp only [Act.put, kA, kB, kC]
  refine ka2 15 (some 33) (.pointer (some ⟨Bh, 3, none⟩)) rfl rfl (fun w' => by go_simp) ?_
  try simp only [Act.put, kA, kB, kC]
  refine kv2 16 (some 34) (.slice m.pr.1.A m.pr.1.n m.pr.1.c) rfl rfl (fun w' hSw => by have c9 : w'.cell? ⟨Bh, 3, none⟩ = some (.slice m.pr.1.A m.pr.1.n m.pr.1.c) := Blk.cell (w := w') hSw.1 3; go_simp) ?_
  try simp only [Act.put, kA, kB, kC]
  refine ka2 17 (some 35) (.pointer (some ⟨Bs, 3, none⟩)) rfl rfl (fun w' => by go_simp) ?_
  try simp only [Act.put, kA, kB, kC]
  refine kv2 18 (some 36) (.slice L.a3.A L.a3.n L.a3.c) rfl rfl (fun w' hSw => by have c9 : w'.cell? ⟨Bs, 3, none⟩ = some (.slice L.a3.A L.a3.n L.a3.c) := Blk.cell (w := w') hSw.2 3; go_simp) ?_
  try simp only [Act.put, kA, kB, kC]
  refine kr2 [4, 21] ?_
  refine kc rfl (fun K hK => ?_) ?_
  ·go_simp
   refine (named_L HSM.out HSH.out N2.out.sp (s := 0) (by omega) (A := m.tr.1.A) (n := m.tr.1.n) (c := m.tr.1.c) ((HM.out.tr.below N2.out.bb).more N2.out.bb.size)).mono ?_
   rintro e u0 ⟨A0, n0, c0, rfl, ho, hb⟩
   have N2 := Lib.hid (N2.out.add (hd := ⟨A0, n0, c0⟩) hb ho)
   clear ho hb hHeld
   go_simp
   refine hK.out _ _ ⟨N2.out.kh, N2.out.ks⟩ (fun hHeld => ?_)
   clear hK K
   try simp only [Act.put, kA, kB, kC]
   refine kr2 [9, 21] ?_
   refine kc rfl (fun K hK => ?_) ?_
   ·go_simp
    refine (named_L HSM.out HSH.out N2.out.sp (s := 1) (by omega) (A := m.se.1.A) (n := m.se.1.n) (c := m.se.1.c) ((HM.out.se.below N2.out.bb).more N2.out.bb.size)).mono ?_
    rintro e u1 ⟨A1, n1, c1, rfl, ho, hb⟩
    have N2 := Lib.hid (N2.out.add (hd := ⟨A1, n1, c1⟩) hb ho)
    clear ho hb hHeld
    go_simp
    refine hK.out _ _ ⟨N2.out.kh, N2.out.ks⟩ (fun hHeld => ?_)
    clear hK K
    try simp only [Act.put, kA, kB, kC]
    refine kr2 [14, 21] ?_
    refine kc rfl (fun K hK => ?_) ?_
    ·go_simp
     refine (named_L HSM.out HSH.out N2.out.sp (s := 2) (by omega) (A := m.ob.1.A) (n := m.ob.1.n) (c := m.ob.1.c) ((HM.out.ob.below N2.out.bb).more N2.out.bb.size)).mono ?_
     rintro e u2 ⟨A2, n2, c2, rfl, ho, hb⟩
     have N2 := Lib.hid (N2.out.add (hd := ⟨A2, n2, c2⟩) hb ho)
     clear ho hb hHeld
     go_simp
     refine hK.out _ _ ⟨N2.out.kh, N2.out.ks⟩ (fun hHeld => ?_)
     clear hK K
     try simp only [Act.put, kA, kB, kC]
     refine kr2 [19, 21] ?_
     refine kc rfl (fun K hK => ?_) ?_
     ·go_simp
      refine (named_L HSM.out HSH.out N2.out.sp (s := 3) (by omega) (A := m.pr.1.A) (n := m.pr.1.n) (c := m.pr.1.c) ((HM.out.pr.below N2.out.bb).more N2.out.bb.size)).mono ?_
      rintro e u3 ⟨A3, n3, c3, rfl, ho, hb⟩
      have N2 := Lib.hid (N2.out.add (hd := ⟨A3, n3, c3⟩) hb ho)
      clear ho hb hHeld
      go_simp
      refine hK.out _ _ ⟨N2.out.kh, N2.out.ks⟩ (fun hHeld => ?_)
      clear hK K
      try simp only [Act.put, kA, kB, kC]
      refine ka2 20 (some 38) (.agg #[.slice A0 n0 c0, .slice A1 n1 c1, .slice A2 n2 c2, .slice A3 n3 c3, .slice none 0 0, .slice none 0 0, .slice none 0 0, .slice none 0 0]) rfl rfl (fun w' => by go_simp) ?_
      try simp only [Act.put, kA, kB, kC]
      refine kr2 [21] ?_
      refine kc rfl (fun K hK => ?_) kn
      go_simp
      refine hK.out _ _ ⟨N2.out.kh.alloc _, N2.out.ks.alloc _⟩ (fun hHeld => ?_)
      clear hK K
      try simp only [Act.put, kA, kB, kC]
      have HGN := Lib.hid N2.out.apart
      have KG : Hid (Blk (u3.alloc (.cells #[.slice none 0 0, .slice none 0 0, .slice none 0 0, .slice none 0 0, .slice none 0 0, .slice none 0 0, .slice none 0 0, .slice none 0 0] 28)) u3.heap.size 28 zeroH) := Blk.new _ _ _
      have N2 := Lib.hid (N2.out.on ((Below.refl _ _).alloc (Nat.le_refl _) (.cells #[.slice none 0 0, .slice none 0 0, .slice none 0 0, .slice none 0 0, .slice none 0 0, .slice none 0 0, .slice none 0 0, .slice none 0 0] 28)))
      clear hHeld
      generalize u3.alloc (.cells #[.slice none 0 0, .slice none 0 0, .slice none 0 0, .slice none 0 0, .slice none 0 0, .slice none 0 0, .slice none 0 0, .slice none 0 0] 28) = ua at *
      generalize u3.heap.size = g at *
      have hHeld := And.intro N2.out.kh N2.out.ks
      refine kr2 [22] ?_
      refine kz (o := { dst := none, op := Op.store 28 (Operand.tmp 4) (Operand.tmp 38), type := 0, pos := "ref.go:284", after := #[{ on := 21, ground := Ground.data }, { on := 20, ground := Ground.data }, { on := 19, ground := Ground.chain }, { on := 0, ground := Ground.phase }, { on := 1, ground := Ground.phase }, { on := 2, ground := Ground.phase }, { on := 3, ground := Ground.phase }, { on := 4, ground := Ground.phase }, { on := 5, ground := Ground.phase }, { on := 6, ground := Ground.phase }, { on := 7, ground := Ground.phase }, { on := 8, ground := Ground.phase }, { on := 9, ground := Ground.phase }, { on := 10, ground := Ground.phase }, { on := 11, ground := Ground.phase }, { on := 12, ground := Ground.phase }, { on := 13, ground := Ground.phase }, { on := 14, ground := Ground.phase }, { on := 15, ground := Ground.phase }, { on := 16, ground := Ground.phase }, { on := 17, ground := Ground.phase }, { on := 18, ground := Ground.phase }, { on := 19, ground := Ground.phase }, { on := 20, ground := Ground.phase }, { on := 21, ground := Ground.phase }], guard := none }) rfl (fun K hK => ?_)
      obtain ⟨⟨y0, y1, y2, y3, y4, y5, y6, y7⟩, f0, f1, f2, f3, f4, f5, f6, f7⟩ := cf8 KG.out
      go_simp
      clear hHeld y0 f0 y1 f1 y2 f2 y3 f3 y4 f4 y5 f5 y6 f6 y7 f7
      refine hK.out _ _ ?_
      clear hK K
      try simp only [Act.put]
      refine kd (by kernel_rfl) ?_ _
      refine NoPanic.normal ?_
      go_wp2_with fail
      go_meet
      exact ⟨g, _, rfl, N2.out.store KG.out HGN.out HBH.out⟩
     refine kc rfl (fun K hK => ?_) ?_
     ·go_simp
      refine hK.out _ _ ⟨N2.out.kh.alloc _, N2.out.ks.alloc _⟩ (fun hHeld => ?_)
      clear hK K
      try simp only [Act.put, kA, kB, kC]
      have HGN := Lib.hid N2.out.apart
      have KG : Hid (Blk (u2.alloc (.cells #[.slice none 0 0, .slice none 0 0, .slice none 0 0, .slice none 0 0, .slice none 0 0, .slice none 0 0, .slice none 0 0, .slice none 0 0] 28)) u2.heap.size 28 zeroH) := Blk.new _ _ _
      have N2 := Lib.hid (N2.out.on ((Below.refl _ _).alloc (Nat.le_refl _) (.cells #[.slice none 0 0, .slice none 0 0, .slice none 0 0, .slice none 0 0, .slice none 0 0, .slice none 0 0, .slice none 0 0, .slice none 0 0] 28)))
      clear hHeld
      generalize u2.alloc (.cells #[.slice none 0 0, .slice none 0 0, .slice none 0 0, .slice none 0 0, .slice none 0 0, .slice none 0 0, .slice none 0 0, .slice none 0 0] 28) = ua at *
      generalize u2.heap.size = g at *
      have hHeld := And.intro N2.out.kh N2.out.ks
      refine kr2 [19] ?_
      refine kc rfl (fun K hK => ?_) kn
      go_simp
      refine (named_L HSM.out HSH.out N2.out.sp (s := 3) (by omega) (A := m.pr.1.A) (n := m.pr.1.n) (c := m.pr.1.c) ((HM.out.pr.below N2.out.bb).more N2.out.bb.size)).mono ?_
      rintro e u3 ⟨A3, n3, c3, rfl, ho, hb⟩
      have KG := Lib.hid (KG.out.below hb KG.out.lt)
      have N2 := Lib.hid (N2.out.add (hd := ⟨A3, n3, c3⟩) hb ho)
      clear ho hb hHeld
      go_simp
      refine hK.out _ _ ⟨N2.out.kh, N2.out.ks⟩ (fun hHeld => ?_)
      clear hK K
      try simp only [Act.put, kA, kB, kC]
      refine ka2 20 (some 38) (.agg #[.slice A0 n0 c0, .slice A1 n1 c1, .slice A2 n2 c2, .slice A3 n3 c3, .slice none 0 0, .slice none 0 0, .slice none 0 0, .slice none 0 0]) rfl rfl (fun w' => by go_simp) ?_
      try simp only [Act.put, kA, kB, kC]
      refine kr2 [22] ?_
      refine kz (o := { dst := none, op := Op.store 28 (Operand.tmp 4) (Operand.tmp 38), type := 0, pos := "ref.go:284", after := #[{ on := 21, ground := Ground.data }, { on := 20, ground := Ground.data }, { on := 19, ground := Ground.chain }, { on := 0, ground := Ground.phase }, { on := 1, ground := Ground.phase }, { on := 2, ground := Ground.phase }, { on := 3, ground := Ground.phase }, { on := 4, ground := Ground.phase }, { on := 5, ground := Ground.phase }, { on := 6, ground := Ground.phase }, { on := 7, ground := Ground.phase }, { on := 8, ground := Ground.phase }, { on := 9, ground := Ground.phase }, { on := 10, ground := Ground.phase }, { on := 11, ground := Ground.phase }, { on := 12, ground := Ground.phase }, { on := 13, ground := Ground.phase }, { on := 14, ground := Ground.phase }, { on := 15, ground := Ground.phase }, { on := 16, ground := Ground.phase }, { on := 17, ground := Ground.phase }, { on := 18, ground := Ground.phase }, { on := 19, ground := Ground.phase }, { on := 20, ground := Ground.phase }, { on := 21, ground := Ground.phase }], guard := none }) rfl (fun K hK => ?_)
      obtain ⟨⟨y0, y1, y2, y3, y4, y5, y6, y7⟩, f0, f1, f2, f3, f4, f5, f6, f7⟩ := cf8 KG.out
      go_simp
      clear hHeld y0 f0 y1 f1 y2 f2 y3 f3 y4 f4 y5 f5 y6 f6 y7 f7
      refine hK.out _ _ ?_
      clear hK K
      try simp only [Act.put]
      refine kd (by kernel_rfl) ?_ _
      refine NoPanic.normal ?_
      go_wp2_with fail
      go_meet
      exact ⟨g, _, rfl, N2.out.store KG.out HGN.out HBH.out⟩
     exact kn
    refine kc rfl (fun K hK => ?_) ?_
    ·go_simp
     refine hK.out _ _ ⟨N2.out.kh.alloc _, N2.out.ks.alloc _⟩ (fun hHeld => ?_)
     clear hK K
     try simp only [Act.put, kA, kB, kC]
     have HGN := Lib.hid N2.out.apart
     have KG : Hid (Blk (u1.alloc (.cells #[.slice none 0 0, .slice none 0 0, .slice none 0 0, .slice none 0 0, .slice none 0 0, .slice none 0 0, .slice none 0 0, .slice none 0 0] 28)) u1.heap.size 28 zeroH) := Blk.new _ _ _
     have N2 := Lib.hid (N2.out.on ((Below.refl _ _).alloc (Nat.le_refl _) (.cells #[.slice none 0 0, .slice none 0 0, .slice none 0 0, .slice none 0 0, .slice none 0 0, .slice none 0 0, .slice none 0 0, .slice none 0 0] 28)))
     clear hHeld
     generalize u1.alloc (.cells #[.slice none 0 0, .slice none 0 0, .slice none 0 0, .slice none 0 0, .slice none 0 0, .slice none 0 0, .slice none 0 0, .slice none 0 0] 28) = ua at *
     generalize u1.heap.size = g at *
     have hHeld := And.intro N2.out.kh N2.out.ks
     refine kr2 [14] ?_
     refine kc rfl (fun K hK => ?_) kn
     go_simp
     refine (named_L HSM.out HSH.out N2.out.sp (s := 2) (by omega) (A := m.ob.1.A) (n := m.ob.1.n) (c := m.ob.1.c) ((HM.out.ob.below N2.out.bb).more N2.out.bb.size)).mono ?_
     rintro e u2 ⟨A2, n2, c2, rfl, ho, hb⟩
     have KG := Lib.hid (KG.out.below hb KG.out.lt)
     have N2 := Lib.hid (N2.out.add (hd := ⟨A2, n2, c2⟩) hb ho)
     clear ho hb hHeld
     go_simp
     refine hK.out _ _ ⟨N2.out.kh, N2.out.ks⟩ (fun hHeld => ?_)
     clear hK K
     try simp only [Act.put, kA, kB, kC]
     refine kr2 [19] ?_
     refine kc rfl (fun K hK => ?_) kn
     go_simp
     refine (named_L HSM.out HSH.out N2.out.sp (s := 3) (by omega) (A := m.pr.1.A) (n := m.pr.1.n) (c := m.pr.1.c) ((HM.out.pr.below N2.out.bb).more N2.out.bb.size)).mono ?_
     rintro e u3 ⟨A3, n3, c3, rfl, ho, hb⟩
     have KG := Lib.hid (KG.out.below hb KG.out.lt)
     have N2 := Lib.hid (N2.out.add (hd := ⟨A3, n3, c3⟩) hb ho)
     clear ho hb hHeld
     go_simp
     refine hK.out _ _ ⟨N2.out.kh, N2.out.ks⟩ (fun hHeld => ?_)
     clear hK K
     try simp only [Act.put, kA, kB, kC]
     refine ka2 20 (some 38) (.agg #[.slice A0 n0 c0, .slice A1 n1 c1, .slice A2 n2 c2, .slice A3 n3 c3, .slice none 0 0, .slice none 0 0, .slice none 0 0, .slice none 0 0]) rfl rfl (fun w' => by go_simp) ?_
     try simp only [Act.put, kA, kB, kC]
     refine kr2 [22] ?_
     refine kz (o := { dst := none, op := Op.store 28 (Operand.tmp 4) (Operand.tmp 38), type := 0, pos := "ref.go:284", after := #[{ on := 21, ground := Ground.data }, { on := 20, ground := Ground.data }, { on := 19, ground := Ground.chain }, { on := 0, ground := Ground.phase }, { on := 1, ground := Ground.phase }, { on := 2, ground := Ground.phase }, { on := 3, ground := Ground.phase }, { on := 4, ground := Ground.phase }, { on := 5, ground := Ground.phase }, { on := 6, ground := Ground.phase }, { on := 7, ground := Ground.phase }, { on := 8, ground := Ground.phase }, { on := 9, ground := Ground.phase }, { on := 10, ground := Ground.phase }, { on := 11, ground := Ground.phase }, { on := 12, ground := Ground.phase }, { on := 13, ground := Ground.phase }, { on := 14, ground := Ground.phase }, { on := 15, ground := Ground.phase }, { on := 16, ground := Ground.phase }, { on := 17, ground := Ground.phase }, { on := 18, ground := Ground.phase }, { on := 19, ground := Ground.phase }, { on := 20, ground := Ground.phase }, { on := 21, ground := Ground.phase }], guard := none }) rfl (fun K hK => ?_)
     obtain ⟨⟨y0, y1, y2, y3, y4, y5, y6, y7⟩, f0, f1, f2, f3, f4, f5, f6, f7⟩ := cf8 KG.out
     go_simp
     clear hHeld y0 f0 y1 f1 y2 f2 y3 f3 y4 f4 y5 f5 y6 f6 y7 f7
     refine hK.out _ _ ?_
     clear hK K
     try simp only [Act.put]
     refine kd (by kernel_rfl) ?_ _
     refine NoPanic.normal ?_
     go_wp2_with fail
     go_meet
     exact ⟨g, _, rfl, N2.out.store KG.out HGN.out HBH.out⟩
    exact kn
   refine kc rfl (fun K hK => ?_) ?_
   ·go_simp
    refine hK.out _ _ ⟨N2.out.kh.alloc _, N2.out.ks.alloc _⟩ (fun hHeld => ?_)
    clear hK K
    try simp only [Act.put, kA, kB, kC]
    have HGN := Lib.hid N2.out.apart
    have KG : Hid (Blk (u0.alloc (.cells #[.slice none 0 0, .slice none 0 0, .slice none 0 0, .slice none 0 0, .slice none 0 0, .slice none 0 0, .slice none 0 0, .slice none 0 0] 28)) u0.heap.size 28 zeroH) := Blk.new _ _ _
    have N2 := Lib.hid (N2.out.on ((Below.refl _ _).alloc (Nat.le_refl _) (.cells #[.slice none 0 0, .slice none 0 0, .slice none 0 0, .slice none 0 0, .slice none 0 0, .slice none 0 0, .slice none 0 0, .slice none 0 0] 28)))
    clear hHeld
    generalize u0.alloc (.cells #[.slice none 0 0, .slice none 0 0, .slice none 0 0, .slice none 0 0, .slice none 0 0, .slice none 0 0, .slice none 0 0, .slice none 0 0] 28) = ua at *
    generalize u0.heap.size = g at *
    have hHeld := And.intro N2.out.kh N2.out.ks
    refine kr2 [9] ?_
    refine kc rfl (fun K hK => ?_) kn
    go_simp
    refine (named_L HSM.out HSH.out N2.out.sp (s := 1) (by omega) (A := m.se.1.A) (n := m.se.1.n) (c := m.se.1.c) ((HM.out.se.below N2.out.bb).more N2.out.bb.size)).mono ?_
    rintro e u1 ⟨A1, n1, c1, rfl, ho, hb⟩
    have KG := Lib.hid (KG.out.below hb KG.out.lt)
    have N2 := Lib.hid (N2.out.add (hd := ⟨A1, n1, c1⟩) hb ho)
    clear ho hb hHeld
    go_simp
    refine hK.out _ _ ⟨N2.out.kh, N2.out.ks⟩ (fun hHeld => ?_)
    clear hK K
    try simp only [Act.put, kA, kB, kC]
    refine kr2 [14] ?_
    refine kc rfl (fun K hK => ?_) kn
    go_simp
    refine (named_L HSM.out HSH.out N2.out.sp (s := 2) (by omega) (A := m.ob.1.A) (n := m.ob.1.n) (c := m.ob.1.c) ((HM.out.ob.below N2.out.bb).more N2.out.bb.size)).mono ?_
    rintro e u2 ⟨A2, n2, c2, rfl, ho, hb⟩
    have KG := Lib.hid (KG.out.below hb KG.out.lt)
    have N2 := Lib.hid (N2.out.add (hd := ⟨A2, n2, c2⟩) hb ho)
    clear ho hb hHeld
    go_simp
    refine hK.out _ _ ⟨N2.out.kh, N2.out.ks⟩ (fun hHeld => ?_)
    clear hK K
    try simp only [Act.put, kA, kB, kC]
    refine kr2 [19] ?_
    refine kc rfl (fun K hK => ?_) kn
    go_simp
    refine (named_L HSM.out HSH.out N2.out.sp (s := 3) (by omega) (A := m.pr.1.A) (n := m.pr.1.n) (c := m.pr.1.c) ((HM.out.pr.below N2.out.bb).more N2.out.bb.size)).mono ?_
    rintro e u3 ⟨A3, n3, c3, rfl, ho, hb⟩
    have KG := Lib.hid (KG.out.below hb KG.out.lt)
    have N2 := Lib.hid (N2.out.add (hd := ⟨A3, n3, c3⟩) hb ho)
    clear ho hb hHeld
    go_simp
    refine hK.out _ _ ⟨N2.out.kh, N2.out.ks⟩ (fun hHeld => ?_)
    clear hK K
    try simp only [Act.put, kA, kB, kC]
    refine ka2 20 (some 38) (.agg #[.slice A0 n0 c0, .slice A1 n1 c1, .slice A2 n2 c2, .slice A3 n3 c3, .slice none 0 0, .slice none 0 0, .slice none 0 0, .slice none 0 0]) rfl rfl (fun w' => by go_simp) ?_
    try simp only [Act.put, kA, kB, kC]
    refine kr2 [22] ?_
    refine kz (o := { dst := none, op := Op.store 28 (Operand.tmp 4) (Operand.tmp 38), type := 0, pos := "ref.go:284", after := #[{ on := 21, ground := Ground.data }, { on := 20, ground := Ground.data }, { on := 19, ground := Ground.chain }, { on := 0, ground := Ground.phase }, { on := 1, ground := Ground.phase }, { on := 2, ground := Ground.phase }, { on := 3, ground := Ground.phase }, { on := 4, ground := Ground.phase }, { on := 5, ground := Ground.phase }, { on := 6, ground := Ground.phase }, { on := 7, ground := Ground.phase }, { on := 8, ground := Ground.phase }, { on := 9, ground := Ground.phase }, { on := 10, ground := Ground.phase }, { on := 11, ground := Ground.phase }, { on := 12, ground := Ground.phase }, { on := 13, ground := Ground.phase }, { on := 14, ground := Ground.phase }, { on := 15, ground := Ground.phase }, { on := 16, ground := Ground.phase }, { on := 17, ground := Ground.phase }, { on := 18, ground := Ground.phase }, { on := 19, ground := Ground.phase }, { on := 20, ground := Ground.phase }, { on := 21, ground := Ground.phase }], guard := none }) rfl (fun K hK => ?_)
    obtain ⟨⟨y0, y1, y2, y3, y4, y5, y6, y7⟩, f0, f1, f2, f3, f4, f5, f6, f7⟩ := cf8 KG.out
    go_simp
    clear hHeld y0 f0 y1 f1 y2 f2 y3 f3 y4 f4 y5 f5 y6 f6 y7 f7
    refine hK.out _ _ ?_
    clear hK K
    try simp only [Act.put]
    refine kd (by kernel_rfl) ?_ _
    refine NoPanic.normal ?_
    go_wp2_with fail
    go_meet
    exact ⟨g, _, rfl, N2.out.store KG.out HGN.out HBH.out⟩
   exact kn
  refine kc rfl (fun K hK => ?_) ?_
  ·go_simp
   refine hK.out _ _ ⟨N2.out.kh.alloc _, N2.out.ks.alloc _⟩ (fun hHeld => ?_)
   clear hK K
   try simp only [Act.put, kA, kB, kC]
   have HGN := Lib.hid N2.out.apart
   have KG : Hid (Blk (wd.alloc (.cells #[.slice none 0 0, .slice none 0 0, .slice none 0 0, .slice none 0 0, .slice none 0 0, .slice none 0 0, .slice none 0 0, .slice none 0 0] 28)) wd.heap.size 28 zeroH) := Blk.new _ _ _
   have N2 := Lib.hid (N2.out.on ((Below.refl _ _).alloc (Nat.le_refl _) (.cells #[.slice none 0 0, .slice none 0 0, .slice none 0 0, .slice none 0 0, .slice none 0 0, .slice none 0 0, .slice none 0 0, .slice none 0 0] 28)))
   clear hHeld
   generalize wd.alloc (.cells #[.slice none 0 0, .slice none 0 0, .slice none 0 0, .slice none 0 0, .slice none 0 0, .slice none 0 0, .slice none 0 0, .slice none 0 0] 28) = ua at *
   generalize wd.heap.size = g at *
   have hHeld := And.intro N2.out.kh N2.out.ks
   refine kr2 [4] ?_
   refine kc rfl (fun K hK => ?_) kn
   go_simp
   refine (named_L HSM.out HSH.out N2.out.sp (s := 0) (by omega) (A := m.tr.1.A) (n := m.tr.1.n) (c := m.tr.1.c) ((HM.out.tr.below N2.out.bb).more N2.out.bb.size)).mono ?_
   rintro e u0 ⟨A0, n0, c0, rfl, ho, hb⟩
   have KG := Lib.hid (KG.out.below hb KG.out.lt)
   have N2 := Lib.hid (N2.out.add (hd := ⟨A0, n0, c0⟩) hb ho)
   clear ho hb hHeld
   go_simp
   refine hK.out _ _ ⟨N2.out.kh, N2.out.ks⟩ (fun hHeld => ?_)
   clear hK K
   try simp only [Act.put, kA, kB, kC]
   refine kr2 [9] ?_
   refine kc rfl (fun K hK => ?_) kn
   go_simp
   refine (named_L HSM.out HSH.out N2.out.sp (s := 1) (by omega) (A := m.se.1.A) (n := m.se.1.n) (c := m.se.1.c) ((HM.out.se.below N2.out.bb).more N2.out.bb.size)).mono ?_
   rintro e u1 ⟨A1, n1, c1, rfl, ho, hb⟩
   have KG := Lib.hid (KG.out.below hb KG.out.lt)
   have N2 := Lib.hid (N2.out.add (hd := ⟨A1, n1, c1⟩) hb ho)
   clear ho hb hHeld
   go_simp
   refine hK.out _ _ ⟨N2.out.kh, N2.out.ks⟩ (fun hHeld => ?_)
   clear hK K
   try simp only [Act.put, kA, kB, kC]
   refine kr2 [14] ?_
   refine kc rfl (fun K hK => ?_) kn
   go_simp
   refine (named_L HSM.out HSH.out N2.out.sp (s := 2) (by omega) (A := m.ob.1.A) (n := m.ob.1.n) (c := m.ob.1.c) ((HM.out.ob.below N2.out.bb).more N2.out.bb.size)).mono ?_
   rintro e u2 ⟨A2, n2, c2, rfl, ho, hb⟩
   have KG := Lib.hid (KG.out.below hb KG.out.lt)
   have N2 := Lib.hid (N2.out.add (hd := ⟨A2, n2, c2⟩) hb ho)
   clear ho hb hHeld
   go_simp
   refine hK.out _ _ ⟨N2.out.kh, N2.out.ks⟩ (fun hHeld => ?_)
   clear hK K
   try simp only [Act.put, kA, kB, kC]
   refine kr2 [19] ?_
   refine kc rfl (fun K hK => ?_) kn
   go_simp
   refine (named_L HSM.out HSH.out N2.out.sp (s := 3) (by omega) (A := m.pr.1.A) (n := m.pr.1.n) (c := m.pr.1.c) ((HM.out.pr.below N2.out.bb).more N2.out.bb.size)).mono ?_
   rintro e u3 ⟨A3, n3, c3, rfl, ho, hb⟩
   have KG := Lib.hid (KG.out.below hb KG.out.lt)
   have N2 := Lib.hid (N2.out.add (hd := ⟨A3, n3, c3⟩) hb ho)
   clear ho hb hHeld
   go_simp
   refine hK.out _ _ ⟨N2.out.kh, N2.out.ks⟩ (fun hHeld => ?_)
   clear hK K
   try simp only [Act.put, kA, kB, kC]
   refine ka2 20 (some 38) (.agg #[.slice A0 n0 c0, .slice A1 n1 c1, .slice A2 n2 c2, .slice A3 n3 c3, .slice none 0 0, .slice none 0 0, .slice none 0 0, .slice none 0 0]) rfl rfl (fun w' => by go_simp) ?_
   try simp only [Act.put, kA, kB, kC]
   refine kr2 [22] ?_
   refine kz (o := { dst := none, op := Op.store 28 (Operand.tmp 4) (Operand.tmp 38), type := 0, pos := "ref.go:284", after := #[{ on := 21, ground := Ground.data }, { on := 20, ground := Ground.data }, { on := 19, ground := Ground.chain }, { on := 0, ground := Ground.phase }, { on := 1, ground := Ground.phase }, { on := 2, ground := Ground.phase }, { on := 3, ground := Ground.phase }, { on := 4, ground := Ground.phase }, { on := 5, ground := Ground.phase }, { on := 6, ground := Ground.phase }, { on := 7, ground := Ground.phase }, { on := 8, ground := Ground.phase }, { on := 9, ground := Ground.phase }, { on := 10, ground := Ground.phase }, { on := 11, ground := Ground.phase }, { on := 12, ground := Ground.phase }, { on := 13, ground := Ground.phase }, { on := 14, ground := Ground.phase }, { on := 15, ground := Ground.phase }, { on := 16, ground := Ground.phase }, { on := 17, ground := Ground.phase }, { on := 18, ground := Ground.phase }, { on := 19, ground := Ground.phase }, { on := 20, ground := Ground.phase }, { on := 21, ground := Ground.phase }], guard := none }) rfl (fun K hK => ?_)
   obtain ⟨⟨y0, y1, y2, y3, y4, y5, y6, y7⟩, f0, f1, f2, f3, f4, f5, f6, f7⟩ := cf8 KG.out
   go_simp
   clear hHeld y0 f0 y1 f1 y2 f2 y3 f3 y4 f4 y5 f5 y6 f6 y7 f7
   refine hK.out _ _ ?_
   clear hK K
   try simp only [Act.put]
   refine kd (by kernel_rfl) ?_ _
   refine NoPanic.normal ?_
   go_wp2_with fail
   go_meet
   exact ⟨g, _, rfl, N2.out.store KG.out HGN.out HBH.out⟩
  exact kn
 case rest =>
  clear N2
  obtain ⟨B3, h, rfl, HN⟩ := hcut
  have z4 : wc.cell? ⟨Bh, 4, none⟩ = some (.slice m.ev.1.A m.ev.1.n m.ev.1.c) := HN.out.bh.cell 4
  have hnev : m.ev.1.n ≤ 200 := HNN.out.1
  go_wp2_with fail
  clear z4
  go_loopw [42] (fun v wr => ∃ (i : Nat) (h : HistM), i ≤ m.ev.1.n ∧ v = .int .i64 i ∧ Hid (NuX Bh B3 Bs w m h L wr i 0 0 0)) (fun v _ => m.ev.1.n - (intOf v).toNat)
  case atStart => exact ⟨0, h, Nat.zero_le _, rfl, HN⟩
  case round =>
   clear HN
   obtain ⟨i, h, hi0, rfl, HN⟩ := hrel
   rename World => wo
   by_cases hin : i < m.ev.1.n
   ·have hlt : (i : Int) < (m.ev.1.n : Int) := by omega
    obtain ⟨⟨e, hd⟩, hs⟩ : ∃ p, m.ev.2[i]? = some p := ⟨m.ev.2[i]'(by rw [HFIT.out.ev.1]; exact hin), List.getElem?_eq_getElem _⟩
    have HE : Hid (m.pl.ev[i]? = some e) := by show m.pl.ev[i]? = _; unfold HistM.pl; simp [hs]
    obtain ⟨b, o, hA, hbl, hc⟩ := row_cells evCs_len (by omega) (HM.out.ev.below HN.out.cp.below) hs
    have c0 : wo.cell? ⟨b, o + i * 9, none⟩ = some (.int .i64 e.kd) := hc 0 _ rfl
    have c1 : wo.cell? ⟨b, o + i * 9 + 1, none⟩ = some (.int .i64 e.t) := hc 1 _ rfl
    have c2 : wo.cell? ⟨b, o + i * 9 + 2, none⟩ = some (.int .i64 e.s) := hc 2 _ rfl
    have c3 : wo.cell? ⟨b, o + i * 9 + 3, none⟩ = some (.int .i64 e.lev) := hc 3 _ rfl
    have c4 : wo.cell? ⟨b, o + i * 9 + 4, none⟩ = some (.int .i64 e.o) := hc 4 _ rfl
    have c5 : wo.cell? ⟨b, o + i * 9 + 5, none⟩ = some (.int .i64 e.vt) := hc 5 _ rfl
    have c6 : wo.cell? ⟨b, o + i * 9 + 6, none⟩ = some (.int .i64 e.vk) := hc 6 _ rfl
    have c7 : wo.cell? ⟨b, o + i * 9 + 7, none⟩ = some (.int .i64 e.p) := hc 7 _ rfl
    have c8 : wo.cell? ⟨b, o + i * 9 + 8, none⟩ = some (.slice hd.A hd.n hd.c) := hc 8 _ rfl
    have HRS := Lib.hid (HM.out.sc _ (List.mem_of_getElem? hs))
    have HLS : Hid (e.scan.length = hd.n) := (HFIT.out.sc _ (List.mem_of_getElem? hs)).1
    have hsn : hd.n ≤ 60 := by have := HLS.out; have := HSM.out.sc e (List.mem_of_getElem? HE.out); omega
    have HFE : Hid (fineE e = true) := shaped_ev HSH.out (List.mem_of_getElem? HE.out)
    have HIN := Lib.hid (in_ev HE.out)
    obtain ⟨g, hg⟩ : ∃ g, reE (anewI (refs m.pl)) e = g := ⟨_, rfl⟩
    have HGE := Lib.hid hg
    have HGS : Hid (g.scan = e.scan.map (reS (anewI (refs m.pl)))) := by show _ = _; rw [← hg]; exact fine_rescan HFE.out
    have HXT : Hid ((0, e.t) ∈ (refs m.pl)) := HIN.out _ (List.mem_cons_self ..)
    have HYT : Hid (anewI (refs m.pl) 0 e.t = g.t) := by show _ = _; rw [← hg]; exact (reE_t e).symm
    have RD : Hid (RdE 39 wo.heap.size #[.int .i64 e.kd, .int .i64 e.t, .int .i64 e.s, .int .i64 e.lev, .int .i64 e.o, .int .i64 e.vt, .int .i64 e.vk, .int .i64 e.p, .slice hd.A hd.n hd.c] wo (wo.alloc (.cells #[.int .i64 e.kd, .int .i64 e.t, .int .i64 e.s, .int .i64 e.lev, .int .i64 e.o, .int .i64 e.vt, .int .i64 e.vk, .int .i64 e.p, .slice hd.A hd.n hd.c] 39))) := RdE.new
    have HA0 := Lib.hid hA
    rw [hA]
    clear hs hc hbl hA hg
    go_upto_region 6 with fail
    clear c0 c1 c2 c3 c4 c5 c6 c7 c8
    generalize (wo.alloc (.cells #[.int .i64 e.kd, .int .i64 e.t, .int .i64 e.s, .int .i64 e.lev, .int .i64 e.o, .int .i64 e.vt, .int .i64 e.vk, .int .i64 e.p, .slice hd.A hd.n hd.c] 39)) = W1 at *
    have RDG : Hid (wo.heap.size ≤ wo.heap.size) := Nat.le_refl _
    obtain ⟨Be, hBe⟩ : ∃ Be, Be = wo.heap.size := ⟨_, rfl⟩
    have RD : Hid (RdE 39 Be #[.int .i64 e.kd, .int .i64 e.t, .int .i64 e.s, .int .i64 e.lev, .int .i64 e.o, .int .i64 e.vt, .int .i64 e.vk, .int .i64 e.p, .slice hd.A hd.n hd.c] wo W1) := by rw [hBe]; exact RD.out
    have RDG : Hid (wo.heap.size ≤ Be) := by show _ ≤ _; omega
    rw [← hBe]
    clear hBe
    go_cut [7] (fun s7 wx => ∃ Bx : Nat, s7 = .pointer (some ⟨Bx, 0, none⟩) ∧ Hid (RdX Be Bx #[.int .i64 e.kd, .int .i64 e.t, .int .i64 e.s, .int .i64 e.lev, .int .i64 e.o, .int .i64 e.vt, .int .i64 e.vk, .int .i64 e.p, .slice hd.A hd.n hd.c] #[.int .i64 e.kd, .int .i64 g.t, .int .i64 0, .int .i64 e.lev, .int .i64 0, .int .i64 0, .int .i64 0, .int .i64 0, .slice none 0 0] wo wx))
    case first =>
     refine wp_region_noPanic ?_
     refine wp_region_K (S := fun W => Blk W Be 39 #[.int .i64 e.kd, .int .i64 e.t, .int .i64 e.s, .int .i64 e.lev, .int .i64 e.o, .int .i64 e.vt, .int .i64 e.vk, .int .i64 e.p, .slice hd.A hd.n hd.c] ∧ Blk W Bs 77 L.cs) 11 (by kernel_rfl) ⟨RD.out.be.drew, Blk.drew (HN.out.on RD.out.below).bs⟩ (fun hHeld => ?_)
     have RD := Lib.hid (RD.out.on (Below.refl _ _).drew)
     generalize W1.drew = wd at *
     refine ka2 0 (some 46) (.pointer (some ⟨Be, 0, none⟩)) rfl rfl (fun w' => by go_simp) ?_
     try simp only [Act.put, kA, kB, kC]
     refine kv2 1 (some 47) (.int .i64 e.kd) rfl rfl (fun w' hSw => by have c9 : w'.cell? ⟨Be, 0, none⟩ = some (.int .i64 e.kd) := Blk.cell (w := w') hSw.1 0; go_simp) ?_
     try simp only [Act.put, kA, kB, kC]
     refine ka2 2 (some 48) (.pointer (some ⟨Bs, 0, none⟩)) rfl rfl (fun w' => by go_simp) ?_
     try simp only [Act.put, kA, kB, kC]
     refine kv2 3 (some 49) (.slice L.a0.A L.a0.n L.a0.c) rfl rfl (fun w' hSw => by have c9 : w'.cell? ⟨Bs, 0, none⟩ = some (.slice L.a0.A L.a0.n L.a0.c) := Blk.cell (w := w') hSw.2 0; go_simp) ?_
     try simp only [Act.put, kA, kB, kC]
     refine ka2 4 (some 50) (.pointer (some ⟨Be, 1, none⟩)) rfl rfl (fun w' => by go_simp) ?_
     try simp only [Act.put, kA, kB, kC]
     refine kv2 5 (some 51) (.int .i64 e.t) rfl rfl (fun w' hSw => by have c9 : w'.cell? ⟨Be, 1, none⟩ = some (.int .i64 e.t) := Blk.cell (w := w') hSw.1 1; go_simp) ?_
     try simp only [Act.put, kA, kB, kC]
     refine ka2 7 (some 53) (.pointer (some ⟨Be, 3, none⟩)) rfl rfl (fun w' => by go_simp) ?_
     try simp only [Act.put, kA, kB, kC]
     refine kv2 8 (some 54) (.int .i64 e.lev) rfl rfl (fun w' hSw => by have c9 : w'.cell? ⟨Be, 3, none⟩ = some (.int .i64 e.lev) := Blk.cell (w := w') hSw.1 3; go_simp) ?_
     try simp only [Act.put, kA, kB, kC]
     refine kr2 [6, 10] ?_
     refine kc rfl (fun K hK => ?_) ?_
     ·go_simp
      refine (HN.out.at_ RD.out.below HRL.out (s := 0) (by omega) HXT.out HYT.out).mono ?_
      rintro _ u ⟨rfl, hw⟩
      obtain rfl := hw.symm
      clear hHeld
      go_simp
      refine hK.out _ _ ⟨RD.out.be, (HN.out.on RD.out.below).bs⟩ (fun hHeld => ?_)
      clear hK K
      try simp only [Act.put, kA, kB, kC]
      refine ka2 9 (some 55) (.agg #[.int .i64 e.kd, .int .i64 g.t, .int .i64 0, .int .i64 e.lev, .int .i64 0, .int .i64 0, .int .i64 0, .int .i64 0, .slice none 0 0]) rfl rfl (fun w' => by go_simp) ?_
      try simp only [Act.put, kA, kB, kC]
      refine kr2 [10] ?_
      refine kc rfl (fun K hK => ?_) kn
      go_simp
      refine hK.out _ _ ⟨RD.out.be.alloc _, Blk.alloc (HN.out.on RD.out.below).bs _⟩ (fun hHeld => ?_)
      clear hK K
      try simp only [Act.put, kA, kB, kC]
      have hal : Below wd.heap.size wd (wd.alloc (.cells #[.int .i64 0, .int .i64 0, .int .i64 0, .int .i64 0, .int .i64 0, .int .i64 0, .int .i64 0, .int .i64 0, .slice none 0 0] 39)) := (Below.refl _ _).alloc (Nat.le_refl _) _
      have HLT := Lib.hid (And.intro (Nat.ne_of_lt RD.out.be.lt) RD.out.below.size)
      have RD := Lib.hid (RD.out.on hal)
      have KG : Hid (Blk (wd.alloc (.cells #[.int .i64 0, .int .i64 0, .int .i64 0, .int .i64 0, .int .i64 0, .int .i64 0, .int .i64 0, .int .i64 0, .slice none 0 0] 39)) wd.heap.size 39 #[.int .i64 0, .int .i64 0, .int .i64 0, .int .i64 0, .int .i64 0, .int .i64 0, .int .i64 0, .int .i64 0, .slice none 0 0]) := Blk.new _ _ _
      clear hal hHeld
      generalize wd.alloc (.cells #[.int .i64 0, .int .i64 0, .int .i64 0, .int .i64 0, .int .i64 0, .int .i64 0, .int .i64 0, .int .i64 0, .slice none 0 0] 39) = ua at *
      generalize wd.heap.size = Bx at *
      have hHeld := And.intro RD.out.be (HN.out.on RD.out.below).bs
      refine kr2 [11] ?_
      refine kz (o := { dst := none, op := Op.store 39 (Operand.tmp 7) (Operand.tmp 55), type := 0, pos := "ref.go:286", after := #[{ on := 10, ground := Ground.data }, { on := 9, ground := Ground.data }, { on := 6, ground := Ground.chain }, { on := 0, ground := Ground.phase }, { on := 1, ground := Ground.phase }, { on := 2, ground := Ground.phase }, { on := 3, ground := Ground.phase }, { on := 4, ground := Ground.phase }, { on := 5, ground := Ground.phase }, { on := 6, ground := Ground.phase }, { on := 7, ground := Ground.phase }, { on := 8, ground := Ground.phase }, { on := 9, ground := Ground.phase }, { on := 10, ground := Ground.phase }], guard := none }) rfl (fun K hK => ?_)
      obtain ⟨⟨y0, y1, y2, y3, y4, y5, y6, y7, y8⟩, f0, f1, f2, f3, f4, f5, f6, f7, f8⟩ := cf9 KG.out
      go_simp
      clear hHeld y0 f0 y1 f1 y2 f2 y3 f3 y4 f4 y5 f5 y6 f6 y7 f7 y8 f8
      refine hK.out _ _ ?_
      clear hK K
      try simp only [Act.put]
      refine kd (by kernel_rfl) ?_ _
      refine NoPanic.normal ?_
      go_wp2_with fail
      go_meet
      exact ⟨Bx, rfl, RdX.make RD.out KG.out HLT.out⟩
     refine kc rfl (fun K hK => ?_) ?_
     ·go_simp
      refine hK.out _ _ ⟨RD.out.be.alloc _, Blk.alloc (HN.out.on RD.out.below).bs _⟩ (fun hHeld => ?_)
      clear hK K
      try simp only [Act.put, kA, kB, kC]
      have hal : Below wd.heap.size wd (wd.alloc (.cells #[.int .i64 0, .int .i64 0, .int .i64 0, .int .i64 0, .int .i64 0, .int .i64 0, .int .i64 0, .int .i64 0, .slice none 0 0] 39)) := (Below.refl _ _).alloc (Nat.le_refl _) _
      have HLT := Lib.hid (And.intro (Nat.ne_of_lt RD.out.be.lt) RD.out.below.size)
      have RD := Lib.hid (RD.out.on hal)
      have KG : Hid (Blk (wd.alloc (.cells #[.int .i64 0, .int .i64 0, .int .i64 0, .int .i64 0, .int .i64 0, .int .i64 0, .int .i64 0, .int .i64 0, .slice none 0 0] 39)) wd.heap.size 39 #[.int .i64 0, .int .i64 0, .int .i64 0, .int .i64 0, .int .i64 0, .int .i64 0, .int .i64 0, .int .i64 0, .slice none 0 0]) := Blk.new _ _ _
      clear hal hHeld
      generalize wd.alloc (.cells #[.int .i64 0, .int .i64 0, .int .i64 0, .int .i64 0, .int .i64 0, .int .i64 0, .int .i64 0, .int .i64 0, .slice none 0 0] 39) = ua at *
      generalize wd.heap.size = Bx at *
      have hHeld := And.intro RD.out.be (HN.out.on RD.out.below).bs
      refine kr2 [6] ?_
      refine kc rfl (fun K hK => ?_) kn
      go_simp
      refine (HN.out.at_ RD.out.below HRL.out (s := 0) (by omega) HXT.out HYT.out).mono ?_
      rintro _ u ⟨rfl, hw⟩
      obtain rfl := hw.symm
      clear hHeld
      go_simp
      refine hK.out _ _ ⟨RD.out.be, (HN.out.on RD.out.below).bs⟩ (fun hHeld => ?_)
      clear hK K
      try simp only [Act.put, kA, kB, kC]
      refine ka2 9 (some 55) (.agg #[.int .i64 e.kd, .int .i64 g.t, .int .i64 0, .int .i64 e.lev, .int .i64 0, .int .i64 0, .int .i64 0, .int .i64 0, .slice none 0 0]) rfl rfl (fun w' => by go_simp) ?_
      try simp only [Act.put, kA, kB, kC]
      refine kr2 [11] ?_
      refine kz (o := { dst := none, op := Op.store 39 (Operand.tmp 7) (Operand.tmp 55), type := 0, pos := "ref.go:286", after := #[{ on := 10, ground := Ground.data }, { on := 9, ground := Ground.data }, { on := 6, ground := Ground.chain }, { on := 0, ground := Ground.phase }, { on := 1, ground := Ground.phase }, { on := 2, ground := Ground.phase }, { on := 3, ground := Ground.phase }, { on := 4, ground := Ground.phase }, { on := 5, ground := Ground.phase }, { on := 6, ground := Ground.phase }, { on := 7, ground := Ground.phase }, { on := 8, ground := Ground.phase }, { on := 9, ground := Ground.phase }, { on := 10, ground := Ground.phase }], guard := none }) rfl (fun K hK => ?_)
      obtain ⟨⟨y0, y1, y2, y3, y4, y5, y6, y7, y8⟩, f0, f1, f2, f3, f4, f5, f6, f7, f8⟩ := cf9 KG.out
      go_simp
      clear hHeld y0 f0 y1 f1 y2 f2 y3 f3 y4 f4 y5 f5 y6 f6 y7 f7 y8 f8
      refine hK.out _ _ ?_
      clear hK K
      try simp only [Act.put]
      refine kd (by kernel_rfl) ?_ _
      refine NoPanic.normal ?_
      go_wp2_with fail
      go_meet
      exact ⟨Bx, rfl, RdX.make RD.out KG.out HLT.out⟩
     exact kn
    case rest =>
     clear RD
     obtain ⟨Bx, rfl, RX⟩ := hcut
     have e0 : wc.cell? ⟨Be, 0, none⟩ = some (.int .i64 e.kd) := RX.out.be.cell 0
     go_upto_block 2 with fail
     clear e0
     go_cut [58] (fun s58 wx => Hid (RdX Be Bx #[.int .i64 e.kd, .int .i64 e.t, .int .i64 e.s, .int .i64 e.lev, .int .i64 e.o, .int .i64 e.vt, .int .i64 e.vk, .int .i64 e.p, .slice hd.A hd.n hd.c] #[.int .i64 g.kd, .int .i64 g.t, .int .i64 g.s, .int .i64 g.lev, .int .i64 g.o, .int .i64 g.vt, .int .i64 g.vk, .int .i64 g.p, .slice none 0 0] wo wx))
     case first =>
      by_cases hk : e.kd = 1
      ·have hb1 : (e.kd == 1) = true := by rw [hk]; rfl
       have HQ : Hid (g.kd = e.kd ∧ g.lev = e.lev ∧ g.o = 0 ∧ g.vt = 0 ∧ g.vk = 0 ∧ g.p = 0) := by rw [← HGE.out, fine_re1 HFE.out hk]; exact ⟨rfl, rfl, rfl, rfl, rfl, rfl⟩
       have HX1 : Hid ((1, e.s) ∈ (refs m.pl)) := HIN.out _ (List.mem_cons_of_mem _ (by unfold refsK; rw [if_pos hk]; simp))
       have HY1 : Hid (anewI (refs m.pl) 1 e.s = g.s) := by show _ = _; rw [← HGE.out, fine_re1 HFE.out hk]
       clear hk
       go_upto_region 9 with fail
       have zz : wc.cell? ⟨Bs, 1, none⟩ = some (.slice L.a1.A L.a1.n L.a1.c) := (HN.out.on RX.out.below).bs.cell 1
       have ee : wc.cell? ⟨Be, 2, none⟩ = some (.int .i64 e.s) := RX.out.be.cell 2
       have yy := RX.out.bx.cell 2
       have ff := RX.out.bx.frozen 2
       go_wp2_with fail
       refine (HN.out.at_ RX.out.below HRL.out (s := 1) (by omega) HX1.out HY1.out).mono ?_
       rintro _ u ⟨rfl, hw⟩
       obtain rfl := hw.symm
       have RX := Lib.hid (RX.out.set 2 (.int .i64 g.s))
       go_wp2_with fail
       go_meet
       exact RX.out.to (by rw [HQ.out.1, HQ.out.2.1, HQ.out.2.2.1, HQ.out.2.2.2.1, HQ.out.2.2.2.2.1, HQ.out.2.2.2.2.2]; simp)
      ·by_cases hk23 : e.kd = 2 ∨ e.kd = 3
       ·have hb1 : (e.kd == 1) = false := by simp; omega
        have HQ : Hid (g.kd = e.kd ∧ g.s = 0 ∧ g.lev = e.lev ∧ g.vk = e.vk ∧ g.p = 0) := by rw [← HGE.out, fine_re2 HFE.out hk23]; exact ⟨rfl, rfl, rfl, rfl, rfl⟩
        have HXO : Hid ((2, e.o) ∈ (refs m.pl)) := HIN.out _ (List.mem_cons_of_mem _ (by unfold refsK; rw [if_neg hk, if_pos hk23]; simp))
        have HYO : Hid (anewI (refs m.pl) 2 e.o = g.o) := by show _ = _; rw [← HGE.out, fine_re2 HFE.out hk23]
        have HVK : Hid (0 ≤ e.vk) := fine_ver HFE.out hk23
        have HXV : Hid (∀ p ∈ refsV e.vt e.vk, p ∈ (refs m.pl)) := fun p hp => HIN.out _ (List.mem_cons_of_mem _ (by unfold refsK; rw [if_neg hk, if_pos hk23]; exact List.mem_cons_of_mem _ hp))
        have HYV : Hid (reV (anewI (refs m.pl)) e.vt e.vk = g.vt) := by show _ = _; rw [← HGE.out, fine_re2 HFE.out hk23]
        have hb23 : ((e.kd == 2) = true) ∨ ((e.kd == 2) = false ∧ (e.kd == 3) = true) := by rcases hk23 with h | h; exact .inl (by rw [h]; rfl); exact .inr ⟨by rw [h]; rfl, by rw [h]; rfl⟩
        clear hk hk23
        rcases hb23 with hb2 | ⟨hb2, hb3⟩
        ·go_upto_region 12 with fail
         refine wp_region_noPanic ?_
         refine wp_region_K (S := fun W => Blk W Be 39 #[.int .i64 e.kd, .int .i64 e.t, .int .i64 e.s, .int .i64 e.lev, .int .i64 e.o, .int .i64 e.vt, .int .i64 e.vk, .int .i64 e.p, .slice hd.A hd.n hd.c] ∧ Blk W Bs 77 L.cs) 13 (by kernel_rfl) ⟨RX.out.be.drew, Blk.drew (HN.out.on RX.out.below).bs⟩ (fun hHeld => ?_)
         have RX := Lib.hid (RX.out.on (Below.refl _ _).drew)
         generalize wc.drew = wd at *
         refine ka2 0 (some 69) (.pointer (some ⟨Bs, 2, none⟩)) rfl rfl (fun w' => by go_simp) ?_
         try simp only [Act.put, kA, kB, kC]
         refine kv2 1 (some 70) (.slice L.a2.A L.a2.n L.a2.c) rfl rfl (fun w' hSw => by have c9 : w'.cell? ⟨Bs, 2, none⟩ = some (.slice L.a2.A L.a2.n L.a2.c) := Blk.cell (w := w') hSw.2 2; go_simp) ?_
         try simp only [Act.put, kA, kB, kC]
         refine ka2 2 (some 71) (.pointer (some ⟨Be, 4, none⟩)) rfl rfl (fun w' => by go_simp) ?_
         try simp only [Act.put, kA, kB, kC]
         refine kv2 3 (some 72) (.int .i64 e.o) rfl rfl (fun w' hSw => by have c9 : w'.cell? ⟨Be, 4, none⟩ = some (.int .i64 e.o) := Blk.cell (w := w') hSw.1 4; go_simp) ?_
         try simp only [Act.put, kA, kB, kC]
         refine ka2 5 (some 74) (.pointer (some ⟨Bs, 0, none⟩)) rfl rfl (fun w' => by go_simp) ?_
         try simp only [Act.put, kA, kB, kC]
         refine kv2 6 (some 75) (.slice L.a0.A L.a0.n L.a0.c) rfl rfl (fun w' hSw => by have c9 : w'.cell? ⟨Bs, 0, none⟩ = some (.slice L.a0.A L.a0.n L.a0.c) := Blk.cell (w := w') hSw.2 0; go_simp) ?_
         try simp only [Act.put, kA, kB, kC]
         refine ka2 7 (some 76) (.pointer (some ⟨Be, 5, none⟩)) rfl rfl (fun w' => by go_simp) ?_
         try simp only [Act.put, kA, kB, kC]
         refine kv2 8 (some 77) (.agg #[.int .i64 e.vt, .int .i64 e.vk]) rfl rfl (fun w' hSw => by have c9 : w'.cell? ⟨Be, 5, none⟩ = some (.int .i64 e.vt) := Blk.cell (w := w') hSw.1 5; have c10 : w'.cell? ⟨Be, 6, none⟩ = some (.int .i64 e.vk) := Blk.cell (w := w') hSw.1 6; go_simp) ?_
         try simp only [Act.put, kA, kB, kC]
         refine kr2 [4] ?_
         refine kc rfl (fun K hK => ?_) kn
         go_simp
         refine (HN.out.at_ RX.out.below HRL.out (s := 2) (by omega) HXO.out HYO.out).mono ?_
         rintro _ u ⟨rfl, hw⟩
         obtain rfl := hw.symm
         clear hHeld
         go_simp
         refine hK.out _ _ ⟨RX.out.be, (HN.out.on RX.out.below).bs⟩ (fun hHeld => ?_)
         clear hK K
         try simp only [Act.put, kA, kB, kC]
         refine ka2 10 (some 79) (.pointer (some ⟨Bx, 4, none⟩)) rfl rfl (fun w' => by go_simp) ?_
         try simp only [Act.put, kA, kB, kC]
         refine kr2 [9] ?_
         refine kc rfl (fun K hK => ?_) kn
         go_simp
         refine (HN.out.anew RX.out.below HRL.out HVK.out HXV.out HYV.out).mono ?_
         rintro _ u2 ⟨rfl, hb⟩
         have RX := Lib.hid (RX.out.on hb)
         clear hb hHeld
         go_simp
         refine hK.out _ _ ⟨RX.out.be, (HN.out.on RX.out.below).bs⟩ (fun hHeld => ?_)
         clear hK K
         try simp only [Act.put, kA, kB, kC]
         refine kr2 [11] ?_
         refine kc (o := { dst := none, op := Op.store 3 (Operand.tmp 79) (Operand.tmp 73), type := 0, pos := "ref.go:291", after := #[{ on := 10, ground := Ground.data }, { on := 4, ground := Ground.data }, { on := 9, ground := Ground.chain }, { on := 0, ground := Ground.phase }, { on := 1, ground := Ground.phase }, { on := 2, ground := Ground.phase }, { on := 3, ground := Ground.phase }, { on := 4, ground := Ground.phase }, { on := 5, ground := Ground.textOnly Departure.lateStores }, { on := 6, ground := Ground.textOnly Departure.lateStores }, { on := 7, ground := Ground.textOnly Departure.lateStores }, { on := 8, ground := Ground.textOnly Departure.lateStores }, { on := 9, ground := Ground.textOnly Departure.lateStoresUnsure }], guard := none }) rfl (fun K hK => ?_) kn
         have y4 := RX.out.bx.cell 4
         have f4 := RX.out.bx.frozen 4
         go_simp
         have RY := Lib.hid (RX.out.set 4 (.int .i64 g.o))
         clear hHeld y4 f4
         refine hK.out _ _ ⟨RY.out.be, (HN.out.on RY.out.below).bs⟩ (fun hHeld => ?_)
         clear hK K
         try simp only [Act.put, kA, kB, kC]
         have RX := RY
         clear RY
         generalize u2.setCell ⟨Bx, 4, none⟩ (.int .i64 g.o) = u3 at *
         refine ka2 12 (some 80) (.pointer (some ⟨Bx, 5, none⟩)) rfl rfl (fun w' => by go_simp) ?_
         try simp only [Act.put, kA, kB, kC]
         refine kr2 [13] ?_
         refine kz (o := { dst := none, op := Op.store 36 (Operand.tmp 80) (Operand.tmp 78), type := 0, pos := "ref.go:291", after := #[{ on := 12, ground := Ground.data }, { on := 9, ground := Ground.data }, { on := 11, ground := Ground.chain }, { on := 0, ground := Ground.phase }, { on := 1, ground := Ground.phase }, { on := 2, ground := Ground.phase }, { on := 3, ground := Ground.phase }, { on := 4, ground := Ground.phase }, { on := 5, ground := Ground.phase }, { on := 6, ground := Ground.phase }, { on := 7, ground := Ground.phase }, { on := 8, ground := Ground.phase }, { on := 9, ground := Ground.phase }, { on := 10, ground := Ground.phase }, { on := 11, ground := Ground.phase }], guard := none }) rfl (fun K hK => ?_)
         have y5 := RX.out.bx.cell 5
         have f5 := RX.out.bx.frozen 5
         have y6 := RX.out.bx.cell 6
         have f6 := RX.out.bx.frozen 6
         go_simp
         have RY := Lib.hid ((RX.out.set 5 (.int .i64 g.vt)).set 6 (.int .i64 e.vk))
         clear hHeld y5 f5 y6 f6 RX
         refine hK.out _ _ ?_
         clear hK K
         try simp only [Act.put]
         refine kd (by kernel_rfl) ?_ _
         refine NoPanic.normal ?_
         go_wp2_with fail
         go_meet
         exact RY.out.to (by rw [HQ.out.1, HQ.out.2.1, HQ.out.2.2.1, HQ.out.2.2.2.1, HQ.out.2.2.2.2]; simp)
        ·go_upto_region 12 with fail
         refine wp_region_noPanic ?_
         refine wp_region_K (S := fun W => Blk W Be 39 #[.int .i64 e.kd, .int .i64 e.t, .int .i64 e.s, .int .i64 e.lev, .int .i64 e.o, .int .i64 e.vt, .int .i64 e.vk, .int .i64 e.p, .slice hd.A hd.n hd.c] ∧ Blk W Bs 77 L.cs) 13 (by kernel_rfl) ⟨RX.out.be.drew, Blk.drew (HN.out.on RX.out.below).bs⟩ (fun hHeld => ?_)
         have RX := Lib.hid (RX.out.on (Below.refl _ _).drew)
         generalize wc.drew = wd at *
         refine ka2 0 (some 69) (.pointer (some ⟨Bs, 2, none⟩)) rfl rfl (fun w' => by go_simp) ?_
         try simp only [Act.put, kA, kB, kC]
         refine kv2 1 (some 70) (.slice L.a2.A L.a2.n L.a2.c) rfl rfl (fun w' hSw => by have c9 : w'.cell? ⟨Bs, 2, none⟩ = some (.slice L.a2.A L.a2.n L.a2.c) := Blk.cell (w := w') hSw.2 2; go_simp) ?_
         try simp only [Act.put, kA, kB, kC]
         refine ka2 2 (some 71) (.pointer (some ⟨Be, 4, none⟩)) rfl rfl (fun w' => by go_simp) ?_
         try simp only [Act.put, kA, kB, kC]
         refine kv2 3 (some 72) (.int .i64 e.o) rfl rfl (fun w' hSw => by have c9 : w'.cell? ⟨Be, 4, none⟩ = some (.int .i64 e.o) := Blk.cell (w := w') hSw.1 4; go_simp) ?_
         try simp only [Act.put, kA, kB, kC]
         refine ka2 5 (some 74) (.pointer (some ⟨Bs, 0, none⟩)) rfl rfl (fun w' => by go_simp) ?_
         try simp only [Act.put, kA, kB, kC]
         refine kv2 6 (some 75) (.slice L.a0.A L.a0.n L.a0.c) rfl rfl (fun w' hSw => by have c9 : w'.cell? ⟨Bs, 0, none⟩ = some (.slice L.a0.A L.a0.n L.a0.c) := Blk.cell (w := w') hSw.2 0; go_simp) ?_
         try simp only [Act.put, kA, kB, kC]
         refine ka2 7 (some 76) (.pointer (some ⟨Be, 5, none⟩)) rfl rfl (fun w' => by go_simp) ?_
         try simp only [Act.put, kA, kB, kC]
         refine kv2 8 (some 77) (.agg #[.int .i64 e.vt, .int .i64 e.vk]) rfl rfl (fun w' hSw => by have c9 : w'.cell? ⟨Be, 5, none⟩ = some (.int .i64 e.vt) := Blk.cell (w := w') hSw.1 5; have c10 : w'.cell? ⟨Be, 6, none⟩ = some (.int .i64 e.vk) := Blk.cell (w := w') hSw.1 6; go_simp) ?_
         try simp only [Act.put, kA, kB, kC]
         refine kr2 [4] ?_
         refine kc rfl (fun K hK => ?_) kn
         go_simp
         refine (HN.out.at_ RX.out.below HRL.out (s := 2) (by omega) HXO.out HYO.out).mono ?_
         rintro _ u ⟨rfl, hw⟩
         obtain rfl := hw.symm
         clear hHeld
         go_simp
         refine hK.out _ _ ⟨RX.out.be, (HN.out.on RX.out.below).bs⟩ (fun hHeld => ?_)
         clear hK K
         try simp only [Act.put, kA, kB, kC]
         refine ka2 10 (some 79) (.pointer (some ⟨Bx, 4, none⟩)) rfl rfl (fun w' => by go_simp) ?_
         try simp only [Act.put, kA, kB, kC]
         refine kr2 [9] ?_
         refine kc rfl (fun K hK => ?_) kn
         go_simp
         refine (HN.out.anew RX.out.below HRL.out HVK.out HXV.out HYV.out).mono ?_
         rintro _ u2 ⟨rfl, hb⟩
         have RX := Lib.hid (RX.out.on hb)
         clear hb hHeld
         go_simp
         refine hK.out _ _ ⟨RX.out.be, (HN.out.on RX.out.below).bs⟩ (fun hHeld => ?_)
         clear hK K
         try simp only [Act.put, kA, kB, kC]
         refine kr2 [11] ?_
         refine kc (o := { dst := none, op := Op.store 3 (Operand.tmp 79) (Operand.tmp 73), type := 0, pos := "ref.go:291", after := #[{ on := 10, ground := Ground.data }, { on := 4, ground := Ground.data }, { on := 9, ground := Ground.chain }, { on := 0, ground := Ground.phase }, { on := 1, ground := Ground.phase }, { on := 2, ground := Ground.phase }, { on := 3, ground := Ground.phase }, { on := 4, ground := Ground.phase }, { on := 5, ground := Ground.textOnly Departure.lateStores }, { on := 6, ground := Ground.textOnly Departure.lateStores }, { on := 7, ground := Ground.textOnly Departure.lateStores }, { on := 8, ground := Ground.textOnly Departure.lateStores }, { on := 9, ground := Ground.textOnly Departure.lateStoresUnsure }], guard := none }) rfl (fun K hK => ?_) kn
         have y4 := RX.out.bx.cell 4
         have f4 := RX.out.bx.frozen 4
         go_simp
         have RY := Lib.hid (RX.out.set 4 (.int .i64 g.o))
         clear hHeld y4 f4
         refine hK.out _ _ ⟨RY.out.be, (HN.out.on RY.out.below).bs⟩ (fun hHeld => ?_)
         clear hK K
         try simp only [Act.put, kA, kB, kC]
         have RX := RY
         clear RY
         generalize u2.setCell ⟨Bx, 4, none⟩ (.int .i64 g.o) = u3 at *
         refine ka2 12 (some 80) (.pointer (some ⟨Bx, 5, none⟩)) rfl rfl (fun w' => by go_simp) ?_
         try simp only [Act.put, kA, kB, kC]
         refine kr2 [13] ?_
         refine kz (o := { dst := none, op := Op.store 36 (Operand.tmp 80) (Operand.tmp 78), type := 0, pos := "ref.go:291", after := #[{ on := 12, ground := Ground.data }, { on := 9, ground := Ground.data }, { on := 11, ground := Ground.chain }, { on := 0, ground := Ground.phase }, { on := 1, ground := Ground.phase }, { on := 2, ground := Ground.phase }, { on := 3, ground := Ground.phase }, { on := 4, ground := Ground.phase }, { on := 5, ground := Ground.phase }, { on := 6, ground := Ground.phase }, { on := 7, ground := Ground.phase }, { on := 8, ground := Ground.phase }, { on := 9, ground := Ground.phase }, { on := 10, ground := Ground.phase }, { on := 11, ground := Ground.phase }], guard := none }) rfl (fun K hK => ?_)
         have y5 := RX.out.bx.cell 5
         have f5 := RX.out.bx.frozen 5
         have y6 := RX.out.bx.cell 6
         have f6 := RX.out.bx.frozen 6
         go_simp
         have RY := Lib.hid ((RX.out.set 5 (.int .i64 g.vt)).set 6 (.int .i64 e.vk))
         clear hHeld y5 f5 y6 f6 RX
         refine hK.out _ _ ?_
         clear hK K
         try simp only [Act.put]
         refine kd (by kernel_rfl) ?_ _
         refine NoPanic.normal ?_
         go_wp2_with fail
         go_meet
         exact RY.out.to (by rw [HQ.out.1, HQ.out.2.1, HQ.out.2.2.1, HQ.out.2.2.2.1, HQ.out.2.2.2.2]; simp)
       ·by_cases hk4 : e.kd = 4
        ·have hb1 : (e.kd == 1) = false := by simp; omega
         have hb2 : (e.kd == 2) = false := by simp; omega
         have hb3 : (e.kd == 3) = false := by simp; omega
         have hb4 : (e.kd == 4) = true := by rw [hk4]; rfl
         have HQ : Hid (g.kd = e.kd ∧ g.s = 0 ∧ g.lev = e.lev ∧ g.o = 0 ∧ g.vt = 0 ∧ g.vk = 0) := by rw [← HGE.out, fine_re4 HFE.out hk4]; exact ⟨rfl, rfl, rfl, rfl, rfl, rfl⟩
         have HX1 : Hid ((3, e.p) ∈ (refs m.pl)) := HIN.out _ (List.mem_cons_of_mem _ (by unfold refsK; rw [if_neg hk, if_neg hk23, if_pos hk4]; simp))
         have HY1 : Hid (anewI (refs m.pl) 3 e.p = g.p) := by show _ = _; rw [← HGE.out, fine_re4 HFE.out hk4]
         clear hk hk23 hk4
         go_upto_region 14 with fail
         have zz : wc.cell? ⟨Bs, 3, none⟩ = some (.slice L.a3.A L.a3.n L.a3.c) := (HN.out.on RX.out.below).bs.cell 3
         have ee : wc.cell? ⟨Be, 7, none⟩ = some (.int .i64 e.p) := RX.out.be.cell 7
         have yy := RX.out.bx.cell 7
         have ff := RX.out.bx.frozen 7
         go_wp2_with fail
         refine (HN.out.at_ RX.out.below HRL.out (s := 3) (by omega) HX1.out HY1.out).mono ?_
         rintro _ u ⟨rfl, hw⟩
         obtain rfl := hw.symm
         have RX := Lib.hid (RX.out.set 7 (.int .i64 g.p))
         go_wp2_with fail
         go_meet
         exact RX.out.to (by rw [HQ.out.1, HQ.out.2.1, HQ.out.2.2.1, HQ.out.2.2.2.1, HQ.out.2.2.2.2.1, HQ.out.2.2.2.2.2]; simp)
        ·have hb1 : (e.kd == 1) = false := by simp; omega
         have hb2 : (e.kd == 2) = false := by simp; omega
         have hb3 : (e.kd == 3) = false := by simp; omega
         have hb4 : (e.kd == 4) = false := by simp; omega
         have HQ : Hid (g.kd = e.kd ∧ g.s = 0 ∧ g.lev = e.lev ∧ g.o = 0 ∧ g.vt = 0 ∧ g.vk = 0 ∧ g.p = 0) := by rw [← HGE.out, fine_re5 HFE.out ⟨hk, hk23, hk4⟩]; exact ⟨rfl, rfl, rfl, rfl, rfl, rfl, rfl⟩
         clear hk hk23 hk4
         go_wp2_with fail
         go_meet
         exact RX.out.to (by rw [HQ.out.1, HQ.out.2.1, HQ.out.2.2.1, HQ.out.2.2.2.1, HQ.out.2.2.2.2.1, HQ.out.2.2.2.2.2.1, HQ.out.2.2.2.2.2.2])
     case rest =>
      clear RX
      have RX := hcut
      clear hcut
      have e8 : wc.cell? ⟨Be, 8, none⟩ = some (.slice hd.A hd.n hd.c) := RX.out.be.cell 8
      have HSC : Hid (ScX Bx g (anewI (refs m.pl)) e.scan wo wc none 0 0) := ⟨RX.out.below, RX.out.bx, RX.out.ne.2.2, World.ownsRow_nil _ _ _ _⟩
      go_wp2_with fail
      clear e8 RX
      go_loopw [92] (fun v wy => ∃ (j : Nat) (A : Option Addr) (c : Nat), j ≤ hd.n ∧ v = .int .i64 j ∧ Hid (ScX Bx g (anewI (refs m.pl)) e.scan wo wy A j c)) (fun v _ => hd.n - (intOf v).toNat)
      case atStart => exact ⟨0, none, 0, Nat.zero_le _, rfl, HSC⟩
      case round =>
       clear HSC
       obtain ⟨j, A, c, hj0, rfl, SC⟩ := hrel
       by_cases hjn : j < hd.n
       ·have hjl : (j : Int) < (hd.n : Int) := by omega
        obtain ⟨s, hs⟩ : ∃ s, e.scan[j]? = some s := ⟨e.scan[j]'(by rw [HLS.out]; exact hjn), List.getElem?_eq_getElem _⟩
        have HSJ := Lib.hid hs
        obtain ⟨b2, o2, hA2, hbl2, hc2⟩ := row_cells seCs_len (by omega) (HRS.out.below (HN.out.cp.below.trans (SC.out.below.mono HN.out.cp.below.size))) hs
        rw [show hd.A = some ⟨b2, o2, none⟩ from hA2]
        have c0 : wr.cell? ⟨b2, o2 + j * 3, none⟩ = some (.int .i64 s.o) := hc2 0 _ rfl
        have c1 : wr.cell? ⟨b2, o2 + j * 3 + 1, none⟩ = some (.int .i64 s.t) := hc2 1 _ rfl
        have c2 : wr.cell? ⟨b2, o2 + j * 3 + 2, none⟩ = some (.int .i64 s.k) := hc2 2 _ rfl
        obtain ⟨g9, hg9⟩ : ∃ g9, reS (anewI (refs m.pl)) s = g9 := ⟨_, rfl⟩
        have HG9 : Hid (reS (anewI (refs m.pl)) s = ⟨g9.o, g9.t, s.k⟩) := by show _ = _; rw [← hg9]; rfl
        have hms : ∀ p ∈ refsS s, p ∈ (refs m.pl) := fun p hp => HIN.out _ (List.mem_cons_of_mem _ (by
         by_cases hk4 : e.kd = 4
         ·unfold refsK; rw [if_neg (by omega), if_neg (by omega), if_pos hk4]; exact List.mem_cons_of_mem _ (List.mem_flatMap.2 ⟨s, List.mem_of_getElem? hs, hp⟩)
         ·have h9 := fine_scan HFE.out hk4; rw [h9] at hs; simp at hs))
        have HXO : Hid ((2, s.o) ∈ (refs m.pl)) := hms _ (List.mem_cons_self ..)
        have HYO : Hid (anewI (refs m.pl) 2 s.o = g9.o) := by show _ = _; rw [← hg9]; rfl
        have HVK : Hid (0 ≤ s.k) := fine_seen HFE.out (List.mem_of_getElem? hs)
        have HXV : Hid (∀ p ∈ refsV s.t s.k, p ∈ (refs m.pl)) := fun p hp => hms _ (List.mem_cons_of_mem _ hp)
        have HYV : Hid (reV (anewI (refs m.pl)) s.t s.k = g9.t) := by show _ = _; rw [← hg9]; rfl
        have RT : Hid (RdE 59 wr.heap.size #[.int .i64 s.o, .int .i64 s.t, .int .i64 s.k] wr (wr.alloc (.cells #[.int .i64 s.o, .int .i64 s.t, .int .i64 s.k] 59))) := RdE.new
        have HNB : Hid (∀ q, (Value.slice A j c).ownBlock = some q → q ≠ wr.heap.size) := fun q hq => Nat.ne_of_lt (own_in_block SC.out.sc hq).2
        have SC := Lib.hid (SC.out.on RT.out.below)
        clear hs hc2 hbl2 hA2 hg9 hms
        go_upto_region 18 with fail
        clear c0 c1 c2
        have RT : Hid (RdE 59 wr.heap.size #[.int .i64 s.o, .int .i64 s.t, .int .i64 s.k] wr (wr.alloc (.cells #[.int .i64 s.o, .int .i64 s.t, .int .i64 s.k] 59))) := RT
        generalize (wr.alloc (.cells #[.int .i64 s.o, .int .i64 s.t, .int .i64 s.k] 59)) = W1 at *
        generalize hwB : wr.heap.size = Bt at *
        skip
        refine wp_region_noPanic ?_
        refine wp_region_K (S := fun W => Blk W Bt 59 #[.int .i64 s.o, .int .i64 s.t, .int .i64 s.k] ∧ Blk W Bs 77 L.cs ∧ W.cell? ⟨Bx, 8, none⟩ = some (.slice A j c)) 16 (by kernel_rfl) ⟨RT.out.be.drew, Blk.drew (HN.out.on SC.out.below).bs, Blk.cell (Blk.drew SC.out.bx) 8⟩ (fun hHeld => ?_)
        have SC := Lib.hid (SC.out.on (Below.refl _ _).drew)
        have RT := Lib.hid (RT.out.on (Below.refl _ _).drew)
        generalize W1.drew = wd at *
        refine ka2 0 (some 96) (.pointer (some ⟨Bx, 8, none⟩)) rfl rfl (fun w' => by go_simp) ?_
        try simp only [Act.put, kA, kB, kC]
        refine kv2 1 (some 97) (.slice A j c) rfl rfl (fun w' hSw => by have c9 : w'.cell? ⟨Bx, 8, none⟩ = some (.slice A j c) := hSw.2.2; go_simp) ?_
        try simp only [Act.put, kA, kB, kC]
        refine ka2 2 (some 98) (.pointer (some ⟨Bs, 2, none⟩)) rfl rfl (fun w' => by go_simp) ?_
        try simp only [Act.put, kA, kB, kC]
        refine kv2 3 (some 99) (.slice L.a2.A L.a2.n L.a2.c) rfl rfl (fun w' hSw => by have c9 : w'.cell? ⟨Bs, 2, none⟩ = some (.slice L.a2.A L.a2.n L.a2.c) := Blk.cell (w := w') hSw.2.1 2; go_simp) ?_
        try simp only [Act.put, kA, kB, kC]
        refine ka2 4 (some 100) (.pointer (some ⟨Bt, 0, none⟩)) rfl rfl (fun w' => by go_simp) ?_
        try simp only [Act.put, kA, kB, kC]
        refine kv2 5 (some 101) (.int .i64 s.o) rfl rfl (fun w' hSw => by have c9 : w'.cell? ⟨Bt, 0, none⟩ = some (.int .i64 s.o) := Blk.cell (w := w') hSw.1 0; go_simp) ?_
        try simp only [Act.put, kA, kB, kC]
        refine ka2 7 (some 103) (.pointer (some ⟨Bs, 0, none⟩)) rfl rfl (fun w' => by go_simp) ?_
        try simp only [Act.put, kA, kB, kC]
        refine kv2 8 (some 104) (.slice L.a0.A L.a0.n L.a0.c) rfl rfl (fun w' hSw => by have c9 : w'.cell? ⟨Bs, 0, none⟩ = some (.slice L.a0.A L.a0.n L.a0.c) := Blk.cell (w := w') hSw.2.1 0; go_simp) ?_
        try simp only [Act.put, kA, kB, kC]
        refine ka2 9 (some 105) (.pointer (some ⟨Bt, 1, none⟩)) rfl rfl (fun w' => by go_simp) ?_
        try simp only [Act.put, kA, kB, kC]
        refine kv2 10 (some 106) (.agg #[.int .i64 s.t, .int .i64 s.k]) rfl rfl (fun w' hSw => by have c9 : w'.cell? ⟨Bt, 1, none⟩ = some (.int .i64 s.t) := Blk.cell (w := w') hSw.1 1; have c10 : w'.cell? ⟨Bt, 2, none⟩ = some (.int .i64 s.k) := Blk.cell (w := w') hSw.1 2; go_simp) ?_
        try simp only [Act.put, kA, kB, kC]
        refine kr2 [6] ?_
        refine kc rfl (fun K hK => ?_) kn
        go_simp
        refine (HN.out.at_ SC.out.below HRL.out (s := 2) (by omega) HXO.out HYO.out).mono ?_
        rintro _ u ⟨rfl, hw⟩
        obtain rfl := hw.symm
        clear hHeld
        go_simp
        refine hK.out _ _ ⟨RT.out.be, (HN.out.on SC.out.below).bs, SC.out.bx.cell 8⟩ (fun hHeld => ?_)
        clear hK K
        try simp only [Act.put, kA, kB, kC]
        refine kr2 [11] ?_
        refine kc rfl (fun K hK => ?_) kn
        go_simp
        refine (HN.out.anew SC.out.below HRL.out HVK.out HXV.out HYV.out).mono ?_
        rintro _ u2 ⟨rfl, hb⟩
        have SC := Lib.hid (SC.out.on hb)
        have RT := Lib.hid (RT.out.on hb)
        clear hb hHeld
        go_simp
        refine hK.out _ _ ⟨RT.out.be, (HN.out.on SC.out.below).bs, SC.out.bx.cell 8⟩ (fun hHeld => ?_)
        clear hK K
        try simp only [Act.put, kA, kB, kC]
        refine ka2 12 (some 108) (.agg #[.int .i64 g9.o, .int .i64 g9.t, .int .i64 s.k]) rfl rfl (fun w' => by go_simp) ?_
        try simp only [Act.put, kA, kB, kC]
        refine kr2 [13] ?_
        refine kc rfl (fun K hK => ?_) kn
        go_simp
        have hal := (Below.refl _ u2).alloc (Nat.le_refl _) (.cells #[.int .i64 g9.o, .int .i64 g9.t, .int .i64 s.k] 59)
        have SC := Lib.hid (SC.out.on hal)
        have RT := Lib.hid (RT.out.on hal)
        have SL := Lib.hid (lit_of u2 59 3 (seCs ⟨g9.o, g9.t, s.k⟩) #[.int .i64 g9.o, .int .i64 g9.t, .int .i64 s.k] rfl rfl)
        clear hal hHeld
        refine hK.out _ _ ⟨RT.out.be, (HN.out.on SC.out.below).bs, SC.out.bx.cell 8⟩ (fun hHeld => ?_)
        clear hK K
        try simp only [Act.put, kA, kB, kC]
        generalize u2.alloc (.cells #[.int .i64 g9.o, .int .i64 g9.t, .int .i64 s.k] 59) = ua at *
        generalize u2.heap.size = XS at *
        refine kr2 [14] ?_
        refine kc (o := { dst := some 110, op := Op.call { callee := Callee.builtin Builtin.append, args := #[Operand.tmp 97, Operand.tmp 109], argTypes := #[37, 37] }, type := 37, pos := "ref.go:296", after := #[{ on := 1, ground := Ground.data }, { on := 13, ground := Ground.data }, { on := 11, ground := Ground.chain }], guard := none }) rfl (fun K hK => ?_) kn
        refine step_append_any _ rfl (.tmp 97) (.tmp 109) 37 rfl wo.heap.size 59 s0 _ 3 24 Tryz.underlying37 hs hs0 hs1 hs2 rfl (by decide) (.slice A j c) j _ rfl SC.out.sc _ (some ⟨XS, 0, none⟩) 1 _ (seCs ⟨g9.o, g9.t, s.k⟩) rfl SL.out (seCs_one _) (by unfold maxLen; omega) (by omega) SC.out.below.size ?_
        intro v' w6 hown hgrow hat; obtain ⟨A6, c6, rfl, -, -⟩ := own_form2 hown
        obtain ⟨hb6, hf6⟩ := SC.out.more HSJ.out (by rw [HG9.out]; exact hown) hgrow
        have KS6 := Lib.hid ((KeepT.grown SC.out.sc hgrow).blk (HN.out.on SC.out.below).bs (by decide))
        have KE6 := Lib.hid (blk_grown HNB.out hgrow RT.out.be)
        have KB6 := Lib.hid hb6
        have HF6 := Lib.hid hf6
        clear hown hgrow hat hb6 hf6 hHeld
        refine hK.out _ _ ⟨KE6.out, KS6.out, KB6.out.cell 8⟩ (fun hHeld => ?_)
        clear hK K
        try simp only [Act.put, kA, kB, kC]
        refine ka2 15 (some 111) (.pointer (some ⟨Bx, 8, none⟩)) rfl rfl (fun w' => by go_simp) ?_
        try simp only [Act.put, kA, kB, kC]
        refine kr2 [16] ?_
        refine kz (o := { dst := none, op := Op.store 37 (Operand.tmp 111) (Operand.tmp 110), type := 0, pos := "ref.go:296", after := #[{ on := 15, ground := Ground.data }, { on := 14, ground := Ground.data }, { on := 14, ground := Ground.chain }, { on := 0, ground := Ground.phase }, { on := 1, ground := Ground.phase }, { on := 2, ground := Ground.phase }, { on := 3, ground := Ground.phase }, { on := 4, ground := Ground.phase }, { on := 5, ground := Ground.phase }, { on := 6, ground := Ground.phase }, { on := 7, ground := Ground.phase }, { on := 8, ground := Ground.phase }, { on := 9, ground := Ground.phase }, { on := 10, ground := Ground.phase }, { on := 11, ground := Ground.phase }, { on := 12, ground := Ground.phase }, { on := 13, ground := Ground.phase }, { on := 14, ground := Ground.phase }], guard := none }) rfl (fun K hK => ?_)
        have y8 := KB6.out.cell 8
        have f8 := KB6.out.frozen 8
        go_simp
        clear KE6 KS6 KB6 SL y8 f8 hHeld
        refine hK.out _ _ ?_
        clear hK K
        try simp only [Act.put]
        refine kd (by kernel_rfl) ?_ _
        refine NoPanic.normal ?_
        go_wp2_with fail
        go_roundw
        case rel => exact ⟨j + 1, A6, c6, hjn, by go_num, HF6⟩
        case measure => simp [intOf]; omega
       ·have hje : j = hd.n := by omega
        rw [hje] at SC ⊢
        clear hje hjn hj0
        have z4 : wr.cell? ⟨B3, 4, none⟩ = some (.slice h.ev.1.A h.ev.1.n h.ev.1.c) := (HN.out.on SC.out.below).cp.b3.cell 4
        have d0 : wr.cell? ⟨Bx, 0, none⟩ = some (.int .i64 g.kd) := SC.out.bx.cell 0
        have d1 : wr.cell? ⟨Bx, 1, none⟩ = some (.int .i64 g.t) := SC.out.bx.cell 1
        have d2 : wr.cell? ⟨Bx, 2, none⟩ = some (.int .i64 g.s) := SC.out.bx.cell 2
        have d3 : wr.cell? ⟨Bx, 3, none⟩ = some (.int .i64 g.lev) := SC.out.bx.cell 3
        have d4 : wr.cell? ⟨Bx, 4, none⟩ = some (.int .i64 g.o) := SC.out.bx.cell 4
        have d5 : wr.cell? ⟨Bx, 5, none⟩ = some (.int .i64 g.vt) := SC.out.bx.cell 5
        have d6 : wr.cell? ⟨Bx, 6, none⟩ = some (.int .i64 g.vk) := SC.out.bx.cell 6
        have d7 : wr.cell? ⟨Bx, 7, none⟩ = some (.int .i64 g.p) := SC.out.bx.cell 7
        have d8 : wr.cell? ⟨Bx, 8, none⟩ = some (.slice A hd.n c) := SC.out.bx.cell 8
        have hal7 : Below wr.heap.size wr (wr.alloc (.cells #[.int .i64 g.kd, .int .i64 g.t, .int .i64 g.s, .int .i64 g.lev, .int .i64 g.o, .int .i64 g.vt, .int .i64 g.vk, .int .i64 g.p, .slice A hd.n c] 39)) := (Below.refl _ _).alloc (Nat.le_refl _) _
        have HB7 := Lib.hid (SC.out.below.trans (hal7.mono SC.out.below.size))
        have hs6 := SC.out.sc
        rw [List.take_of_length_le (Nat.le_of_eq HLS.out), ← HGS.out] at hs6
        have HS7 := Lib.hid (own_on hs6 hal7)
        have SL := Lib.hid (lit_of wr 39 9 (evCs (g, ⟨A, hd.n, c⟩)) #[.int .i64 g.kd, .int .i64 g.t, .int .i64 g.s, .int .i64 g.lev, .int .i64 g.o, .int .i64 g.vt, .int .i64 g.vk, .int .i64 g.p, .slice A hd.n c] rfl rfl)
        have HF7 := Lib.hid (HN.out.on HB7.out)
        have hn4 : h.ev.1.n ≤ 200 := Nat.le_trans HN.out.lens.1 (by omega)
        clear hal7 hs6
        go_wp2_with (at_builtin; refine wpList_append_any _ rfl (.tmp 114) (.tmp 116) 23 rfl w.heap.size 39 i0 _ 9 88 Tryz.underlying23 hi hz0 hz1 hz2 rfl (by decide) _ _ _ rfl HF7.out.cp.ev _ (some ⟨wr.heap.size, 0, none⟩) 1 _ (evCs (g, ⟨A, hd.n, c⟩)) rfl SL.out (evCs_one _) (by unfold maxLen; omega) (by omega) HF7.out.cp.below.size ?_; intro v' w8 hown8 hgrow8 hat8; obtain ⟨A8, c8, rfl, -, -⟩ := own_form2 hown8; obtain ⟨hb8, hf8⟩ := HN.out.ev HE.out HB7.out HGE.out HS7.out hown8 hgrow8; have y4 := hb8.cell 4; have f4 := hb8.frozen 4)
        have HF8 := Lib.hid hf8
        clear hown8 hgrow8 hat8 hb8 hf8 y4 f4 SL HF7 HN HB7 HS7 z4 d0 d1 d2 d3 d4 d5 d6 d7 d8
        go_wp2_with fail
        go_roundw
        case rel => exact ⟨i + 1, _, hin, by go_num, HF8⟩
        case measure => simp [intOf]; omega
   ·have hie : i = m.ev.1.n := by omega
    rw [hie] at HN ⊢
    clear hie hi0 hin
    obtain ⟨I, hIE⟩ : ∃ I, m.ev.1.n = I := ⟨_, rfl⟩
    have HIE := Lib.hid hIE
    have HN : Hid (NuX Bh B3 Bs w m h L wo I 0 0 0) := by rw [← hIE]; exact HN.out
    clear hIE
    have z5 : wo.cell? ⟨Bh, 5, none⟩ = some (.slice m.od.1.A m.od.1.n m.od.1.c) := HN.out.bh.cell 5
    have hnod : m.od.1.n ≤ 60 := HNN.out.2.1
    go_wp2_with fail
    rename World => wod
    clear z5
    go_loopw [123] (fun v wr => ∃ (i : Nat) (h : HistM), i ≤ m.od.1.n ∧ v = .int .i64 i ∧ Hid (NuX Bh B3 Bs w m h L wr I i 0 0)) (fun v _ => m.od.1.n - (intOf v).toNat)
    case atStart => exact ⟨0, h, Nat.zero_le _, rfl, HN⟩
    case round =>
     clear HN
     obtain ⟨i, h, hi0, rfl, HN⟩ := hrel
     by_cases hin : i < m.od.1.n
     ·have hlt : (i : Int) < (m.od.1.n : Int) := by omega
      obtain ⟨⟨e, hd⟩, hs⟩ : ∃ p, m.od.2[i]? = some p := ⟨m.od.2[i]'(by rw [HFIT.out.od.1]; exact hin), List.getElem?_eq_getElem _⟩
      have HE : Hid (m.pl.od[i]? = some e) := by show m.pl.od[i]? = _; unfold HistM.pl; simp [hs]
      obtain ⟨b, o, hA, hbl, hc⟩ := row_cells odCs_len (by omega) (HM.out.od.below HN.out.cp.below) hs
      have c0 : wr.cell? ⟨b, o + i * 2, none⟩ = some (.int .i64 e.o) := hc 0 _ rfl
      have c1 : wr.cell? ⟨b, o + i * 2 + 1, none⟩ = some (.slice hd.A hd.n hd.c) := hc 1 _ rfl
      have HRS := Lib.hid (HM.out.ot _ (List.mem_of_getElem? hs))
      have HLS : Hid (e.ts.length = hd.n) := (HFIT.out.ot _ (List.mem_of_getElem? hs)).1
      have hsn : hd.n ≤ 60 := by have := HLS.out; have := HSM.out.ot e (List.mem_of_getElem? HE.out); omega
      have HIN := Lib.hid (in_od HE.out)
      obtain ⟨g, hg⟩ : ∃ g, reO (anewI (refs m.pl)) e = g := ⟨_, rfl⟩
      have HGE := Lib.hid hg
      have HXT : Hid (∀ p ∈ refsT e.ts, p ∈ (refs m.pl)) := fun p hp => HIN.out _ (List.mem_cons_of_mem _ hp)
      have HYT : Hid (e.ts.map (anewI (refs m.pl) 0) = g.ts) := by show _ = _; rw [← hg]; rfl
      have HXO : Hid ((2, e.o) ∈ (refs m.pl)) := HIN.out _ (List.mem_cons_self ..)
      have HYO : Hid (anewI (refs m.pl) 2 e.o = g.o) := by show _ = _; rw [← hg]; rfl
      have RD : Hid (RdE 61 wr.heap.size #[.int .i64 e.o, .slice hd.A hd.n hd.c] wr (wr.alloc (.cells #[.int .i64 e.o, .slice hd.A hd.n hd.c] 61))) := RdE.new
      have HA0 := Lib.hid hA
      rw [hA]
      clear hs hc hbl hA hg
      have hn4 : h.od.1.n ≤ 60 := Nat.le_trans HN.out.lens.2.1 (by omega)
      go_upto_region 25 with fail
      clear c0 c1
      generalize (wr.alloc (.cells #[.int .i64 e.o, .slice hd.A hd.n hd.c] 61)) = W1 at *
      obtain ⟨Be, hBe⟩ : ∃ Be, Be = wr.heap.size := ⟨_, rfl⟩
      have RD : Hid (RdE 61 Be #[.int .i64 e.o, .slice hd.A hd.n hd.c] wr W1) := by rw [hBe]; exact RD.out
      rw [← hBe]
      clear hBe
      refine wp_region_noPanic ?_
      refine wp_region_K (S := fun W => Blk W Be 61 #[.int .i64 e.o, .slice hd.A hd.n hd.c] ∧ Blk W Bs 77 L.cs ∧ W.cell? ⟨B3, 5, none⟩ = some (.slice h.od.1.A h.od.1.n h.od.1.c)) 16 (by kernel_rfl) ⟨RD.out.be.drew, Blk.drew (HN.out.on RD.out.below).bs, (Blk.cell (Blk.drew (HN.out.on RD.out.below).cp.b3) 5)⟩ (fun hHeld => ?_)
      have RD := Lib.hid (RD.out.on (Below.refl _ _).drew)
      generalize W1.drew = wd at *
      refine ka2 0 (some 127) (.pointer (some ⟨B3, 5, none⟩)) rfl rfl (fun w' => by go_simp) ?_
      try simp only [Act.put, kA, kB, kC]
      refine kv2 1 (some 128) (.slice h.od.1.A h.od.1.n h.od.1.c) rfl rfl (fun w' hSw => by have c9 : w'.cell? ⟨B3, 5, none⟩ = some (.slice h.od.1.A h.od.1.n h.od.1.c) := hSw.2.2; go_simp) ?_
      try simp only [Act.put, kA, kB, kC]
      refine ka2 2 (some 129) (.pointer (some ⟨Bs, 2, none⟩)) rfl rfl (fun w' => by go_simp) ?_
      try simp only [Act.put, kA, kB, kC]
      refine kv2 3 (some 130) (.slice L.a2.A L.a2.n L.a2.c) rfl rfl (fun w' hSw => by have c9 : w'.cell? ⟨Bs, 2, none⟩ = some (.slice L.a2.A L.a2.n L.a2.c) := Blk.cell (w := w') hSw.2.1 2; go_simp) ?_
      try simp only [Act.put, kA, kB, kC]
      refine ka2 4 (some 131) (.pointer (some ⟨Be, 0, none⟩)) rfl rfl (fun w' => by go_simp) ?_
      try simp only [Act.put, kA, kB, kC]
      refine kv2 5 (some 132) (.int .i64 e.o) rfl rfl (fun w' hSw => by have c9 : w'.cell? ⟨Be, 0, none⟩ = some (.int .i64 e.o) := Blk.cell (w := w') hSw.1 0; go_simp) ?_
      try simp only [Act.put, kA, kB, kC]
      refine ka2 7 (some 134) (.pointer (some ⟨Bs, 0, none⟩)) rfl rfl (fun w' => by go_simp) ?_
      try simp only [Act.put, kA, kB, kC]
      refine kv2 8 (some 135) (.slice L.a0.A L.a0.n L.a0.c) rfl rfl (fun w' hSw => by have c9 : w'.cell? ⟨Bs, 0, none⟩ = some (.slice L.a0.A L.a0.n L.a0.c) := Blk.cell (w := w') hSw.2.1 0; go_simp) ?_
      try simp only [Act.put, kA, kB, kC]
      refine ka2 9 (some 136) (.pointer (some ⟨Be, 1, none⟩)) rfl rfl (fun w' => by go_simp) ?_
      try simp only [Act.put, kA, kB, kC]
      refine kv2 10 (some 137) (.slice hd.A hd.n hd.c) rfl rfl (fun w' hSw => by have c9 : w'.cell? ⟨Be, 1, none⟩ = some (.slice hd.A hd.n hd.c) := Blk.cell (w := w') hSw.1 1; go_simp) ?_
      try simp only [Act.put, kA, kB, kC]
      refine kr2 [6] ?_
      refine kc rfl (fun K hK => ?_) kn
      go_simp
      refine (HN.out.at_ RD.out.below HRL.out (s := 2) (by omega) HXO.out HYO.out).mono ?_
      rintro _ u ⟨rfl, hw⟩
      obtain rfl := hw.symm
      clear hHeld
      go_simp
      refine hK.out _ _ ⟨RD.out.be, (HN.out.on RD.out.below).bs, (HN.out.on RD.out.below).cp.b3.cell 5⟩ (fun hHeld => ?_)
      clear hK K
      try simp only [Act.put, kA, kB, kC]
      refine kr2 [11] ?_
      refine kc rfl (fun K hK => ?_) kn
      go_simp
      have bw := HN.out.cp.below.trans (RD.out.below.mono HN.out.cp.below.size)
      refine (HN.out.places RD.out.below HRL.out (q := hd.n) (by omega) HXT.out HYT.out ((HRS.out.below bw).more bw.size)).mono ?_
      rintro _ w5 ⟨A5, c5, rfl, ho5, hb5⟩
      have HS5 := Lib.hid (own_mono ho5 RD.out.below.size)
      have RD := Lib.hid (RD.out.on hb5)
      clear bw ho5 hb5 hHeld
      go_simp
      refine hK.out _ _ ⟨RD.out.be, (HN.out.on RD.out.below).bs, (HN.out.on RD.out.below).cp.b3.cell 5⟩ (fun hHeld => ?_)
      clear hK K
      try simp only [Act.put, kA, kB, kC]
      refine ka2 12 (some 139) (.agg #[.int .i64 g.o, .slice A5 hd.n c5]) rfl rfl (fun w' => by go_simp) ?_
      try simp only [Act.put, kA, kB, kC]
      refine kr2 [13] ?_
      refine kc rfl (fun K hK => ?_) kn
      go_simp
      have hal := (Below.refl _ w5).alloc (Nat.le_refl _) (.cells #[.int .i64 g.o, .slice A5 hd.n c5] 61)
      have RD := Lib.hid (RD.out.on hal)
      have HS5 := Lib.hid (own_on HS5.out hal)
      have SL := Lib.hid (lit_of w5 61 2 (odCs (g, ⟨A5, hd.n, c5⟩)) #[.int .i64 g.o, .slice A5 hd.n c5] rfl rfl)
      clear hal hHeld
      refine hK.out _ _ ⟨RD.out.be, (HN.out.on RD.out.below).bs, (HN.out.on RD.out.below).cp.b3.cell 5⟩ (fun hHeld => ?_)
      clear hK K
      try simp only [Act.put, kA, kB, kC]
      generalize w5.alloc (.cells #[.int .i64 g.o, .slice A5 hd.n c5] 61) = ua at *
      generalize w5.heap.size = XS at *
      refine kr2 [14] ?_
      refine kc (o := { dst := some 141, op := Op.call { callee := Callee.builtin Builtin.append, args := #[Operand.tmp 128, Operand.tmp 140], argTypes := #[24, 24] }, type := 24, pos := "ref.go:301", after := #[{ on := 1, ground := Ground.data }, { on := 13, ground := Ground.data }, { on := 11, ground := Ground.chain }], guard := none }) rfl (fun K hK => ?_) kn
      have OWN := Lib.hid (HN.out.on RD.out.below).cp
      refine step_append_any _ rfl (.tmp 128) (.tmp 140) 24 rfl w.heap.size 61 j0 _ 2 32 Tryz.underlying24 hj hj0 hj1 hj2 rfl (by decide) (.slice h.od.1.A h.od.1.n h.od.1.c) h.od.1.n _ rfl OWN.out.od _ (some ⟨XS, 0, none⟩) 1 _ (odCs (g, ⟨A5, hd.n, c5⟩)) rfl SL.out (odCs_one _) (by unfold maxLen; omega) (by omega) OWN.out.below.size ?_
      intro v' w6 hown hgrow hat; obtain ⟨A6, c6, rfl, -, -⟩ := own_form2 hown
      obtain ⟨hb6, hf6⟩ := HN.out.od HE.out RD.out.below HGE.out HS5.out hown hgrow
      have KE6 := Lib.hid (RD.out.grown HN.out.cp.od hgrow)
      have KS6 := Lib.hid ((KeepT.grown OWN.out.od hgrow).blk (HN.out.on RD.out.below).bs (by decide))
      have KB6 := Lib.hid hb6
      have HF6 := Lib.hid hf6
      clear hown hgrow hat hb6 hf6 hHeld
      refine hK.out _ _ ⟨KE6.out, KS6.out, KB6.out.cell 5⟩ (fun hHeld => ?_)
      clear hK K
      try simp only [Act.put, kA, kB, kC]
      refine ka2 15 (some 142) (.pointer (some ⟨B3, 5, none⟩)) rfl rfl (fun w' => by go_simp) ?_
      try simp only [Act.put, kA, kB, kC]
      refine kr2 [16] ?_
      refine kz (o := { dst := none, op := Op.store 24 (Operand.tmp 142) (Operand.tmp 141), type := 0, pos := "ref.go:301", after := #[{ on := 15, ground := Ground.data }, { on := 14, ground := Ground.data }, { on := 14, ground := Ground.chain }, { on := 0, ground := Ground.phase }, { on := 1, ground := Ground.phase }, { on := 2, ground := Ground.phase }, { on := 3, ground := Ground.phase }, { on := 4, ground := Ground.phase }, { on := 5, ground := Ground.phase }, { on := 6, ground := Ground.phase }, { on := 7, ground := Ground.phase }, { on := 8, ground := Ground.phase }, { on := 9, ground := Ground.phase }, { on := 10, ground := Ground.phase }, { on := 11, ground := Ground.phase }, { on := 12, ground := Ground.phase }, { on := 13, ground := Ground.phase }, { on := 14, ground := Ground.phase }], guard := none }) rfl (fun K hK => ?_)
      have y5 := KB6.out.cell 5
      have f5 := KB6.out.frozen 5
      go_simp
      clear KE6 KS6 KB6 OWN SL y5 f5 hHeld
      refine hK.out _ _ ?_
      clear hK K
      try simp only [Act.put]
      refine kd (by kernel_rfl) ?_ _
      refine NoPanic.normal ?_
      go_wp2_with fail
      go_roundw
      case rel => exact ⟨i + 1, _, hin, by go_num, HF6⟩
      case measure => simp [intOf]; omega
     ·have hie : i = m.od.1.n := by omega
      rw [hie] at HN ⊢
      clear hie hi0 hin
      obtain ⟨J, hIE⟩ : ∃ I, m.od.1.n = I := ⟨_, rfl⟩
      have HJE := Lib.hid hIE
      have HN : Hid (NuX Bh B3 Bs w m h L wr I J 0 0) := by rw [← hIE]; exact HN.out
      clear hIE
      have z5 : wr.cell? ⟨Bh, 6, none⟩ = some (.slice m.ma.1.A m.ma.1.n m.ma.1.c) := HN.out.bh.cell 6
      have hnma : m.ma.1.n ≤ 60 := HNN.out.2.2.1
      go_wp2_with fail
      rename World => wma
      clear z5
      go_loopw [147] (fun v wr => ∃ (i : Nat) (h : HistM), i ≤ m.ma.1.n ∧ v = .int .i64 i ∧ Hid (NuX Bh B3 Bs w m h L wr I J i 0)) (fun v _ => m.ma.1.n - (intOf v).toNat)
      case atStart => exact ⟨0, h, Nat.zero_le _, rfl, HN⟩
      case round =>
       clear HN
       obtain ⟨i, h, hi0, rfl, HN⟩ := hrel
       by_cases hin : i < m.ma.1.n
       ·have hlt : (i : Int) < (m.ma.1.n : Int) := by omega
        obtain ⟨⟨e, hd⟩, hs⟩ : ∃ p, m.ma.2[i]? = some p := ⟨m.ma.2[i]'(by rw [HFIT.out.ma.1]; exact hin), List.getElem?_eq_getElem _⟩
        have HE : Hid (m.pl.ma[i]? = some e) := by show m.pl.ma[i]? = _; unfold HistM.pl; simp [hs]
        obtain ⟨b, o, hA, hbl, hc⟩ := row_cells maCs_len (by omega) (HM.out.ma.below HN.out.cp.below) hs
        have c0 : wr.cell? ⟨b, o + i * 4, none⟩ = some (.int .i64 e.p) := hc 0 _ rfl
        have c1 : wr.cell? ⟨b, o + i * 4 + 1, none⟩ = some (.int .i64 e.o) := hc 1 _ rfl
        have c2 : wr.cell? ⟨b, o + i * 4 + 2, none⟩ = some (.bool e.fi) := hc 2 _ rfl
        have c3 : wr.cell? ⟨b, o + i * 4 + 3, none⟩ = some (.slice hd.A hd.n hd.c) := hc 3 _ rfl
        have HRS := Lib.hid (HM.out.mt _ (List.mem_of_getElem? hs))
        have HLS : Hid (e.ts.length = hd.n) := (HFIT.out.mt _ (List.mem_of_getElem? hs)).1
        have hsn : hd.n ≤ 60 := by have := HLS.out; have := HSM.out.mt e (List.mem_of_getElem? HE.out); omega
        have HIN := Lib.hid (in_ma HE.out)
        obtain ⟨g, hg⟩ : ∃ g, reM (anewI (refs m.pl)) e = g := ⟨_, rfl⟩
        have HGE := Lib.hid hg
        have HXT : Hid (∀ p ∈ refsT e.ts, p ∈ (refs m.pl)) := fun p hp => HIN.out _ (List.mem_cons_of_mem _ (List.mem_cons_of_mem _ hp))
        have HYT : Hid (e.ts.map (anewI (refs m.pl) 0) = g.ts) := by show _ = _; rw [← hg]; rfl
        have HXO : Hid ((2, e.o) ∈ (refs m.pl)) := HIN.out _ (List.mem_cons_of_mem _ (List.mem_cons_self ..))
        have HXP : Hid ((3, e.p) ∈ (refs m.pl)) := HIN.out _ (List.mem_cons_self ..)
        have HYP : Hid (anewI (refs m.pl) 3 e.p = g.p) := by show _ = _; rw [← hg]; rfl
        have hfi : e.fi = g.fi := by rw [← hg]; rfl
        have HYO : Hid (anewI (refs m.pl) 2 e.o = g.o) := by show _ = _; rw [← hg]; rfl
        have RD : Hid (RdE 64 wr.heap.size #[.int .i64 e.p, .int .i64 e.o, .bool e.fi, .slice hd.A hd.n hd.c] wr (wr.alloc (.cells #[.int .i64 e.p, .int .i64 e.o, .bool e.fi, .slice hd.A hd.n hd.c] 64))) := RdE.new
        have HA0 := Lib.hid hA
        rw [hA]
        rw [hfi] at c2 RD
        clear hs hc hbl hA hg hfi
        have hn4 : h.ma.1.n ≤ 60 := Nat.le_trans HN.out.lens.2.2.1 (by omega)
        go_upto_region 30 with fail
        clear c0 c1 c2 c3
        generalize (wr.alloc (.cells #[.int .i64 e.p, .int .i64 e.o, .bool g.fi, .slice hd.A hd.n hd.c] 64)) = W1 at *
        obtain ⟨Be, hBe⟩ : ∃ Be, Be = wr.heap.size := ⟨_, rfl⟩
        have RD : Hid (RdE 64 Be #[.int .i64 e.p, .int .i64 e.o, .bool g.fi, .slice hd.A hd.n hd.c] wr W1) := by rw [hBe]; exact RD.out
        rw [← hBe]
        clear hBe
        refine wp_region_noPanic ?_
        refine wp_region_K (S := fun W => Blk W Be 64 #[.int .i64 e.p, .int .i64 e.o, .bool g.fi, .slice hd.A hd.n hd.c] ∧ Blk W Bs 77 L.cs ∧ W.cell? ⟨B3, 6, none⟩ = some (.slice h.ma.1.A h.ma.1.n h.ma.1.c)) 23 (by kernel_rfl) ⟨RD.out.be.drew, Blk.drew (HN.out.on RD.out.below).bs, (Blk.cell (Blk.drew (HN.out.on RD.out.below).cp.b3) 6)⟩ (fun hHeld => ?_)
        have RD := Lib.hid (RD.out.on (Below.refl _ _).drew)
        generalize W1.drew = wd at *
        refine ka2 0 (some 151) (.pointer (some ⟨B3, 6, none⟩)) rfl rfl (fun w' => by go_simp) ?_
        try simp only [Act.put, kA, kB, kC]
        refine kv2 1 (some 152) (.slice h.ma.1.A h.ma.1.n h.ma.1.c) rfl rfl (fun w' hSw => by have c9 : w'.cell? ⟨B3, 6, none⟩ = some (.slice h.ma.1.A h.ma.1.n h.ma.1.c) := hSw.2.2; go_simp) ?_
        try simp only [Act.put, kA, kB, kC]
        refine ka2 2 (some 153) (.pointer (some ⟨Bs, 3, none⟩)) rfl rfl (fun w' => by go_simp) ?_
        try simp only [Act.put, kA, kB, kC]
        refine kv2 3 (some 154) (.slice L.a3.A L.a3.n L.a3.c) rfl rfl (fun w' hSw => by have c9 : w'.cell? ⟨Bs, 3, none⟩ = some (.slice L.a3.A L.a3.n L.a3.c) := Blk.cell (w := w') hSw.2.1 3; go_simp) ?_
        try simp only [Act.put, kA, kB, kC]
        refine ka2 4 (some 155) (.pointer (some ⟨Be, 0, none⟩)) rfl rfl (fun w' => by go_simp) ?_
        try simp only [Act.put, kA, kB, kC]
        refine kv2 5 (some 156) (.int .i64 e.p) rfl rfl (fun w' hSw => by have c9 : w'.cell? ⟨Be, 0, none⟩ = some (.int .i64 e.p) := Blk.cell (w := w') hSw.1 0; go_simp) ?_
        try simp only [Act.put, kA, kB, kC]
        refine ka2 7 (some 158) (.pointer (some ⟨Bs, 2, none⟩)) rfl rfl (fun w' => by go_simp) ?_
        try simp only [Act.put, kA, kB, kC]
        refine kv2 8 (some 159) (.slice L.a2.A L.a2.n L.a2.c) rfl rfl (fun w' hSw => by have c9 : w'.cell? ⟨Bs, 2, none⟩ = some (.slice L.a2.A L.a2.n L.a2.c) := Blk.cell (w := w') hSw.2.1 2; go_simp) ?_
        try simp only [Act.put, kA, kB, kC]
        refine ka2 9 (some 160) (.pointer (some ⟨Be, 1, none⟩)) rfl rfl (fun w' => by go_simp) ?_
        try simp only [Act.put, kA, kB, kC]
        refine kv2 10 (some 161) (.int .i64 e.o) rfl rfl (fun w' hSw => by have c9 : w'.cell? ⟨Be, 1, none⟩ = some (.int .i64 e.o) := Blk.cell (w := w') hSw.1 1; go_simp) ?_
        try simp only [Act.put, kA, kB, kC]
        refine ka2 12 (some 163) (.pointer (some ⟨Be, 2, none⟩)) rfl rfl (fun w' => by go_simp) ?_
        try simp only [Act.put, kA, kB, kC]
        refine kv2 13 (some 164) (.bool g.fi) rfl rfl (fun w' hSw => by have c9 : w'.cell? ⟨Be, 2, none⟩ = some (.bool g.fi) := Blk.cell (w := w') hSw.1 2; go_simp) ?_
        try simp only [Act.put, kA, kB, kC]
        refine ka2 14 (some 165) (.pointer (some ⟨Bs, 0, none⟩)) rfl rfl (fun w' => by go_simp) ?_
        try simp only [Act.put, kA, kB, kC]
        refine kv2 15 (some 166) (.slice L.a0.A L.a0.n L.a0.c) rfl rfl (fun w' hSw => by have c9 : w'.cell? ⟨Bs, 0, none⟩ = some (.slice L.a0.A L.a0.n L.a0.c) := Blk.cell (w := w') hSw.2.1 0; go_simp) ?_
        try simp only [Act.put, kA, kB, kC]
        refine ka2 16 (some 167) (.pointer (some ⟨Be, 3, none⟩)) rfl rfl (fun w' => by go_simp) ?_
        try simp only [Act.put, kA, kB, kC]
        refine kv2 17 (some 168) (.slice hd.A hd.n hd.c) rfl rfl (fun w' hSw => by have c9 : w'.cell? ⟨Be, 3, none⟩ = some (.slice hd.A hd.n hd.c) := Blk.cell (w := w') hSw.1 3; go_simp) ?_
        try simp only [Act.put, kA, kB, kC]
        refine kr2 [6] ?_
        refine kc rfl (fun K hK => ?_) kn
        go_simp
        refine (HN.out.at_ RD.out.below HRL.out (s := 3) (by omega) HXP.out HYP.out).mono ?_
        rintro _ u ⟨rfl, hw⟩
        obtain rfl := hw.symm
        clear hHeld
        go_simp
        refine hK.out _ _ ⟨RD.out.be, (HN.out.on RD.out.below).bs, (HN.out.on RD.out.below).cp.b3.cell 6⟩ (fun hHeld => ?_)
        clear hK K
        try simp only [Act.put, kA, kB, kC]
        refine kr2 [11] ?_
        refine kc rfl (fun K hK => ?_) kn
        go_simp
        refine (HN.out.at_ RD.out.below HRL.out (s := 2) (by omega) HXO.out HYO.out).mono ?_
        rintro _ u ⟨rfl, hw⟩
        obtain rfl := hw.symm
        clear hHeld
        go_simp
        refine hK.out _ _ ⟨RD.out.be, (HN.out.on RD.out.below).bs, (HN.out.on RD.out.below).cp.b3.cell 6⟩ (fun hHeld => ?_)
        clear hK K
        try simp only [Act.put, kA, kB, kC]
        refine kr2 [18] ?_
        refine kc rfl (fun K hK => ?_) kn
        go_simp
        have bw := HN.out.cp.below.trans (RD.out.below.mono HN.out.cp.below.size)
        refine (HN.out.places RD.out.below HRL.out (q := hd.n) (by omega) HXT.out HYT.out ((HRS.out.below bw).more bw.size)).mono ?_
        rintro _ w5 ⟨A5, c5, rfl, ho5, hb5⟩
        have HS5 := Lib.hid (own_mono ho5 RD.out.below.size)
        have RD := Lib.hid (RD.out.on hb5)
        clear bw ho5 hb5 hHeld
        go_simp
        refine hK.out _ _ ⟨RD.out.be, (HN.out.on RD.out.below).bs, (HN.out.on RD.out.below).cp.b3.cell 6⟩ (fun hHeld => ?_)
        clear hK K
        try simp only [Act.put, kA, kB, kC]
        refine ka2 19 (some 170) (.agg #[.int .i64 g.p, .int .i64 g.o, .bool g.fi, .slice A5 hd.n c5]) rfl rfl (fun w' => by go_simp) ?_
        try simp only [Act.put, kA, kB, kC]
        refine kr2 [20] ?_
        refine kc rfl (fun K hK => ?_) kn
        go_simp
        have hal := (Below.refl _ w5).alloc (Nat.le_refl _) (.cells #[.int .i64 g.p, .int .i64 g.o, .bool g.fi, .slice A5 hd.n c5] 64)
        have RD := Lib.hid (RD.out.on hal)
        have HS5 := Lib.hid (own_on HS5.out hal)
        have SL := Lib.hid (lit_of w5 64 4 (maCs (g, ⟨A5, hd.n, c5⟩)) #[.int .i64 g.p, .int .i64 g.o, .bool g.fi, .slice A5 hd.n c5] rfl rfl)
        clear hal hHeld
        refine hK.out _ _ ⟨RD.out.be, (HN.out.on RD.out.below).bs, (HN.out.on RD.out.below).cp.b3.cell 6⟩ (fun hHeld => ?_)
        clear hK K
        try simp only [Act.put, kA, kB, kC]
        generalize w5.alloc (.cells #[.int .i64 g.p, .int .i64 g.o, .bool g.fi, .slice A5 hd.n c5] 64) = ua at *
        generalize w5.heap.size = XS at *
        refine kr2 [21] ?_
        refine kc (o := { dst := some 172, op := Op.call { callee := Callee.builtin Builtin.append, args := #[Operand.tmp 152, Operand.tmp 171], argTypes := #[25, 25] }, type := 25, pos := "ref.go:304", after := #[{ on := 1, ground := Ground.data }, { on := 20, ground := Ground.data }, { on := 18, ground := Ground.chain }], guard := none }) rfl (fun K hK => ?_) kn
        have OWN := Lib.hid (HN.out.on RD.out.below).cp
        refine step_append_any _ rfl (.tmp 152) (.tmp 171) 25 rfl w.heap.size 64 k0 _ 4 48 Tryz.underlying25 hk hk0 hk1 hk2 rfl (by decide) (.slice h.ma.1.A h.ma.1.n h.ma.1.c) h.ma.1.n _ rfl OWN.out.ma _ (some ⟨XS, 0, none⟩) 1 _ (maCs (g, ⟨A5, hd.n, c5⟩)) rfl SL.out (maCs_one _) (by unfold maxLen; omega) (by omega) OWN.out.below.size ?_
        intro v' w6 hown hgrow hat; obtain ⟨A6, c6, rfl, -, -⟩ := own_form2 hown
        obtain ⟨hb6, hf6⟩ := HN.out.ma HE.out RD.out.below HGE.out HS5.out hown hgrow
        have KE6 := Lib.hid (RD.out.grown HN.out.cp.ma hgrow)
        have KS6 := Lib.hid ((KeepT.grown OWN.out.ma hgrow).blk (HN.out.on RD.out.below).bs (by decide))
        have KB6 := Lib.hid hb6
        have HF6 := Lib.hid hf6
        clear hown hgrow hat hb6 hf6 hHeld
        refine hK.out _ _ ⟨KE6.out, KS6.out, KB6.out.cell 6⟩ (fun hHeld => ?_)
        clear hK K
        try simp only [Act.put, kA, kB, kC]
        refine ka2 22 (some 173) (.pointer (some ⟨B3, 6, none⟩)) rfl rfl (fun w' => by go_simp) ?_
        try simp only [Act.put, kA, kB, kC]
        refine kr2 [23] ?_
        refine kz (o := { dst := none, op := Op.store 25 (Operand.tmp 173) (Operand.tmp 172), type := 0, pos := "ref.go:304", after := #[{ on := 22, ground := Ground.data }, { on := 21, ground := Ground.data }, { on := 21, ground := Ground.chain }, { on := 0, ground := Ground.phase }, { on := 1, ground := Ground.phase }, { on := 2, ground := Ground.phase }, { on := 3, ground := Ground.phase }, { on := 4, ground := Ground.phase }, { on := 5, ground := Ground.phase }, { on := 6, ground := Ground.phase }, { on := 7, ground := Ground.phase }, { on := 8, ground := Ground.phase }, { on := 9, ground := Ground.phase }, { on := 10, ground := Ground.phase }, { on := 11, ground := Ground.phase }, { on := 12, ground := Ground.phase }, { on := 13, ground := Ground.phase }, { on := 14, ground := Ground.phase }, { on := 15, ground := Ground.phase }, { on := 16, ground := Ground.phase }, { on := 17, ground := Ground.phase }, { on := 18, ground := Ground.phase }, { on := 19, ground := Ground.phase }, { on := 20, ground := Ground.phase }, { on := 21, ground := Ground.phase }], guard := none }) rfl (fun K hK => ?_)
        have y5 := KB6.out.cell 6
        have f5 := KB6.out.frozen 6
        go_simp
        clear KE6 KS6 KB6 OWN SL y5 f5 hHeld
        refine hK.out _ _ ?_
        clear hK K
        try simp only [Act.put]
        refine kd (by kernel_rfl) ?_ _
        refine NoPanic.normal ?_
        go_wp2_with fail
        go_roundw
        case rel => exact ⟨i + 1, _, hin, by go_num, HF6⟩
        case measure => simp [intOf]; omega
       ·have hie : i = m.ma.1.n := by omega
        rw [hie] at HN ⊢
        clear hie hi0 hin
        obtain ⟨K, hIE⟩ : ∃ I, m.ma.1.n = I := ⟨_, rfl⟩
        have HKE := Lib.hid hIE
        have HN : Hid (NuX Bh B3 Bs w m h L wr I J K 0) := by rw [← hIE]; exact HN.out
        clear hIE
        have z5 : wr.cell? ⟨Bh, 7, none⟩ = some (.slice m.wa.1.A m.wa.1.n m.wa.1.c) := HN.out.bh.cell 7
        have hnwa : m.wa.1.n ≤ 60 := HNN.out.2.2.2
        go_wp2_with fail
        rename World => wwa
        clear z5
        go_loopw [178] (fun v wr => ∃ (i : Nat) (h : HistM), i ≤ m.wa.1.n ∧ v = .int .i64 i ∧ Hid (NuX Bh B3 Bs w m h L wr I J K i)) (fun v _ => m.wa.1.n - (intOf v).toNat)
        case atStart => exact ⟨0, h, Nat.zero_le _, rfl, HN⟩
        case round =>
         clear HN
         obtain ⟨i, h, hi0, rfl, HN⟩ := hrel
         by_cases hin : i < m.wa.1.n
         ·have hlt : (i : Int) < (m.wa.1.n : Int) := by omega
          obtain ⟨e, hs⟩ : ∃ p, m.wa.2[i]? = some p := ⟨m.wa.2[i]'(by rw [HFIT.out.wa.1]; exact hin), List.getElem?_eq_getElem _⟩
          have HE : Hid (m.pl.wa[i]? = some e) := by show m.pl.wa[i]? = _; unfold HistM.pl; simp [hs]
          obtain ⟨b, o, hA, hbl, hc⟩ := row_cells waCs_len (by omega) (HM.out.wa.below HN.out.cp.below) hs
          have c0 : wr.cell? ⟨b, o + i * 2, none⟩ = some (.int .i64 e.s) := hc 0 _ rfl
          have c1 : wr.cell? ⟨b, o + i * 2 + 1, none⟩ = some (.int .i64 e.b) := hc 1 _ rfl
          have HIN := Lib.hid (in_wa HE.out)
          obtain ⟨g, hg⟩ : ∃ g, reW (anewI (refs m.pl)) e = g := ⟨_, rfl⟩
          have HGE : Hid (reW (anewI (refs m.pl)) e = ⟨g.s, e.b⟩) := by show _ = _; rw [← hg]; rfl
          have HXS : Hid ((1, e.s) ∈ (refs m.pl)) := HIN.out _ (List.mem_cons_self ..)
          have HYS : Hid (anewI (refs m.pl) 1 e.s = g.s) := by show _ = _; rw [← hg]; rfl
          have RD : Hid (RdE 67 wr.heap.size #[.int .i64 e.s, .int .i64 e.b] wr (wr.alloc (.cells #[.int .i64 e.s, .int .i64 e.b] 67))) := RdE.new
          have HA0 := Lib.hid hA
          rw [hA]
          clear hs hc hbl hA hg
          have hn4 : h.wa.1.n ≤ 60 := Nat.le_trans HN.out.lens.2.2.2 (by omega)
          go_upto_region 35 with fail
          clear c0 c1
          generalize (wr.alloc (.cells #[.int .i64 e.s, .int .i64 e.b] 67)) = W1 at *
          obtain ⟨Be, hBe⟩ : ∃ Be, Be = wr.heap.size := ⟨_, rfl⟩
          have RD : Hid (RdE 67 Be #[.int .i64 e.s, .int .i64 e.b] wr W1) := by rw [hBe]; exact RD.out
          rw [← hBe]
          clear hBe
          refine wp_region_noPanic ?_
          refine wp_region_K (S := fun W => Blk W Be 67 #[.int .i64 e.s, .int .i64 e.b] ∧ Blk W Bs 77 L.cs ∧ W.cell? ⟨B3, 7, none⟩ = some (.slice h.wa.1.A h.wa.1.n h.wa.1.c)) 13 (by kernel_rfl) ⟨RD.out.be.drew, Blk.drew (HN.out.on RD.out.below).bs, (Blk.cell (Blk.drew (HN.out.on RD.out.below).cp.b3) 7)⟩ (fun hHeld => ?_)
          have RD := Lib.hid (RD.out.on (Below.refl _ _).drew)
          generalize W1.drew = wd at *
          refine ka2 0 (some 182) (.pointer (some ⟨B3, 7, none⟩)) rfl rfl (fun w' => by go_simp) ?_
          try simp only [Act.put, kA, kB, kC]
          refine kv2 1 (some 183) (.slice h.wa.1.A h.wa.1.n h.wa.1.c) rfl rfl (fun w' hSw => by have c9 : w'.cell? ⟨B3, 7, none⟩ = some (.slice h.wa.1.A h.wa.1.n h.wa.1.c) := hSw.2.2; go_simp) ?_
          try simp only [Act.put, kA, kB, kC]
          refine ka2 2 (some 184) (.pointer (some ⟨Bs, 1, none⟩)) rfl rfl (fun w' => by go_simp) ?_
          try simp only [Act.put, kA, kB, kC]
          refine kv2 3 (some 185) (.slice L.a1.A L.a1.n L.a1.c) rfl rfl (fun w' hSw => by have c9 : w'.cell? ⟨Bs, 1, none⟩ = some (.slice L.a1.A L.a1.n L.a1.c) := Blk.cell (w := w') hSw.2.1 1; go_simp) ?_
          try simp only [Act.put, kA, kB, kC]
          refine ka2 4 (some 186) (.pointer (some ⟨Be, 0, none⟩)) rfl rfl (fun w' => by go_simp) ?_
          try simp only [Act.put, kA, kB, kC]
          refine kv2 5 (some 187) (.int .i64 e.s) rfl rfl (fun w' hSw => by have c9 : w'.cell? ⟨Be, 0, none⟩ = some (.int .i64 e.s) := Blk.cell (w := w') hSw.1 0; go_simp) ?_
          try simp only [Act.put, kA, kB, kC]
          refine ka2 7 (some 189) (.pointer (some ⟨Be, 1, none⟩)) rfl rfl (fun w' => by go_simp) ?_
          try simp only [Act.put, kA, kB, kC]
          refine kv2 8 (some 190) (.int .i64 e.b) rfl rfl (fun w' hSw => by have c9 : w'.cell? ⟨Be, 1, none⟩ = some (.int .i64 e.b) := Blk.cell (w := w') hSw.1 1; go_simp) ?_
          try simp only [Act.put, kA, kB, kC]
          refine kr2 [6] ?_
          refine kc rfl (fun K hK => ?_) kn
          go_simp
          refine (HN.out.at_ RD.out.below HRL.out (s := 1) (by omega) HXS.out HYS.out).mono ?_
          rintro _ u ⟨rfl, hw⟩
          obtain rfl := hw.symm
          clear hHeld
          go_simp
          refine hK.out _ _ ⟨RD.out.be, (HN.out.on RD.out.below).bs, (HN.out.on RD.out.below).cp.b3.cell 7⟩ (fun hHeld => ?_)
          clear hK K
          try simp only [Act.put, kA, kB, kC]
          refine ka2 9 (some 191) (.agg #[.int .i64 g.s, .int .i64 e.b]) rfl rfl (fun w' => by go_simp) ?_
          try simp only [Act.put, kA, kB, kC]
          refine kr2 [10] ?_
          refine kc rfl (fun K hK => ?_) kn
          go_simp
          have hal := (Below.refl _ wd).alloc (Nat.le_refl _) (.cells #[.int .i64 g.s, .int .i64 e.b] 67)
          have RD := Lib.hid (RD.out.on hal)
          have SL := Lib.hid (lit_of wd 67 2 (waCs ⟨g.s, e.b⟩) #[.int .i64 g.s, .int .i64 e.b] rfl rfl)
          clear hal hHeld
          refine hK.out _ _ ⟨RD.out.be, (HN.out.on RD.out.below).bs, (HN.out.on RD.out.below).cp.b3.cell 7⟩ (fun hHeld => ?_)
          clear hK K
          try simp only [Act.put, kA, kB, kC]
          generalize wd.alloc (.cells #[.int .i64 g.s, .int .i64 e.b] 67) = ua at *
          generalize wd.heap.size = XS at *
          refine kr2 [11] ?_
          refine kc (o := { dst := some 193, op := Op.call { callee := Callee.builtin Builtin.append, args := #[Operand.tmp 183, Operand.tmp 192], argTypes := #[26, 26] }, type := 26, pos := "ref.go:307", after := #[{ on := 1, ground := Ground.data }, { on := 10, ground := Ground.data }, { on := 6, ground := Ground.chain }], guard := none }) rfl (fun K hK => ?_) kn
          have OWN := Lib.hid (HN.out.on RD.out.below).cp
          refine step_append_any _ rfl (.tmp 183) (.tmp 192) 26 rfl w.heap.size 67 l0 _ 2 16 Tryz.underlying26 hl hl0 hl1 hl2 rfl (by decide) (.slice h.wa.1.A h.wa.1.n h.wa.1.c) h.wa.1.n _ rfl OWN.out.wa _ (some ⟨XS, 0, none⟩) 1 _ (waCs ⟨g.s, e.b⟩) rfl SL.out (waCs_one _) (by unfold maxLen; omega) (by omega) OWN.out.below.size ?_
          intro v' w6 hown hgrow hat; obtain ⟨A6, c6, rfl, -, -⟩ := own_form2 hown
          obtain ⟨hb6, hf6⟩ := HN.out.wa HE.out RD.out.below HGE.out hown hgrow
          have KE6 := Lib.hid (RD.out.grown HN.out.cp.wa hgrow)
          have KS6 := Lib.hid ((KeepT.grown OWN.out.wa hgrow).blk (HN.out.on RD.out.below).bs (by decide))
          have KB6 := Lib.hid hb6
          have HF6 := Lib.hid hf6
          clear hown hgrow hat hb6 hf6 hHeld
          refine hK.out _ _ ⟨KE6.out, KS6.out, KB6.out.cell 7⟩ (fun hHeld => ?_)
          clear hK K
          try simp only [Act.put, kA, kB, kC]
          refine ka2 12 (some 194) (.pointer (some ⟨B3, 7, none⟩)) rfl rfl (fun w' => by go_simp) ?_
          try simp only [Act.put, kA, kB, kC]
          refine kr2 [13] ?_
          refine kz (o := { dst := none, op := Op.store 26 (Operand.tmp 194) (Operand.tmp 193), type := 0, pos := "ref.go:307", after := #[{ on := 12, ground := Ground.data }, { on := 11, ground := Ground.data }, { on := 11, ground := Ground.chain }, { on := 0, ground := Ground.phase }, { on := 1, ground := Ground.phase }, { on := 2, ground := Ground.phase }, { on := 3, ground := Ground.phase }, { on := 4, ground := Ground.phase }, { on := 5, ground := Ground.phase }, { on := 6, ground := Ground.phase }, { on := 7, ground := Ground.phase }, { on := 8, ground := Ground.phase }, { on := 9, ground := Ground.phase }, { on := 10, ground := Ground.phase }, { on := 11, ground := Ground.phase }], guard := none }) rfl (fun K hK => ?_)
          have y5 := KB6.out.cell 7
          have f5 := KB6.out.frozen 7
          go_simp
          clear KE6 KS6 KB6 OWN SL y5 f5 hHeld
          refine hK.out _ _ ?_
          clear hK K
          try simp only [Act.put]
          refine kd (by kernel_rfl) ?_ _
          refine NoPanic.normal ?_
          go_wp2_with fail
          go_roundw
          case rel => exact ⟨i + 1, _, hin, by go_num, HF6⟩
          case measure => simp [intOf]; omega
         ·have hie : i = m.wa.1.n := by omega
          rw [hie] at HN ⊢
          clear hie hi0 hin
          obtain ⟨O, hIE⟩ : ∃ I, m.wa.1.n = I := ⟨_, rfl⟩
          have HOE := Lib.hid hIE
          have HN : Hid (NuX Bh B3 Bs w m h L wr I J K O) := by rw [← hIE]; exact HN.out
          clear hIE
          obtain ⟨z0, z1, z2, z3, z4, z5, z6, z7⟩ := c8 HN.out.cp.b3
          obtain ⟨u0, u1, u2, u3, u4, u5, u6, u7⟩ := c8 HN.out.cp.br
          have g0 := HN.out.cp.br.frozen 0
          have g1 := HN.out.cp.br.frozen 1
          have g2 := HN.out.cp.br.frozen 2
          have g3 := HN.out.cp.br.frozen 3
          have g4 := HN.out.cp.br.frozen 4
          have g5 := HN.out.cp.br.frozen 5
          have g6 := HN.out.cp.br.frozen 6
          have g7 := HN.out.cp.br.frozen 7
          have HPL : Hid (h.pl = numP m.pl) := HN.out.st.all (by rw [← HIE.out, ← HFIT.out.ev.1]; unfold HistM.pl; simp) (by rw [← HJE.out, ← HFIT.out.od.1]; unfold HistM.pl; simp) (by rw [← HKE.out, ← HFIT.out.ma.1]; unfold HistM.pl; simp) (by rw [← HOE.out, ← HFIT.out.wa.1]; rfl)
          have HD : Hid (HOwn w.heap.size wr h) := HN.out.cp.done
          have HB := Lib.hid HN.out.cp.below
          have KR := Lib.hid HN.out.cp.br
          have HNE := Lib.hid HN.out.cp.ne
          go_wp2_with fail
          clear z0 u0 g0 z1 u1 g1 z2 u2 g2 z3 u3 g3 z4 u4 g4 z5 u5 g5 z6 u6 g6 z7 u7 g7
          have FL := Lib.hid (fill8 KR.out (.slice h.tr.1.A h.tr.1.n h.tr.1.c) (.slice h.se.1.A h.se.1.n h.se.1.c) (.slice h.ob.1.A h.ob.1.n h.ob.1.c) (.slice h.pr.1.A h.pr.1.n h.pr.1.c) (.slice h.ev.1.A h.ev.1.n h.ev.1.c) (.slice h.od.1.A h.od.1.n h.od.1.c) (.slice h.ma.1.A h.ma.1.n h.ma.1.c) (.slice h.wa.1.A h.wa.1.n h.wa.1.c))
          have HOF := Lib.hid (HD.out.keepT (FL.out.2.1 (fun j => ∀ cs, ¬ Blk wr j 28 cs) (fun h => h _ KR.out)) (by decide) (by decide) (by decide) (by decide) (by decide) (by decide) (by decide))
          have HBF := Lib.hid (FL.out.2.2 w HB.out (Nat.le_succ_of_le HNE.out.2.2.2))
          have kf := FL.out.1
          clear FL HD HB KR
          generalize ((((((((wr.setCell ⟨Bh + 1, 0, none⟩ (.slice h.tr.1.A h.tr.1.n h.tr.1.c)).setCell ⟨Bh + 1, 1, none⟩ (.slice h.se.1.A h.se.1.n h.se.1.c)).setCell ⟨Bh + 1, 2, none⟩ (.slice h.ob.1.A h.ob.1.n h.ob.1.c)).setCell ⟨Bh + 1, 3, none⟩ (.slice h.pr.1.A h.pr.1.n h.pr.1.c)).setCell ⟨Bh + 1, 4, none⟩ (.slice h.ev.1.A h.ev.1.n h.ev.1.c)).setCell ⟨Bh + 1, 5, none⟩ (.slice h.od.1.A h.od.1.n h.od.1.c)).setCell ⟨Bh + 1, 6, none⟩ (.slice h.ma.1.A h.ma.1.n h.ma.1.c)).setCell ⟨Bh + 1, 7, none⟩ (.slice h.wa.1.A h.wa.1.n h.wa.1.c)) = wf at *
          obtain ⟨r0, r1, r2, r3, r4, r5, r6, r7⟩ := c8 kf
          exact bodyPost_ret (v := .agg #[.slice h.tr.1.A h.tr.1.n h.tr.1.c, .slice h.se.1.A h.se.1.n h.se.1.c, .slice h.ob.1.A h.ob.1.n h.ob.1.c, .slice h.pr.1.A h.pr.1.n h.pr.1.c, .slice h.ev.1.A h.ev.1.n h.ev.1.c, .slice h.od.1.A h.od.1.n h.od.1.c, .slice h.ma.1.A h.ma.1.n h.ma.1.c, .slice h.wa.1.A h.wa.1.n h.wa.1.c]) (by simp [results, Tryz.results17, go_sem, r0, r1, r2, r3, r4, r5, r6, r7]) rfl ⟨h, rfl, HOF.out, HPL.out, HBF.out⟩
end Go.Proofs.YtlnbmmaminflcaaGreatDoor
namespace Go.Proofs.YtlnbmmaminflcaaGreatDoor
open Go.RowKit Go.Shelf

def emptyN : HistM := ⟨(⟨none, 0, 0⟩, []), (⟨none, 0, 0⟩, []), (⟨none, 0, 0⟩, []), (⟨none, 0, 0⟩, []), (⟨none, 0, 0⟩, []), (⟨none, 0, 0⟩, []), (⟨none, 0, 0⟩, []), (⟨none, 0, 0⟩, [])⟩
theorem empty_rdN (X : World) (B : Nat) : HRd X B emptyN := ⟨Reads.none_, Reads.none_, Reads.none_, Reads.none_, Reads.none_, Reads.none_, Reads.none_, Reads.none_, fun _ h => by simp [emptyN] at h, fun _ h => by simp [emptyN] at h, fun _ h => by simp [emptyN] at h⟩
theorem empty_smallN : Small emptyH := lit_small (by decide +kernel)

set_option maxRecDepth 100000 in
set_option maxHeartbeats 8000000 in
theorem nums_core (m : HistM) (w : World) (hT : Tabs w) (ha : HArg w m) : Calls Tryz.prog 4 #[.agg #[.slice m.tr.1.A m.tr.1.n m.tr.1.c, .slice m.se.1.A m.se.1.n m.se.1.c, .slice m.ob.1.A m.ob.1.n m.ob.1.c, .slice m.pr.1.A m.pr.1.n m.pr.1.c, .slice m.ev.1.A m.ev.1.n m.ev.1.c, .slice m.od.1.A m.od.1.n m.od.1.c, .slice m.ma.1.A m.ma.1.n m.ma.1.c, .slice m.wa.1.A m.wa.1.n m.wa.1.c]] w fun x w' => x = .returned (.bool true) ∧ Below w.heap.size w w' := by
 obtain ⟨kh, b0, hs0⟩ := ibox w #[.slice m.tr.1.A m.tr.1.n m.tr.1.c, .slice m.se.1.A m.se.1.n m.se.1.c, .slice m.ob.1.A m.ob.1.n m.ob.1.c, .slice m.pr.1.A m.pr.1.n m.pr.1.c, .slice m.ev.1.A m.ev.1.n m.ev.1.c, .slice m.od.1.A m.od.1.n m.od.1.c, .slice m.ma.1.A m.ma.1.n m.ma.1.c, .slice m.wa.1.A m.wa.1.n m.wa.1.c] 28
 obtain ⟨W0, hW0⟩ : ∃ W0, W0 = w.alloc (.cells #[.slice m.tr.1.A m.tr.1.n m.tr.1.c, .slice m.se.1.A m.se.1.n m.se.1.c, .slice m.ob.1.A m.ob.1.n m.ob.1.c, .slice m.pr.1.A m.pr.1.n m.pr.1.c, .slice m.ev.1.A m.ev.1.n m.ev.1.c, .slice m.od.1.A m.od.1.n m.od.1.c, .slice m.ma.1.A m.ma.1.n m.ma.1.c, .slice m.wa.1.A m.wa.1.n m.wa.1.c] 28) := ⟨_, rfl⟩
 rw [← hW0] at kh b0
 have KH : Hid (Blk W0 w.heap.size 28 m.cs) := kh
 have BW := Lib.hid b0
 have HT := Lib.hid hT
 have HARG := Lib.hid ha
 have HS := Lib.hid (few_small m.pl)
 clear kh b0 hs0 hT ha
 go_enter Tryz.func4, Tryz.ntmps4
 go_upto_region 1 with fail
 rw [← hW0]
 clear hW0
 go_wp2_with fail
 refine (wakes11_any W0 (HT.out.on BW.out (Nat.le_refl _))).mono ?_
 rintro _ W1 ⟨rfl, bb⟩
 have KH := Lib.hid (KH.out.below bb KH.out.lt)
 have BW := Lib.hid (BW.out.trans (bb.mono BW.out.size))
 clear bb
 obtain ⟨z0, z1, z2, z3, z4, z5, z6, z7⟩ := c8 KH.out
 go_wp2_with fail
 refine (few11_any m W1 (HARG.out.on BW.out)).mono ?_
 rintro _ Y ⟨h, rfl, ho, hp, bb⟩
 have hbx := HBx.new (w := w) ho BW.out.size #[.slice h.tr.1.A h.tr.1.n h.tr.1.c, .slice h.se.1.A h.se.1.n h.se.1.c, .slice h.ob.1.A h.ob.1.n h.ob.1.c, .slice h.pr.1.A h.pr.1.n h.pr.1.c, .slice h.ev.1.A h.ev.1.n h.ev.1.c, .slice h.od.1.A h.od.1.n h.od.1.c, .slice h.ma.1.A h.ma.1.n h.ma.1.c, .slice h.wa.1.A h.wa.1.n h.wa.1.c] rfl
 have b2 : Below Y.heap.size Y (Y.alloc (.cells #[.slice h.tr.1.A h.tr.1.n h.tr.1.c, .slice h.se.1.A h.se.1.n h.se.1.c, .slice h.ob.1.A h.ob.1.n h.ob.1.c, .slice h.pr.1.A h.pr.1.n h.pr.1.c, .slice h.ev.1.A h.ev.1.n h.ev.1.c, .slice h.od.1.A h.od.1.n h.od.1.c, .slice h.ma.1.A h.ma.1.n h.ma.1.c, .slice h.wa.1.A h.wa.1.n h.wa.1.c] 28)) := (Below.refl _ _).alloc (Nat.le_refl _) _
 have bb := bb.trans (b2.mono bb.size)
 have KH := Lib.hid (KH.out.below bb KH.out.lt)
 have BW := Lib.hid (BW.out.trans (bb.mono BW.out.size))
 have HPh := Lib.hid hp
 have HH := Lib.hid hbx
 clear z0 z1 z2 z3 z4 z5 z6 z7 ho hp bb b2 hbx
 go_upto_region 4 with fail
 generalize Y.alloc (.cells #[.slice h.tr.1.A h.tr.1.n h.tr.1.c, .slice h.se.1.A h.se.1.n h.se.1.c, .slice h.ob.1.A h.ob.1.n h.ob.1.c, .slice h.pr.1.A h.pr.1.n h.pr.1.c, .slice h.ev.1.A h.ev.1.n h.ev.1.c, .slice h.od.1.A h.od.1.n h.od.1.c, .slice h.ma.1.A h.ma.1.n h.ma.1.c, .slice h.wa.1.A h.wa.1.n h.wa.1.c] 28) = Xh at *
 generalize Y.heap.size = Bh at *
 have HSh : Hid (Small h.pl) := by show Small h.pl; rw [HPh.out]; exact HS.out
 obtain ⟨z0, z1, z2, z3, z4, z5, z6, z7⟩ := c8 HH.out.blk
 go_wp2_with fail
 refine (number11_any h HSh.out Xh (HT.out.on BW.out (Nat.le_refl _)) HH.out.rd).mono ?_
 rintro _ Y ⟨c, rfl, ho, hp, bb⟩
 have hbx := HBx.new (w := Xh) ho (Nat.le_refl _) #[.slice c.tr.1.A c.tr.1.n c.tr.1.c, .slice c.se.1.A c.se.1.n c.se.1.c, .slice c.ob.1.A c.ob.1.n c.ob.1.c, .slice c.pr.1.A c.pr.1.n c.pr.1.c, .slice c.ev.1.A c.ev.1.n c.ev.1.c, .slice c.od.1.A c.od.1.n c.od.1.c, .slice c.ma.1.A c.ma.1.n c.ma.1.c, .slice c.wa.1.A c.wa.1.n c.wa.1.c] rfl
 have b2 : Below Y.heap.size Y (Y.alloc (.cells #[.slice c.tr.1.A c.tr.1.n c.tr.1.c, .slice c.se.1.A c.se.1.n c.se.1.c, .slice c.ob.1.A c.ob.1.n c.ob.1.c, .slice c.pr.1.A c.pr.1.n c.pr.1.c, .slice c.ev.1.A c.ev.1.n c.ev.1.c, .slice c.od.1.A c.od.1.n c.od.1.c, .slice c.ma.1.A c.ma.1.n c.ma.1.c, .slice c.wa.1.A c.wa.1.n c.wa.1.c] 28)) := (Below.refl _ _).alloc (Nat.le_refl _) _
 have BX : Hid (Below Xh.heap.size Xh (Y.alloc (.cells #[.slice c.tr.1.A c.tr.1.n c.tr.1.c, .slice c.se.1.A c.se.1.n c.se.1.c, .slice c.ob.1.A c.ob.1.n c.ob.1.c, .slice c.pr.1.A c.pr.1.n c.pr.1.c, .slice c.ev.1.A c.ev.1.n c.ev.1.c, .slice c.od.1.A c.od.1.n c.od.1.c, .slice c.ma.1.A c.ma.1.n c.ma.1.c, .slice c.wa.1.A c.wa.1.n c.wa.1.c] 28))) := bb.trans (b2.mono bb.size)
 have HC := Lib.hid hbx
 have HPc := Lib.hid hp
 clear z0 z1 z2 z3 z4 z5 z6 z7 ho hp bb b2 hbx
 go_upto_region 5 with fail
 generalize Y.alloc (.cells #[.slice c.tr.1.A c.tr.1.n c.tr.1.c, .slice c.se.1.A c.se.1.n c.se.1.c, .slice c.ob.1.A c.ob.1.n c.ob.1.c, .slice c.pr.1.A c.pr.1.n c.pr.1.c, .slice c.ev.1.A c.ev.1.n c.ev.1.c, .slice c.od.1.A c.od.1.n c.od.1.c, .slice c.ma.1.A c.ma.1.n c.ma.1.c, .slice c.wa.1.A c.wa.1.n c.wa.1.c] 28) = Xc at *
 generalize Y.heap.size = Bc at *
 obtain ⟨z0, z1, z2, z3, z4, z5, z6, z7⟩ := c8 ((HH.out.on BX.out).blk)
 go_wp2_with fail
 refine (rshaped_any h HSh.out HH.out.own.caps Xc (HH.out.on BX.out).rd).mono ?_
 rintro _ X1 ⟨rfl, bb⟩
 clear z0 z1 z2 z3 z4 z5 z6 z7
 have HC := Lib.hid (HC.out.on bb)
 have BX := Lib.hid (BX.out.trans (bb.mono BX.out.size))
 clear bb
 cases hr : shapedB h.pl
 ·have HNE : Hid (numE h.pl = 210) := by show _ = _; unfold numE; rw [hr]; rfl
  have HPC : Hid (c.pl = emptyH) := by show c.pl = _; rw [HPc.out, if_neg (by rw [hr]; simp)]
  have HSc : Hid (Small c.pl) := by show Small c.pl; rw [HPC.out]; exact empty_smallN
  clear hr HPc
  rw [HNE.out]
  obtain ⟨z0, z1, z2, z3, z4, z5, z6, z7⟩ := c8 HC.out.blk
  go_wp2_with fail
  refine (rsame11_any c emptyN HSc.out empty_smallN X1 HC.out.rd (empty_rdN _ _)).mono ?_
  rintro _ X2 ⟨rfl, bb⟩
  clear z0 z1 z2 z3 z4 z5 z6 z7
  rw [show decide (c.pl = emptyN.pl) = true from decide_eq_true HPC.out]
  have BX := Lib.hid (BX.out.trans (bb.mono BX.out.size))
  clear bb
  go_wp2_with fail
  go_ret
  exact ⟨rfl, (BW.out.trans (BX.out.mono BW.out.size))⟩
 ·have HNE : Hid (numE h.pl = 0) := by show _ = _; unfold numE; rw [hr]; rfl
  have HSH := Lib.hid hr
  have HPC : Hid (c.pl = numP h.pl) := by show c.pl = _; rw [HPc.out, if_pos hr]
  have HSc : Hid (Small c.pl) := by show Small c.pl; rw [HPC.out]; exact num_small HSh.out HSH.out
  clear hr HPc
  rw [HNE.out]
  go_upto_region 7 with fail
  refine wp_region_noPanic ?_
  refine wp_region_K (S := fun W => Blk W Bc 28 c.cs ∧ Blk W w.heap.size 28 m.cs ∧ Blk W Bh 28 h.cs) 99 (by kernel_rfl) ⟨HC.out.blk.drew, Blk.drew (KH.out.below BX.out KH.out.lt), Blk.drew (HH.out.on BX.out).blk⟩ (fun hHeld => ?_)
  have HC := Lib.hid (HC.out.on (Below.refl _ _).drew)
  have BX := Lib.hid BX.out.drew
  generalize X1.drew = wd at *
  refine ka 0 (some 25) (.int .i64 0) rfl rfl (fun w' => by go_simp) ?_
  try simp only [Act.put, kA, kB, kC]
  refine ka 1 (some 26) (.bool false) rfl rfl (fun w' => by go_simp) ?_
  try simp only [Act.put, kA, kB, kC]
  refine ka 2 (some 27) (.bool false) rfl rfl (fun w' => by go_simp) ?_
  try simp only [Act.put, kA, kB, kC]
  refine kv 3 (some 28) (.agg #[.slice c.tr.1.A c.tr.1.n c.tr.1.c, .slice c.se.1.A c.se.1.n c.se.1.c, .slice c.ob.1.A c.ob.1.n c.ob.1.c, .slice c.pr.1.A c.pr.1.n c.pr.1.c, .slice c.ev.1.A c.ev.1.n c.ev.1.c, .slice c.od.1.A c.od.1.n c.od.1.c, .slice c.ma.1.A c.ma.1.n c.ma.1.c, .slice c.wa.1.A c.wa.1.n c.wa.1.c]) rfl rfl (fun w' hSw => by obtain ⟨q0, q1, q2, q3, q4, q5, q6, q7⟩ := (cf8 hSw.1).1; go_simp) ?_
  try simp only [Act.put, kA, kB, kC]
  refine kv 4 (some 29) (.agg #[.slice m.tr.1.A m.tr.1.n m.tr.1.c, .slice m.se.1.A m.se.1.n m.se.1.c, .slice m.ob.1.A m.ob.1.n m.ob.1.c, .slice m.pr.1.A m.pr.1.n m.pr.1.c, .slice m.ev.1.A m.ev.1.n m.ev.1.c, .slice m.od.1.A m.od.1.n m.od.1.c, .slice m.ma.1.A m.ma.1.n m.ma.1.c, .slice m.wa.1.A m.wa.1.n m.wa.1.c]) rfl rfl (fun w' hSw => by obtain ⟨q0, q1, q2, q3, q4, q5, q6, q7⟩ := (cf8 hSw.2.1).1; go_simp) ?_
  try simp only [Act.put, kA, kB, kC]
  refine kr [5] ?_
  refine kc rfl (fun K hK => ?_) kn
  go_simp
  refine (few11_any m wd (HARG.out.on (BW.out.trans (BX.out.mono BW.out.size)))).mono ?_
  rintro _ yg ⟨g, rfl, ho, hp, bb⟩
  have HOg := Lib.hid ho
  have HPg := Lib.hid hp
  have HC := Lib.hid (HC.out.on bb)
  have BX := Lib.hid (BX.out.trans (bb.mono BX.out.size))
  clear ho hp bb hHeld
  go_simp
  refine hK.out _ _ ⟨HC.out.blk, (KH.out.below BX.out KH.out.lt), (HH.out.on BX.out).blk⟩ (fun hHeld => ?_)
  clear hK K
  try simp only [Act.put, kA, kB, kC]
  refine kr [6] ?_
  refine kc rfl (fun K hK => ?_) kn
  go_simp
  refine (rnumber11_any g (by rw [HPg.out]; exact HS.out) (by rw [HPg.out, ← HPh.out]; exact HSH.out) yg HOg.out.rd).mono ?_
  rintro _ yn ⟨n, rfl, ho, hp, bb⟩
  have HOn := Lib.hid ho
  have HPn : Hid (n.pl = c.pl) := by show n.pl = _; rw [hp, HPC.out, HPg.out, HPh.out]
  have HC := Lib.hid (HC.out.on bb)
  have BX := Lib.hid (BX.out.trans (bb.mono BX.out.size))
  clear ho hp bb hHeld
  go_simp
  refine hK.out _ _ ⟨HC.out.blk, (KH.out.below BX.out KH.out.lt), (HH.out.on BX.out).blk⟩ (fun hHeld => ?_)
  clear hK K
  try simp only [Act.put, kA, kB, kC]
  refine kr [7] ?_
  refine kc rfl (fun K hK => ?_) kn
  go_simp
  refine (rsame11_any c n HSc.out (by rw [HPn.out]; exact HSc.out) yn HC.out.rd HOn.out.rd).mono ?_
  rintro e9 y1 ⟨he9, bb⟩
  obtain rfl : e9 = .returned (.bool true) := by rw [he9, show decide (c.pl = n.pl) = true from decide_eq_true HPn.out.symm]
  have HC := Lib.hid (HC.out.on bb)
  have BX := Lib.hid (BX.out.trans (bb.mono BX.out.size))
  clear he9 bb hHeld
  go_simp
  refine hK.out _ _ ⟨HC.out.blk, (KH.out.below BX.out KH.out.lt), (HH.out.on BX.out).blk⟩ (fun hHeld => ?_)
  clear hK K
  try simp only [Act.put, kA, kB, kC]
  refine ka 8 (some 33) (.bool false) rfl rfl (fun w' => by go_simp) ?_
  try simp only [Act.put, kA, kB, kC]
  refine ka 9 (some 34) (.bool false) rfl rfl (fun w' => by go_simp) ?_
  try simp only [Act.put, kA, kB, kC]
  refine ka 10 (some 35) (.bool false) rfl rfl (fun w' => by go_simp) ?_
  try simp only [Act.put, kA, kB, kC]
  refine kv 11 (some 36) (.agg #[.slice h.tr.1.A h.tr.1.n h.tr.1.c, .slice h.se.1.A h.se.1.n h.se.1.c, .slice h.ob.1.A h.ob.1.n h.ob.1.c, .slice h.pr.1.A h.pr.1.n h.pr.1.c, .slice h.ev.1.A h.ev.1.n h.ev.1.c, .slice h.od.1.A h.od.1.n h.od.1.c, .slice h.ma.1.A h.ma.1.n h.ma.1.c, .slice h.wa.1.A h.wa.1.n h.wa.1.c]) rfl rfl (fun w' hSw => by obtain ⟨q0, q1, q2, q3, q4, q5, q6, q7⟩ := (cf8 hSw.2.2).1; go_simp) ?_
  try simp only [Act.put, kA, kB, kC]
  refine kv 12 (some 37) (.agg #[.slice m.tr.1.A m.tr.1.n m.tr.1.c, .slice m.se.1.A m.se.1.n m.se.1.c, .slice m.ob.1.A m.ob.1.n m.ob.1.c, .slice m.pr.1.A m.pr.1.n m.pr.1.c, .slice m.ev.1.A m.ev.1.n m.ev.1.c, .slice m.od.1.A m.od.1.n m.od.1.c, .slice m.ma.1.A m.ma.1.n m.ma.1.c, .slice m.wa.1.A m.wa.1.n m.wa.1.c]) rfl rfl (fun w' hSw => by obtain ⟨q0, q1, q2, q3, q4, q5, q6, q7⟩ := (cf8 hSw.2.1).1; go_simp) ?_
  try simp only [Act.put, kA, kB, kC]
  refine kr [13] ?_
  refine kc rfl (fun K hK => ?_) kn
  go_simp
  refine (few11_any m y1 (HARG.out.on (BW.out.trans (BX.out.mono BW.out.size)))).mono ?_
  rintro _ yk ⟨k, rfl, ho, hp, bb⟩
  have HOk := Lib.hid ho
  have HPk := Lib.hid hp
  have HC := Lib.hid (HC.out.on bb)
  have BX := Lib.hid (BX.out.trans (bb.mono BX.out.size))
  clear ho hp bb hHeld
  go_simp
  refine hK.out _ _ ⟨HC.out.blk, (KH.out.below BX.out KH.out.lt), (HH.out.on BX.out).blk⟩ (fun hHeld => ?_)
  clear hK K
  try simp only [Act.put, kA, kB, kC]
  refine kr [14] ?_
  refine kc rfl (fun K hK => ?_) kn
  go_simp
  refine (rsame11_any h k HSh.out (by rw [HPk.out]; exact HS.out) yk (HH.out.on BX.out).rd HOk.out.rd).mono ?_
  rintro e9 y2 ⟨he9, bb⟩
  obtain rfl : e9 = .returned (.bool true) := by rw [he9, show decide (h.pl = k.pl) = true from decide_eq_true (HPh.out.trans HPk.out.symm)]
  have HC := Lib.hid (HC.out.on bb)
  have BX := Lib.hid (BX.out.trans (bb.mono BX.out.size))
  clear he9 bb hHeld
  go_simp
  refine hK.out _ _ ⟨HC.out.blk, (KH.out.below BX.out KH.out.lt), (HH.out.on BX.out).blk⟩ (fun hHeld => ?_)
  clear hK K
  try simp only [Act.put, kA, kB, kC]
  refine ka 15 (some 40) (.bool false) rfl rfl (fun w' => by go_simp) ?_
  try simp only [Act.put, kA, kB, kC]
  refine ka 16 (some 41) (.bool false) rfl rfl (fun w' => by go_simp) ?_
  try simp only [Act.put, kA, kB, kC]
  refine kd (by kernel_rfl) ?_ _
  refine NoPanic.normal ?_
  go_upto_region 9 with fail
  obtain ⟨z0, z1, z2, z3, z4, z5, z6, z7⟩ := c8 HC.out.blk
  go_wp2_with fail
  refine (spoil11_any Xh.heap.size c HSc.out y2 BX.out.size HC.out.own).mono ?_
  rintro _ X5 ⟨rfl, bb⟩
  clear z0 z1 z2 z3 z4 z5 z6 z7
  have BX := Lib.hid (BX.out.trans bb)
  clear bb HC
  go_upto_region 10 with fail
  refine wp_region_noPanic ?_
  refine wp_region_K (S := fun W => Blk W Bh 28 h.cs ∧ Blk W w.heap.size 28 m.cs) 99 (by kernel_rfl) ⟨Blk.drew (HH.out.on BX.out).blk, Blk.drew (KH.out.below BX.out KH.out.lt)⟩ (fun hHeld => ?_)
  have BX := Lib.hid BX.out.drew
  generalize X5.drew = wd at *
  refine kv 0 (some 44) (.agg #[.slice h.tr.1.A h.tr.1.n h.tr.1.c, .slice h.se.1.A h.se.1.n h.se.1.c, .slice h.ob.1.A h.ob.1.n h.ob.1.c, .slice h.pr.1.A h.pr.1.n h.pr.1.c, .slice h.ev.1.A h.ev.1.n h.ev.1.c, .slice h.od.1.A h.od.1.n h.od.1.c, .slice h.ma.1.A h.ma.1.n h.ma.1.c, .slice h.wa.1.A h.wa.1.n h.wa.1.c]) rfl rfl (fun w' hSw => by obtain ⟨q0, q1, q2, q3, q4, q5, q6, q7⟩ := (cf8 hSw.1).1; go_simp) ?_
  try simp only [Act.put, kA, kB, kC]
  refine kv 1 (some 45) (.agg #[.slice m.tr.1.A m.tr.1.n m.tr.1.c, .slice m.se.1.A m.se.1.n m.se.1.c, .slice m.ob.1.A m.ob.1.n m.ob.1.c, .slice m.pr.1.A m.pr.1.n m.pr.1.c, .slice m.ev.1.A m.ev.1.n m.ev.1.c, .slice m.od.1.A m.od.1.n m.od.1.c, .slice m.ma.1.A m.ma.1.n m.ma.1.c, .slice m.wa.1.A m.wa.1.n m.wa.1.c]) rfl rfl (fun w' hSw => by obtain ⟨q0, q1, q2, q3, q4, q5, q6, q7⟩ := (cf8 hSw.2).1; go_simp) ?_
  try simp only [Act.put, kA, kB, kC]
  refine kr [2] ?_
  refine kc rfl (fun K hK => ?_) kn
  go_simp
  refine (few11_any m wd (HARG.out.on (BW.out.trans (BX.out.mono BW.out.size)))).mono ?_
  rintro _ yt ⟨t, rfl, ho, hp, bb⟩
  have HOt := Lib.hid ho
  have HPt := Lib.hid hp
  have BX := Lib.hid (BX.out.trans (bb.mono BX.out.size))
  clear ho hp bb hHeld
  go_simp
  refine hK.out _ _ ⟨(HH.out.on BX.out).blk, (KH.out.below BX.out KH.out.lt)⟩ (fun hHeld => ?_)
  clear hK K
  try simp only [Act.put, kA, kB, kC]
  refine kr [3] ?_
  refine kc rfl (fun K hK => ?_) kn
  go_simp
  refine (rsame11_any h t HSh.out (by rw [HPt.out]; exact HS.out) yt (HH.out.on BX.out).rd HOt.out.rd).mono ?_
  rintro e9 y3 ⟨he9, bb⟩
  obtain rfl : e9 = .returned (.bool true) := by rw [he9, show decide (h.pl = t.pl) = true from decide_eq_true (HPh.out.trans HPt.out.symm)]
  have BX := Lib.hid (BX.out.trans (bb.mono BX.out.size))
  clear he9 bb hHeld
  go_simp
  refine hK.out _ _ ⟨(HH.out.on BX.out).blk, (KH.out.below BX.out KH.out.lt)⟩ (fun hHeld => ?_)
  clear hK K
  try simp only [Act.put, kA, kB, kC]
  refine ka 4 (some 2) (.bool true) rfl rfl (fun w' => by go_simp) ?_
  try simp only [Act.put, kA, kB, kC]
  refine kd (by kernel_rfl) ?_ _
  refine NoPanic.normal ?_
  go_wp2_with fail
  go_ret
  exact ⟨rfl, (BW.out.trans (BX.out.mono BW.out.size))⟩
end Go.Proofs.YtlnbmmaminflcaaGreatDoor
