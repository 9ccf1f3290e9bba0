/- Layer history: a history of one's own with a number put at a place: lemmas on the model alone. -/
import Derived.Test.YtlnbmmaminflcaaGreatDoorM24
-- holds: YtlnbmmaminflcaaGreatDoorVIzb
namespace Go.Proofs.YtlnbmmaminflcaaGreatDoor
open Go.RowKit Go.Shelf

structure PutP (B : Nat) (Y : World) (h h' : HistM) (k s : Nat) (v : Int) : Prop where
 own : HOwn B Y h'
 cs : h'.cs = h.cs
 nm : h'.tr = h.tr ∧ h'.se = h.se ∧ h'.ob = h.ob ∧ h'.pr = h.pr
 pl : plcs h' = plcs h
 rf : refs h'.pl = (refs h.pl).set k (s, v)
 sk : reH z0 h'.pl = reH z0 h.pl
 hd : h'.ev.2.map (·.2) = h.ev.2.map (·.2) ∧ h'.od.2.map (·.2) = h.od.2.map (·.2) ∧ h'.ma.2.map (·.2) = h.ma.2.map (·.2)
def rEv (h : HistM) : List (Nat × Int) := h.ev.2.flatMap fun p => refsE p.1
def rOd (h : HistM) : List (Nat × Int) := h.od.2.flatMap fun p => refsO p.1
def rMa (h : HistM) : List (Nat × Int) := h.ma.2.flatMap fun p => refsM p.1
def rWa (h : HistM) : List (Nat × Int) := h.wa.2.flatMap refsW
theorem refs_parts (h : HistM) : refs h.pl = rEv h ++ (rOd h ++ (rMa h ++ rWa h)) := by
 unfold refs HistM.pl rEv rOd rMa rWa
 simp only [List.flatMap_map]
theorem sk_parts {h h' : HistM} (hn : h'.tr = h.tr ∧ h'.se = h.se ∧ h'.ob = h.ob ∧ h'.pr = h.pr) (h1 : h'.ev.2.map (fun p => reE z0 p.1) = h.ev.2.map fun p => reE z0 p.1) (h2 : h'.od.2.map (fun p => reO z0 p.1) = h.od.2.map fun p => reO z0 p.1)
 (h3 : h'.ma.2.map (fun p => reM z0 p.1) = h.ma.2.map fun p => reM z0 p.1) (h4 : h'.wa.2.map (reW z0) = h.wa.2.map (reW z0)) : reH z0 h'.pl = reH z0 h.pl := by
 unfold reH HistM.pl
 simp only [List.map_map, hn.1, hn.2.1, hn.2.2.1, hn.2.2.2]
 rw [h4]
 have e1 : List.map (reE z0 ∘ fun x => x.1) h'.ev.2 = List.map (reE z0 ∘ fun x => x.1) h.ev.2 := h1
 have e2 : List.map (reO z0 ∘ fun x => x.1) h'.od.2 = List.map (reO z0 ∘ fun x => x.1) h.od.2 := h2
 have e3 : List.map (reM z0 ∘ fun x => x.1) h'.ma.2 = List.map (reM z0 ∘ fun x => x.1) h.ma.2 := h3
 rw [e1, e2, e3]
section
variable {B k s : Nat} {X : World} {h : HistM} {a : Addr}
theorem ad_own {w : World} {base sz : Nat} {t : TypeId} {hd : SH} {xs : List Value} (hr : w.ownsRow base t sz (.slice hd.A hd.n hd.c) hd.n xs) (hn : 0 < hd.n) : ∃ g, hd.A = some ⟨g, 0, none⟩ ∧ ∀ j, hd.ad j = ⟨g, j, none⟩ := by
 obtain ⟨g, hg⟩ := own_pos hr hn
 exact ⟨g, hg, fun j => by rw [SH.ad_is hg, Nat.zero_add]⟩
theorem keep_own {t : TypeId} {base sz n c g : Nat} {xs : List Value} (hr : X.ownsRow base t sz (.slice (some ⟨g, 0, none⟩) n c) n xs) (j : Nat) (u : Value) : KeepT t X (X.setCell ⟨g, j, none⟩ u) := by
 obtain ⟨_, _, cur, hb⟩ := own_in hr (g := g) rfl
 exact box_turn hb j u
def rowT (t : TypeId) : Bool := Nat.beq t 39 || (Nat.beq t 61 || (Nat.beq t 64 || (Nat.beq t 67 || (Nat.beq t 59 || Nat.beq t 3))))
def ABlk (B : Nat) (X : World) (a : Addr) : Prop := ∃ (g j : Nat) (t : TypeId) (cs : Array Value), a = ⟨g, j, none⟩ ∧ B ≤ g ∧ Blk X g t cs ∧ rowT t = true
theorem ablk {t : TypeId} {sz n c g : Nat} {xs : List Value} (hr : X.ownsRow B t sz (.slice (some ⟨g, 0, none⟩) n c) n xs) (ht : rowT t = true) (j : Nat) : ABlk B X ⟨g, j, none⟩ := by
 obtain ⟨h1, _, cur, hb⟩ := own_in hr (g := g) rfl
 exact ⟨g, j, t, cur, rfl, h1, hb, ht⟩
theorem put_ev (ho : HOwn B X h) (hk : (flatI (plE h.ev.1) 0 h.ev.2)[k]? = some (s, a)) (v : Int) : ABlk B X a ∧ ∃ h', PutP B (X.setCell a (.int .i64 v)) h h' k s v := by
 have hkl := (List.getElem?_eq_some_iff.1 hk).1
 rw [flatI_len (g := fun p : EvP × SH => refsE p.1) lenPE] at hkl
 obtain ⟨q, p, j, hq, hj, hkj⟩ := flatI_get hk
 rw [flatI_len (g := fun p : EvP × SH => refsE p.1) lenPE] at hkj
 have hql := (List.getElem?_eq_some_iff.1 hq).1
 have hjl : j < (refsE p.1).length := by rw [← lenPE (h := h.ev.1) (0 + q) p]; exact (List.getElem?_eq_some_iff.1 hj).1
 obtain ⟨g, hA, had⟩ := ad_own ho.ev (by have := own_long evCs_len (by omega) ho.ev; omega)
 have hA' : h.ev.1 = ⟨some ⟨g, 0, none⟩, h.ev.1.n, h.ev.1.c⟩ := by rw [← hA]
 rcases plE_at hj v with ⟨c, e', hc, ha, hcs, hsc, hr, hz, hp⟩ | ⟨q2, c, sn, sn', hc, hq2, ha, hcs, hr, hz, hp⟩
 ·rw [Nat.zero_add, had] at ha
  subst ha
  have hev := ho.ev
  rw [hA] at hev
  have k2 := keep_own hev (q * 9 + c) (.int .i64 v)
  have st := (hev.stored (q * 9 + c) (.int .i64 v)).1
  rw [fm_set evCs_len hq hc hcs] at st
  refine ⟨ablk hev rfl _, { h with ev := (h.ev.1, h.ev.2.set q (e', p.2)) }, ⟨ho.nm.keepT k2 (by decide), by rw [hA]; exact st, k2.own ho.od (by decide), k2.own ho.ma (by decide), k2.own ho.wa (by decide), ?_, ho.it.keepT k2 (by decide)⟩, rfl, ⟨rfl, rfl, rfl, rfl⟩, ?_, ?_, ?_, ⟨map_set_eq (z := (·.2)) (x := p) (x' := (e', p.2)) rfl hq, rfl, rfl⟩⟩
  ·have := ho.sc.keepT k2 (t := 59) (by decide)
   rw [← map_set_eq (z := fun p : EvP × SH => (p.1.scan.flatMap seCs, p.2)) (x' := (e', p.2)) (by simp only; rw [hsc]) hq] at this
   exact this
  ·unfold plcs
   rw [flatI_set (f := plE h.ev.1) (x' := (e', p.2)) (hp h.ev.1) hq]
  ·have e : (h.ev.2.set q (e', p.2)).flatMap (fun p => refsE p.1) = (rEv h).set k (s, v) := by
    rw [hkj]
    exact flat_set (g := fun p : EvP × SH => refsE p.1) (x' := (e', p.2)) hr hjl hq
   rw [refs_parts, refs_parts, set_app_l (show k < (rEv h).length from hkl), ← e]
   rfl
  ·exact sk_parts ⟨rfl, rfl, rfl, rfl⟩ (map_set_eq (z := fun p : EvP × SH => reE z0 p.1) (x' := (e', p.2)) hz hq) rfl rfl rfl
 ·have hsq : (h.ev.2.map fun p => (p.1.scan.flatMap seCs, p.2))[q]? = some (p.1.scan.flatMap seCs, p.2) := by rw [List.getElem?_map, hq]; rfl
  have hso := ho.sc.own q _ hsq
  obtain ⟨g2, hA2, had2⟩ := ad_own hso (by have := own_long seCs_len (by omega) hso; have := (List.getElem?_eq_some_iff.1 hq2).1; omega)
  rw [had2] at ha
  subst ha
  have hso2 := hso
  rw [hA2] at hso2
  have k2 := keep_own hso2 (q2 * 3 + c) (.int .i64 v)
  have hse : p.2 = ⟨some ⟨g2, 0, none⟩, p.2.n, p.2.c⟩ := by rw [← hA2]
  have hsq2 := hsq
  rw [hse] at hsq2
  have st := ho.sc.store hsq2 (q2 * 3 + c) (.int .i64 v)
  rw [fm_set seCs_len hq2 hc hcs, ← hse] at st
  refine ⟨ablk hso2 rfl _, { h with ev := (h.ev.1, h.ev.2.set q (p.1.withS (p.1.scan.set q2 sn'), p.2)) }, ⟨ho.nm.keepT k2 (by decide), ?_, k2.own ho.od (by decide), k2.own ho.ma (by decide), k2.own ho.wa (by decide), ?_, ho.it.keepT k2 (by decide)⟩, rfl, ⟨rfl, rfl, rfl, rfl⟩, ?_, ?_, ?_, ⟨map_set_eq (z := (·.2)) (x := p) (x' := (p.1.withS (p.1.scan.set q2 sn'), p.2)) rfl hq, rfl, rfl⟩⟩
  ·show World.ownsRow _ _ _ _ _ _ ((h.ev.2.set q (p.1.withS (p.1.scan.set q2 sn'), p.2)).flatMap evCs)
   rw [fm_same (enc := evCs) (x' := (p.1.withS (p.1.scan.set q2 sn'), p.2)) hq rfl]
   exact k2.own ho.ev (by decide)
  ·show RG _ _ _ _ ((h.ev.2.set q (p.1.withS (p.1.scan.set q2 sn'), p.2)).map fun p => (p.1.scan.flatMap seCs, p.2))
   rw [List.map_set]
   exact st
  ·unfold plcs
   rw [flatI_set (f := plE h.ev.1) (x' := (p.1.withS (p.1.scan.set q2 sn'), p.2)) (hp h.ev.1) hq]
  ·have e : (h.ev.2.set q (p.1.withS (p.1.scan.set q2 sn'), p.2)).flatMap (fun p => refsE p.1) = (rEv h).set k (s, v) := by
    rw [hkj]
    exact flat_set (g := fun p : EvP × SH => refsE p.1) (x' := (p.1.withS (p.1.scan.set q2 sn'), p.2)) hr hjl hq
   rw [refs_parts, refs_parts, set_app_l (show k < (rEv h).length from hkl), ← e]
   rfl
  ·exact sk_parts ⟨rfl, rfl, rfl, rfl⟩ (map_set_eq (z := fun p : EvP × SH => reE z0 p.1) (x' := (p.1.withS (p.1.scan.set q2 sn'), p.2)) hz hq) rfl rfl rfl
theorem put_od (ho : HOwn B X h) (hk : (flatI (plO h.od.1) 0 h.od.2)[k]? = some (s, a)) (v : Int) : ABlk B X a ∧ ∃ h', PutP B (X.setCell a (.int .i64 v)) h h' ((rEv h).length + k) s v := by
 have hkl := (List.getElem?_eq_some_iff.1 hk).1
 rw [flatI_len (g := fun p : OrdP × SH => refsO p.1) lenPO] at hkl
 obtain ⟨q, p, j, hq, hj, hkj⟩ := flatI_get hk
 rw [flatI_len (g := fun p : OrdP × SH => refsO p.1) lenPO] at hkj
 have hql := (List.getElem?_eq_some_iff.1 hq).1
 have hjl : j < (refsO p.1).length := by rw [← lenPO (h := h.od.1) (0 + q) p]; exact (List.getElem?_eq_some_iff.1 hj).1
 obtain ⟨g, hA, had⟩ := ad_own ho.od (by have := own_long odCs_len (by omega) ho.od; omega)
 rcases plO_at hj v with ⟨c, e', hc, ha, hcs, hsc, hr, hz, hp⟩ | ⟨q2, hq2, ha, hr, hz, hp⟩
 ·rw [Nat.zero_add, had] at ha
  subst ha
  have hev := ho.od
  rw [hA] at hev
  have k2 := keep_own hev (q * 2 + c) (.int .i64 v)
  have st := (hev.stored (q * 2 + c) (.int .i64 v)).1
  rw [fm_set odCs_len hq hc hcs] at st
  refine ⟨ablk hev rfl _, { h with od := (h.od.1, h.od.2.set q (e', p.2)) }, ⟨ho.nm.keepT k2 (by decide), k2.own ho.ev (by decide), by rw [hA]; exact st, k2.own ho.ma (by decide), k2.own ho.wa (by decide), ho.sc.keepT k2 (by decide), ?_⟩, rfl, ⟨rfl, rfl, rfl, rfl⟩, ?_, ?_, ?_, ⟨rfl, map_set_eq (z := (·.2)) (x := p) (x' := (e', p.2)) rfl hq, rfl⟩⟩
  ·have := ho.it.keepT k2 (t := 3) (by decide)
   rw [← map_set_eq (z := fun p : OrdP × SH => (ints p.1.ts, p.2)) (x' := (e', p.2)) (by simp only; rw [hsc]) hq] at this
   exact this
  ·unfold plcs
   rw [flatI_set (f := plO h.od.1) (x' := (e', p.2)) (hp h.od.1) hq]
  ·have e : (h.od.2.set q (e', p.2)).flatMap (fun p => refsO p.1) = (rOd h).set k (s, v) := by
    rw [hkj]
    exact flat_set (g := fun p : OrdP × SH => refsO p.1) (x' := (e', p.2)) hr hjl hq
   rw [refs_parts, refs_parts, set_app rfl, set_app_l (show k < (rOd h).length from hkl), ← e]
   rfl
  ·exact sk_parts ⟨rfl, rfl, rfl, rfl⟩ rfl (map_set_eq (z := fun p : OrdP × SH => reO z0 p.1) (x' := (e', p.2)) hz hq) rfl rfl
 ·have hsq : ((h.od.2.map fun p => (ints p.1.ts, p.2)) ++ h.ma.2.map fun p => (ints p.1.ts, p.2))[q]? = some (ints p.1.ts, p.2) := by rw [List.getElem?_append_left (by simpa using hql), List.getElem?_map, hq]; rfl
  have hso := ho.it.own q _ hsq
  obtain ⟨g2, hA2, had2⟩ := ad_own hso (by have := hso.1; unfold ints at this; simp at this; show 0 < p.2.n; omega)
  rw [had2] at ha
  subst ha
  have hso2 := hso
  rw [hA2] at hso2
  have k2 := keep_own hso2 q2 (.int .i64 v)
  have hse : p.2 = ⟨some ⟨g2, 0, none⟩, p.2.n, p.2.c⟩ := by rw [← hA2]
  have hsq2 := hsq
  rw [hse] at hsq2
  have st := ho.it.store hsq2 q2 (.int .i64 v)
  rw [ints_set2, ← hse] at st
  refine ⟨ablk hso2 rfl _, { h with od := (h.od.1, h.od.2.set q (p.1.withT (p.1.ts.set q2 v), p.2)) }, ⟨ho.nm.keepT k2 (by decide), k2.own ho.ev (by decide), ?_, k2.own ho.ma (by decide), k2.own ho.wa (by decide), ho.sc.keepT k2 (by decide), ?_⟩, rfl, ⟨rfl, rfl, rfl, rfl⟩, ?_, ?_, ?_, ⟨rfl, map_set_eq (z := (·.2)) (x := p) (x' := (p.1.withT (p.1.ts.set q2 v), p.2)) rfl hq, rfl⟩⟩
  ·show World.ownsRow _ _ _ _ _ _ ((h.od.2.set q (p.1.withT (p.1.ts.set q2 v), p.2)).flatMap odCs)
   rw [fm_same (enc := odCs) (x' := (p.1.withT (p.1.ts.set q2 v), p.2)) hq rfl]
   exact k2.own ho.od (by decide)
  ·show RG _ _ _ _ (((h.od.2.set q (p.1.withT (p.1.ts.set q2 v), p.2)).map fun p => (ints p.1.ts, p.2)) ++ _)
   rw [List.map_set, ← set_app_l (by simpa using hql)]
   exact st
  ·unfold plcs
   rw [flatI_set (f := plO h.od.1) (x' := (p.1.withT (p.1.ts.set q2 v), p.2)) (hp h.od.1) hq]
  ·have e : (h.od.2.set q (p.1.withT (p.1.ts.set q2 v), p.2)).flatMap (fun p => refsO p.1) = (rOd h).set k (s, v) := by
    rw [hkj]
    exact flat_set (g := fun p : OrdP × SH => refsO p.1) (x' := (p.1.withT (p.1.ts.set q2 v), p.2)) hr hjl hq
   rw [refs_parts, refs_parts, set_app rfl, set_app_l (show k < (rOd h).length from hkl), ← e]
   rfl
  ·exact sk_parts ⟨rfl, rfl, rfl, rfl⟩ rfl (map_set_eq (z := fun p : OrdP × SH => reO z0 p.1) (x' := (p.1.withT (p.1.ts.set q2 v), p.2)) hz hq) rfl rfl
theorem put_ma (ho : HOwn B X h) (hk : (flatI (plM h.ma.1) 0 h.ma.2)[k]? = some (s, a)) (v : Int) : ABlk B X a ∧ ∃ h', PutP B (X.setCell a (.int .i64 v)) h h' ((rEv h).length + ((rOd h).length + k)) s v := by
 have hkl := (List.getElem?_eq_some_iff.1 hk).1
 rw [flatI_len (g := fun p : MatP × SH => refsM p.1) lenPM] at hkl
 obtain ⟨q, p, j, hq, hj, hkj⟩ := flatI_get hk
 rw [flatI_len (g := fun p : MatP × SH => refsM p.1) lenPM] at hkj
 have hql := (List.getElem?_eq_some_iff.1 hq).1
 have hjl : j < (refsM p.1).length := by rw [← lenPM (h := h.ma.1) (0 + q) p]; exact (List.getElem?_eq_some_iff.1 hj).1
 obtain ⟨g, hA, had⟩ := ad_own ho.ma (by have := own_long maCs_len (by omega) ho.ma; omega)
 rcases plM_at hj v with ⟨c, e', hc, ha, hcs, hsc, hr, hz, hp⟩ | ⟨q2, hq2, ha, hr, hz, hp⟩
 ·rw [Nat.zero_add, had] at ha
  subst ha
  have hev := ho.ma
  rw [hA] at hev
  have k2 := keep_own hev (q * 4 + c) (.int .i64 v)
  have st := (hev.stored (q * 4 + c) (.int .i64 v)).1
  rw [fm_set maCs_len hq hc hcs] at st
  refine ⟨ablk hev rfl _, { h with ma := (h.ma.1, h.ma.2.set q (e', p.2)) }, ⟨ho.nm.keepT k2 (by decide), k2.own ho.ev (by decide), k2.own ho.od (by decide), by rw [hA]; exact st, k2.own ho.wa (by decide), ho.sc.keepT k2 (by decide), ?_⟩, rfl, ⟨rfl, rfl, rfl, rfl⟩, ?_, ?_, ?_, ⟨rfl, rfl, map_set_eq (z := (·.2)) (x := p) (x' := (e', p.2)) rfl hq⟩⟩
  ·have := ho.it.keepT k2 (t := 3) (by decide)
   rw [← map_set_eq (z := fun p : MatP × SH => (ints p.1.ts, p.2)) (x' := (e', p.2)) (by simp only; rw [hsc]) hq] at this
   exact this
  ·unfold plcs
   rw [flatI_set (f := plM h.ma.1) (x' := (e', p.2)) (hp h.ma.1) hq]
  ·have e : (h.ma.2.set q (e', p.2)).flatMap (fun p => refsM p.1) = (rMa h).set k (s, v) := by
    rw [hkj]
    exact flat_set (g := fun p : MatP × SH => refsM p.1) (x' := (e', p.2)) hr hjl hq
   rw [refs_parts, refs_parts, set_app rfl, set_app rfl, set_app_l (show k < (rMa h).length from hkl), ← e]
   rfl
  ·exact sk_parts ⟨rfl, rfl, rfl, rfl⟩ rfl rfl (map_set_eq (z := fun p : MatP × SH => reM z0 p.1) (x' := (e', p.2)) hz hq) rfl
 ·have hol : (h.od.2.map fun p => (ints p.1.ts, p.2)).length = h.od.2.length := List.length_map _
  have hsq : ((h.od.2.map fun p => (ints p.1.ts, p.2)) ++ h.ma.2.map fun p => (ints p.1.ts, p.2))[h.od.2.length + q]? = some (ints p.1.ts, p.2) := by rw [List.getElem?_append_right (by rw [hol]; omega), hol, Nat.add_sub_cancel_left, List.getElem?_map, hq]; rfl
  have hso := ho.it.own _ _ hsq
  obtain ⟨g2, hA2, had2⟩ := ad_own hso (by have := hso.1; unfold ints at this; simp at this; show 0 < p.2.n; omega)
  rw [had2] at ha
  subst ha
  have hso2 := hso
  rw [hA2] at hso2
  have k2 := keep_own hso2 q2 (.int .i64 v)
  have hse : p.2 = ⟨some ⟨g2, 0, none⟩, p.2.n, p.2.c⟩ := by rw [← hA2]
  have hsq2 := hsq
  rw [hse] at hsq2
  have st := ho.it.store hsq2 q2 (.int .i64 v)
  rw [ints_set2, ← hse, set_app hol] at st
  refine ⟨ablk hso2 rfl _, { h with ma := (h.ma.1, h.ma.2.set q (p.1.withT (p.1.ts.set q2 v), p.2)) }, ⟨ho.nm.keepT k2 (by decide), k2.own ho.ev (by decide), k2.own ho.od (by decide), ?_, k2.own ho.wa (by decide), ho.sc.keepT k2 (by decide), ?_⟩, rfl, ⟨rfl, rfl, rfl, rfl⟩, ?_, ?_, ?_, ⟨rfl, rfl, map_set_eq (z := (·.2)) (x := p) (x' := (p.1.withT (p.1.ts.set q2 v), p.2)) rfl hq⟩⟩
  ·show World.ownsRow _ _ _ _ _ _ ((h.ma.2.set q (p.1.withT (p.1.ts.set q2 v), p.2)).flatMap maCs)
   rw [fm_same (enc := maCs) (x' := (p.1.withT (p.1.ts.set q2 v), p.2)) hq rfl]
   exact k2.own ho.ma (by decide)
  ·show RG _ _ _ _ (_ ++ (h.ma.2.set q (p.1.withT (p.1.ts.set q2 v), p.2)).map fun p => (ints p.1.ts, p.2))
   rw [List.map_set]
   exact st
  ·unfold plcs
   rw [flatI_set (f := plM h.ma.1) (x' := (p.1.withT (p.1.ts.set q2 v), p.2)) (hp h.ma.1) hq]
  ·have e : (h.ma.2.set q (p.1.withT (p.1.ts.set q2 v), p.2)).flatMap (fun p => refsM p.1) = (rMa h).set k (s, v) := by
    rw [hkj]
    exact flat_set (g := fun p : MatP × SH => refsM p.1) (x' := (p.1.withT (p.1.ts.set q2 v), p.2)) hr hjl hq
   rw [refs_parts, refs_parts, set_app rfl, set_app rfl, set_app_l (show k < (rMa h).length from hkl), ← e]
   rfl
  ·exact sk_parts ⟨rfl, rfl, rfl, rfl⟩ rfl rfl (map_set_eq (z := fun p : MatP × SH => reM z0 p.1) (x' := (p.1.withT (p.1.ts.set q2 v), p.2)) hz hq) rfl
theorem put_wa (ho : HOwn B X h) (hk : (flatI (plW h.wa.1) 0 h.wa.2)[k]? = some (s, a)) (v : Int) : ABlk B X a ∧ ∃ h', PutP B (X.setCell a (.int .i64 v)) h h' ((rEv h).length + ((rOd h).length + ((rMa h).length + k))) s v := by
 obtain ⟨q, p, j, hq, hj, hkj⟩ := flatI_get hk
 rw [flatI_len (g := refsW) lenPW] at hkj
 have hql := (List.getElem?_eq_some_iff.1 hq).1
 have hjl : j < (refsW p).length := (List.getElem?_eq_some_iff.1 hj).1
 obtain ⟨g, hA, had⟩ := ad_own ho.wa (by have := own_long waCs_len (by omega) ho.wa; omega)
 obtain ⟨c, e', hc, ha, hcs, hr, hz, hp⟩ := plW_at hj v
 rw [Nat.zero_add, had] at ha
 subst ha
 have hev := ho.wa
 rw [hA] at hev
 have k2 := keep_own hev (q * 2 + c) (.int .i64 v)
 have st := (hev.stored (q * 2 + c) (.int .i64 v)).1
 rw [fm_set waCs_len hq hc hcs] at st
 refine ⟨ablk hev rfl _, { h with wa := (h.wa.1, h.wa.2.set q e') }, ⟨ho.nm.keepT k2 (by decide), k2.own ho.ev (by decide), k2.own ho.od (by decide), k2.own ho.ma (by decide), by rw [hA]; exact st, ho.sc.keepT k2 (by decide), ho.it.keepT k2 (by decide)⟩, rfl, ⟨rfl, rfl, rfl, rfl⟩, ?_, ?_, ?_, ⟨rfl, rfl, rfl⟩⟩
 ·unfold plcs
  rw [flatI_set (f := plW h.wa.1) (x' := e') (hp h.wa.1) hq]
 ·have e : (h.wa.2.set q e').flatMap refsW = (rWa h).set k (s, v) := by
   rw [hkj]
   exact flat_set (g := refsW) (x' := e') hr hjl hq
  rw [refs_parts, refs_parts, set_app rfl, set_app rfl, set_app rfl, ← e]
  rfl
 ·exact sk_parts ⟨rfl, rfl, rfl, rfl⟩ rfl rfl rfl (map_set_eq hz hq)
theorem put_place (ho : HOwn B X h) (hk : (plcs h)[k]? = some (s, a)) (v : Int) : ABlk B X a ∧ ∃ h', PutP B (X.setCell a (.int .i64 v)) h h' k s v := by
 unfold plcs at hk
 rcases app_get hk with ⟨_, hk1⟩ | ⟨k1, rfl, hk1⟩
 ·exact put_ev ho hk1 v
 ·rw [flatI_len (g := fun p : EvP × SH => refsE p.1) lenPE]
  rcases app_get hk1 with ⟨_, hk2⟩ | ⟨k2, rfl, hk2⟩
  ·exact put_od ho hk2 v
  ·rw [flatI_len (g := fun p : OrdP × SH => refsO p.1) lenPO]
   rcases app_get hk2 with ⟨_, hk3⟩ | ⟨k3, rfl, hk3⟩
   ·exact put_ma ho hk3 v
   ·rw [flatI_len (g := fun p : MatP × SH => refsM p.1) lenPM]
    exact put_wa ho hk3 v
end
end Go.Proofs.YtlnbmmaminflcaaGreatDoor
