/- The document's answers of layer history: Has, Of: contracts. -/
import Derived.Test.YtlnbmmaminflcaaGreatDoorC18
-- holds: YtlnbmmaminflcaaGreatDoorSJe
namespace Go.Proofs.YtlnbmmaminflcaaGreatDoor
open Go.RowKit Go.Shelf

theorem has_in {H : Hist} {t kd : Int} {i : Nat} {e : EvP} (h : H.ev[i]? = some e) (h1 : e.t = t) (h2 : e.kd = kd) : hasB H t kd = true := hasB_iff.2 ⟨e, List.mem_of_getElem? h, h1, h2⟩
def noneK (H : Hist) (t kd : Int) (i : Nat) : Prop := ∀ e ∈ H.ev.take i, ¬ (e.t = t ∧ e.kd = kd)
theorem noneK.next {H : Hist} {t kd : Int} {i : Nat} {e : EvP} (h : noneK H t kd i) (he : H.ev[i]? = some e) (hn : ¬ (e.t = t ∧ e.kd = kd)) : noneK H t kd (i + 1) := by
 intro x hx
 rw [List.take_add_one, he] at hx
 rcases List.mem_append.1 hx with hx | hx
 ·exact h x hx
 ·simp at hx
  subst hx
  exact hn
theorem noneK.all {H : Hist} {t kd : Int} {i : Nat} (h : noneK H t kd i) (hi : H.ev.length = i) : hasB H t kd = false := by
 rw [Bool.eq_false_iff]
 intro hh
 obtain ⟨e, he, h1, h2⟩ := hasB_iff.1 hh
 exact h e (by rw [List.take_of_length_le (Nat.le_of_eq hi)]; exact he) ⟨h1, h2⟩
set_option maxRecDepth 100000 in
set_option maxHeartbeats 8000000 in
theorem rhas_any (m : HistM) (t kd : Int) (hS : Small m.pl) (w : World) (hm : HRd w w.heap.size m) : Calls Tryz.prog 57 #[.agg #[.slice m.tr.1.A m.tr.1.n m.tr.1.c, .slice m.se.1.A m.se.1.n m.se.1.c, .slice m.ob.1.A m.ob.1.n m.ob.1.c, .slice m.pr.1.A m.pr.1.n m.pr.1.c, .slice m.ev.1.A m.ev.1.n m.ev.1.c, .slice m.od.1.A m.od.1.n m.od.1.c, .slice m.ma.1.A m.ma.1.n m.ma.1.c, .slice m.wa.1.A m.wa.1.n m.wa.1.c], .int .i64 t, .int .i64 kd] w fun e w' => e = .returned (.bool (hasB m.pl t kd)) ∧ Below w.heap.size w w' := by
 obtain ⟨kh, b0, hs0⟩ := ibox w #[.slice m.tr.1.A m.tr.1.n m.tr.1.c, .slice m.se.1.A m.se.1.n m.se.1.c, .slice m.ob.1.A m.ob.1.n m.ob.1.c, .slice m.pr.1.A m.pr.1.n m.pr.1.c, .slice m.ev.1.A m.ev.1.n m.ev.1.c, .slice m.od.1.A m.od.1.n m.od.1.c, .slice m.ma.1.A m.ma.1.n m.ma.1.c, .slice m.wa.1.A m.wa.1.n m.wa.1.c] 28
 have KH := Lib.hid kh
 have B0 := Lib.hid b0
 have HFIT := Lib.hid hm.fit
 clear kh b0 hs0
 have HLEN : Hid (m.pl.ev.length = m.ev.1.n) := by show m.pl.ev.length = _; rw [← HFIT.out.ev.1]; unfold HistM.pl; simp
 have z4 : (w.alloc (.cells #[.slice m.tr.1.A m.tr.1.n m.tr.1.c, .slice m.se.1.A m.se.1.n m.se.1.c, .slice m.ob.1.A m.ob.1.n m.ob.1.c, .slice m.pr.1.A m.pr.1.n m.pr.1.c, .slice m.ev.1.A m.ev.1.n m.ev.1.c, .slice m.od.1.A m.od.1.n m.od.1.c, .slice m.ma.1.A m.ma.1.n m.ma.1.c, .slice m.wa.1.A m.wa.1.n m.wa.1.c] 28)).cell? ⟨w.heap.size, 4, none⟩ = some (.slice m.ev.1.A m.ev.1.n m.ev.1.c) := KH.out.cell 4
 obtain ⟨n, hn⟩ : ∃ n, m.ev.1.n = n := ⟨_, rfl⟩
 have HN := Lib.hid hn
 have hn2 : n ≤ 200 := by have := hS.ev; have := HLEN.out; omega
 rw [hn] at HLEN
 clear hn
 go_enter Tryz.func57, Tryz.ntmps57
 go_wp2_with fail
 clear z4 KH
 generalize w.alloc (.cells #[.slice m.tr.1.A m.tr.1.n m.tr.1.c, .slice m.se.1.A m.se.1.n m.se.1.c, .slice m.ob.1.A m.ob.1.n m.ob.1.c, .slice m.pr.1.A m.pr.1.n m.pr.1.c, .slice m.ev.1.A m.ev.1.n m.ev.1.c, .slice m.od.1.A m.od.1.n m.od.1.c, .slice m.ma.1.A m.ma.1.n m.ma.1.c, .slice m.wa.1.A m.wa.1.n m.wa.1.c] 28) = W0 at *
 rw [HN.out]
 go_loopw [12] (fun v wr => ∃ i : Nat, i ≤ n ∧ v = .int .i64 i ∧ Hid (noneK m.pl t kd i) ∧ Hid (Below w.heap.size w wr)) (fun v _ => n - (intOf v).toNat)
 case atStart => exact ⟨0, Nat.zero_le _, rfl, fun e he => by simp at he, B0.out⟩
 case round =>
  obtain ⟨i, hk, rfl, HK, HB⟩ := hrel
  by_cases hlt : i < n
  ·have hlt2 : (i : Int) < (n : Int) := by omega
   obtain ⟨p, hp⟩ : ∃ p, m.ev.2[i]? = some p := ⟨m.ev.2[i]'(by rw [HFIT.out.ev.1, HN.out]; exact hlt), List.getElem?_eq_getElem _⟩
   obtain ⟨b, o, hA, hb, hc⟩ := row_cells evCs_len (by omega) (hm.ev.below HB.out) hp
   rw [hA]
   have c0 : wr.cell? ⟨b, o + i * 9, none⟩ = some (.int .i64 p.1.kd) := hc 0 _ rfl
   have c1 : wr.cell? ⟨b, o + i * 9 + 1, none⟩ = some (.int .i64 p.1.t) := hc 1 _ rfl
   have c2 : wr.cell? ⟨b, o + i * 9 + 2, none⟩ = some (.int .i64 p.1.s) := hc 2 _ rfl
   have c3 : wr.cell? ⟨b, o + i * 9 + 3, none⟩ = some (.int .i64 p.1.lev) := hc 3 _ rfl
   have c4 : wr.cell? ⟨b, o + i * 9 + 4, none⟩ = some (.int .i64 p.1.o) := hc 4 _ rfl
   have c5 : wr.cell? ⟨b, o + i * 9 + 5, none⟩ = some (.int .i64 p.1.vt) := hc 5 _ rfl
   have c6 : wr.cell? ⟨b, o + i * 9 + 6, none⟩ = some (.int .i64 p.1.vk) := hc 6 _ rfl
   have c7 : wr.cell? ⟨b, o + i * 9 + 7, none⟩ = some (.int .i64 p.1.p) := hc 7 _ rfl
   have c8 : wr.cell? ⟨b, o + i * 9 + 8, none⟩ = some (.slice p.2.A p.2.n p.2.c) := hc 8 _ rfl
   have HE : Hid (m.pl.ev[i]? = some p.1) := by show m.pl.ev[i]? = _; unfold HistM.pl; simp [hp]
   have hal : Below wr.heap.size wr (wr.alloc (.cells #[.int .i64 p.1.kd, .int .i64 p.1.t, .int .i64 p.1.s, .int .i64 p.1.lev, .int .i64 p.1.o, .int .i64 p.1.vt, .int .i64 p.1.vk, .int .i64 p.1.p, .slice p.2.A p.2.n p.2.c] 39)) := (Below.refl _ _).alloc (Nat.le_refl _) _
   have HB2 := Lib.hid (HB.out.trans (hal.mono HB.out.size))
   clear hc hp hA hal
   by_cases ht : p.1.t = t
   ·have hbt : (p.1.t == t) = true := by simpa using ht
    by_cases hd : p.1.kd = kd
    ·have hbd : (p.1.kd == kd) = true := by simpa using hd
     have HR := Lib.hid (has_in HE.out ht hd)
     clear ht hd
     go_wp2_with fail
     go_ret
     exact ⟨by rw [HR.out]; rfl, HB2.out⟩
    ·have hbd : (p.1.kd == kd) = false := by simpa using hd
     have HK2 := Lib.hid (HK.out.next HE.out fun h => hd h.2)
     clear ht hd
     go_wp2_with fail
     go_roundw
     case rel => exact ⟨i + 1, by omega, by go_num, HK2, HB2⟩
     case measure => simp [intOf]; omega
   ·have hbt : (p.1.t == t) = false := by simpa using ht
    have HK2 := Lib.hid (HK.out.next HE.out fun h => ht h.1)
    clear ht
    go_wp2_with fail
    go_roundw
    case rel => exact ⟨i + 1, by omega, by go_num, HK2, HB2⟩
    case measure => simp [intOf]; omega
  ·obtain rfl : i = n := by omega
   have HR := Lib.hid (HK.out.all HLEN.out)
   go_wp2_with fail
   go_ret
   exact ⟨by rw [HR.out]; rfl, HB.out⟩

def ROfIs (H : Hist) (t : Int) (w : World) : Ending → World → Prop := fun e w' => ∃ (A : Option Addr) (c : Nat), e = .returned (.slice A (ofP H t).length c) ∧ w'.ownsRow w.heap.size 3 1 (.slice A (ofP H t).length c) (ofP H t).length (ints (ofP H t)) ∧ Below w.heap.size w w'
set_option maxRecDepth 100000 in
set_option maxHeartbeats 8000000 in
theorem rof11_any (m : HistM) (t : Int) (hS : Small m.pl) (w : World) (hm : HRd w w.heap.size m) : Calls Tryz.prog 23 #[.agg #[.slice m.tr.1.A m.tr.1.n m.tr.1.c, .slice m.se.1.A m.se.1.n m.se.1.c, .slice m.ob.1.A m.ob.1.n m.ob.1.c, .slice m.pr.1.A m.pr.1.n m.pr.1.c, .slice m.ev.1.A m.ev.1.n m.ev.1.c, .slice m.od.1.A m.od.1.n m.od.1.c, .slice m.ma.1.A m.ma.1.n m.ma.1.c, .slice m.wa.1.A m.wa.1.n m.wa.1.c], .int .i64 t] w (ROfIs m.pl t w) := by
 obtain ⟨i0, hi, hz0, hz1, hz2⟩ := info_parts int_info11
 obtain ⟨kh, b0, hs0⟩ := ibox w #[.slice m.tr.1.A m.tr.1.n m.tr.1.c, .slice m.se.1.A m.se.1.n m.se.1.c, .slice m.ob.1.A m.ob.1.n m.ob.1.c, .slice m.pr.1.A m.pr.1.n m.pr.1.c, .slice m.ev.1.A m.ev.1.n m.ev.1.c, .slice m.od.1.A m.od.1.n m.od.1.c, .slice m.ma.1.A m.ma.1.n m.ma.1.c, .slice m.wa.1.A m.wa.1.n m.wa.1.c] 28
 have KH := Lib.hid kh
 have B0 := Lib.hid b0
 have HFIT := Lib.hid hm.fit
 clear kh b0 hs0
 have HLEN : Hid (m.pl.ev.length = m.ev.1.n) := by show m.pl.ev.length = _; rw [← HFIT.out.ev.1]; unfold HistM.pl; simp
 have z4 : (w.alloc (.cells #[.slice m.tr.1.A m.tr.1.n m.tr.1.c, .slice m.se.1.A m.se.1.n m.se.1.c, .slice m.ob.1.A m.ob.1.n m.ob.1.c, .slice m.pr.1.A m.pr.1.n m.pr.1.c, .slice m.ev.1.A m.ev.1.n m.ev.1.c, .slice m.od.1.A m.od.1.n m.od.1.c, .slice m.ma.1.A m.ma.1.n m.ma.1.c, .slice m.wa.1.A m.wa.1.n m.wa.1.c] 28)).cell? ⟨w.heap.size, 4, none⟩ = some (.slice m.ev.1.A m.ev.1.n m.ev.1.c) := KH.out.cell 4
 obtain ⟨n, hn⟩ : ∃ n, m.ev.1.n = n := ⟨_, rfl⟩
 have HN := Lib.hid hn
 have hn2 : n ≤ 200 := by have := hS.ev; have := HLEN.out; omega
 rw [hn] at HLEN
 clear hn
 go_enter Tryz.func23, Tryz.ntmps23
 go_wp2_with fail
 clear z4 KH
 generalize w.alloc (.cells #[.slice m.tr.1.A m.tr.1.n m.tr.1.c, .slice m.se.1.A m.se.1.n m.se.1.c, .slice m.ob.1.A m.ob.1.n m.ob.1.c, .slice m.pr.1.A m.pr.1.n m.pr.1.c, .slice m.ev.1.A m.ev.1.n m.ev.1.c, .slice m.od.1.A m.od.1.n m.od.1.c, .slice m.ma.1.A m.ma.1.n m.ma.1.c, .slice m.wa.1.A m.wa.1.n m.wa.1.c] 28) = W0 at *
 rw [HN.out]
 go_loopw [5, 11] (fun v i wr => ∃ k : Nat, k ≤ n ∧ i = .int .i64 k ∧ Hid (GotI w (ofK m.pl t k) v wr)) (fun _ i _ => n - (intOf i).toNat)
 case atStart => exact ⟨0, Nat.zero_le _, rfl, ⟨World.ownsRow_nil _ _ _ _, B0.out⟩⟩
 case round =>
  obtain ⟨i, hk, rfl, HG⟩ := hrel
  by_cases hlt : i < n
  ·have hlt2 : (i : Int) < (n : Int) := by omega
   obtain ⟨p, hp⟩ : ∃ p, m.ev.2[i]? = some p := ⟨m.ev.2[i]'(by rw [HFIT.out.ev.1, HN.out]; exact hlt), List.getElem?_eq_getElem _⟩
   obtain ⟨b, o, hA, hb, hc⟩ := row_cells evCs_len (by omega) (hm.ev.below HG.out.below) hp
   rw [hA]
   have c0 : wr.cell? ⟨b, o + i * 9, none⟩ = some (.int .i64 p.1.kd) := hc 0 _ rfl
   have c1 : wr.cell? ⟨b, o + i * 9 + 1, none⟩ = some (.int .i64 p.1.t) := hc 1 _ rfl
   have c2 : wr.cell? ⟨b, o + i * 9 + 2, none⟩ = some (.int .i64 p.1.s) := hc 2 _ rfl
   have c3 : wr.cell? ⟨b, o + i * 9 + 3, none⟩ = some (.int .i64 p.1.lev) := hc 3 _ rfl
   have c4 : wr.cell? ⟨b, o + i * 9 + 4, none⟩ = some (.int .i64 p.1.o) := hc 4 _ rfl
   have c5 : wr.cell? ⟨b, o + i * 9 + 5, none⟩ = some (.int .i64 p.1.vt) := hc 5 _ rfl
   have c6 : wr.cell? ⟨b, o + i * 9 + 6, none⟩ = some (.int .i64 p.1.vk) := hc 6 _ rfl
   have c7 : wr.cell? ⟨b, o + i * 9 + 7, none⟩ = some (.int .i64 p.1.p) := hc 7 _ rfl
   have c8 : wr.cell? ⟨b, o + i * 9 + 8, none⟩ = some (.slice p.2.A p.2.n p.2.c) := hc 8 _ rfl
   have HE : Hid (m.pl.ev[i]? = some p.1) := by show m.pl.ev[i]? = _; unfold HistM.pl; simp [hp]
   have hal : Below wr.heap.size wr (wr.alloc (.cells #[.int .i64 p.1.kd, .int .i64 p.1.t, .int .i64 p.1.s, .int .i64 p.1.lev, .int .i64 p.1.o, .int .i64 p.1.vt, .int .i64 p.1.vk, .int .i64 p.1.p, .slice p.2.A p.2.n p.2.c] 39)) := (Below.refl _ _).alloc (Nat.le_refl _) _
   have hfl := ofK_len m.pl t i
   have HFL := Lib.hid hfl
   have OW := Lib.hid (HG.out.alloc (.cells #[.int .i64 p.1.kd, .int .i64 p.1.t, .int .i64 p.1.s, .int .i64 p.1.lev, .int .i64 p.1.o, .int .i64 p.1.vt, .int .i64 p.1.vk, .int .i64 p.1.p, .slice p.2.A p.2.n p.2.c] 39))
   clear hc hp hA hfl hal
   by_cases ht : p.1.t = t
   ·have hbt : (p.1.t == t) = true := by simpa using ht
    have HY := Lib.hid (ofK_yes HE.out ht)
    have OW2 := Lib.hid (OW.out.alloc (.cells #[.int .i64 (i : Int)] 3))
    have hs1 := OW.out.below.size
    clear ht
    generalize hq : ofK m.pl t i = q at *
    have hql := HFL.out
    go_wp2_with (at_builtin; refine wpList_append_own _ rfl (.tmp 20) (.tmp 22) 45 rfl w.heap.size 3 i0 _ 1 8 Tryz.underlying45 hi hz0 hz1 hz2 rfl (by decide) _ _ _ rfl OW2.out.own ⟨wr.heap.size + 1, 0, none⟩ 1 1 [.int .i64 (i : Int)] rfl rfl (by have := cell_one_new (wr.alloc (.cells #[.int .i64 p.1.kd, .int .i64 p.1.t, .int .i64 p.1.s, .int .i64 p.1.lev, .int .i64 p.1.o, .int .i64 p.1.vt, .int .i64 p.1.vk, .int .i64 p.1.p, .slice p.2.A p.2.n p.2.c] 39)) (.int .i64 (i : Int)) 3; rwa [World.size_alloc] at this) (by simp [Value.oneCell']) (by unfold maxLen; omega) (by omega) (by simp at hs1 ⊢; omega) ?_; intro v' w2 hown' hgrow _)
    have HN2 : Hid (GotI w (ofK m.pl t (i + 1)) v' w2) := by show GotI _ _ _ _; rw [HY.out]; exact OW2.out.more hown' hgrow
    clear hown' hgrow OW2 OW HG hs1 hq hql
    go_wp2_with fail
    go_roundw
    case rel => exact ⟨i + 1, by omega, by go_num, HN2⟩
    case measure => simp [intOf]; omega
   ·have hbt : (p.1.t == t) = false := by simpa using ht
    have HN2 := Lib.hid (OW.out.cast (ofK_no HE.out ht))
    clear ht OW HG
    go_wp2_with fail
    go_roundw
    case rel => exact ⟨i + 1, by omega, by go_num, HN2⟩
    case measure => simp [intOf]; omega
  ·obtain rfl : i = n := by omega
   have HF : Hid (ofK m.pl t i = ofP m.pl t) := by show _ = _; rw [← ofK_all, HLEN.out]
   obtain ⟨A, c, rfl, h1, h2⟩ := own_form2 HG.out.own
   go_wp2_with fail
   go_ret
   have h9 := HG.out.own
   rw [HF.out] at h9
   exact ⟨A, c, by rw [HF.out]; rfl, h9, HG.out.below⟩
end Go.Proofs.YtlnbmmaminflcaaGreatDoor
