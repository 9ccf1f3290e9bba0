/- Layer history: rows of events, orders, matches compared; two histories compared (Same): contracts. -/
import Derived.StillTailTactics
import Derived.Deep.CutRange
import Derived.Deep.DeepCutAuto
import Derived.Test.YtlnbmmaminflcaaGreatDoorM16
import Derived.Test.YtlnbmmaminflcaaGreatDoorM18
-- holds: YtlnbmmaminflcaaGreatDoorVIha
namespace Go.Proofs.YtlnbmmaminflcaaGreatDoor
open Go.RowKit Go.Shelf
theorem cell_on_alloc {w : World} {p : Addr} {u : Value} {o : Obj} (h : w.cell? p = some u) : (w.alloc o).cell? p = some u := by rw [World.cell?_alloc_lt w o p (World.block_lt_of_cell? w _ h)]; exact h

set_option maxRecDepth 100000 in
set_option maxHeartbeats 8000000 in
theorem eqfEv_any (A A2 : Option Addr) (n m c c2 : Nat) (xs ys : List (EvP × SH)) (hn : n ≤ 1000000) (hls : (∀ p ∈ xs, p.2.n ≤ 1000000) ∧ ∀ p ∈ ys, p.2.n ≤ 1000000) (w : World) (hR : Reads w w.heap.size 9 A n (xs.flatMap evCs)) (hR2 : Reads w w.heap.size 9 A2 m (ys.flatMap evCs))
 (hS : ∀ p ∈ xs, Reads w w.heap.size 3 p.2.A p.2.n (p.1.scan.flatMap seCs)) (hS2 : ∀ p ∈ ys, Reads w w.heap.size 3 p.2.A p.2.n (p.1.scan.flatMap seCs)) :
 Calls Tryz.prog 38 #[.slice A n c, .slice A2 m c2, .func (.func 11) #[] #[]] w fun e w' => e = .returned (.bool (decide (xs.map (·.1) = ys.map (·.1)))) ∧ Below w.heap.size w w' := by
 have HR := Lib.hid hR
 have HR2 := Lib.hid hR2
 have HS := Lib.hid hS
 have HS2 := Lib.hid hS2
 have HLS := Lib.hid hls
 have HL := Lib.hid (reads_len_s evCs_len (by omega) hR)
 have HL2 := Lib.hid (reads_len_s evCs_len (by omega) hR2)
 clear hR hR2 hS hS2 hls
 by_cases hnm : n = m
 ·subst hnm
  go_enter Tryz.func38, Tryz.ntmps38
  go_wp2_with fail
  go_loopg [17] n (fun gg i wr => ∃ k : Nat, k + gg = n ∧ i = .int .i64 k ∧ Hid ((xs.map (·.1)).take k = (ys.map (·.1)).take k) ∧ Hid (Below w.heap.size w wr))
  case atStart => exact ⟨0, by omega, rfl, by simp [Hid], Below.refl _ _⟩
  case round =>
   obtain ⟨k, hk, rfl, ht, bk⟩ := hrel
   cases gk with
   | succ g2 =>
    have hlt : (k : Int) < (n : Int) := by omega
    obtain ⟨p, hp⟩ : ∃ p, xs[k]? = some p := ⟨xs[k]'(by rw [HL.out]; omega), List.getElem?_eq_getElem _⟩
    obtain ⟨q, hq⟩ : ∃ q, ys[k]? = some q := ⟨ys[k]'(by rw [HL2.out]; omega), List.getElem?_eq_getElem _⟩
    have hr1 := HS.out p (List.mem_of_getElem? hp)
    have hr2 := HS2.out q (List.mem_of_getElem? hq)
    obtain ⟨b, o, rfl, hb, hc⟩ := row_cells evCs_len (by omega) (HR.out.below bk.out) hp
    obtain ⟨b2, o2, rfl, hb2, hc2⟩ := row_cells evCs_len (by omega) (HR2.out.below bk.out) hq
    have hbl : Below w.heap.size w ((wr.alloc (.cells #[.int .i64 p.1.kd, .int .i64 p.1.t, .int .i64 p.1.s, .int .i64 p.1.lev, .int .i64 p.1.o, .int .i64 p.1.vt, .int .i64 p.1.vk, .int .i64 p.1.p, .slice p.2.A p.2.n p.2.c] 39)).alloc (.cells #[.int .i64 q.1.kd, .int .i64 q.1.t, .int .i64 q.1.s, .int .i64 q.1.lev, .int .i64 q.1.o, .int .i64 q.1.vt, .int .i64 q.1.vk, .int .i64 q.1.p, .slice q.2.A q.2.n q.2.c] 39)) := (bk.out.alloc bk.out.size _).alloc (Nat.le_trans bk.out.size (by simp)) _
    have HBL := Lib.hid hbl
    have HC := Lib.hid (sameEvent_any p q (HLS.out.1 p (List.mem_of_getElem? hp)) (HLS.out.2 q (List.mem_of_getElem? hq)) _ ((hr1.below hbl).more hbl.size) ((hr2.below hbl).more hbl.size))
    have c0 : wr.cell? ⟨b, o + k * 9, none⟩ = some (.int .i64 p.1.kd) := hc 0 _ rfl
    have c1 : wr.cell? ⟨b, o + k * 9 + 1, none⟩ = some (.int .i64 p.1.t) := hc 1 _ rfl
    have c2 : wr.cell? ⟨b, o + k * 9 + 2, none⟩ = some (.int .i64 p.1.s) := hc 2 _ rfl
    have c3 : wr.cell? ⟨b, o + k * 9 + 3, none⟩ = some (.int .i64 p.1.lev) := hc 3 _ rfl
    have c4 : wr.cell? ⟨b, o + k * 9 + 4, none⟩ = some (.int .i64 p.1.o) := hc 4 _ rfl
    have c5 : wr.cell? ⟨b, o + k * 9 + 5, none⟩ = some (.int .i64 p.1.vt) := hc 5 _ rfl
    have c6 : wr.cell? ⟨b, o + k * 9 + 6, none⟩ = some (.int .i64 p.1.vk) := hc 6 _ rfl
    have c7 : wr.cell? ⟨b, o + k * 9 + 7, none⟩ = some (.int .i64 p.1.p) := hc 7 _ rfl
    have c8 : wr.cell? ⟨b, o + k * 9 + 8, none⟩ = some (.slice p.2.A p.2.n p.2.c) := hc 8 _ rfl
    have d0 : (wr.alloc (.cells #[.int .i64 p.1.kd, .int .i64 p.1.t, .int .i64 p.1.s, .int .i64 p.1.lev, .int .i64 p.1.o, .int .i64 p.1.vt, .int .i64 p.1.vk, .int .i64 p.1.p, .slice p.2.A p.2.n p.2.c] 39)).cell? ⟨b2, o2 + k * 9, none⟩ = some (.int .i64 q.1.kd) := cell_on_alloc (hc2 0 _ rfl)
    have d1 : (wr.alloc (.cells #[.int .i64 p.1.kd, .int .i64 p.1.t, .int .i64 p.1.s, .int .i64 p.1.lev, .int .i64 p.1.o, .int .i64 p.1.vt, .int .i64 p.1.vk, .int .i64 p.1.p, .slice p.2.A p.2.n p.2.c] 39)).cell? ⟨b2, o2 + k * 9 + 1, none⟩ = some (.int .i64 q.1.t) := cell_on_alloc (hc2 1 _ rfl)
    have d2 : (wr.alloc (.cells #[.int .i64 p.1.kd, .int .i64 p.1.t, .int .i64 p.1.s, .int .i64 p.1.lev, .int .i64 p.1.o, .int .i64 p.1.vt, .int .i64 p.1.vk, .int .i64 p.1.p, .slice p.2.A p.2.n p.2.c] 39)).cell? ⟨b2, o2 + k * 9 + 2, none⟩ = some (.int .i64 q.1.s) := cell_on_alloc (hc2 2 _ rfl)
    have d3 : (wr.alloc (.cells #[.int .i64 p.1.kd, .int .i64 p.1.t, .int .i64 p.1.s, .int .i64 p.1.lev, .int .i64 p.1.o, .int .i64 p.1.vt, .int .i64 p.1.vk, .int .i64 p.1.p, .slice p.2.A p.2.n p.2.c] 39)).cell? ⟨b2, o2 + k * 9 + 3, none⟩ = some (.int .i64 q.1.lev) := cell_on_alloc (hc2 3 _ rfl)
    have d4 : (wr.alloc (.cells #[.int .i64 p.1.kd, .int .i64 p.1.t, .int .i64 p.1.s, .int .i64 p.1.lev, .int .i64 p.1.o, .int .i64 p.1.vt, .int .i64 p.1.vk, .int .i64 p.1.p, .slice p.2.A p.2.n p.2.c] 39)).cell? ⟨b2, o2 + k * 9 + 4, none⟩ = some (.int .i64 q.1.o) := cell_on_alloc (hc2 4 _ rfl)
    have d5 : (wr.alloc (.cells #[.int .i64 p.1.kd, .int .i64 p.1.t, .int .i64 p.1.s, .int .i64 p.1.lev, .int .i64 p.1.o, .int .i64 p.1.vt, .int .i64 p.1.vk, .int .i64 p.1.p, .slice p.2.A p.2.n p.2.c] 39)).cell? ⟨b2, o2 + k * 9 + 5, none⟩ = some (.int .i64 q.1.vt) := cell_on_alloc (hc2 5 _ rfl)
    have d6 : (wr.alloc (.cells #[.int .i64 p.1.kd, .int .i64 p.1.t, .int .i64 p.1.s, .int .i64 p.1.lev, .int .i64 p.1.o, .int .i64 p.1.vt, .int .i64 p.1.vk, .int .i64 p.1.p, .slice p.2.A p.2.n p.2.c] 39)).cell? ⟨b2, o2 + k * 9 + 6, none⟩ = some (.int .i64 q.1.vk) := cell_on_alloc (hc2 6 _ rfl)
    have d7 : (wr.alloc (.cells #[.int .i64 p.1.kd, .int .i64 p.1.t, .int .i64 p.1.s, .int .i64 p.1.lev, .int .i64 p.1.o, .int .i64 p.1.vt, .int .i64 p.1.vk, .int .i64 p.1.p, .slice p.2.A p.2.n p.2.c] 39)).cell? ⟨b2, o2 + k * 9 + 7, none⟩ = some (.int .i64 q.1.p) := cell_on_alloc (hc2 7 _ rfl)
    have d8 : (wr.alloc (.cells #[.int .i64 p.1.kd, .int .i64 p.1.t, .int .i64 p.1.s, .int .i64 p.1.lev, .int .i64 p.1.o, .int .i64 p.1.vt, .int .i64 p.1.vk, .int .i64 p.1.p, .slice p.2.A p.2.n p.2.c] 39)).cell? ⟨b2, o2 + k * 9 + 8, none⟩ = some (.slice q.2.A q.2.n q.2.c) := cell_on_alloc (hc2 8 _ rfl)
    have HK := Lib.hid hk
    have HP : Hid ((xs.map (·.1))[k]? = some p.1) := by show _ = _; rw [List.getElem?_map, hp]; rfl
    have HQ : Hid ((ys.map (·.1))[k]? = some q.1) := by show _ = _; rw [List.getElem?_map, hq]; rfl
    clear hc hc2 hr1 hr2 hp hq hbl hk
    go_wp2_with fail
    refine HC.out.mono ?_
    rintro e w1 ⟨rfl, b1⟩
    have B1 := Lib.hid (HBL.out.trans (b1.mono HBL.out.size))
    clear b1 HC
    by_cases hpq : p.1 = q.1
    ·have hd : decide (p.1 = q.1) = true := decide_eq_true hpq
     have HT : Hid ((xs.map (·.1)).take (k + 1) = (ys.map (·.1)).take (k + 1)) := by
      show _ = _
      rw [List.take_add_one, List.take_add_one, ht.out, HP.out, HQ.out, hpq]
     clear hpq
     rw [hd]
     go_wp2_with fail
     go_roundg g2
     case measure => omega
     case rel => exact ⟨k + 1, by have := HK.out; omega, by go_num, HT, B1⟩
    ·have hd : decide (p.1 = q.1) = false := decide_eq_false hpq
     have HD : Hid (decide (xs.map (·.1) = ys.map (·.1)) = false) := by
      show _ = _
      rw [decide_eq_false_iff_not]
      intro e
      have h1 := HP.out
      rw [e, HQ.out] at h1
      exact hpq (Option.some.inj h1).symm
     clear hpq
     rw [hd]
     go_wp2_with fail
     go_ret
     exact ⟨by rw [HD.out]; rfl, B1.out⟩
   | zero =>
    have hge : ¬ (k : Int) < (n : Int) := by omega
    have HD : Hid (decide (xs.map (·.1) = ys.map (·.1)) = true) := by
     show _ = _
     rw [decide_eq_true_eq]
     have := ht.out
     rwa [List.take_of_length_le (by rw [List.length_map, HL.out]; omega), List.take_of_length_le (by rw [List.length_map, HL2.out]; omega)] at this
    have HK := Lib.hid hk
    clear hk
    go_wp2_with fail
    go_ret
    exact ⟨by rw [HD.out]; rfl, bk.out⟩
 ·have hb : ((n : Int) != (m : Int)) = true := by simp; omega
  have HD : Hid (decide (xs.map (·.1) = ys.map (·.1)) = false) := by
   show _ = _
   rw [decide_eq_false_iff_not]
   intro e
   have := congrArg List.length e
   rw [List.length_map, List.length_map, HL.out, HL2.out] at this
   exact hnm this
  clear hnm
  go_enter Tryz.func38, Tryz.ntmps38
  go_wp2_with fail
  go_ret
  exact ⟨by rw [HD.out]; rfl, Below.refl _ _⟩

set_option maxRecDepth 100000 in
set_option maxHeartbeats 8000000 in
theorem eqfOd_any (A A2 : Option Addr) (n m c c2 : Nat) (xs ys : List (OrdP × SH)) (hn : n ≤ 1000000) (hls : (∀ p ∈ xs, p.2.n ≤ 1000000) ∧ ∀ p ∈ ys, p.2.n ≤ 1000000) (w : World) (hR : Reads w w.heap.size 2 A n (xs.flatMap odCs)) (hR2 : Reads w w.heap.size 2 A2 m (ys.flatMap odCs))
 (hS : ∀ p ∈ xs, Reads w w.heap.size 1 p.2.A p.2.n (ints p.1.ts)) (hS2 : ∀ p ∈ ys, Reads w w.heap.size 1 p.2.A p.2.n (ints p.1.ts)) :
 Calls Tryz.prog 39 #[.slice A n c, .slice A2 m c2, .func (.func 40) #[] #[]] w fun e w' => e = .returned (.bool (decide (xs.map (·.1) = ys.map (·.1)))) ∧ Below w.heap.size w w' := by
 have HR := Lib.hid hR
 have HR2 := Lib.hid hR2
 have HS := Lib.hid hS
 have HS2 := Lib.hid hS2
 have HLS := Lib.hid hls
 have HL := Lib.hid (reads_len_s odCs_len (by omega) hR)
 have HL2 := Lib.hid (reads_len_s odCs_len (by omega) hR2)
 clear hR hR2 hS hS2 hls
 by_cases hnm : n = m
 ·subst hnm
  go_enter Tryz.func39, Tryz.ntmps39
  go_wp2_with fail
  go_loopg [17] n (fun gg i wr => ∃ k : Nat, k + gg = n ∧ i = .int .i64 k ∧ Hid ((xs.map (·.1)).take k = (ys.map (·.1)).take k) ∧ Hid (Below w.heap.size w wr))
  case atStart => exact ⟨0, by omega, rfl, by simp [Hid], Below.refl _ _⟩
  case round =>
   obtain ⟨k, hk, rfl, ht, bk⟩ := hrel
   cases gk with
   | succ g2 =>
    have hlt : (k : Int) < (n : Int) := by omega
    obtain ⟨p, hp⟩ : ∃ p, xs[k]? = some p := ⟨xs[k]'(by rw [HL.out]; omega), List.getElem?_eq_getElem _⟩
    obtain ⟨q, hq⟩ : ∃ q, ys[k]? = some q := ⟨ys[k]'(by rw [HL2.out]; omega), List.getElem?_eq_getElem _⟩
    have hr1 := HS.out p (List.mem_of_getElem? hp)
    have hr2 := HS2.out q (List.mem_of_getElem? hq)
    obtain ⟨b, o, rfl, hb, hc⟩ := row_cells odCs_len (by omega) (HR.out.below bk.out) hp
    obtain ⟨b2, o2, rfl, hb2, hc2⟩ := row_cells odCs_len (by omega) (HR2.out.below bk.out) hq
    have hbl : Below w.heap.size w ((wr.alloc (.cells #[.int .i64 p.1.o, .slice p.2.A p.2.n p.2.c] 61)).alloc (.cells #[.int .i64 q.1.o, .slice q.2.A q.2.n q.2.c] 61)) := (bk.out.alloc bk.out.size _).alloc (Nat.le_trans bk.out.size (by simp)) _
    have HBL := Lib.hid hbl
    have HC := Lib.hid (sameOrder_any p q (HLS.out.1 p (List.mem_of_getElem? hp)) (HLS.out.2 q (List.mem_of_getElem? hq)) _ ((hr1.below hbl).more hbl.size) ((hr2.below hbl).more hbl.size))
    have c0 : wr.cell? ⟨b, o + k * 2, none⟩ = some (.int .i64 p.1.o) := hc 0 _ rfl
    have c1 : wr.cell? ⟨b, o + k * 2 + 1, none⟩ = some (.slice p.2.A p.2.n p.2.c) := hc 1 _ rfl
    have d0 : (wr.alloc (.cells #[.int .i64 p.1.o, .slice p.2.A p.2.n p.2.c] 61)).cell? ⟨b2, o2 + k * 2, none⟩ = some (.int .i64 q.1.o) := cell_on_alloc (hc2 0 _ rfl)
    have d1 : (wr.alloc (.cells #[.int .i64 p.1.o, .slice p.2.A p.2.n p.2.c] 61)).cell? ⟨b2, o2 + k * 2 + 1, none⟩ = some (.slice q.2.A q.2.n q.2.c) := cell_on_alloc (hc2 1 _ rfl)
    have HK := Lib.hid hk
    have HP : Hid ((xs.map (·.1))[k]? = some p.1) := by show _ = _; rw [List.getElem?_map, hp]; rfl
    have HQ : Hid ((ys.map (·.1))[k]? = some q.1) := by show _ = _; rw [List.getElem?_map, hq]; rfl
    clear hc hc2 hr1 hr2 hp hq hbl hk
    go_wp2_with fail
    refine HC.out.mono ?_
    rintro e w1 ⟨rfl, b1⟩
    have B1 := Lib.hid (HBL.out.trans (b1.mono HBL.out.size))
    clear b1 HC
    by_cases hpq : p.1 = q.1
    ·have hd : decide (p.1 = q.1) = true := decide_eq_true hpq
     have HT : Hid ((xs.map (·.1)).take (k + 1) = (ys.map (·.1)).take (k + 1)) := by
      show _ = _
      rw [List.take_add_one, List.take_add_one, ht.out, HP.out, HQ.out, hpq]
     clear hpq
     rw [hd]
     go_wp2_with fail
     go_roundg g2
     case measure => omega
     case rel => exact ⟨k + 1, by have := HK.out; omega, by go_num, HT, B1⟩
    ·have hd : decide (p.1 = q.1) = false := decide_eq_false hpq
     have HD : Hid (decide (xs.map (·.1) = ys.map (·.1)) = false) := by
      show _ = _
      rw [decide_eq_false_iff_not]
      intro e
      have h1 := HP.out
      rw [e, HQ.out] at h1
      exact hpq (Option.some.inj h1).symm
     clear hpq
     rw [hd]
     go_wp2_with fail
     go_ret
     exact ⟨by rw [HD.out]; rfl, B1.out⟩
   | zero =>
    have hge : ¬ (k : Int) < (n : Int) := by omega
    have HD : Hid (decide (xs.map (·.1) = ys.map (·.1)) = true) := by
     show _ = _
     rw [decide_eq_true_eq]
     have := ht.out
     rwa [List.take_of_length_le (by rw [List.length_map, HL.out]; omega), List.take_of_length_le (by rw [List.length_map, HL2.out]; omega)] at this
    have HK := Lib.hid hk
    clear hk
    go_wp2_with fail
    go_ret
    exact ⟨by rw [HD.out]; rfl, bk.out⟩
 ·have hb : ((n : Int) != (m : Int)) = true := by simp; omega
  have HD : Hid (decide (xs.map (·.1) = ys.map (·.1)) = false) := by
   show _ = _
   rw [decide_eq_false_iff_not]
   intro e
   have := congrArg List.length e
   rw [List.length_map, List.length_map, HL.out, HL2.out] at this
   exact hnm this
  clear hnm
  go_enter Tryz.func39, Tryz.ntmps39
  go_wp2_with fail
  go_ret
  exact ⟨by rw [HD.out]; rfl, Below.refl _ _⟩

set_option maxRecDepth 100000 in
set_option maxHeartbeats 8000000 in
theorem eqfMa_any (A A2 : Option Addr) (n m c c2 : Nat) (xs ys : List (MatP × SH)) (hn : n ≤ 1000000) (hls : (∀ p ∈ xs, p.2.n ≤ 1000000) ∧ ∀ p ∈ ys, p.2.n ≤ 1000000) (w : World) (hR : Reads w w.heap.size 4 A n (xs.flatMap maCs)) (hR2 : Reads w w.heap.size 4 A2 m (ys.flatMap maCs))
 (hS : ∀ p ∈ xs, Reads w w.heap.size 1 p.2.A p.2.n (ints p.1.ts)) (hS2 : ∀ p ∈ ys, Reads w w.heap.size 1 p.2.A p.2.n (ints p.1.ts)) :
 Calls Tryz.prog 41 #[.slice A n c, .slice A2 m c2, .func (.func 42) #[] #[]] w fun e w' => e = .returned (.bool (decide (xs.map (·.1) = ys.map (·.1)))) ∧ Below w.heap.size w w' := by
 have HR := Lib.hid hR
 have HR2 := Lib.hid hR2
 have HS := Lib.hid hS
 have HS2 := Lib.hid hS2
 have HLS := Lib.hid hls
 have HL := Lib.hid (reads_len_s maCs_len (by omega) hR)
 have HL2 := Lib.hid (reads_len_s maCs_len (by omega) hR2)
 clear hR hR2 hS hS2 hls
 by_cases hnm : n = m
 ·subst hnm
  go_enter Tryz.func41, Tryz.ntmps41
  go_wp2_with fail
  go_loopg [17] n (fun gg i wr => ∃ k : Nat, k + gg = n ∧ i = .int .i64 k ∧ Hid ((xs.map (·.1)).take k = (ys.map (·.1)).take k) ∧ Hid (Below w.heap.size w wr))
  case atStart => exact ⟨0, by omega, rfl, by simp [Hid], Below.refl _ _⟩
  case round =>
   obtain ⟨k, hk, rfl, ht, bk⟩ := hrel
   cases gk with
   | succ g2 =>
    have hlt : (k : Int) < (n : Int) := by omega
    obtain ⟨p, hp⟩ : ∃ p, xs[k]? = some p := ⟨xs[k]'(by rw [HL.out]; omega), List.getElem?_eq_getElem _⟩
    obtain ⟨q, hq⟩ : ∃ q, ys[k]? = some q := ⟨ys[k]'(by rw [HL2.out]; omega), List.getElem?_eq_getElem _⟩
    have hr1 := HS.out p (List.mem_of_getElem? hp)
    have hr2 := HS2.out q (List.mem_of_getElem? hq)
    obtain ⟨b, o, rfl, hb, hc⟩ := row_cells maCs_len (by omega) (HR.out.below bk.out) hp
    obtain ⟨b2, o2, rfl, hb2, hc2⟩ := row_cells maCs_len (by omega) (HR2.out.below bk.out) hq
    have hbl : Below w.heap.size w ((wr.alloc (.cells #[.int .i64 p.1.p, .int .i64 p.1.o, .bool p.1.fi, .slice p.2.A p.2.n p.2.c] 64)).alloc (.cells #[.int .i64 q.1.p, .int .i64 q.1.o, .bool q.1.fi, .slice q.2.A q.2.n q.2.c] 64)) := (bk.out.alloc bk.out.size _).alloc (Nat.le_trans bk.out.size (by simp)) _
    have HBL := Lib.hid hbl
    have HC := Lib.hid (sameMatch_any p q (HLS.out.1 p (List.mem_of_getElem? hp)) (HLS.out.2 q (List.mem_of_getElem? hq)) _ ((hr1.below hbl).more hbl.size) ((hr2.below hbl).more hbl.size))
    have c0 : wr.cell? ⟨b, o + k * 4, none⟩ = some (.int .i64 p.1.p) := hc 0 _ rfl
    have c1 : wr.cell? ⟨b, o + k * 4 + 1, none⟩ = some (.int .i64 p.1.o) := hc 1 _ rfl
    have c2 : wr.cell? ⟨b, o + k * 4 + 2, none⟩ = some (.bool p.1.fi) := hc 2 _ rfl
    have c3 : wr.cell? ⟨b, o + k * 4 + 3, none⟩ = some (.slice p.2.A p.2.n p.2.c) := hc 3 _ rfl
    have d0 : (wr.alloc (.cells #[.int .i64 p.1.p, .int .i64 p.1.o, .bool p.1.fi, .slice p.2.A p.2.n p.2.c] 64)).cell? ⟨b2, o2 + k * 4, none⟩ = some (.int .i64 q.1.p) := cell_on_alloc (hc2 0 _ rfl)
    have d1 : (wr.alloc (.cells #[.int .i64 p.1.p, .int .i64 p.1.o, .bool p.1.fi, .slice p.2.A p.2.n p.2.c] 64)).cell? ⟨b2, o2 + k * 4 + 1, none⟩ = some (.int .i64 q.1.o) := cell_on_alloc (hc2 1 _ rfl)
    have d2 : (wr.alloc (.cells #[.int .i64 p.1.p, .int .i64 p.1.o, .bool p.1.fi, .slice p.2.A p.2.n p.2.c] 64)).cell? ⟨b2, o2 + k * 4 + 2, none⟩ = some (.bool q.1.fi) := cell_on_alloc (hc2 2 _ rfl)
    have d3 : (wr.alloc (.cells #[.int .i64 p.1.p, .int .i64 p.1.o, .bool p.1.fi, .slice p.2.A p.2.n p.2.c] 64)).cell? ⟨b2, o2 + k * 4 + 3, none⟩ = some (.slice q.2.A q.2.n q.2.c) := cell_on_alloc (hc2 3 _ rfl)
    have HK := Lib.hid hk
    have HP : Hid ((xs.map (·.1))[k]? = some p.1) := by show _ = _; rw [List.getElem?_map, hp]; rfl
    have HQ : Hid ((ys.map (·.1))[k]? = some q.1) := by show _ = _; rw [List.getElem?_map, hq]; rfl
    clear hc hc2 hr1 hr2 hp hq hbl hk
    go_wp2_with fail
    refine HC.out.mono ?_
    rintro e w1 ⟨rfl, b1⟩
    have B1 := Lib.hid (HBL.out.trans (b1.mono HBL.out.size))
    clear b1 HC
    by_cases hpq : p.1 = q.1
    ·have hd : decide (p.1 = q.1) = true := decide_eq_true hpq
     have HT : Hid ((xs.map (·.1)).take (k + 1) = (ys.map (·.1)).take (k + 1)) := by
      show _ = _
      rw [List.take_add_one, List.take_add_one, ht.out, HP.out, HQ.out, hpq]
     clear hpq
     rw [hd]
     go_wp2_with fail
     go_roundg g2
     case measure => omega
     case rel => exact ⟨k + 1, by have := HK.out; omega, by go_num, HT, B1⟩
    ·have hd : decide (p.1 = q.1) = false := decide_eq_false hpq
     have HD : Hid (decide (xs.map (·.1) = ys.map (·.1)) = false) := by
      show _ = _
      rw [decide_eq_false_iff_not]
      intro e
      have h1 := HP.out
      rw [e, HQ.out] at h1
      exact hpq (Option.some.inj h1).symm
     clear hpq
     rw [hd]
     go_wp2_with fail
     go_ret
     exact ⟨by rw [HD.out]; rfl, B1.out⟩
   | zero =>
    have hge : ¬ (k : Int) < (n : Int) := by omega
    have HD : Hid (decide (xs.map (·.1) = ys.map (·.1)) = true) := by
     show _ = _
     rw [decide_eq_true_eq]
     have := ht.out
     rwa [List.take_of_length_le (by rw [List.length_map, HL.out]; omega), List.take_of_length_le (by rw [List.length_map, HL2.out]; omega)] at this
    have HK := Lib.hid hk
    clear hk
    go_wp2_with fail
    go_ret
    exact ⟨by rw [HD.out]; rfl, bk.out⟩
 ·have hb : ((n : Int) != (m : Int)) = true := by simp; omega
  have HD : Hid (decide (xs.map (·.1) = ys.map (·.1)) = false) := by
   show _ = _
   rw [decide_eq_false_iff_not]
   intro e
   have := congrArg List.length e
   rw [List.length_map, List.length_map, HL.out, HL2.out] at this
   exact hnm this
  clear hnm
  go_enter Tryz.func41, Tryz.ntmps41
  go_wp2_with fail
  go_ret
  exact ⟨by rw [HD.out]; rfl, Below.refl _ _⟩
end Go.Proofs.YtlnbmmaminflcaaGreatDoor
