/- Layer graph: the function over which In, Filter and Kinds range: its contract, for each closure that asks. -/
import Derived.RangeFuncNested
import Derived.RangeFuncBound
import Derived.RangeFuncCalls
import Derived.RangeFuncLeaves
import Derived.Shelf.Abstract
import Derived.Shelf.RegionOpen
import Derived.WalkKit
import Derived.OwnWalkIn
import Derived.TacticsInMore
import Derived.LoopNIn
import Derived.LoopIn
import Derived.Outline
import Derived.Test.YticbgikbpafeoaaGu
import Derived.Test.YticbgikbpafeoaaGr
namespace Go.Proofs.Yticbgikbpafeoaa
open Go.RowKit Go.Shelf
attribute [local go_sem] Oper.semAt_some

/-- An edge, as the one value that is told. -/
def encE (p : Ed) : Array Value := #[.agg #[.int .i64 p.1, .int .i64 p.2.1, .int .i64 p.2.2]]
theorem grown_of_below {W W' : World} (h : Below W.heap.size W W') : W.grownBy W' none := ⟨h.os, h.tape, h.output, h.size, fun k hk _ => h.block k hk⟩

set_option maxRecDepth 100000 in
set_option maxHeartbeats 2000000 in
theorem those_in_in1 (m : Nat) (hm : 1 ≤ m) (l Bs Bf Bv Bq : Nat) (A : Option Addr) (n c : Nat) (zs : List Ed) (q : Ed → Bool) (hn : n ≤ 1000) (J Jm Jx : Nat → World → Prop)
    (hF : ∀ i W, J i W → Blk W Bs 22 #[.slice A n c] ∧ Blk W Bf 54 #[.func (.func 52) #[] #[.pointer (some ⟨Bv, 0, none⟩)]] ∧ Reads W Bq 3 A n (cellsE zs))
    (hAsk : ∀ i p W, zs[i]? = some p → J i W → Calls Try.prog 52 #[.agg #[.int .i64 p.1, .int .i64 p.2.1, .int .i64 p.2.2], .pointer (some ⟨Bv, 0, none⟩)] (W.alloc (.cells #[.int .i64 p.1, .int .i64 p.2.1, .int .i64 p.2.2] 35)) fun e W' => e = .returned (.bool (q p)) ∧ Jm i W' ∧ Blk W' W.heap.size 35 #[.int .i64 p.1, .int .i64 p.2.1, .int .i64 p.2.2])
    (hSkip : ∀ i p W, zs[i]? = some p → q p = false → Jm i W → J (i + 1) W)
    (hY : ∀ i p W, zs[i]? = some p → q p = true → Jm i W → YieldAt Fence.wide (m - 1) Try.prog l (encE p) W fun e W' => (e = .returned (.bool true) ∧ J (i + 1) W') ∨ (e = .returned (.bool false) ∧ Jx i W'))
    (W : World) (h0 : J 0 W) :
    CallsIn Fence.wide m Try.prog 67 #[.func (.yield l) #[] #[], .pointer (some ⟨Bs, 0, none⟩), .pointer (some ⟨Bf, 0, none⟩)] W fun e W' => (∃ v, e = .returned v) ∧ (J n W' ∨ ∃ i, Jx i W') := by
  have s0 := (hF 0 W h0).1.cell 0
  have HL := Lib.hid (reads_len (hF 0 W h0).2.2)
  have HF := Lib.hid hF
  have HA := Lib.hid hAsk
  have HS := Lib.hid hSkip
  have HYY := Lib.hid hY
  have H0 := Lib.hid h0
  clear hF hAsk hSkip hY h0
  refine callsIn_of_wp Try.func67 rfl trivial ?_ rfl
  simp only [Try.ntmps67, List.size_toArray, List.length_cons, List.length_nil, Nat.reduceAdd, Nat.reduceSub, Array.replicate_succ, Array.replicate_zero, List.push_toArray, List.append_toArray, List.nil_append, List.cons_append]
  gi_wp2_with fail
  clear s0
  gi_loopw [8] (fun v wr => ∃ i : Nat, v = .int .i64 i ∧ i ≤ n ∧ Hid (J i wr)) (fun v _ => n - (intOf v).toNat)
  case atStart => exact ⟨0, rfl, Nat.zero_le _, H0⟩
  case round =>
    obtain ⟨i, rfl, hin, HJ⟩ := hrel
    by_cases hin2 : i < n
    · have hlt : (i : Int) < (n : Int) := by omega
      obtain ⟨p, hp⟩ : ∃ p, zs[i]? = some p := ⟨zs[i]'(by rw [HL.out]; omega), List.getElem?_eq_getElem _⟩
      obtain ⟨kS, kF, kR⟩ := HF.out i wr HJ.out
      obtain ⟨b, o, rfl, hb, g0, g1, gk2⟩ := ed_at kR hp
      have KF := Lib.hid (kF.alloc (.cells #[.int .i64 p.1, .int .i64 p.2.1, .int .i64 p.2.2] 35))
      have KY := Lib.hid (Blk.new wr 35 #[.int .i64 p.1, .int .i64 p.2.1, .int .i64 p.2.2])
      have HC := Lib.hid (HA.out i p wr hp HJ.out)
      have f0 := KF.out.cell 0
      have y0 := KY.out.cell 0
      have y1 := KY.out.cell 1
      have y2 := KY.out.cell 2
      have HP := Lib.hid hp
      clear hp kS kF kR KF KY
      cases hq : q p
      · rw [hq] at HC
        have HQ := Lib.hid hq
        clear hq
        gi_wp2_with fail
        refine ⟨trivial, (callsIn_wide.2 HC.out).mono ?_⟩
        rintro e w1 ⟨rfl, hJm, kY⟩
        have HJ2 := Lib.hid (HS.out i p w1 HP.out HQ.out hJm)
        clear hJm kY y0 y1 y2 f0 g0 g1 gk2 HC
        gi_wp2_with fail
        refine ⟨(fun f h => by cases h), ?_⟩
        gi_wp2_with fail
        go_roundw
        case rel => exact ⟨i + 1, by go_num, hin2, HJ2⟩
        case measure => simp [intOf]; omega
      · rw [hq] at HC
        have HQ := Lib.hid hq
        clear hq
        gi_wp2_with fail
        refine ⟨trivial, (callsIn_wide.2 HC.out).mono ?_⟩
        rintro e w1 ⟨rfl, hJm, kY⟩
        obtain ⟨fn, tmps, assign, body, hy, hR⟩ := HYY.out i p w1 HP.out HQ.out hJm
        clear y0 y1 y2 f0 g0 g1 gk2 HC
        unfold encE at hy
        have HRR := Lib.hid hR
        have y0 := kY.cell 0
        have y1 := kY.cell 1
        have y2 := kY.cell 2
        clear hR hJm kY
        gi_wp2_with fail
        refine HRR.out.mono ?_
        rintro e W3 (⟨rfl, hJ3⟩ | ⟨rfl, hJ3⟩)
        · have HJ3 := Lib.hid hJ3
          clear hJ3 y0 y1 y2 hy HRR
          gi_wp2_with fail
          go_roundw
          case rel => exact ⟨i + 1, by go_num, hin2, HJ3⟩
          case measure => simp [intOf]; omega
        · have HJ3 := Lib.hid hJ3
          clear hJ3 y0 y1 y2 hy HRR
          gi_wp2_with fail
          refine bodyPost_ret (results_none rfl _ _ _) rfl ?_
          exact ⟨⟨_, rfl⟩, .inr ⟨i, HJ3.out⟩⟩
    · have hge : ¬ (i : Int) < (n : Int) := by omega
      obtain rfl : i = n := by omega
      gi_wp2_with fail
      go_end0
      exact ⟨⟨_, rfl⟩, .inl HJ.out⟩

theorem those_stops_in1 (m : Nat) (hm : 1 ≤ m) (Bs Bf Bv n c : Nat) (A : Option Addr) (zs : List Ed) (q : Ed → Bool) (hn : n ≤ 1000) (w : World)
    (hs : Blk w Bs 22 #[.slice A n c]) (hf : Blk w Bf 54 #[.func (.func 52) #[] #[.pointer (some ⟨Bv, 0, none⟩)]]) (hR : Reads w w.heap.size 3 A n (cellsE zs))
    (hq : ∀ p W, Below w.heap.size w W → Calls Try.prog 52 #[.agg #[.int .i64 p.1, .int .i64 p.2.1, .int .i64 p.2.2], .pointer (some ⟨Bv, 0, none⟩)] W fun e W' => e = .returned (.bool (q p)) ∧ Below W.heap.size W W') :
    SeqStopsK Fence.wide m Try.prog 67 #[.pointer (some ⟨Bs, 0, none⟩), .pointer (some ⟨Bf, 0, none⟩)] encE (fun X Y => Below w.heap.size X Y) (fun ys => ys = zs.filter q) (fun _ => True) n w := by
  intro l J Jx W hW hJ _ hY h0
  have hl := reads_len hR
  refine (those_in_in1 m hm l Bs Bf Bv w.heap.size A n c zs q hn (fun i W1 => J (fil q zs i) W1 ∧ Below w.heap.size w W1) (fun i W1 => J (fil q zs i) W1 ∧ Below w.heap.size w W1) (fun _ W1 => ∃ pre, Jx pre W1)
    (fun i W1 h => ⟨hs.below h.2 hs.lt, hf.below h.2 hf.lt, hR.below h.2⟩) (fun i p W1 hp h => ?_) (fun i p W1 hp hqp h => ⟨by rw [fil_skip hp hqp]; exact h.1, h.2⟩) (fun i p W1 hp hqp h => ?_) W ⟨h0, hW⟩).mono ?_
  · have hb := h.2.alloc h.2.size (.cells #[.int .i64 p.1, .int .i64 p.2.1, .int .i64 p.2.2] 35)
    refine (hq p _ hb).mono ?_
    rintro e W' ⟨rfl, b⟩
    exact ⟨rfl, ⟨hJ _ _ _ none (hJ _ _ _ none h.1 (World.grownBy_alloc _ _ _) (fun r e => by cases e)) (grown_of_below b) (fun r e => by cases e), hb.trans (b.mono hb.size)⟩, (Blk.new _ _ _).below b (by simp)⟩
  · have hlen : (fil q zs i).length < n := by
      have h1 := List.length_filter_le q (zs.take i)
      rw [List.length_take] at h1
      have := (List.getElem?_eq_some_iff.1 hp).1
      unfold fil
      omega
    refine (hY (fil q zs i) p W1 h.1 hlen).mono ?_
    rintro e W' (⟨rfl, h1, h2⟩ | ⟨rfl, h1⟩)
    · exact .inl ⟨rfl, by rw [fil_keep hp hqp]; exact h1, h.2.trans h2⟩
    · exact .inr ⟨rfl, _, h1⟩
  · rintro e W' ⟨hv, (⟨h1, _⟩ | ⟨_, pre, h1⟩)⟩
    · exact ⟨hv, .inl ⟨_, rfl, by rw [fil_all (by omega)] at h1; exact h1⟩⟩
    · exact ⟨hv, .inr ⟨pre, trivial, h1⟩⟩

set_option maxRecDepth 100000 in
set_option maxHeartbeats 2000000 in
theorem those_in_kinds1 (m : Nat) (hm : 1 ≤ m) (l Bs Bf Bv Bq : Nat) (A : Option Addr) (n c : Nat) (zs : List Ed) (q : Ed → Bool) (hn : n ≤ 1000) (J Jm Jx : Nat → World → Prop)
    (hF : ∀ i W, J i W → Blk W Bs 22 #[.slice A n c] ∧ Blk W Bf 54 #[.func (.func 53) #[] #[.pointer (some ⟨Bv, 0, none⟩)]] ∧ Reads W Bq 3 A n (cellsE zs))
    (hAsk : ∀ i p W, zs[i]? = some p → J i W → Calls Try.prog 53 #[.agg #[.int .i64 p.1, .int .i64 p.2.1, .int .i64 p.2.2], .pointer (some ⟨Bv, 0, none⟩)] (W.alloc (.cells #[.int .i64 p.1, .int .i64 p.2.1, .int .i64 p.2.2] 35)) fun e W' => e = .returned (.bool (q p)) ∧ Jm i W' ∧ Blk W' W.heap.size 35 #[.int .i64 p.1, .int .i64 p.2.1, .int .i64 p.2.2])
    (hSkip : ∀ i p W, zs[i]? = some p → q p = false → Jm i W → J (i + 1) W)
    (hY : ∀ i p W, zs[i]? = some p → q p = true → Jm i W → YieldAt Fence.wide (m - 1) Try.prog l (encE p) W fun e W' => (e = .returned (.bool true) ∧ J (i + 1) W') ∨ (e = .returned (.bool false) ∧ Jx i W'))
    (W : World) (h0 : J 0 W) :
    CallsIn Fence.wide m Try.prog 67 #[.func (.yield l) #[] #[], .pointer (some ⟨Bs, 0, none⟩), .pointer (some ⟨Bf, 0, none⟩)] W fun e W' => (∃ v, e = .returned v) ∧ (J n W' ∨ ∃ i, Jx i W') := by
  have s0 := (hF 0 W h0).1.cell 0
  have HL := Lib.hid (reads_len (hF 0 W h0).2.2)
  have HF := Lib.hid hF
  have HA := Lib.hid hAsk
  have HS := Lib.hid hSkip
  have HYY := Lib.hid hY
  have H0 := Lib.hid h0
  clear hF hAsk hSkip hY h0
  refine callsIn_of_wp Try.func67 rfl trivial ?_ rfl
  simp only [Try.ntmps67, List.size_toArray, List.length_cons, List.length_nil, Nat.reduceAdd, Nat.reduceSub, Array.replicate_succ, Array.replicate_zero, List.push_toArray, List.append_toArray, List.nil_append, List.cons_append]
  gi_wp2_with fail
  clear s0
  gi_loopw [8] (fun v wr => ∃ i : Nat, v = .int .i64 i ∧ i ≤ n ∧ Hid (J i wr)) (fun v _ => n - (intOf v).toNat)
  case atStart => exact ⟨0, rfl, Nat.zero_le _, H0⟩
  case round =>
    obtain ⟨i, rfl, hin, HJ⟩ := hrel
    by_cases hin2 : i < n
    · have hlt : (i : Int) < (n : Int) := by omega
      obtain ⟨p, hp⟩ : ∃ p, zs[i]? = some p := ⟨zs[i]'(by rw [HL.out]; omega), List.getElem?_eq_getElem _⟩
      obtain ⟨kS, kF, kR⟩ := HF.out i wr HJ.out
      obtain ⟨b, o, rfl, hb, g0, g1, gk2⟩ := ed_at kR hp
      have KF := Lib.hid (kF.alloc (.cells #[.int .i64 p.1, .int .i64 p.2.1, .int .i64 p.2.2] 35))
      have KY := Lib.hid (Blk.new wr 35 #[.int .i64 p.1, .int .i64 p.2.1, .int .i64 p.2.2])
      have HC := Lib.hid (HA.out i p wr hp HJ.out)
      have f0 := KF.out.cell 0
      have y0 := KY.out.cell 0
      have y1 := KY.out.cell 1
      have y2 := KY.out.cell 2
      have HP := Lib.hid hp
      clear hp kS kF kR KF KY
      cases hq : q p
      · rw [hq] at HC
        have HQ := Lib.hid hq
        clear hq
        gi_wp2_with fail
        refine ⟨trivial, (callsIn_wide.2 HC.out).mono ?_⟩
        rintro e w1 ⟨rfl, hJm, kY⟩
        have HJ2 := Lib.hid (HS.out i p w1 HP.out HQ.out hJm)
        clear hJm kY y0 y1 y2 f0 g0 g1 gk2 HC
        gi_wp2_with fail
        refine ⟨(fun f h => by cases h), ?_⟩
        gi_wp2_with fail
        go_roundw
        case rel => exact ⟨i + 1, by go_num, hin2, HJ2⟩
        case measure => simp [intOf]; omega
      · rw [hq] at HC
        have HQ := Lib.hid hq
        clear hq
        gi_wp2_with fail
        refine ⟨trivial, (callsIn_wide.2 HC.out).mono ?_⟩
        rintro e w1 ⟨rfl, hJm, kY⟩
        obtain ⟨fn, tmps, assign, body, hy, hR⟩ := HYY.out i p w1 HP.out HQ.out hJm
        clear y0 y1 y2 f0 g0 g1 gk2 HC
        unfold encE at hy
        have HRR := Lib.hid hR
        have y0 := kY.cell 0
        have y1 := kY.cell 1
        have y2 := kY.cell 2
        clear hR hJm kY
        gi_wp2_with fail
        refine HRR.out.mono ?_
        rintro e W3 (⟨rfl, hJ3⟩ | ⟨rfl, hJ3⟩)
        · have HJ3 := Lib.hid hJ3
          clear hJ3 y0 y1 y2 hy HRR
          gi_wp2_with fail
          go_roundw
          case rel => exact ⟨i + 1, by go_num, hin2, HJ3⟩
          case measure => simp [intOf]; omega
        · have HJ3 := Lib.hid hJ3
          clear hJ3 y0 y1 y2 hy HRR
          gi_wp2_with fail
          refine bodyPost_ret (results_none rfl _ _ _) rfl ?_
          exact ⟨⟨_, rfl⟩, .inr ⟨i, HJ3.out⟩⟩
    · have hge : ¬ (i : Int) < (n : Int) := by omega
      obtain rfl : i = n := by omega
      gi_wp2_with fail
      go_end0
      exact ⟨⟨_, rfl⟩, .inl HJ.out⟩

theorem those_stops_kinds1 (m : Nat) (hm : 1 ≤ m) (Bs Bf Bv n c : Nat) (A : Option Addr) (zs : List Ed) (q : Ed → Bool) (hn : n ≤ 1000) (w : World)
    (hs : Blk w Bs 22 #[.slice A n c]) (hf : Blk w Bf 54 #[.func (.func 53) #[] #[.pointer (some ⟨Bv, 0, none⟩)]]) (hR : Reads w w.heap.size 3 A n (cellsE zs))
    (hq : ∀ p W, Below w.heap.size w W → Calls Try.prog 53 #[.agg #[.int .i64 p.1, .int .i64 p.2.1, .int .i64 p.2.2], .pointer (some ⟨Bv, 0, none⟩)] W fun e W' => e = .returned (.bool (q p)) ∧ Below W.heap.size W W') :
    SeqStopsK Fence.wide m Try.prog 67 #[.pointer (some ⟨Bs, 0, none⟩), .pointer (some ⟨Bf, 0, none⟩)] encE (fun X Y => Below w.heap.size X Y) (fun ys => ys = zs.filter q) (fun _ => True) n w := by
  intro l J Jx W hW hJ _ hY h0
  have hl := reads_len hR
  refine (those_in_kinds1 m hm l Bs Bf Bv w.heap.size A n c zs q hn (fun i W1 => J (fil q zs i) W1 ∧ Below w.heap.size w W1) (fun i W1 => J (fil q zs i) W1 ∧ Below w.heap.size w W1) (fun _ W1 => ∃ pre, Jx pre W1)
    (fun i W1 h => ⟨hs.below h.2 hs.lt, hf.below h.2 hf.lt, hR.below h.2⟩) (fun i p W1 hp h => ?_) (fun i p W1 hp hqp h => ⟨by rw [fil_skip hp hqp]; exact h.1, h.2⟩) (fun i p W1 hp hqp h => ?_) W ⟨h0, hW⟩).mono ?_
  · have hb := h.2.alloc h.2.size (.cells #[.int .i64 p.1, .int .i64 p.2.1, .int .i64 p.2.2] 35)
    refine (hq p _ hb).mono ?_
    rintro e W' ⟨rfl, b⟩
    exact ⟨rfl, ⟨hJ _ _ _ none (hJ _ _ _ none h.1 (World.grownBy_alloc _ _ _) (fun r e => by cases e)) (grown_of_below b) (fun r e => by cases e), hb.trans (b.mono hb.size)⟩, (Blk.new _ _ _).below b (by simp)⟩
  · have hlen : (fil q zs i).length < n := by
      have h1 := List.length_filter_le q (zs.take i)
      rw [List.length_take] at h1
      have := (List.getElem?_eq_some_iff.1 hp).1
      unfold fil
      omega
    refine (hY (fil q zs i) p W1 h.1 hlen).mono ?_
    rintro e W' (⟨rfl, h1, h2⟩ | ⟨rfl, h1⟩)
    · exact .inl ⟨rfl, by rw [fil_keep hp hqp]; exact h1, h.2.trans h2⟩
    · exact .inr ⟨rfl, _, h1⟩
  · rintro e W' ⟨hv, (⟨h1, _⟩ | ⟨_, pre, h1⟩)⟩
    · exact ⟨hv, .inl ⟨_, rfl, by rw [fil_all (by omega)] at h1; exact h1⟩⟩
    · exact ⟨hv, .inr ⟨pre, trivial, h1⟩⟩

set_option maxRecDepth 100000 in
set_option maxHeartbeats 2000000 in
theorem those_in_parts1 (m : Nat) (hm : 1 ≤ m) (l Bs Bf Bv Bq : Nat) (A : Option Addr) (n c : Nat) (zs : List Ed) (q : Ed → Bool) (hn : n ≤ 1000) (J Jm Jx : Nat → World → Prop)
    (hF : ∀ i W, J i W → Blk W Bs 22 #[.slice A n c] ∧ Blk W Bf 54 #[.func (.func 35) #[] #[.pointer (some ⟨Bv, 0, none⟩)]] ∧ Reads W Bq 3 A n (cellsE zs))
    (hAsk : ∀ i p W, zs[i]? = some p → J i W → Calls Try.prog 35 #[.agg #[.int .i64 p.1, .int .i64 p.2.1, .int .i64 p.2.2], .pointer (some ⟨Bv, 0, none⟩)] (W.alloc (.cells #[.int .i64 p.1, .int .i64 p.2.1, .int .i64 p.2.2] 35)) fun e W' => e = .returned (.bool (q p)) ∧ Jm i W' ∧ Blk W' W.heap.size 35 #[.int .i64 p.1, .int .i64 p.2.1, .int .i64 p.2.2])
    (hSkip : ∀ i p W, zs[i]? = some p → q p = false → Jm i W → J (i + 1) W)
    (hY : ∀ i p W, zs[i]? = some p → q p = true → Jm i W → YieldAt Fence.wide (m - 1) Try.prog l (encE p) W fun e W' => (e = .returned (.bool true) ∧ J (i + 1) W') ∨ (e = .returned (.bool false) ∧ Jx i W'))
    (W : World) (h0 : J 0 W) :
    CallsIn Fence.wide m Try.prog 67 #[.func (.yield l) #[] #[], .pointer (some ⟨Bs, 0, none⟩), .pointer (some ⟨Bf, 0, none⟩)] W fun e W' => (∃ v, e = .returned v) ∧ (J n W' ∨ ∃ i, Jx i W') := by
  have s0 := (hF 0 W h0).1.cell 0
  have HL := Lib.hid (reads_len (hF 0 W h0).2.2)
  have HF := Lib.hid hF
  have HA := Lib.hid hAsk
  have HS := Lib.hid hSkip
  have HYY := Lib.hid hY
  have H0 := Lib.hid h0
  clear hF hAsk hSkip hY h0
  refine callsIn_of_wp Try.func67 rfl trivial ?_ rfl
  simp only [Try.ntmps67, List.size_toArray, List.length_cons, List.length_nil, Nat.reduceAdd, Nat.reduceSub, Array.replicate_succ, Array.replicate_zero, List.push_toArray, List.append_toArray, List.nil_append, List.cons_append]
  gi_wp2_with fail
  clear s0
  gi_loopw [8] (fun v wr => ∃ i : Nat, v = .int .i64 i ∧ i ≤ n ∧ Hid (J i wr)) (fun v _ => n - (intOf v).toNat)
  case atStart => exact ⟨0, rfl, Nat.zero_le _, H0⟩
  case round =>
    obtain ⟨i, rfl, hin, HJ⟩ := hrel
    by_cases hin2 : i < n
    · have hlt : (i : Int) < (n : Int) := by omega
      obtain ⟨p, hp⟩ : ∃ p, zs[i]? = some p := ⟨zs[i]'(by rw [HL.out]; omega), List.getElem?_eq_getElem _⟩
      obtain ⟨kS, kF, kR⟩ := HF.out i wr HJ.out
      obtain ⟨b, o, rfl, hb, g0, g1, gk2⟩ := ed_at kR hp
      have KF := Lib.hid (kF.alloc (.cells #[.int .i64 p.1, .int .i64 p.2.1, .int .i64 p.2.2] 35))
      have KY := Lib.hid (Blk.new wr 35 #[.int .i64 p.1, .int .i64 p.2.1, .int .i64 p.2.2])
      have HC := Lib.hid (HA.out i p wr hp HJ.out)
      have f0 := KF.out.cell 0
      have y0 := KY.out.cell 0
      have y1 := KY.out.cell 1
      have y2 := KY.out.cell 2
      have HP := Lib.hid hp
      clear hp kS kF kR KF KY
      cases hq : q p
      · rw [hq] at HC
        have HQ := Lib.hid hq
        clear hq
        gi_wp2_with fail
        refine ⟨trivial, (callsIn_wide.2 HC.out).mono ?_⟩
        rintro e w1 ⟨rfl, hJm, kY⟩
        have HJ2 := Lib.hid (HS.out i p w1 HP.out HQ.out hJm)
        clear hJm kY y0 y1 y2 f0 g0 g1 gk2 HC
        gi_wp2_with fail
        refine ⟨(fun f h => by cases h), ?_⟩
        gi_wp2_with fail
        go_roundw
        case rel => exact ⟨i + 1, by go_num, hin2, HJ2⟩
        case measure => simp [intOf]; omega
      · rw [hq] at HC
        have HQ := Lib.hid hq
        clear hq
        gi_wp2_with fail
        refine ⟨trivial, (callsIn_wide.2 HC.out).mono ?_⟩
        rintro e w1 ⟨rfl, hJm, kY⟩
        obtain ⟨fn, tmps, assign, body, hy, hR⟩ := HYY.out i p w1 HP.out HQ.out hJm
        clear y0 y1 y2 f0 g0 g1 gk2 HC
        unfold encE at hy
        have HRR := Lib.hid hR
        have y0 := kY.cell 0
        have y1 := kY.cell 1
        have y2 := kY.cell 2
        clear hR hJm kY
        gi_wp2_with fail
        refine HRR.out.mono ?_
        rintro e W3 (⟨rfl, hJ3⟩ | ⟨rfl, hJ3⟩)
        · have HJ3 := Lib.hid hJ3
          clear hJ3 y0 y1 y2 hy HRR
          gi_wp2_with fail
          go_roundw
          case rel => exact ⟨i + 1, by go_num, hin2, HJ3⟩
          case measure => simp [intOf]; omega
        · have HJ3 := Lib.hid hJ3
          clear hJ3 y0 y1 y2 hy HRR
          gi_wp2_with fail
          refine bodyPost_ret (results_none rfl _ _ _) rfl ?_
          exact ⟨⟨_, rfl⟩, .inr ⟨i, HJ3.out⟩⟩
    · have hge : ¬ (i : Int) < (n : Int) := by omega
      obtain rfl : i = n := by omega
      gi_wp2_with fail
      go_end0
      exact ⟨⟨_, rfl⟩, .inl HJ.out⟩

theorem those_stops_parts1 (m : Nat) (hm : 1 ≤ m) (Bs Bf Bv n c : Nat) (A : Option Addr) (zs : List Ed) (q : Ed → Bool) (hn : n ≤ 1000) (w : World)
    (hs : Blk w Bs 22 #[.slice A n c]) (hf : Blk w Bf 54 #[.func (.func 35) #[] #[.pointer (some ⟨Bv, 0, none⟩)]]) (hR : Reads w w.heap.size 3 A n (cellsE zs))
    (hq : ∀ p W, Below w.heap.size w W → Calls Try.prog 35 #[.agg #[.int .i64 p.1, .int .i64 p.2.1, .int .i64 p.2.2], .pointer (some ⟨Bv, 0, none⟩)] W fun e W' => e = .returned (.bool (q p)) ∧ Below W.heap.size W W') :
    SeqStopsK Fence.wide m Try.prog 67 #[.pointer (some ⟨Bs, 0, none⟩), .pointer (some ⟨Bf, 0, none⟩)] encE (fun X Y => Below w.heap.size X Y) (fun ys => ys = zs.filter q) (fun _ => True) n w := by
  intro l J Jx W hW hJ _ hY h0
  have hl := reads_len hR
  refine (those_in_parts1 m hm l Bs Bf Bv w.heap.size A n c zs q hn (fun i W1 => J (fil q zs i) W1 ∧ Below w.heap.size w W1) (fun i W1 => J (fil q zs i) W1 ∧ Below w.heap.size w W1) (fun _ W1 => ∃ pre, Jx pre W1)
    (fun i W1 h => ⟨hs.below h.2 hs.lt, hf.below h.2 hf.lt, hR.below h.2⟩) (fun i p W1 hp h => ?_) (fun i p W1 hp hqp h => ⟨by rw [fil_skip hp hqp]; exact h.1, h.2⟩) (fun i p W1 hp hqp h => ?_) W ⟨h0, hW⟩).mono ?_
  · have hb := h.2.alloc h.2.size (.cells #[.int .i64 p.1, .int .i64 p.2.1, .int .i64 p.2.2] 35)
    refine (hq p _ hb).mono ?_
    rintro e W' ⟨rfl, b⟩
    exact ⟨rfl, ⟨hJ _ _ _ none (hJ _ _ _ none h.1 (World.grownBy_alloc _ _ _) (fun r e => by cases e)) (grown_of_below b) (fun r e => by cases e), hb.trans (b.mono hb.size)⟩, (Blk.new _ _ _).below b (by simp)⟩
  · have hlen : (fil q zs i).length < n := by
      have h1 := List.length_filter_le q (zs.take i)
      rw [List.length_take] at h1
      have := (List.getElem?_eq_some_iff.1 hp).1
      unfold fil
      omega
    refine (hY (fil q zs i) p W1 h.1 hlen).mono ?_
    rintro e W' (⟨rfl, h1, h2⟩ | ⟨rfl, h1⟩)
    · exact .inl ⟨rfl, by rw [fil_keep hp hqp]; exact h1, h.2.trans h2⟩
    · exact .inr ⟨rfl, _, h1⟩
  · rintro e W' ⟨hv, (⟨h1, _⟩ | ⟨_, pre, h1⟩)⟩
    · exact ⟨hv, .inl ⟨_, rfl, by rw [fil_all (by omega)] at h1; exact h1⟩⟩
    · exact ⟨hv, .inr ⟨pre, trivial, h1⟩⟩

set_option maxRecDepth 100000 in
set_option maxHeartbeats 2000000 in
theorem those_in_parts2 (m : Nat) (hm : 1 ≤ m) (l Bs Bf Bv Bq : Nat) (A : Option Addr) (n c : Nat) (zs : List Ed) (q : Ed → Bool) (hn : n ≤ 1000) (J Jm Jx : Nat → World → Prop)
    (hF : ∀ i W, J i W → Blk W Bs 22 #[.slice A n c] ∧ Blk W Bf 54 #[.func (.func 36) #[] #[.pointer (some ⟨Bv, 0, none⟩)]] ∧ Reads W Bq 3 A n (cellsE zs))
    (hAsk : ∀ i p W, zs[i]? = some p → J i W → Calls Try.prog 36 #[.agg #[.int .i64 p.1, .int .i64 p.2.1, .int .i64 p.2.2], .pointer (some ⟨Bv, 0, none⟩)] (W.alloc (.cells #[.int .i64 p.1, .int .i64 p.2.1, .int .i64 p.2.2] 35)) fun e W' => e = .returned (.bool (q p)) ∧ Jm i W' ∧ Blk W' W.heap.size 35 #[.int .i64 p.1, .int .i64 p.2.1, .int .i64 p.2.2])
    (hSkip : ∀ i p W, zs[i]? = some p → q p = false → Jm i W → J (i + 1) W)
    (hY : ∀ i p W, zs[i]? = some p → q p = true → Jm i W → YieldAt Fence.wide (m - 1) Try.prog l (encE p) W fun e W' => (e = .returned (.bool true) ∧ J (i + 1) W') ∨ (e = .returned (.bool false) ∧ Jx i W'))
    (W : World) (h0 : J 0 W) :
    CallsIn Fence.wide m Try.prog 67 #[.func (.yield l) #[] #[], .pointer (some ⟨Bs, 0, none⟩), .pointer (some ⟨Bf, 0, none⟩)] W fun e W' => (∃ v, e = .returned v) ∧ (J n W' ∨ ∃ i, Jx i W') := by
  have s0 := (hF 0 W h0).1.cell 0
  have HL := Lib.hid (reads_len (hF 0 W h0).2.2)
  have HF := Lib.hid hF
  have HA := Lib.hid hAsk
  have HS := Lib.hid hSkip
  have HYY := Lib.hid hY
  have H0 := Lib.hid h0
  clear hF hAsk hSkip hY h0
  refine callsIn_of_wp Try.func67 rfl trivial ?_ rfl
  simp only [Try.ntmps67, List.size_toArray, List.length_cons, List.length_nil, Nat.reduceAdd, Nat.reduceSub, Array.replicate_succ, Array.replicate_zero, List.push_toArray, List.append_toArray, List.nil_append, List.cons_append]
  gi_wp2_with fail
  clear s0
  gi_loopw [8] (fun v wr => ∃ i : Nat, v = .int .i64 i ∧ i ≤ n ∧ Hid (J i wr)) (fun v _ => n - (intOf v).toNat)
  case atStart => exact ⟨0, rfl, Nat.zero_le _, H0⟩
  case round =>
    obtain ⟨i, rfl, hin, HJ⟩ := hrel
    by_cases hin2 : i < n
    · have hlt : (i : Int) < (n : Int) := by omega
      obtain ⟨p, hp⟩ : ∃ p, zs[i]? = some p := ⟨zs[i]'(by rw [HL.out]; omega), List.getElem?_eq_getElem _⟩
      obtain ⟨kS, kF, kR⟩ := HF.out i wr HJ.out
      obtain ⟨b, o, rfl, hb, g0, g1, gk2⟩ := ed_at kR hp
      have KF := Lib.hid (kF.alloc (.cells #[.int .i64 p.1, .int .i64 p.2.1, .int .i64 p.2.2] 35))
      have KY := Lib.hid (Blk.new wr 35 #[.int .i64 p.1, .int .i64 p.2.1, .int .i64 p.2.2])
      have HC := Lib.hid (HA.out i p wr hp HJ.out)
      have f0 := KF.out.cell 0
      have y0 := KY.out.cell 0
      have y1 := KY.out.cell 1
      have y2 := KY.out.cell 2
      have HP := Lib.hid hp
      clear hp kS kF kR KF KY
      cases hq : q p
      · rw [hq] at HC
        have HQ := Lib.hid hq
        clear hq
        gi_wp2_with fail
        refine ⟨trivial, (callsIn_wide.2 HC.out).mono ?_⟩
        rintro e w1 ⟨rfl, hJm, kY⟩
        have HJ2 := Lib.hid (HS.out i p w1 HP.out HQ.out hJm)
        clear hJm kY y0 y1 y2 f0 g0 g1 gk2 HC
        gi_wp2_with fail
        refine ⟨(fun f h => by cases h), ?_⟩
        gi_wp2_with fail
        go_roundw
        case rel => exact ⟨i + 1, by go_num, hin2, HJ2⟩
        case measure => simp [intOf]; omega
      · rw [hq] at HC
        have HQ := Lib.hid hq
        clear hq
        gi_wp2_with fail
        refine ⟨trivial, (callsIn_wide.2 HC.out).mono ?_⟩
        rintro e w1 ⟨rfl, hJm, kY⟩
        obtain ⟨fn, tmps, assign, body, hy, hR⟩ := HYY.out i p w1 HP.out HQ.out hJm
        clear y0 y1 y2 f0 g0 g1 gk2 HC
        unfold encE at hy
        have HRR := Lib.hid hR
        have y0 := kY.cell 0
        have y1 := kY.cell 1
        have y2 := kY.cell 2
        clear hR hJm kY
        gi_wp2_with fail
        refine HRR.out.mono ?_
        rintro e W3 (⟨rfl, hJ3⟩ | ⟨rfl, hJ3⟩)
        · have HJ3 := Lib.hid hJ3
          clear hJ3 y0 y1 y2 hy HRR
          gi_wp2_with fail
          go_roundw
          case rel => exact ⟨i + 1, by go_num, hin2, HJ3⟩
          case measure => simp [intOf]; omega
        · have HJ3 := Lib.hid hJ3
          clear hJ3 y0 y1 y2 hy HRR
          gi_wp2_with fail
          refine bodyPost_ret (results_none rfl _ _ _) rfl ?_
          exact ⟨⟨_, rfl⟩, .inr ⟨i, HJ3.out⟩⟩
    · have hge : ¬ (i : Int) < (n : Int) := by omega
      obtain rfl : i = n := by omega
      gi_wp2_with fail
      go_end0
      exact ⟨⟨_, rfl⟩, .inl HJ.out⟩

theorem those_stops_parts2 (m : Nat) (hm : 1 ≤ m) (Bs Bf Bv n c : Nat) (A : Option Addr) (zs : List Ed) (q : Ed → Bool) (hn : n ≤ 1000) (w : World)
    (hs : Blk w Bs 22 #[.slice A n c]) (hf : Blk w Bf 54 #[.func (.func 36) #[] #[.pointer (some ⟨Bv, 0, none⟩)]]) (hR : Reads w w.heap.size 3 A n (cellsE zs))
    (hq : ∀ p W, Below w.heap.size w W → Calls Try.prog 36 #[.agg #[.int .i64 p.1, .int .i64 p.2.1, .int .i64 p.2.2], .pointer (some ⟨Bv, 0, none⟩)] W fun e W' => e = .returned (.bool (q p)) ∧ Below W.heap.size W W') :
    SeqStopsK Fence.wide m Try.prog 67 #[.pointer (some ⟨Bs, 0, none⟩), .pointer (some ⟨Bf, 0, none⟩)] encE (fun X Y => Below w.heap.size X Y) (fun ys => ys = zs.filter q) (fun _ => True) n w := by
  intro l J Jx W hW hJ _ hY h0
  have hl := reads_len hR
  refine (those_in_parts2 m hm l Bs Bf Bv w.heap.size A n c zs q hn (fun i W1 => J (fil q zs i) W1 ∧ Below w.heap.size w W1) (fun i W1 => J (fil q zs i) W1 ∧ Below w.heap.size w W1) (fun _ W1 => ∃ pre, Jx pre W1)
    (fun i W1 h => ⟨hs.below h.2 hs.lt, hf.below h.2 hf.lt, hR.below h.2⟩) (fun i p W1 hp h => ?_) (fun i p W1 hp hqp h => ⟨by rw [fil_skip hp hqp]; exact h.1, h.2⟩) (fun i p W1 hp hqp h => ?_) W ⟨h0, hW⟩).mono ?_
  · have hb := h.2.alloc h.2.size (.cells #[.int .i64 p.1, .int .i64 p.2.1, .int .i64 p.2.2] 35)
    refine (hq p _ hb).mono ?_
    rintro e W' ⟨rfl, b⟩
    exact ⟨rfl, ⟨hJ _ _ _ none (hJ _ _ _ none h.1 (World.grownBy_alloc _ _ _) (fun r e => by cases e)) (grown_of_below b) (fun r e => by cases e), hb.trans (b.mono hb.size)⟩, (Blk.new _ _ _).below b (by simp)⟩
  · have hlen : (fil q zs i).length < n := by
      have h1 := List.length_filter_le q (zs.take i)
      rw [List.length_take] at h1
      have := (List.getElem?_eq_some_iff.1 hp).1
      unfold fil
      omega
    refine (hY (fil q zs i) p W1 h.1 hlen).mono ?_
    rintro e W' (⟨rfl, h1, h2⟩ | ⟨rfl, h1⟩)
    · exact .inl ⟨rfl, by rw [fil_keep hp hqp]; exact h1, h.2.trans h2⟩
    · exact .inr ⟨rfl, _, h1⟩
  · rintro e W' ⟨hv, (⟨h1, _⟩ | ⟨_, pre, h1⟩)⟩
    · exact ⟨hv, .inl ⟨_, rfl, by rw [fil_all (by omega)] at h1; exact h1⟩⟩
    · exact ⟨hv, .inr ⟨pre, trivial, h1⟩⟩

set_option maxRecDepth 100000 in
set_option maxHeartbeats 2000000 in
theorem those_in_parts3 (m : Nat) (hm : 1 ≤ m) (l Bs Bf Bq : Nat) (A : Option Addr) (n c : Nat) (zs : List Ed) (q : Ed → Bool) (hn : n ≤ 1000) (J Jm Jx : Nat → World → Prop)
    (hF : ∀ i W, J i W → Blk W Bs 22 #[.slice A n c] ∧ Blk W Bf 54 #[.func (.func 37) #[] #[]] ∧ Reads W Bq 3 A n (cellsE zs))
    (hAsk : ∀ i p W, zs[i]? = some p → J i W → Calls Try.prog 37 #[.agg #[.int .i64 p.1, .int .i64 p.2.1, .int .i64 p.2.2]] (W.alloc (.cells #[.int .i64 p.1, .int .i64 p.2.1, .int .i64 p.2.2] 35)) fun e W' => e = .returned (.bool (q p)) ∧ Jm i W' ∧ Blk W' W.heap.size 35 #[.int .i64 p.1, .int .i64 p.2.1, .int .i64 p.2.2])
    (hSkip : ∀ i p W, zs[i]? = some p → q p = false → Jm i W → J (i + 1) W)
    (hY : ∀ i p W, zs[i]? = some p → q p = true → Jm i W → YieldAt Fence.wide (m - 1) Try.prog l (encE p) W fun e W' => (e = .returned (.bool true) ∧ J (i + 1) W') ∨ (e = .returned (.bool false) ∧ Jx i W'))
    (W : World) (h0 : J 0 W) :
    CallsIn Fence.wide m Try.prog 67 #[.func (.yield l) #[] #[], .pointer (some ⟨Bs, 0, none⟩), .pointer (some ⟨Bf, 0, none⟩)] W fun e W' => (∃ v, e = .returned v) ∧ (J n W' ∨ ∃ i, Jx i W') := by
  have s0 := (hF 0 W h0).1.cell 0
  have HL := Lib.hid (reads_len (hF 0 W h0).2.2)
  have HF := Lib.hid hF
  have HA := Lib.hid hAsk
  have HS := Lib.hid hSkip
  have HYY := Lib.hid hY
  have H0 := Lib.hid h0
  clear hF hAsk hSkip hY h0
  refine callsIn_of_wp Try.func67 rfl trivial ?_ rfl
  simp only [Try.ntmps67, List.size_toArray, List.length_cons, List.length_nil, Nat.reduceAdd, Nat.reduceSub, Array.replicate_succ, Array.replicate_zero, List.push_toArray, List.append_toArray, List.nil_append, List.cons_append]
  gi_wp2_with fail
  clear s0
  gi_loopw [8] (fun v wr => ∃ i : Nat, v = .int .i64 i ∧ i ≤ n ∧ Hid (J i wr)) (fun v _ => n - (intOf v).toNat)
  case atStart => exact ⟨0, rfl, Nat.zero_le _, H0⟩
  case round =>
    obtain ⟨i, rfl, hin, HJ⟩ := hrel
    by_cases hin2 : i < n
    · have hlt : (i : Int) < (n : Int) := by omega
      obtain ⟨p, hp⟩ : ∃ p, zs[i]? = some p := ⟨zs[i]'(by rw [HL.out]; omega), List.getElem?_eq_getElem _⟩
      obtain ⟨kS, kF, kR⟩ := HF.out i wr HJ.out
      obtain ⟨b, o, rfl, hb, g0, g1, gk2⟩ := ed_at kR hp
      have KF := Lib.hid (kF.alloc (.cells #[.int .i64 p.1, .int .i64 p.2.1, .int .i64 p.2.2] 35))
      have KY := Lib.hid (Blk.new wr 35 #[.int .i64 p.1, .int .i64 p.2.1, .int .i64 p.2.2])
      have HC := Lib.hid (HA.out i p wr hp HJ.out)
      have f0 := KF.out.cell 0
      have y0 := KY.out.cell 0
      have y1 := KY.out.cell 1
      have y2 := KY.out.cell 2
      have HP := Lib.hid hp
      clear hp kS kF kR KF KY
      cases hq : q p
      · rw [hq] at HC
        have HQ := Lib.hid hq
        clear hq
        gi_wp2_with fail
        refine ⟨trivial, (callsIn_wide.2 HC.out).mono ?_⟩
        rintro e w1 ⟨rfl, hJm, kY⟩
        have HJ2 := Lib.hid (HS.out i p w1 HP.out HQ.out hJm)
        clear hJm kY y0 y1 y2 f0 g0 g1 gk2 HC
        gi_wp2_with fail
        refine ⟨(fun f h => by cases h), ?_⟩
        gi_wp2_with fail
        go_roundw
        case rel => exact ⟨i + 1, by go_num, hin2, HJ2⟩
        case measure => simp [intOf]; omega
      · rw [hq] at HC
        have HQ := Lib.hid hq
        clear hq
        gi_wp2_with fail
        refine ⟨trivial, (callsIn_wide.2 HC.out).mono ?_⟩
        rintro e w1 ⟨rfl, hJm, kY⟩
        obtain ⟨fn, tmps, assign, body, hy, hR⟩ := HYY.out i p w1 HP.out HQ.out hJm
        clear y0 y1 y2 f0 g0 g1 gk2 HC
        unfold encE at hy
        have HRR := Lib.hid hR
        have y0 := kY.cell 0
        have y1 := kY.cell 1
        have y2 := kY.cell 2
        clear hR hJm kY
        gi_wp2_with fail
        refine HRR.out.mono ?_
        rintro e W3 (⟨rfl, hJ3⟩ | ⟨rfl, hJ3⟩)
        · have HJ3 := Lib.hid hJ3
          clear hJ3 y0 y1 y2 hy HRR
          gi_wp2_with fail
          go_roundw
          case rel => exact ⟨i + 1, by go_num, hin2, HJ3⟩
          case measure => simp [intOf]; omega
        · have HJ3 := Lib.hid hJ3
          clear hJ3 y0 y1 y2 hy HRR
          gi_wp2_with fail
          refine bodyPost_ret (results_none rfl _ _ _) rfl ?_
          exact ⟨⟨_, rfl⟩, .inr ⟨i, HJ3.out⟩⟩
    · have hge : ¬ (i : Int) < (n : Int) := by omega
      obtain rfl : i = n := by omega
      gi_wp2_with fail
      go_end0
      exact ⟨⟨_, rfl⟩, .inl HJ.out⟩

theorem those_stops_parts3 (m : Nat) (hm : 1 ≤ m) (Bs Bf n c : Nat) (A : Option Addr) (zs : List Ed) (q : Ed → Bool) (hn : n ≤ 1000) (w : World)
    (hs : Blk w Bs 22 #[.slice A n c]) (hf : Blk w Bf 54 #[.func (.func 37) #[] #[]]) (hR : Reads w w.heap.size 3 A n (cellsE zs))
    (hq : ∀ p W, Below w.heap.size w W → Calls Try.prog 37 #[.agg #[.int .i64 p.1, .int .i64 p.2.1, .int .i64 p.2.2]] W fun e W' => e = .returned (.bool (q p)) ∧ Below W.heap.size W W') :
    SeqStopsK Fence.wide m Try.prog 67 #[.pointer (some ⟨Bs, 0, none⟩), .pointer (some ⟨Bf, 0, none⟩)] encE (fun X Y => Below w.heap.size X Y) (fun ys => ys = zs.filter q) (fun _ => True) n w := by
  intro l J Jx W hW hJ _ hY h0
  have hl := reads_len hR
  refine (those_in_parts3 m hm l Bs Bf w.heap.size A n c zs q hn (fun i W1 => J (fil q zs i) W1 ∧ Below w.heap.size w W1) (fun i W1 => J (fil q zs i) W1 ∧ Below w.heap.size w W1) (fun _ W1 => ∃ pre, Jx pre W1)
    (fun i W1 h => ⟨hs.below h.2 hs.lt, hf.below h.2 hf.lt, hR.below h.2⟩) (fun i p W1 hp h => ?_) (fun i p W1 hp hqp h => ⟨by rw [fil_skip hp hqp]; exact h.1, h.2⟩) (fun i p W1 hp hqp h => ?_) W ⟨h0, hW⟩).mono ?_
  · have hb := h.2.alloc h.2.size (.cells #[.int .i64 p.1, .int .i64 p.2.1, .int .i64 p.2.2] 35)
    refine (hq p _ hb).mono ?_
    rintro e W' ⟨rfl, b⟩
    exact ⟨rfl, ⟨hJ _ _ _ none (hJ _ _ _ none h.1 (World.grownBy_alloc _ _ _) (fun r e => by cases e)) (grown_of_below b) (fun r e => by cases e), hb.trans (b.mono hb.size)⟩, (Blk.new _ _ _).below b (by simp)⟩
  · have hlen : (fil q zs i).length < n := by
      have h1 := List.length_filter_le q (zs.take i)
      rw [List.length_take] at h1
      have := (List.getElem?_eq_some_iff.1 hp).1
      unfold fil
      omega
    refine (hY (fil q zs i) p W1 h.1 hlen).mono ?_
    rintro e W' (⟨rfl, h1, h2⟩ | ⟨rfl, h1⟩)
    · exact .inl ⟨rfl, by rw [fil_keep hp hqp]; exact h1, h.2.trans h2⟩
    · exact .inr ⟨rfl, _, h1⟩
  · rintro e W' ⟨hv, (⟨h1, _⟩ | ⟨_, pre, h1⟩)⟩
    · exact ⟨hv, .inl ⟨_, rfl, by rw [fil_all (by omega)] at h1; exact h1⟩⟩
    · exact ⟨hv, .inr ⟨pre, trivial, h1⟩⟩

set_option maxRecDepth 100000 in
set_option maxHeartbeats 2000000 in
theorem those_in_turns1 (m : Nat) (hm : 1 ≤ m) (l Bs Bf Bv Bw Bq : Nat) (A : Option Addr) (n c : Nat) (zs : List Ed) (q : Ed → Bool) (hn : n ≤ 1000) (J Jm Jx : Nat → World → Prop)
    (hF : ∀ i W, J i W → Blk W Bs 22 #[.slice A n c] ∧ Blk W Bf 54 #[.func (.func 31) #[] #[.pointer (some ⟨Bv, 0, none⟩), .pointer (some ⟨Bw, 0, none⟩)]] ∧ Reads W Bq 3 A n (cellsE zs))
    (hAsk : ∀ i p W, zs[i]? = some p → J i W → Calls Try.prog 31 #[.agg #[.int .i64 p.1, .int .i64 p.2.1, .int .i64 p.2.2], .pointer (some ⟨Bv, 0, none⟩), .pointer (some ⟨Bw, 0, none⟩)] (W.alloc (.cells #[.int .i64 p.1, .int .i64 p.2.1, .int .i64 p.2.2] 35)) fun e W' => e = .returned (.bool (q p)) ∧ Jm i W' ∧ Blk W' W.heap.size 35 #[.int .i64 p.1, .int .i64 p.2.1, .int .i64 p.2.2])
    (hSkip : ∀ i p W, zs[i]? = some p → q p = false → Jm i W → J (i + 1) W)
    (hY : ∀ i p W, zs[i]? = some p → q p = true → Jm i W → YieldAt Fence.wide (m - 1) Try.prog l (encE p) W fun e W' => (e = .returned (.bool true) ∧ J (i + 1) W') ∨ (e = .returned (.bool false) ∧ Jx i W'))
    (W : World) (h0 : J 0 W) :
    CallsIn Fence.wide m Try.prog 67 #[.func (.yield l) #[] #[], .pointer (some ⟨Bs, 0, none⟩), .pointer (some ⟨Bf, 0, none⟩)] W fun e W' => (∃ v, e = .returned v) ∧ (J n W' ∨ ∃ i, Jx i W') := by
  have s0 := (hF 0 W h0).1.cell 0
  have HL := Lib.hid (reads_len (hF 0 W h0).2.2)
  have HF := Lib.hid hF
  have HA := Lib.hid hAsk
  have HS := Lib.hid hSkip
  have HYY := Lib.hid hY
  have H0 := Lib.hid h0
  clear hF hAsk hSkip hY h0
  refine callsIn_of_wp Try.func67 rfl trivial ?_ rfl
  simp only [Try.ntmps67, List.size_toArray, List.length_cons, List.length_nil, Nat.reduceAdd, Nat.reduceSub, Array.replicate_succ, Array.replicate_zero, List.push_toArray, List.append_toArray, List.nil_append, List.cons_append]
  gi_wp2_with fail
  clear s0
  gi_loopw [8] (fun v wr => ∃ i : Nat, v = .int .i64 i ∧ i ≤ n ∧ Hid (J i wr)) (fun v _ => n - (intOf v).toNat)
  case atStart => exact ⟨0, rfl, Nat.zero_le _, H0⟩
  case round =>
    obtain ⟨i, rfl, hin, HJ⟩ := hrel
    by_cases hin2 : i < n
    · have hlt : (i : Int) < (n : Int) := by omega
      obtain ⟨p, hp⟩ : ∃ p, zs[i]? = some p := ⟨zs[i]'(by rw [HL.out]; omega), List.getElem?_eq_getElem _⟩
      obtain ⟨kS, kF, kR⟩ := HF.out i wr HJ.out
      obtain ⟨b, o, rfl, hb, g0, g1, gk2⟩ := ed_at kR hp
      have KF := Lib.hid (kF.alloc (.cells #[.int .i64 p.1, .int .i64 p.2.1, .int .i64 p.2.2] 35))
      have KY := Lib.hid (Blk.new wr 35 #[.int .i64 p.1, .int .i64 p.2.1, .int .i64 p.2.2])
      have HC := Lib.hid (HA.out i p wr hp HJ.out)
      have f0 := KF.out.cell 0
      have y0 := KY.out.cell 0
      have y1 := KY.out.cell 1
      have y2 := KY.out.cell 2
      have HP := Lib.hid hp
      clear hp kS kF kR KF KY
      cases hq : q p
      · rw [hq] at HC
        have HQ := Lib.hid hq
        clear hq
        gi_wp2_with fail
        refine ⟨trivial, (callsIn_wide.2 HC.out).mono ?_⟩
        rintro e w1 ⟨rfl, hJm, kY⟩
        have HJ2 := Lib.hid (HS.out i p w1 HP.out HQ.out hJm)
        clear hJm kY y0 y1 y2 f0 g0 g1 gk2 HC
        gi_wp2_with fail
        refine ⟨(fun f h => by cases h), ?_⟩
        gi_wp2_with fail
        go_roundw
        case rel => exact ⟨i + 1, by go_num, hin2, HJ2⟩
        case measure => simp [intOf]; omega
      · rw [hq] at HC
        have HQ := Lib.hid hq
        clear hq
        gi_wp2_with fail
        refine ⟨trivial, (callsIn_wide.2 HC.out).mono ?_⟩
        rintro e w1 ⟨rfl, hJm, kY⟩
        obtain ⟨fn, tmps, assign, body, hy, hR⟩ := HYY.out i p w1 HP.out HQ.out hJm
        clear y0 y1 y2 f0 g0 g1 gk2 HC
        unfold encE at hy
        have HRR := Lib.hid hR
        have y0 := kY.cell 0
        have y1 := kY.cell 1
        have y2 := kY.cell 2
        clear hR hJm kY
        gi_wp2_with fail
        refine HRR.out.mono ?_
        rintro e W3 (⟨rfl, hJ3⟩ | ⟨rfl, hJ3⟩)
        · have HJ3 := Lib.hid hJ3
          clear hJ3 y0 y1 y2 hy HRR
          gi_wp2_with fail
          go_roundw
          case rel => exact ⟨i + 1, by go_num, hin2, HJ3⟩
          case measure => simp [intOf]; omega
        · have HJ3 := Lib.hid hJ3
          clear hJ3 y0 y1 y2 hy HRR
          gi_wp2_with fail
          refine bodyPost_ret (results_none rfl _ _ _) rfl ?_
          exact ⟨⟨_, rfl⟩, .inr ⟨i, HJ3.out⟩⟩
    · have hge : ¬ (i : Int) < (n : Int) := by omega
      obtain rfl : i = n := by omega
      gi_wp2_with fail
      go_end0
      exact ⟨⟨_, rfl⟩, .inl HJ.out⟩

end Go.Proofs.Yticbgikbpafeoaa
