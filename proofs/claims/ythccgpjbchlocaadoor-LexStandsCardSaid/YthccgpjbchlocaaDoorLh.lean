/- Layer lex: what tokens gives: the contract of the function over which All ranges. -/
import Derived.RangeFuncNested
import Derived.RangeFuncBound
import Derived.RangeFuncCalls
import Derived.RangeFuncLeaves
import Derived.Shelf.Abstract
import Derived.Shelf.RegionOpen
import Derived.WalkKit
import Derived.OwnWalkIn
import Derived.TacticsInMore
import Derived.LoopNIn
import Derived.LoopIn
import Derived.Outline
import Derived.Test.YthccgpjbchlocaaDoorLg
import Derived.Test.YthccgpjbchlocaaDoorLx
namespace Go.Proofs.YthccgpjbchlocaaDoor
open Go.RowKit Go.Shelf
attribute [local go_sem] Oper.semAt_some

/-- What comes of a reading, as the two values that are told. -/
def encA (x : Ans) : Array Value := #[.agg #[.int .i64 x.k, .int .i64 x.a, .string ⟨x.tx.toArray⟩, .bool x.gl], .agg #[.int .i64 x.p, .int .i64 x.e]]
/-- A block lies as it lay. -/
def KeepB (B : Nat) (W W' : World) : Prop := W'.heap[B]? = W.heap[B]? ∧ W.heap.size ≤ W'.heap.size
theorem grown_of_below {W W' : World} (h : Below W.heap.size W W') : W.grownBy W' none := ⟨h.os, h.tape, h.output, h.size, fun k hk _ => h.block k hk⟩

set_option maxRecDepth 100000 in
set_option maxHeartbeats 2000000 in
theorem iter_in (n : Nat) (hn : 1 ≤ n) (l Bn N : Nat) (s : ByteArray) (hs : s.size ≤ 1000000) (hN : (seqL s.data.toList).length ≤ N) (J Jx : List Ans → World → Prop) (B0 : Nat) (hJ : AbidesFrom B0 J)
    (hY : ∀ pre x W, J pre W → pre.length < N → YieldAt Fence.wide (n - 1) Tryd.prog l (encA x) W fun e W' =>
      (e = .returned (.bool true) ∧ J (pre ++ [x]) W' ∧ KeepB Bn W W') ∨ (e = .returned (.bool false) ∧ Jx (pre ++ [x]) W'))
    (W : World) (hBn : W.heap[Bn]? = some (.cells #[.string s] 9 (0, 0))) (h0 : J [] W) :
    CallsIn Fence.wide n Tryd.prog 27 #[.func (.yield l) #[] #[], .pointer (some ⟨Bn, 0, none⟩)] W fun e W' => (∃ v, e = .returned v) ∧
      ((∃ ys, ys = seqL s.data.toList ∧ J ys W') ∨ (∃ pre, pre <+: seqL s.data.toList ∧ Jx pre W')) := by
  refine callsIn_of_wp Tryd.func27 rfl trivial ?_ rfl
  simp only [Tryd.ntmps27, List.size_toArray, List.length_cons, List.length_nil, Nat.reduceAdd, Nat.reduceSub, Array.replicate_succ, Array.replicate_zero, List.push_toArray, List.append_toArray, List.nil_append, List.cons_append]
  refine wpIn_wide.2 (wp_scope_straight ((wpIn_wide (n := n)).1 ?_))
  gi_wp2_with fail
  refine wpIn_label ?_
  gi_wp2_with fail
  gi_loopw [3] (fun v wr => ∃ (pre : List Ans) (p f : Nat), v = .int .i64 p ∧ p ≤ s.size ∧ Hid (s.data.toList.length < f + p ∧ pre ++ seqF s.data.toList f p = seqL s.data.toList) ∧ J pre wr ∧ Hid (wr.heap[Bn]? = some (.cells #[.string s] 9 (0, 0)))) (fun v _ => s.size - (intOf v).toNat)
  case atStart => exact ⟨[], 0, s.data.toList.length + 1, rfl, Nat.zero_le _, ⟨by omega, rfl⟩, h0, hBn⟩
  case round =>
    obtain ⟨pre, p, f, rfl, hp, hseq, hJs, hbn⟩ := hrel
    have hp' : p ≤ s.data.toList.length := by rw [← Lib.size_eq]; exact hp
    have hbc : wr.cell? ⟨Bn, 0, none⟩ = some (.string s) := by unfold World.cell?; rw [hbn.out]; rfl
    have HN := Lib.hid fun w => next_any s p hp hs w
    unfold ansV at HN
    have hst := seq_step hp' hseq.out.1
    have hpl := next_p_le _ _ hp'
    rw [← Lib.size_eq] at hpl
    generalize (nextL s.data.toList p).ans = x at *
    have hPlen : pre.length < (seqL s.data.toList).length ∨ x.k = 5 := by
      rcases hst with h | h | h
      · exact .inr h.1
      · refine .inl ?_
        rw [← hseq.out.2, h.2.2]
        simp
      · obtain ⟨_, _, _, _, g, _, hg⟩ := h
        refine .inl ?_
        rw [← hseq.out.2, hg]
        simp
    have HST := Lib.hid hst
    have HPL := Lib.hid hPlen
    have HP := Lib.hid hp'
    clear hst hPlen hp'
    by_cases h5 : x.k = 5
    · have h5b : (x.k == 5) = true := by simpa using h5
      have H5 := Lib.hid h5
      clear h5
      gi_wp2_with fail
      refine ⟨trivial, (callsIn_wide.2 (HN.out _)).mono ?_⟩
      rintro e w1 ⟨rfl, b1⟩
      have hJ1 := Lib.hid (hJ pre wr w1 none hJs (grown_of_below b1) (fun r e => by cases e))
      have hJ2 := Lib.hid (hJ pre w1 (w1.alloc (.cells #[.int .i64 x.k, .int .i64 x.a, .string ⟨x.tx.toArray⟩, .bool x.gl] 29)) none hJ1.out (World.grownBy_alloc _ _ _) (fun r e => by cases e))
      clear b1
      gi_wp2_with fail
      rw [Exit.noGoto_normal]
      go_end0
      refine ⟨⟨_, rfl⟩, .inl ⟨pre, ?_, hJ2.out⟩⟩
      rcases HST.out with h | h | h
      · rw [← hseq.out.2, h.2, List.append_nil]
      · exact absurd H5.out h.1
      · exact absurd H5.out h.1
    have HLT : Hid (pre.length < N) := by
      rcases HPL.out with h | h
      · exact Nat.lt_of_lt_of_le h hN
      · exact absurd h h5
    have h5b : (x.k == 5) = false := by simpa using h5
    have H5 := Lib.hid h5
    clear h5
    by_cases he : x.e = 0
    · have heb : (x.e != 0) = false := by simpa using he
      have HE := Lib.hid he
      clear he
      have HOK : Hid (p < x.p ∧ x.p ≤ s.size ∧ ∃ g, s.data.toList.length < g + x.p ∧ seqF s.data.toList f p = x :: seqF s.data.toList g x.p) := by
        rcases HST.out with h | h | h
        · exact absurd h.1 H5.out
        · exact absurd HE.out h.2.1
        · exact ⟨h.2.2.1, by rw [Lib.size_eq]; exact h.2.2.2.1, h.2.2.2.2⟩
      gi_wp2_with fail
      refine ⟨trivial, (callsIn_wide.2 (HN.out _)).mono ?_⟩
      rintro e w1 ⟨rfl, b1⟩
      have hJ1 := Lib.hid (hJ pre wr w1 none hJs (grown_of_below b1) (fun r e => by cases e))
      have hJ2 := Lib.hid (hJ pre w1 (w1.alloc (.cells #[.int .i64 x.k, .int .i64 x.a, .string ⟨x.tx.toArray⟩, .bool x.gl] 29)) none hJ1.out (World.grownBy_alloc _ _ _) (fun r e => by cases e))
      have hb2 : Hid ((w1.alloc (.cells #[.int .i64 x.k, .int .i64 x.a, .string ⟨x.tx.toArray⟩, .bool x.gl] 29)).heap[Bn]? = some (.cells #[.string s] 9 (0, 0))) := by
        have hlt := block_lt hbn.out
        have h1 := (b1.block Bn hlt).trans hbn.out
        exact (Below.heap_alloc w1 _ Bn (block_lt h1)).trans h1
      clear b1
      obtain ⟨fn, tmps, assign, body, hy, hR⟩ := hY pre x _ hJ2.out HLT.out
      unfold encA at hy
      have HR := Lib.hid hR
      clear hR
      gi_wp2_with fail
      refine HR.out.mono ?_
      rintro e W3 (⟨rfl, hJ3, hk3⟩ | ⟨rfl, hJx3⟩)
      · gi_wp2_with fail
        go_roundw
        case rel =>
          obtain ⟨o1, o2, g, o3, o4⟩ := HOK.out
          exact ⟨pre ++ [x], x.p, g, rfl, o2, ⟨o3, by rw [List.append_assoc, List.singleton_append, ← o4]; exact hseq.out.2⟩, hJ3, hk3.1.trans hb2.out⟩
        case measure =>
          obtain ⟨o1, o2, _⟩ := HOK.out
          simp [intOf]
          omega
      · gi_wp2_with fail
        rw [Exit.noGoto_normal]
        go_end0
        refine ⟨⟨_, rfl⟩, .inr ⟨pre ++ [x], ?_, hJx3⟩⟩
        obtain ⟨_, _, g, _, o4⟩ := HOK.out
        rw [← hseq.out.2, o4]
        exact ⟨seqF s.data.toList g x.p, by simp⟩
    · have heb : (x.e != 0) = true := by simpa using he
      have HE := Lib.hid he
      clear he
      have HOK : Hid (seqF s.data.toList f p = [x]) := by
        rcases HST.out with h | h | h
        · exact absurd h.1 H5.out
        · exact h.2.2
        · exact absurd h.2.1 HE.out
      gi_wp2_with fail
      refine ⟨trivial, (callsIn_wide.2 (HN.out _)).mono ?_⟩
      rintro e w1 ⟨rfl, b1⟩
      have hJ1 := Lib.hid (hJ pre wr w1 none hJs (grown_of_below b1) (fun r e => by cases e))
      have hJ2 := Lib.hid (hJ pre w1 (w1.alloc (.cells #[.int .i64 x.k, .int .i64 x.a, .string ⟨x.tx.toArray⟩, .bool x.gl] 29)) none hJ1.out (World.grownBy_alloc _ _ _) (fun r e => by cases e))
      have hb2 : Hid ((w1.alloc (.cells #[.int .i64 x.k, .int .i64 x.a, .string ⟨x.tx.toArray⟩, .bool x.gl] 29)).heap[Bn]? = some (.cells #[.string s] 9 (0, 0))) := by
        have hlt := block_lt hbn.out
        have h1 := (b1.block Bn hlt).trans hbn.out
        exact (Below.heap_alloc w1 _ Bn (block_lt h1)).trans h1
      clear b1
      obtain ⟨fn, tmps, assign, body, hy, hR⟩ := hY pre x _ hJ2.out HLT.out
      unfold encA at hy
      have HR := Lib.hid hR
      clear hR
      gi_wp2_with fail
      refine HR.out.mono ?_
      rintro e W3 (⟨rfl, hJ3, hk3⟩ | ⟨rfl, hJx3⟩)
      · gi_wp2_with fail
        rw [Exit.noGoto_normal]
        go_end0
        exact ⟨⟨_, rfl⟩, .inl ⟨pre ++ [x], by rw [← hseq.out.2, HOK.out], hJ3⟩⟩
      · gi_wp2_with fail
        rw [Exit.noGoto_normal]
        go_end0
        exact ⟨⟨_, rfl⟩, .inr ⟨pre ++ [x], by rw [← hseq.out.2, HOK.out]; exact List.prefix_refl _, hJx3⟩⟩

/-- tokens(s): the function value that it hands back. -/
theorem tokens_any (s : ByteArray) (w : World) :
    Calls Tryd.prog 13 #[.string s] w fun e w' => e = .returned (.func (.func 27) #[] #[.pointer (some ⟨w.heap.size, 0, none⟩)]) ∧ w' = w.alloc (.cells #[.string s] 9) := by
  go_enter Tryd.func13, Tryd.ntmps13
  go_wp2_with fail
  go_ret
  exact ⟨rfl, rfl⟩

theorem iter_stops (n : Nat) (hn : 1 ≤ n) (Bn : Nat) (s : ByteArray) (hs : s.size ≤ 1000000) (w : World) (hb : w.heap[Bn]? = some (.cells #[.string s] 9 (0, 0))) :
    SeqStopsK Fence.wide n Tryd.prog 27 #[.pointer (some ⟨Bn, 0, none⟩)] encA (KeepB Bn) (fun ys => ys = seqL s.data.toList) (fun pre => pre <+: seqL s.data.toList) (seqL s.data.toList).length w :=
  fun l J Jx W hW hJ _ hY h0 => iter_in n hn l Bn _ s hs (Nat.le_refl _) J Jx _ hJ hY W ((hW.block Bn (block_lt hb)).trans hb) h0
end Go.Proofs.YthccgpjbchlocaaDoor
