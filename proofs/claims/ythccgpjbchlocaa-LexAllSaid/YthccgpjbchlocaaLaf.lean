/- The document's answers of layer lex (package yardarmref02): Next, and All, as contracts of the translated calls. -/
import Derived.Test.YthccgpjbchlocaaLac
import Derived.Test.YthccgpjbchlocaaLi
namespace Go.Proofs.Ythccgpjbchlocaa
open Go.RowKit

set_option maxHeartbeats 1600000 in
theorem rnext_gap (s : ByteArray) (p q : Nat)
    (HSK : Hid (∀ w : World, Calls Try.prog 28 #[.string s, .int .i64 p] w fun e w' => e = .returned (.tuple #[.int .i64 q, .bool false]) ∧ Below w.heap.size w w')) (w : World) :
    Calls Try.prog 13 #[.string s, .int .i64 p] w fun e w' => e = .returned (.tuple #[.agg #[.int .i64 0, .int .i64 0, .string ⟨#[]⟩, .bool false], .int .i64 q, .int .i64 120]) ∧ Below w.heap.size w w' := by
  go_enter Try.func13, Try.ntmps13
  go_wp2_with fail
  refine (HSK.out _).mono ?_
  rintro e w1 ⟨rfl, b1⟩
  have r1 := Lib.hid ((b1.block w.heap.size (by simp)).trans (block_new w _))
  have B1 : Below w.heap.size w w1 := ((Below.refl _ _).alloc (Nat.le_refl _) _).trans (b1.mono (by simp))
  clear b1
  obtain ⟨⟨g0, g1, g2, g3⟩, f0, f1, f2, f3⟩ := four_cells r1.out
  go_wp2_with fail
  refine bodyPost_ret (v := .tuple #[.agg #[.int .i64 0, .int .i64 0, .string ⟨#[]⟩, .bool false], .int .i64 q, .int .i64 120]) (by simp [results, Try.results13, go_sem, g0, g1, g2, g3]) rfl ⟨rfl, ?_⟩
  exact below_set4 B1 (Nat.le_refl _) _ _ _ _

theorem rnext_any (s : ByteArray) (p : Nat) (hp : p ≤ s.size) (hs : s.size ≤ 1000000) (w : World) :
    Calls Try.prog 13 #[.string s, .int .i64 p] w fun e w' => e = .returned (ansV (nextL s.data.toList p).ans) ∧ Below w.heap.size w w' := by
  rw [nextL_ans]
  have hsz := Lib.size_eq s
  have hgl := (gap_rest (s.data.toList.drop p)).2
  rw [List.length_drop, ← hsz] at hgl
  have hS := fun w => skip_any s p hp hs w
  unfold SkipIs at hS
  cases hb : gapB (s.data.toList.drop p)
  · simp only [Bool.false_eq_true, if_false]
    rw [hb] at hS
    generalize gapN (s.data.toList.drop p) = n at *
    have := rnext_at s p (p + n) (touchL (s.data.toList.take p) && decide (n = 0)) hp hs (by omega) (by omega) (by
      congr 1
      rw [decide_eq_decide]
      omega) hS w
    exact this
  · rw [if_pos rfl]
    rw [hb] at hS
    generalize gapN (s.data.toList.drop p) = n at *
    exact rnext_gap s p (p + n) hS w

theorem own_below {w w' : World} {base : Nat} {e : TypeId} {size : Nat} {v : Value} {n : Nat} {xs : List Value} (h : w.ownsRow base e size v n xs) (hb : Below w.heap.size w w') : w'.ownsRow base e size v n xs := by
  refine ⟨h.1, h.2.imp id ?_⟩
  rintro ⟨g, cap, cur, rfl, h1, hh, hr⟩
  exact ⟨g, cap, cur, rfl, h1, (hb.block g (block_lt hh)).trans hh, hr⟩
theorem own_block4 {w : World} {base : Nat} {e : TypeId} {size : Nat} {v : Value} {n : Nat} {xs : List Value} (h : w.ownsRow base e size v n xs) : ∀ j, v.ownBlock = some j → base ≤ j := by
  intro j hj
  rcases h.2 with ⟨rfl, _⟩ | ⟨g, cap, cur, rfl, hb, _⟩
  · cases hj
  · have e : some g = some j := hj
    injection e with e
    omega
theorem own_form4 {w : World} {base : Nat} {e : TypeId} {size : Nat} {v : Value} {n : Nat} {xs : List Value} (h : w.ownsRow base e size v n xs) : ∃ A c, v = .slice A n c := by
  rcases h.2 with ⟨rfl, rfl⟩ | ⟨g, cap, cur, rfl, _⟩
  · exact ⟨_, _, rfl⟩
  · exact ⟨_, _, rfl⟩
theorem stop_ok {l : List UInt8} {p : Nat} (h : (nextL l p).ans.k = 5) : (nextL l p).ans.e = 0 := by
  cases hr : nextL l p with
  | err q e => rw [hr] at h; simp [Res.ans] at h
  | stop q => rfl
  | tok t q r => rfl
/-- Its answer: the slice owns the tokens, the place, the error. -/
def RAllOk (l : List UInt8) (w : World) (e : Ending) (w' : World) : Prop :=
  ∃ (A : Option Addr) (c : Nat), e = .returned (.tuple #[.slice A (allL l).1.length c, .int .i64 (allL l).2.1, .int .i64 (allL l).2.2]) ∧ Reads w' w'.heap.size 4 A (allL l).1.length (cellsT (allL l).1) ∧ Below w.heap.size w w'
theorem rall_end {l : List UInt8} {pre : List Ans} {A : Option Addr} {n c : Nat} {w w' : World} (hs : seqL l = pre) (hp : ∀ x ∈ pre, x.e = 0) (hn : n = pre.length) (h : w'.ownsRow w.heap.size 29 4 (.slice A n c) pre.length (cellsT (pre.map tkA))) (hb : Below w.heap.size w w') {z : Int} (hz : z = l.length) :
    RAllOk l w (.returned (.tuple #[.slice A n c, .int .i64 z, .int .i64 0])) w' := by
  have hall : allL l = (pre.map tkA, l.length, 0) := by rw [allL_seq, hs, res_ok _ _ hp]
  refine ⟨A, c, ?_, ?_, hb⟩
  · rw [hall, hn, hz]
    simp
  · rw [hall]
    have := Reads.of_own (hn ▸ h)
    simpa [hn] using this
theorem rall_err {l : List UInt8} {pre : List Ans} {x : Ans} {w w' : World} (hs : seqL l = pre ++ [x]) (hp : ∀ x ∈ pre, x.e = 0) (hx : x.e ≠ 0) (hb : Below w.heap.size w w') :
    RAllOk l w (.returned (.tuple #[.slice none 0 0, .int .i64 x.p, .int .i64 x.e])) w' := by
  have hall : allL l = ([], x.p, x.e) := by rw [allL_seq, hs, res_err _ _ _ hx _ hp]
  refine ⟨none, 0, ?_, ?_, hb⟩
  · rw [hall]
    rfl
  · rw [hall]
    exact Reads.none_

set_option maxRecDepth 100000 in
set_option maxHeartbeats 4000000 in
theorem rall_any (s : ByteArray) (hs : s.size ≤ 1000000) (w : World) : Calls Try.prog 15 #[.string s] w (RAllOk s.data.toList w) := by
  obtain ⟨i0, hi, hz0, hz1, hz2⟩ := info_parts token_info
  have hsl := seqL_len s.data.toList
  rw [← Lib.size_eq] at hsl
  go_enter Try.func15, Try.ntmps15
  go_wp2_with fail
  go_loopw [5, 6] (fun v a wr => ∃ (p f : Nat) (pre : List Ans) (A : Option Addr) (n c : Nat), v = .slice A n c ∧ a = .int .i64 p ∧ p ≤ s.size ∧ Hid (s.data.toList.length < f + p) ∧ Hid (seqL s.data.toList = pre ++ seqF s.data.toList f p) ∧ Hid (∀ x ∈ pre, x.e = 0) ∧ Hid (n = pre.length) ∧ Hid (wr.ownsRow w.heap.size 29 4 (.slice A n c) pre.length (cellsT (pre.map tkA))) ∧ Below w.heap.size w wr) (fun _ a _ => s.size - (intOf a).toNat)
  case atStart => exact ⟨0, s.data.toList.length + 1, [], none, 0, 0, rfl, rfl, Nat.zero_le _, by show _ < _; omega, rfl, by simp [Hid], rfl, World.ownsRow_nil _ _ _ _, Below.refl _ _⟩
  case round =>
    obtain ⟨p, f, pre, A, n, c, rfl, rfl, hp, hf, hseq, hpre, hnn, hown, hB⟩ := hrel
    have hN := fun w => rnext_any s p hp hs w
    have hst := seq_step (l := s.data.toList) (f := f) (p := p) (by rw [← Lib.size_eq]; exact hp) hf.out
    have hso := stop_ok (l := s.data.toList) (p := p)
    have hsq := hseq.out
    generalize hx : (nextL s.data.toList p).ans = x at *
    unfold ansV at hN
    have hsz := hB.size
    clear hx hseq
    rcases hst with ⟨h5, hq⟩ | ⟨h5, he, hq⟩ | ⟨h5, he, h3, h4, g, hg, hq⟩
    · have he := hso h5
      rw [hq, List.append_nil] at hsq
      have HSQ := Lib.hid hsq
      obtain ⟨k, a, tx, gl, q, e⟩ := x
      simp only at h5 he hN
      subst h5
      subst he
      have HN := Lib.hid hN
      clear hq hsq hso hN
      go_wp2_with fail
      refine (HN.out _).mono ?_
      rintro e w1 ⟨rfl, b1⟩
      have own1 := Lib.hid (own_below hown.out b1)
      have B1 := Lib.hid (hB.trans (b1.mono hsz))
      clear b1 hown hB
      go_wp2_with fail
      go_ret3
      exact rall_end HSQ.out hpre.out hnn.out (own1.out.alloc _) (B1.out.alloc B1.out.size _) (by rw [Lib.size_eq])
    · rw [hq] at hsq
      have HSQ := Lib.hid hsq
      have HE := Lib.hid he
      obtain ⟨k, a, tx, gl, q, e⟩ := x
      simp only at h5 he hN
      have heb : (e != 0) = true := by simpa using he
      have HN := Lib.hid hN
      clear hq hsq hso hN h5 he
      go_wp2_with fail
      refine (HN.out _).mono ?_
      rintro e w1 ⟨rfl, b1⟩
      have B1 := Lib.hid (hB.trans (b1.mono hsz))
      clear b1 hown hB
      go_wp2_with fail
      go_ret3
      exact rall_err HSQ.out hpre.out HE.out (B1.out.alloc B1.out.size _)
    · rw [hq] at hsq
      have HSQ := Lib.hid hsq
      have HG := Lib.hid hg
      have hln : pre.length + 1 ≤ s.size + 1 := by
        have := congrArg List.length hsq
        rw [List.length_append, List.length_cons] at this
        omega
      obtain ⟨k, a, tx, gl, q, e⟩ := x
      simp only at h5 he hN h3 h4 HG HSQ
      subst he
      rw [← Lib.size_eq] at h4
      have h5b : (k == 5) = false := by simpa using h5
      have HN := Lib.hid hN
      clear hq hsq hso hN h5 hg
      go_wp2_with fail
      refine (HN.out _).mono ?_
      rintro e w1 ⟨rfl, b1⟩
      have own1 := own_below hown.out b1
      have B1 := Lib.hid (hB.trans (b1.mono hsz))
      have hs1 := B1.out.size
      have hfn := four_new (w1.alloc (.cells #[.int .i64 k, .int .i64 a, .string ⟨tx.toArray⟩, .bool gl] 29)) ⟨k, a, tx, gl⟩ 29
      simp only [World.size_alloc] at hfn
      have own2 := (own1.alloc (.cells #[.int .i64 k, .int .i64 a, .string ⟨tx.toArray⟩, .bool gl] 29)).alloc (.cells #[.int .i64 k, .int .i64 a, .string ⟨tx.toArray⟩, .bool gl] 29)
      have HFN := Lib.hid hfn
      have OW2 := Lib.hid own2
      clear b1 hown hB hfn own1 own2
      go_wp2_with (at_builtin; refine wpList_append_own _ rfl (.tmp 27) (.tmp 29) 34 rfl w.heap.size 29 i0 _ 4 40 Try.underlying34 hi hz0 hz1 hz2 rfl (by decide) _ _ _ rfl OW2.out ⟨w1.heap.size + 1, 0, none⟩ 1 1 (tkCells ⟨k, a, tx, gl⟩) rfl rfl HFN.out (tkCells_one _) (by unfold maxLen; omega) (by omega) (by simp; omega) ?_; intro v' w2 hown' hgrow hat)
      obtain ⟨A', c', rfl⟩ := own_form4 hown'
      have B2 : Hid (Below w.heap.size w w2) := ((B1.out.alloc hs1 _).alloc (by simp; omega) _).grown hgrow (by simp; omega) (own_block4 OW2.out)
      have OW3 : Hid (w2.ownsRow w.heap.size 29 4 (.slice A' (pre.length + 1) c') (pre ++ [(⟨k, a, tx, gl, q, 0⟩ : Ans)]).length (cellsT ((pre ++ [(⟨k, a, tx, gl, q, 0⟩ : Ans)]).map tkA))) := by
        rw [List.map_append, List.map_cons, List.map_nil, cellsT_snoc, List.length_append]
        exact hown'
      clear hown' hgrow hat OW2 HFN
      go_wp2_with fail
      go_roundw
      case rel => exact ⟨q, g, pre ++ [(⟨k, a, tx, gl, q, 0⟩ : Ans)], A', pre.length + 1, c', rfl, by go_num, h4, HG.out, by rw [List.append_assoc]; exact HSQ.out, fun y hy => by
        rcases List.mem_append.1 hy with hy | hy
        · exact hpre.out y hy
        · simp at hy; subst hy; rfl, by simp [Hid], OW3.out, B2.out⟩
      case measure => simp [intOf]; omega
end Go.Proofs.Ythccgpjbchlocaa
