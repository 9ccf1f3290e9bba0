/- Layer graph: slices.Values, AppendSeq, Collect of edges: contracts. -/
import Derived.RangeFuncBox
import Derived.RangeFuncFrom
import Derived.Maps.AppendAt
import Derived.Test.YticbgikbpafeoaaGv
import Derived.Test.YticbgikbpafeoaaWords
namespace Go.Proofs.Yticbgikbpafeoaa
open Go.RowKit Go.Shelf
attribute [local go_sem] Oper.semAt_some

set_option maxRecDepth 100000 in
set_option maxHeartbeats 2000000 in
theorem values_stops (m : Nat) (hm : 1 ≤ m) (Bs n c : Nat) (A : Option Addr) (zs : List Ed) (hn : n ≤ 1000) (w : World)
    (hs : Blk w Bs 22 #[.slice A n c]) (hR : Reads w w.heap.size 3 A n (cellsE zs)) :
    SeqStopsK Fence.wide m Try.prog 68 #[.pointer (some ⟨Bs, 0, none⟩)] encE (fun X Y => Below w.heap.size X Y) (fun ys => ys = zs) (fun _ => True) n w := by
  intro l J Jx W hW hJ _ hY h0
  have s0 := (hs.below hW hs.lt).cell 0
  have HL := Lib.hid (reads_len hR)
  have HR := Lib.hid fun W (h : Below w.heap.size w W) => hR.below h
  have HYY := Lib.hid hY
  have HW := Lib.hid hW
  clear hY hR hs hW
  refine callsIn_of_wp Try.func68 rfl trivial ?_ rfl
  simp only [Try.ntmps68, List.size_toArray, List.length_cons, List.length_nil, Nat.reduceAdd, Nat.reduceSub, Array.replicate_succ, Array.replicate_zero, List.push_toArray, List.append_toArray, List.nil_append, List.cons_append]
  gi_wp2_with fail
  clear s0
  gi_loopw [7] (fun v wr => ∃ i : Nat, v = .int .i64 i ∧ i ≤ n ∧ Hid (J (zs.take i) wr) ∧ Hid (Below w.heap.size w wr)) (fun v _ => n - (intOf v).toNat)
  case atStart => exact ⟨0, rfl, Nat.zero_le _, h0, HW⟩
  case round =>
    obtain ⟨i, rfl, hin, HJ, HB⟩ := hrel
    by_cases hin2 : i < n
    · have hlt : (i : Int) < (n : Int) := by omega
      obtain ⟨p, hp⟩ : ∃ p, zs[i]? = some p := ⟨zs[i]'(by rw [HL.out]; omega), List.getElem?_eq_getElem _⟩
      obtain ⟨b, o, rfl, hb, g0, g1, gk2⟩ := ed_at (HR.out wr HB.out) hp
      have KY := Lib.hid (Blk.new wr 35 #[.int .i64 p.1, .int .i64 p.2.1, .int .i64 p.2.2])
      have HJ1 := Lib.hid (hJ _ _ (wr.alloc (.cells #[.int .i64 p.1, .int .i64 p.2.1, .int .i64 p.2.2] 35)) none HJ.out (World.grownBy_alloc _ _ _) (fun r e => by cases e))
      have HB1 := Lib.hid (HB.out.alloc HB.out.size (.cells #[.int .i64 p.1, .int .i64 p.2.1, .int .i64 p.2.2] 35))
      have hlen : (zs.take i).length < n := by rw [List.length_take]; omega
      have HTK : Hid (zs.take (i + 1) = zs.take i ++ [p]) := by show _ = _; rw [List.take_add_one, hp]; rfl
      obtain ⟨fn, tmps, assign, body, hy, hR⟩ := HYY.out (zs.take i) p _ HJ1.out hlen
      have y0 := KY.out.cell 0
      have y1 := KY.out.cell 1
      have y2 := KY.out.cell 2
      unfold encE at hy
      have HRR := Lib.hid hR
      clear hp KY hlen hR HJ HB
      gi_wp2_with fail
      refine HRR.out.mono ?_
      rintro e W3 (⟨rfl, hJ3, hk3⟩ | ⟨rfl, hJ3⟩)
      · have HJ3 : Hid (J (zs.take (i + 1)) W3) := by rw [HTK.out]; exact hJ3
        have HB3 : Hid (Below w.heap.size w W3) := HB1.out.trans hk3
        clear hJ3 hk3 y0 y1 y2 hy HRR g0 g1 gk2
        gi_wp2_with fail
        go_roundw
        case rel => exact ⟨i + 1, by go_num, hin2, HJ3, HB3⟩
        case measure => simp [intOf]; omega
      · have HJ3 := Lib.hid hJ3
        clear hJ3 y0 y1 y2 hy HRR g0 g1 gk2
        gi_wp2_with fail
        refine bodyPost_ret (results_none rfl _ _ _) rfl ?_
        exact ⟨⟨_, rfl⟩, .inr ⟨_, trivial, HJ3.out⟩⟩
    · have hge : ¬ (i : Int) < (n : Int) := by omega
      obtain rfl : i = n := by omega
      have HJ3 : Hid (J zs wr) := by have := HJ.out; rwa [List.take_of_length_le (by rw [HL.out]; omega)] at this
      gi_wp2_with fail
      go_end0
      exact ⟨⟨_, rfl⟩, .inl HJ3.out⟩

/-- The cells of one edge in a new block. -/
theorem ed_new (w : World) (p : Ed) (t : TypeId) : ∀ j u, (edCells p)[j]? = some u → (w.alloc (.cells #[.int .i64 p.1, .int .i64 p.2.1, .int .i64 p.2.2] t)).cell? ((⟨w.heap.size, 0, none⟩ : Addr).add j) = some u := by
  intro j u hu
  have hb := Blk.new w t #[.int .i64 p.1, .int .i64 p.2.1, .int .i64 p.2.2]
  rw [Go.WideShapes.add_plain, Nat.zero_add, hb.cell, ← hu, ← List.getElem?_toArray]
  rfl
theorem edCells_one (p : Ed) : ∀ u ∈ edCells p, u.oneCell' = true := fun u hu => cellsE_one [p] u (by simpa [cellsE] using hu)
theorem cellsE_snoc (xs : List Ed) (p : Ed) : cellsE (xs ++ [p]) = cellsE xs ++ edCells p := by simp [cellsE]
theorem blk_own {β : Type} (B : Nat) (t : TypeId) (f : β → Array Value) : _root_.Go.Own fun s W => Blk W B t (f s) := fun s W W' row hs hg hr =>
  hs.grown hg (fun e => by
    obtain ⟨o, ho, hoc⟩ := hr B e.symm
    unfold Blk at hs
    rw [hs] at ho
    cases ho
    cases hoc)

set_option maxRecDepth 100000 in
set_option maxHeartbeats 4000000 in
theorem append_seq_in (m : Nat) (hm : 6 ≤ m) (gf : Nat) (lb : Array Value) (rs : List Ed) (N : Nat) (hN : N ≤ 1000) (Sp : List Ed → Prop) (w0 : World) (eg : ∀ args w, (callFunc gf args).run Try.prog w = .ok (.enter gf args) w)
    (hseq : SeqStopsK Fence.wide (m - 1) Try.prog gf lb encE (fun X Y => Below w0.heap.size X Y) (fun ys => ys = rs) Sp N w0) (w : World) (hb : Below w0.heap.size w0 w) :
    CallsIn Fence.wide m Try.prog 66 #[.slice none 0 0, .func (.func gf) #[] lb] w (RowIs rs w) := by
  have h1 : 1 ≤ m := by omega
  obtain ⟨i0, hi, hz0, hz1, hz2⟩ := info_parts pair_info
  refine callsIn_of_wp_marks Try.func66 rfl trivial ?_ rfl
  simp only [Try.ntmps66, List.size_toArray, List.length_cons, List.length_nil, Nat.reduceAdd, Nat.reduceSub, Array.replicate_succ, Array.replicate_zero, List.push_toArray, List.append_toArray, List.nil_append, List.cons_append]
  gi_wp2_with fail
  have c0 := Boxed.new w 22 (.slice none 0 0)
  have hB0 : Below w.heap.size w (w.alloc (.cells #[.slice none 0 0] 22)) := (Below.refl _ w).alloc (Nat.le_refl _) _
  have hsz : (w.alloc (.cells #[.slice none 0 0] 22)).heap.size = w.heap.size + 1 := by simp
  obtain ⟨W0, hW0⟩ : ∃ W0, w.alloc (.cells #[.slice none 0 0] 22) = W0 := ⟨_, rfl⟩
  rw [hW0] at c0 hB0 hsz ⊢
  clear hW0
  have hb2 : Below w0.heap.size w0 W0 := hb.trans (hB0.mono hb.size)
  refine wpIn_rangeFunc_ownH rfl h1 (gf := gf) (lb := lb) rfl trivial eg
    hseq (fun h k => belowK_t h k) (fun W l o o' hl h1 h2 h3 => belowK_b hb2.size W l o o' hl h1 h2 h3) hb2 (fun _ => rfl)
    (fun pre W => (∃ v, Boxed W w.heap.size 22 v ∧ W.ownsRow w.heap.size 35 3 v pre.length (cellsE pre) ∧ True) ∧ Below w.heap.size w W)
    (fun _ _ _ => False)
    (OwnFrom.and (_root_.Go.Own.from (holdsRow_own w.heap.size w.heap.size 22 35 3 (fun pre : List Ed => pre.length) (fun pre => cellsE pre) (fun _ _ => True)) _) (ownFrom_below (Nat.le_refl _) (by omega)))
    (fun c => fun _ _ _ _ h _ _ => h)
    ⟨⟨_, c0, World.ownsRow_nil _ _ _ _, trivial⟩, hB0⟩
    (fun x a' W => ∃ Bx : Nat, w.heap.size < Bx ∧ Blk W Bx 35 #[.int .i64 x.1, .int .i64 x.2.1, .int .i64 x.2.2] ∧ a' = { tmps := #[.slice none 0 0, .func (.func gf) #[] lb, .pointer (some ⟨w.heap.size, 0, none⟩), undef, .slice none 0 0, .pointer (some ⟨Bx, 0, none⟩), .func (.func gf) #[] lb, .agg #[.int .i64 x.1, .int .i64 x.2.1, .int .i64 x.2.2], undef, undef, undef, undef, undef], defers := [] })
    (fun x a' _ X Y row hs hg hr => by
      obtain ⟨Bx, e1, e3, e5⟩ := hs
      exact ⟨Bx, e1, blk_own _ _ (fun (_ : Unit) => _) () X Y row e3 hg (fun r e => (hr r e).2), e5⟩)
    ?assign ?body ?done ?stop
  case assign =>
    rintro l pre x W K ⟨⟨v, c3, hrow, _⟩, hB1⟩ hK
    have hs1 := c3.lt
    unfold encE
    gi_wp2
    exact hK _ _ ((KeepsOthers.alloc _ _).from _) ((Below.refl _ _).alloc (Nat.le_trans hb.size hB1.size) _)
      ⟨⟨v, c3.alloc _, hrow.alloc _, trivial⟩, hB1.alloc hB1.size _⟩
      ⟨W.heap.size, by omega, Blk.new W _ _, rfl⟩
  case body =>
    rintro l pre x a' W hl ⟨r, hr⟩ ⟨⟨v, c3, hrow, _⟩, hB1⟩ ⟨Bx, hBx, kx, rfl⟩ hlt
    have q0 := kx.cell 0
    have q1 := kx.cell 1
    have q2 := kx.cell 2
    have hc3 := c3.cell
    have hlen : pre.length < 1000 := by omega
    gi_wp2_with (gi_at_builtin; refine wpListIn_append_own _ rfl _ _ 22 rfl w.heap.size 35 i0 _ 3 24 Try.underlying22 hi hz0 hz1 hz2 rfl (by decide) _ _ _ rfl (hrow.alloc _) ⟨W.heap.size, 0, none⟩ 1 1 (edCells x) rfl rfl (ed_new _ _ _) (edCells_one _) (by unfold maxLen; omega) (by omega) (by have := hB1.size; simp; omega) ?_; intro v' w1 hown' hgrow _; obtain ⟨g', cap', rfl⟩ := ownsRow_succ hown'; obtain ⟨hv1, hv2, hr2, hk2, hb3⟩ := c3.appended (by decide) hrow hB1.size (by omega) hown' hgrow; have hc5 := hv1.cell; have hf5 := hv1.frozen)
    refine ⟨hk2.from _, hb3.mono hb.size, ⟨⟨_, hv2, ?_, trivial⟩, hB1.trans hb3⟩⟩
    rw [cellsE_snoc, List.length_append]
    exact hr2
  case done =>
    rintro D xs W hD rfl ⟨⟨v, c3, hrow, _⟩, hB1⟩ hK
    obtain ⟨A', c', rfl, h51, h52⟩ := own_form2 hrow
    have e0 := c3.cell
    have HC3 := Lib.hid c3
    have HK := Lib.hid hK
    clear c3
    gi_wp2
    refine ⟨by simp, .inl ⟨_, _, rfl, run_takeDeferred HK.out, ?_⟩⟩
    exact ⟨.slice A' xs.length c', by simp [results, Try.results66, go_sem], A', c', rfl, ownsRow_putObj hrow _ HK.out rfl, h51, h52, hB1.trans (belowK_b (w := w) (Nat.le_refl _) W D _ _ (by omega) HK.out rfl rfl)⟩
  case stop =>
    rintro D c pre W hD _ h
    exact h.elim

set_option maxHeartbeats 1000000 in
theorem collect_any (gf : Nat) (lb : Array Value) (rs : List Ed) (N : Nat) (hN : N ≤ 1000) (Sp : List Ed → Prop) (w0 : World) (eg : ∀ args w, (callFunc gf args).run Try.prog w = .ok (.enter gf args) w)
    (hseq : SeqStopsK Fence.wide 9 Try.prog gf lb encE (fun X Y => Below w0.heap.size X Y) (fun ys => ys = rs) Sp N w0) (w : World) (hb : Below w0.heap.size w0 w) :
    Calls Try.prog 50 #[.func (.func gf) #[] lb] w (RowIs rs w) := by
  have HA := Lib.hid (callsIn_wide.1 (append_seq_in 10 (by omega) gf lb rs N hN Sp w0 eg hseq w hb))
  clear hseq
  go_enter Try.func50, Try.ntmps50
  go_wp2_with fail
  refine HA.out.mono ?_
  rintro e w1 hx
  obtain ⟨A2, c2, rfl, h1, h2, h3, h4⟩ := rows_row hx
  have HF := Lib.hid (And.intro h1 (And.intro h2 (And.intro h3 h4)))
  clear h1 h2 h3 h4 hx HA
  go_wp2_with fail
  go_ret
  exact ⟨A2, c2, rfl, HF.out⟩
end Go.Proofs.Yticbgikbpafeoaa
