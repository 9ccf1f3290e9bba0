/- Plain facts: the graph of the components is right, does not go round, and is its own. -/
import Derived.RangeFuncNested
import Derived.RangeFuncBound
import Derived.RangeFuncCalls
import Derived.RangeFuncLeaves
import Derived.Shelf.Abstract
import Derived.Shelf.RegionOpen
import Derived.WalkKit
import Derived.OwnWalkIn
import Derived.TacticsInMore
import Derived.LoopNIn
import Derived.LoopIn
import Derived.Outline
import Derived.Test.YtkebeadaoiiokaaM8
import Derived.RangeFuncBox
import Derived.RangeFuncFrom
import Derived.Maps.AppendAt
import Derived.Test.YtkebeadaoiiokaaWords
import Derived.Test.YtkebeadaoiiokaaM9
import Derived.Test.YtkebeadaoiiokaaM7
-- holds: YtkebeadaoiiokaaGv YtkebeadaoiiokaaGw YtkebeadaoiiokaaGx YtkebeadaoiiokaaGy YtkebeadaoiiokaaHb YtkebeadaoiiokaaCg YtkebeadaoiiokaaCh YtkebeadaoiiokaaCi YtkebeadaoiiokaaCj YtkebeadaoiiokaaCk YtkebeadaoiiokaaCm
namespace Go.Proofs.Ytkebeadaoiiokaa
open Go.RowKit Go.Shelf
attribute [local go_sem] Oper.semAt_some

/-- An edge, as the one value that is told. -/
def encE (p : Ed) : Array Value := #[.agg #[.int .i64 p.1, .int .i64 p.2.1, .int .i64 p.2.2]]
theorem grown_of_below {W W' : World} (h : Below W.heap.size W W') : W.grownBy W' none := ⟨h.os, h.tape, h.output, h.size, fun k hk _ => h.block k hk⟩

end Go.Proofs.Ytkebeadaoiiokaa
namespace Go.Proofs.Ytkebeadaoiiokaa
open Go.RowKit Go.Shelf
attribute [local go_sem] Oper.semAt_some

set_option maxRecDepth 100000 in
set_option maxHeartbeats 2000000 in
theorem values_stops (m : Nat) (hm : 1 ≤ m) (Bs n c : Nat) (A : Option Addr) (zs : List Ed) (hn : n ≤ 1000) (w : World)
    (hs : Blk w Bs 22 #[.slice A n c]) (hR : Reads w w.heap.size 3 A n (cellsE zs)) :
    SeqStopsK Fence.wide m Try.prog 78 #[.pointer (some ⟨Bs, 0, none⟩)] encE (fun X Y => Below w.heap.size X Y) (fun ys => ys = zs) (fun _ => True) n w := by
  intro l J Jx W hW hJ _ hY h0
  have s0 := (hs.below hW hs.lt).cell 0
  have HL := Lib.hid (reads_len hR)
  have HR := Lib.hid fun W (h : Below w.heap.size w W) => hR.below h
  have HYY := Lib.hid hY
  have HW := Lib.hid hW
  clear hY hR hs hW
  refine callsIn_of_wp Try.func78 rfl trivial ?_ rfl
  simp only [Try.ntmps78, List.size_toArray, List.length_cons, List.length_nil, Nat.reduceAdd, Nat.reduceSub, Array.replicate_succ, Array.replicate_zero, List.push_toArray, List.append_toArray, List.nil_append, List.cons_append]
  gi_wp2_with fail
  clear s0
  gi_loopw [7] (fun v wr => ∃ i : Nat, v = .int .i64 i ∧ i ≤ n ∧ Hid (J (zs.take i) wr) ∧ Hid (Below w.heap.size w wr)) (fun v _ => n - (intOf v).toNat)
  case atStart => exact ⟨0, rfl, Nat.zero_le _, h0, HW⟩
  case round =>
    obtain ⟨i, rfl, hin, HJ, HB⟩ := hrel
    by_cases hin2 : i < n
    · have hlt : (i : Int) < (n : Int) := by omega
      obtain ⟨p, hp⟩ : ∃ p, zs[i]? = some p := ⟨zs[i]'(by rw [HL.out]; omega), List.getElem?_eq_getElem _⟩
      obtain ⟨b, o, rfl, hb, g0, g1, gk2⟩ := ed_at (HR.out wr HB.out) hp
      have KY := Lib.hid (Blk.new wr 34 #[.int .i64 p.1, .int .i64 p.2.1, .int .i64 p.2.2])
      have HJ1 := Lib.hid (hJ _ _ (wr.alloc (.cells #[.int .i64 p.1, .int .i64 p.2.1, .int .i64 p.2.2] 34)) none HJ.out (World.grownBy_alloc _ _ _) (fun r e => by cases e))
      have HB1 := Lib.hid (HB.out.alloc HB.out.size (.cells #[.int .i64 p.1, .int .i64 p.2.1, .int .i64 p.2.2] 34))
      have hlen : (zs.take i).length < n := by rw [List.length_take]; omega
      have HTK : Hid (zs.take (i + 1) = zs.take i ++ [p]) := by show _ = _; rw [List.take_add_one, hp]; rfl
      obtain ⟨fn, tmps, assign, body, hy, hR⟩ := HYY.out (zs.take i) p _ HJ1.out hlen
      have y0 := KY.out.cell 0
      have y1 := KY.out.cell 1
      have y2 := KY.out.cell 2
      unfold encE at hy
      have HRR := Lib.hid hR
      clear hp KY hlen hR HJ HB
      gi_wp2_with fail
      refine HRR.out.mono ?_
      rintro e W3 (⟨rfl, hJ3, hk3⟩ | ⟨rfl, hJ3⟩)
      · have HJ3 : Hid (J (zs.take (i + 1)) W3) := by rw [HTK.out]; exact hJ3
        have HB3 : Hid (Below w.heap.size w W3) := HB1.out.trans hk3
        clear hJ3 hk3 y0 y1 y2 hy HRR g0 g1 gk2
        gi_wp2_with fail
        go_roundw
        case rel => exact ⟨i + 1, by go_num, hin2, HJ3, HB3⟩
        case measure => simp [intOf]; omega
      · have HJ3 := Lib.hid hJ3
        clear hJ3 y0 y1 y2 hy HRR g0 g1 gk2
        gi_wp2_with fail
        refine bodyPost_ret (results_none rfl _ _ _) rfl ?_
        exact ⟨⟨_, rfl⟩, .inr ⟨_, trivial, HJ3.out⟩⟩
    · have hge : ¬ (i : Int) < (n : Int) := by omega
      obtain rfl : i = n := by omega
      have HJ3 : Hid (J zs wr) := by have := HJ.out; rwa [List.take_of_length_le (by rw [HL.out]; omega)] at this
      gi_wp2_with fail
      go_end0
      exact ⟨⟨_, rfl⟩, .inl HJ3.out⟩

/-- The cells of one edge in a new block. -/
theorem ed_new (w : World) (p : Ed) (t : TypeId) : ∀ j u, (edCells p)[j]? = some u → (w.alloc (.cells #[.int .i64 p.1, .int .i64 p.2.1, .int .i64 p.2.2] t)).cell? ((⟨w.heap.size, 0, none⟩ : Addr).add j) = some u := by
  intro j u hu
  have hb := Blk.new w t #[.int .i64 p.1, .int .i64 p.2.1, .int .i64 p.2.2]
  rw [Go.WideShapes.add_plain, Nat.zero_add, hb.cell, ← hu, ← List.getElem?_toArray]
  rfl
theorem edCells_one (p : Ed) : ∀ u ∈ edCells p, u.oneCell' = true := fun u hu => cellsE_one [p] u (by simpa [cellsE] using hu)
theorem cellsE_snoc (xs : List Ed) (p : Ed) : cellsE (xs ++ [p]) = cellsE xs ++ edCells p := by simp [cellsE]
theorem blk_own {β : Type} (B : Nat) (t : TypeId) (f : β → Array Value) : _root_.Go.Own fun s W => Blk W B t (f s) := fun s W W' row hs hg hr =>
  hs.grown hg (fun e => by
    obtain ⟨o, ho, hoc⟩ := hr B e.symm
    unfold Blk at hs
    rw [hs] at ho
    cases ho
    cases hoc)

set_option maxRecDepth 100000 in
set_option maxHeartbeats 4000000 in
theorem append_seq_in (m : Nat) (hm : 6 ≤ m) (gf : Nat) (lb : Array Value) (rs : List Ed) (N : Nat) (hN : N ≤ 1000) (Sp : List Ed → Prop) (w0 : World) (eg : ∀ args w, (callFunc gf args).run Try.prog w = .ok (.enter gf args) w)
    (hseq : SeqStopsK Fence.wide (m - 1) Try.prog gf lb encE (fun X Y => Below w0.heap.size X Y) (fun ys => ys = rs) Sp N w0) (w : World) (hb : Below w0.heap.size w0 w) :
    CallsIn Fence.wide m Try.prog 82 #[.slice none 0 0, .func (.func gf) #[] lb] w (RowIs rs w) := by
  have h1 : 1 ≤ m := by omega
  obtain ⟨i0, hi, hz0, hz1, hz2⟩ := info_parts pair_info
  refine callsIn_of_wp_marks Try.func82 rfl trivial ?_ rfl
  simp only [Try.ntmps82, List.size_toArray, List.length_cons, List.length_nil, Nat.reduceAdd, Nat.reduceSub, Array.replicate_succ, Array.replicate_zero, List.push_toArray, List.append_toArray, List.nil_append, List.cons_append]
  gi_wp2_with fail
  have c0 := Boxed.new w 22 (.slice none 0 0)
  have hB0 : Below w.heap.size w (w.alloc (.cells #[.slice none 0 0] 22)) := (Below.refl _ w).alloc (Nat.le_refl _) _
  have hsz : (w.alloc (.cells #[.slice none 0 0] 22)).heap.size = w.heap.size + 1 := by simp
  obtain ⟨W0, hW0⟩ : ∃ W0, w.alloc (.cells #[.slice none 0 0] 22) = W0 := ⟨_, rfl⟩
  rw [hW0] at c0 hB0 hsz ⊢
  clear hW0
  have hb2 : Below w0.heap.size w0 W0 := hb.trans (hB0.mono hb.size)
  refine wpIn_rangeFunc_ownH rfl h1 (gf := gf) (lb := lb) rfl trivial eg
    hseq (fun h k => belowK_t h k) (fun W l o o' hl h1 h2 h3 => belowK_b hb2.size W l o o' hl h1 h2 h3) hb2 (fun _ => rfl)
    (fun pre W => (∃ v, Boxed W w.heap.size 22 v ∧ W.ownsRow w.heap.size 34 3 v pre.length (cellsE pre) ∧ True) ∧ Below w.heap.size w W)
    (fun _ _ _ => False)
    (OwnFrom.and (_root_.Go.Own.from (holdsRow_own w.heap.size w.heap.size 22 34 3 (fun pre : List Ed => pre.length) (fun pre => cellsE pre) (fun _ _ => True)) _) (ownFrom_below (Nat.le_refl _) (by omega)))
    (fun c => fun _ _ _ _ h _ _ => h)
    ⟨⟨_, c0, World.ownsRow_nil _ _ _ _, trivial⟩, hB0⟩
    (fun x a' W => ∃ Bx : Nat, w.heap.size < Bx ∧ Blk W Bx 34 #[.int .i64 x.1, .int .i64 x.2.1, .int .i64 x.2.2] ∧ a' = { tmps := #[.slice none 0 0, .func (.func gf) #[] lb, .pointer (some ⟨w.heap.size, 0, none⟩), undef, .slice none 0 0, .pointer (some ⟨Bx, 0, none⟩), .func (.func gf) #[] lb, .agg #[.int .i64 x.1, .int .i64 x.2.1, .int .i64 x.2.2], undef, undef, undef, undef, undef], defers := [] })
    (fun x a' _ X Y row hs hg hr => by
      obtain ⟨Bx, e1, e3, e5⟩ := hs
      exact ⟨Bx, e1, blk_own _ _ (fun (_ : Unit) => _) () X Y row e3 hg (fun r e => (hr r e).2), e5⟩)
    ?assign ?body ?done ?stop
  case assign =>
    rintro l pre x W K ⟨⟨v, c3, hrow, _⟩, hB1⟩ hK
    have hs1 := c3.lt
    unfold encE
    gi_wp2
    exact hK _ _ ((KeepsOthers.alloc _ _).from _) ((Below.refl _ _).alloc (Nat.le_trans hb.size hB1.size) _)
      ⟨⟨v, c3.alloc _, hrow.alloc _, trivial⟩, hB1.alloc hB1.size _⟩
      ⟨W.heap.size, by omega, Blk.new W _ _, rfl⟩
  case body =>
    rintro l pre x a' W hl ⟨r, hr⟩ ⟨⟨v, c3, hrow, _⟩, hB1⟩ ⟨Bx, hBx, kx, rfl⟩ hlt
    have q0 := kx.cell 0
    have q1 := kx.cell 1
    have q2 := kx.cell 2
    have hc3 := c3.cell
    have hlen : pre.length < 1000 := by omega
    gi_wp2_with (gi_at_builtin; refine wpListIn_append_own _ rfl _ _ 22 rfl w.heap.size 34 i0 _ 3 24 Try.underlying22 hi hz0 hz1 hz2 rfl (by decide) _ _ _ rfl (hrow.alloc _) ⟨W.heap.size, 0, none⟩ 1 1 (edCells x) rfl rfl (ed_new _ _ _) (edCells_one _) (by unfold maxLen; omega) (by omega) (by have := hB1.size; simp; omega) ?_; intro v' w1 hown' hgrow _; obtain ⟨g', cap', rfl⟩ := ownsRow_succ hown'; obtain ⟨hv1, hv2, hr2, hk2, hb3⟩ := c3.appended (by decide) hrow hB1.size (by omega) hown' hgrow; have hc5 := hv1.cell; have hf5 := hv1.frozen)
    refine ⟨hk2.from _, hb3.mono hb.size, ⟨⟨_, hv2, ?_, trivial⟩, hB1.trans hb3⟩⟩
    rw [cellsE_snoc, List.length_append]
    exact hr2
  case done =>
    rintro D xs W hD rfl ⟨⟨v, c3, hrow, _⟩, hB1⟩ hK
    obtain ⟨A', c', rfl, h51, h52⟩ := own_form2 hrow
    have e0 := c3.cell
    have HC3 := Lib.hid c3
    have HK := Lib.hid hK
    clear c3
    gi_wp2
    refine ⟨by simp, .inl ⟨_, _, rfl, run_takeDeferred HK.out, ?_⟩⟩
    exact ⟨.slice A' xs.length c', by simp [results, Try.results82, go_sem], A', c', rfl, ownsRow_putObj hrow _ HK.out rfl, h51, h52, hB1.trans (belowK_b (w := w) (Nat.le_refl _) W D _ _ (by omega) HK.out rfl rfl)⟩
  case stop =>
    rintro D c pre W hD _ h
    exact h.elim

set_option maxHeartbeats 1000000 in
theorem collect_any (gf : Nat) (lb : Array Value) (rs : List Ed) (N : Nat) (hN : N ≤ 1000) (Sp : List Ed → Prop) (w0 : World) (eg : ∀ args w, (callFunc gf args).run Try.prog w = .ok (.enter gf args) w)
    (hseq : SeqStopsK Fence.wide 9 Try.prog gf lb encE (fun X Y => Below w0.heap.size X Y) (fun ys => ys = rs) Sp N w0) (w : World) (hb : Below w0.heap.size w0 w) :
    Calls Try.prog 61 #[.func (.func gf) #[] lb] w (RowIs rs w) := by
  have HA := Lib.hid (callsIn_wide.1 (append_seq_in 10 (by omega) gf lb rs N hN Sp w0 eg hseq w hb))
  clear hseq
  go_enter Try.func61, Try.ntmps61
  go_wp2_with fail
  refine HA.out.mono ?_
  rintro e w1 hx
  obtain ⟨A2, c2, rfl, h1, h2, h3, h4⟩ := rows_row hx
  have HF := Lib.hid (And.intro h1 (And.intro h2 (And.intro h3 h4)))
  clear h1 h2 h3 h4 hx HA
  go_wp2_with fail
  go_ret
  exact ⟨A2, c2, rfl, HF.out⟩
end Go.Proofs.Ytkebeadaoiiokaa
namespace Go.Proofs.Ytkebeadaoiiokaa
open Go.RowKit Go.Shelf
attribute [local go_sem] Oper.semAt_some

/-- append within a region that draws its order, inside a fence. -/
theorem stepIn_append_own {F : Fence} {n : Nat} {P : Program} (w : World) {ops : Array Oper} {o : Oper} {a : Act} {K : Act → World → Prop} {Q : Exit → Act → World → Prop} {E : Prop}
    (hg : o.guard = none) (s x : Operand) (t : TypeId) (hop : o.op = Op.call { callee := Callee.builtin Builtin.append, args := #[s, x], argTypes := #[t, t] })
    (base : Nat) (e : TypeId) (i : TypeInfo) (z : Value) (size bytes : Nat) (h1 : P.underlying t = some (.slice e)) (h2 : P.info? e = some i) (h3 : i.zero = some z) (h4 : i.size = size) (h5 : i.bytes = bytes) (h6 : z.cells.size = size) (h7 : 0 < size)
    (v : Value) (k : Nat) (xs : List Value) (hs : a.eval s = v) (hown : w.ownsRow base e size v k xs) (ad : Addr) (m c : Nat) (news : List Value) (hx : a.eval x = .slice (some ad) m c) (hn : news.length = m * size)
    (hc : ∀ j u, news[j]? = some u → w.cell? (ad.add j) = some u) (h1c : ∀ u ∈ news, u.oneCell' = true) (b1 : k + m ≤ maxLen) (b2 : (k + m) * bytes ≤ 140737488355328) (b3 : base ≤ w.heap.size)
    (hK : ∀ v' w', w'.ownsRow base e size v' (k + m) (xs ++ news) → w.grownBy w' v.ownBlock → K (a.put o.dst v') w') :
    if Region.wanted o (yielded ops a.tmps) = true then Oper.wpIn F n P o a w K Q else E := by
  have hw : Region.wanted o (yielded ops a.tmps) = true := by simp [Region.wanted, hg]
  rw [if_pos hw]
  obtain ⟨v', w', hrun, r1, r2, _⟩ := run_append_own (P := P) w base t o.type e i z size bytes h1 h2 h3 h4 h5 h6 h7 v k xs hown ad m c news hn hc h1c b1 b2 b3
  unfold Oper.wpIn
  refine ⟨?_, ?_⟩
  · simp [Oper.about, hop, resolve, Target.leads, Sem.run_pure]
  · rw [Oper.semAt_plain F _ _ (by rw [hop]; intro c hc'; cases hc')]
    simp [execOp, hop, resolve, invoke, builtin, hs, hx, hrun, Result.andThen]
    exact hK _ _ r1 r2
theorem boxed_below {W W' : World} {B : Nat} {t : TypeId} {v : Value} (h : Boxed W B t v) (b : Below W.heap.size W W') : Boxed W' B t v := (b.block B h.lt).trans h
theorem int_new (w : World) (z : Int) (t : TypeId) : ∀ j u, ([.int .i64 z] : List Value)[j]? = some u → (w.alloc (.cells #[.int .i64 z] t)).cell? ((⟨w.heap.size, 0, none⟩ : Addr).add j) = some u := by
  intro j u hu
  have hb := Blk.new w t #[.int .i64 z]
  rw [Go.WideShapes.add_plain, Nat.zero_add, hb.cell, ← hu, ← List.getElem?_toArray]

set_option maxRecDepth 100000 in
set_option maxHeartbeats 8000000 in
theorem gatherE_in (m : Nat) (hm : 6 ≤ m) (gf : Nat) (lb : Array Value) (rs : List Ed) (N : Nat) (hN : N ≤ 1000) (Sp : List Ed → Prop) (w0 : World) (eg : ∀ args w, (callFunc gf args).run Try.prog w = .ok (.enter gf args) w)
    (hseq : SeqStopsK Fence.wide (m - 1) Try.prog gf lb encE (fun X Y => Below w0.heap.size X Y) (fun ys => ys = rs) Sp N w0) (w : World) (hb : Below w0.heap.size w0 w) :
    CallsIn Fence.wide m Try.prog 56 #[.func (.func gf) #[] lb, .func (.func 58) #[] #[]] w (RowIs (rs.map flipE) w) := by
  have h1 : 1 ≤ m := by omega
  obtain ⟨i0, hi, hz0, hz1, hz2⟩ := info_parts pair_info
  refine callsIn_of_wp_marks Try.func56 rfl trivial ?_ rfl
  simp only [Try.ntmps56, List.size_toArray, List.length_cons, List.length_nil, Nat.reduceAdd, Nat.reduceSub, Array.replicate_succ, Array.replicate_zero, List.push_toArray, List.append_toArray, List.nil_append, List.cons_append]
  gi_wp2_with fail
  have ct := (Boxed.new w 92 (.func (.func 58) #[] #[])).alloc (.cells #[.slice none 0 0] 22)
  have c0 := Boxed.new (w.alloc (.cells #[.func (.func 58) #[] #[]] 92)) 22 (.slice none 0 0)
  have hB0 : Below w.heap.size w ((w.alloc (.cells #[.func (.func 58) #[] #[]] 92)).alloc (.cells #[.slice none 0 0] 22)) := ((Below.refl _ w).alloc (Nat.le_refl _) _).alloc (by simp) _
  have hsz : ((w.alloc (.cells #[.func (.func 58) #[] #[]] 92)).alloc (.cells #[.slice none 0 0] 22)).heap.size = w.heap.size + 2 := by simp
  rw [World.size_alloc] at c0
  obtain ⟨W0, hW0⟩ : ∃ W0, (w.alloc (.cells #[.func (.func 58) #[] #[]] 92)).alloc (.cells #[.slice none 0 0] 22) = W0 := ⟨_, rfl⟩
  rw [hW0] at c0 ct hB0 hsz ⊢
  clear hW0
  have hb2 : Below w0.heap.size w0 W0 := hb.trans (hB0.mono hb.size)
  refine wpIn_rangeFunc_ownH rfl h1 (gf := gf) (lb := lb) rfl trivial eg
    hseq (fun h k => belowK_t h k) (fun W l o o' hl h1 h2 h3 => belowK_b hb2.size W l o o' hl h1 h2 h3) hb2 (fun _ => rfl)
    (fun pre W => ((∃ v, Boxed W (w.heap.size + 1) 22 v ∧ W.ownsRow w.heap.size 34 3 v pre.length (cellsE (pre.map flipE)) ∧ True) ∧ Boxed W w.heap.size 92 (.func (.func 58) #[] #[])) ∧ Below w.heap.size w W)
    (fun _ _ _ => False)
    (OwnFrom.and (OwnFrom.and (_root_.Go.Own.from (holdsRow_own w.heap.size (w.heap.size + 1) 22 34 3 (fun pre : List Ed => pre.length) (fun pre : List Ed => cellsE (pre.map flipE)) (fun _ _ => True)) _) (_root_.Go.Own.from (boxed_own _ _ (fun _ => .func (.func 58) #[] #[])) _)) (ownFrom_below (Nat.le_refl _) (by omega)))
    (fun c => fun _ _ _ _ h _ _ => h)
    ⟨⟨⟨_, c0, World.ownsRow_nil _ _ _ _, trivial⟩, ct⟩, hB0⟩
    (fun x a' W => ∃ Bx : Nat, w.heap.size + 1 < Bx ∧ Blk W Bx 34 #[.int .i64 x.1, .int .i64 x.2.1, .int .i64 x.2.2] ∧ a' = { tmps := #[.func (.func gf) #[] lb, .func (.func 58) #[] #[], undef, .pointer (some ⟨w.heap.size, 0, none⟩), .slice none 0 0, .pointer (some ⟨w.heap.size + 1, 0, none⟩), .pointer (some ⟨Bx, 0, none⟩), .func (.func gf) #[] lb, .agg #[.int .i64 x.1, .int .i64 x.2.1, .int .i64 x.2.2], undef, undef, undef, undef, undef, undef, undef], defers := [] })
    (fun x a' _ X Y row hs hg hr => by
      obtain ⟨Bx, e1, e3, e5⟩ := hs
      exact ⟨Bx, e1, blk_own _ _ (fun (_ : Unit) => _) () X Y row e3 hg (fun r e => (hr r e).2), e5⟩)
    ?assign ?body ?done ?stop
  case assign =>
    rintro l pre x W K ⟨⟨⟨v, c3, hrow, _⟩, kt⟩, hB1⟩ hK
    have hs1 := c3.lt
    unfold encE
    gi_wp2
    exact hK _ _ ((KeepsOthers.alloc _ _).from _) ((Below.refl _ _).alloc (Nat.le_trans hb.size hB1.size) _)
      ⟨⟨⟨v, c3.alloc _, hrow.alloc _, trivial⟩, kt.alloc _⟩, hB1.alloc hB1.size _⟩
      ⟨W.heap.size, by omega, Blk.new W _ _, rfl⟩
  case body =>
    rintro l pre x a' W hl ⟨r, hr⟩ ⟨⟨⟨v, c3, hrow, _⟩, kt⟩, hB1⟩ ⟨Bx, hBx, kx, rfl⟩ hlt
    have q0 := kx.cell 0
    have q1 := kx.cell 1
    have q2 := kx.cell 2
    have hc3 := c3.cell
    have hct := kt.cell
    have hlen : pre.length < 1000 := by omega
    have HT := Lib.hid fun W => rev1_any x W
    have hB1d : Below w.heap.size W W.drew := (Below.refl _ _).drew
    have HAF : Hid (∀ w1, Below W.drew.heap.size W.drew w1 → Boxed w1 (w.heap.size + 1) 22 v ∧ w1.ownsRow w.heap.size 34 3 v pre.length (cellsE (pre.map flipE)) ∧ Boxed w1 w.heap.size 92 (.func (.func 58) #[] #[]) ∧ Below w.heap.size w w1 ∧ KeepsOthers W.drew w1 ∧ Below w.heap.size W.drew w1) :=
      fun w1 b => ⟨boxed_below (W := W.drew) c3 b, own_below2 (w := W.drew) hrow b (Nat.le_refl _), boxed_below (W := W.drew) kt b, (hB1.trans hB1d).trans (b.mono hB1.size), KeepsOthers.of_grownBy (grown_of_below b) (fun j o e => by cases e), b.mono hB1.size⟩
    clear c3 hrow kt kx
    gi_wp2
    refine wpIn_region_any (by kernel_rfl) ?_
    change wpAnyIn _ _ _ _ _ _ _ _ _ W.drew
    refine wpAnyIn_ready (rs := [0, 1, 2]) (by kernel_rfl) (by simp) ?_
    refine AllReadyIn.cons rfl (fun K hK => ?_) ?_
    · go_simp
      refine hK _ _ ?_
      clear hK K
      try simp only [Act.put, List.setIfInBounds_toArray, List.set_cons_zero, List.set_cons_succ]
      refine wpAnyIn_ready (rs := [1, 2]) (by kernel_rfl) (by simp) ?_
      refine AllReadyIn.cons rfl (fun K hK => ?_) ?_
      · go_simp
        refine hK _ _ ?_
        clear hK K
        try simp only [Act.put, List.setIfInBounds_toArray, List.set_cons_zero, List.set_cons_succ]
        refine wpAnyIn_ready (rs := [2]) (by kernel_rfl) (by simp) ?_
        refine AllReadyIn.cons rfl (fun K hK => ?_) ?_
        · go_simp
          refine hK _ _ ?_
          clear hK K
          try simp only [Act.put, List.setIfInBounds_toArray, List.set_cons_zero, List.set_cons_succ]
          refine wpAnyIn_ready (rs := [3]) (by kernel_rfl) (by simp) ?_
          refine AllReadyIn.cons rfl (fun K hK => ?_) ?_
          · go_simp
            refine ⟨trivial, (fun h => by cases h), ((callsIn_wide.2 (HT.out _)).inRound l).mono ?_⟩
            rintro e9 w1 ⟨rfl, b9⟩
            obtain ⟨c51, hrow1, kt1, hB2, hko, hb9⟩ := HAF.out w1 b9
            go_simp
            refine hK _ _ ?_
            clear hK K
            try simp only [Act.put, List.setIfInBounds_toArray, List.set_cons_zero, List.set_cons_succ]
            refine wpAnyIn_ready (rs := [4]) (by kernel_rfl) (by simp) ?_
            refine AllReadyIn.cons rfl (fun K hK => ?_) ?_
            · go_simp
              refine hK _ _ ?_
              clear hK K
              try simp only [Act.put, List.setIfInBounds_toArray, List.set_cons_zero, List.set_cons_succ]
              refine wpAnyIn_ready (rs := [5]) (by kernel_rfl) (by simp) ?_
              refine AllReadyIn.cons rfl (fun K hK => ?_) ?_
              · refine stepIn_append_own _ rfl (.tmp 9) (.tmp 13) 22 rfl w.heap.size 34 i0 _ 3 24 Try.underlying22 hi hz0 hz1 hz2 rfl (by decide) _ _ _ rfl (hrow1.alloc _) ⟨w1.heap.size, 0, none⟩ 1 1 (edCells (flipE x)) rfl rfl (ed_new _ (flipE x) _) (edCells_one _) (by unfold maxLen; omega) (by omega) (by have := hB2.size; simp; omega) ?_
                intro v9 w2 hown9 hgrow9
                obtain ⟨g', cap', rfl⟩ := ownsRow_succ hown9
                obtain ⟨hv1, hv2, hr2, hk2, hb3⟩ := c51.appended (by decide) hrow1 hB2.size (by omega) hown9 hgrow9
                have hc7 := hv1.cell
                have hf7 := hv1.frozen
                refine hK _ _ ?_
                clear hK K
                try simp only [Act.put, List.setIfInBounds_toArray]
                refine wpAnyIn_ready (rs := [6]) (by kernel_rfl) (by simp) ?_
                refine AllReadyIn.cons rfl (fun K hK => ?_) ?_
                · go_simp
                  refine hK _ _ ?_
                  clear hK K
                  try simp only [Act.put, List.setIfInBounds_toArray]
                  refine wpAnyIn_done (by kernel_rfl) ?_ _
                  refine ⟨(((KeepsOthers.drew W).trans hko).trans hk2).from _, ((hB1d.trans hb9).trans hb3).mono hb.size, ⟨⟨⟨_, hv2, ?_, trivial⟩, ?_⟩, hB2.trans hb3⟩⟩
                  · rw [List.map_append, List.map_cons, List.map_nil, cellsE_snoc, List.length_append]
                    exact hr2
                  · exact ((kt1.alloc _).kept hgrow9 (kt1.not_row (by decide) hrow1)).other (B' := w.heap.size + 1) (by omega) _
                exact AllReadyIn.nil
              exact AllReadyIn.nil
            exact AllReadyIn.nil
          exact AllReadyIn.nil
        exact AllReadyIn.nil
      refine AllReadyIn.cons rfl (fun K hK => ?_) ?_
      · go_simp
        refine hK _ _ ?_
        clear hK K
        try simp only [Act.put, List.setIfInBounds_toArray, List.set_cons_zero, List.set_cons_succ]
        refine wpAnyIn_ready (rs := [1]) (by kernel_rfl) (by simp) ?_
        refine AllReadyIn.cons rfl (fun K hK => ?_) ?_
        · go_simp
          refine hK _ _ ?_
          clear hK K
          try simp only [Act.put, List.setIfInBounds_toArray, List.set_cons_zero, List.set_cons_succ]
          refine wpAnyIn_ready (rs := [3]) (by kernel_rfl) (by simp) ?_
          refine AllReadyIn.cons rfl (fun K hK => ?_) ?_
          · go_simp
            refine ⟨trivial, (fun h => by cases h), ((callsIn_wide.2 (HT.out _)).inRound l).mono ?_⟩
            rintro e9 w1 ⟨rfl, b9⟩
            obtain ⟨c51, hrow1, kt1, hB2, hko, hb9⟩ := HAF.out w1 b9
            go_simp
            refine hK _ _ ?_
            clear hK K
            try simp only [Act.put, List.setIfInBounds_toArray, List.set_cons_zero, List.set_cons_succ]
            refine wpAnyIn_ready (rs := [4]) (by kernel_rfl) (by simp) ?_
            refine AllReadyIn.cons rfl (fun K hK => ?_) ?_
            · go_simp
              refine hK _ _ ?_
              clear hK K
              try simp only [Act.put, List.setIfInBounds_toArray, List.set_cons_zero, List.set_cons_succ]
              refine wpAnyIn_ready (rs := [5]) (by kernel_rfl) (by simp) ?_
              refine AllReadyIn.cons rfl (fun K hK => ?_) ?_
              · refine stepIn_append_own _ rfl (.tmp 9) (.tmp 13) 22 rfl w.heap.size 34 i0 _ 3 24 Try.underlying22 hi hz0 hz1 hz2 rfl (by decide) _ _ _ rfl (hrow1.alloc _) ⟨w1.heap.size, 0, none⟩ 1 1 (edCells (flipE x)) rfl rfl (ed_new _ (flipE x) _) (edCells_one _) (by unfold maxLen; omega) (by omega) (by have := hB2.size; simp; omega) ?_
                intro v9 w2 hown9 hgrow9
                obtain ⟨g', cap', rfl⟩ := ownsRow_succ hown9
                obtain ⟨hv1, hv2, hr2, hk2, hb3⟩ := c51.appended (by decide) hrow1 hB2.size (by omega) hown9 hgrow9
                have hc7 := hv1.cell
                have hf7 := hv1.frozen
                refine hK _ _ ?_
                clear hK K
                try simp only [Act.put, List.setIfInBounds_toArray]
                refine wpAnyIn_ready (rs := [6]) (by kernel_rfl) (by simp) ?_
                refine AllReadyIn.cons rfl (fun K hK => ?_) ?_
                · go_simp
                  refine hK _ _ ?_
                  clear hK K
                  try simp only [Act.put, List.setIfInBounds_toArray]
                  refine wpAnyIn_done (by kernel_rfl) ?_ _
                  refine ⟨(((KeepsOthers.drew W).trans hko).trans hk2).from _, ((hB1d.trans hb9).trans hb3).mono hb.size, ⟨⟨⟨_, hv2, ?_, trivial⟩, ?_⟩, hB2.trans hb3⟩⟩
                  · rw [List.map_append, List.map_cons, List.map_nil, cellsE_snoc, List.length_append]
                    exact hr2
                  · exact ((kt1.alloc _).kept hgrow9 (kt1.not_row (by decide) hrow1)).other (B' := w.heap.size + 1) (by omega) _
                exact AllReadyIn.nil
              exact AllReadyIn.nil
            exact AllReadyIn.nil
          exact AllReadyIn.nil
        exact AllReadyIn.nil
      exact AllReadyIn.nil
    refine AllReadyIn.cons rfl (fun K hK => ?_) ?_
    · go_simp
      refine hK _ _ ?_
      clear hK K
      try simp only [Act.put, List.setIfInBounds_toArray, List.set_cons_zero, List.set_cons_succ]
      refine wpAnyIn_ready (rs := [0, 2]) (by kernel_rfl) (by simp) ?_
      refine AllReadyIn.cons rfl (fun K hK => ?_) ?_
      · go_simp
        refine hK _ _ ?_
        clear hK K
        try simp only [Act.put, List.setIfInBounds_toArray, List.set_cons_zero, List.set_cons_succ]
        refine wpAnyIn_ready (rs := [2]) (by kernel_rfl) (by simp) ?_
        refine AllReadyIn.cons rfl (fun K hK => ?_) ?_
        · go_simp
          refine hK _ _ ?_
          clear hK K
          try simp only [Act.put, List.setIfInBounds_toArray, List.set_cons_zero, List.set_cons_succ]
          refine wpAnyIn_ready (rs := [3]) (by kernel_rfl) (by simp) ?_
          refine AllReadyIn.cons rfl (fun K hK => ?_) ?_
          · go_simp
            refine ⟨trivial, (fun h => by cases h), ((callsIn_wide.2 (HT.out _)).inRound l).mono ?_⟩
            rintro e9 w1 ⟨rfl, b9⟩
            obtain ⟨c51, hrow1, kt1, hB2, hko, hb9⟩ := HAF.out w1 b9
            go_simp
            refine hK _ _ ?_
            clear hK K
            try simp only [Act.put, List.setIfInBounds_toArray, List.set_cons_zero, List.set_cons_succ]
            refine wpAnyIn_ready (rs := [4]) (by kernel_rfl) (by simp) ?_
            refine AllReadyIn.cons rfl (fun K hK => ?_) ?_
            · go_simp
              refine hK _ _ ?_
              clear hK K
              try simp only [Act.put, List.setIfInBounds_toArray, List.set_cons_zero, List.set_cons_succ]
              refine wpAnyIn_ready (rs := [5]) (by kernel_rfl) (by simp) ?_
              refine AllReadyIn.cons rfl (fun K hK => ?_) ?_
              · refine stepIn_append_own _ rfl (.tmp 9) (.tmp 13) 22 rfl w.heap.size 34 i0 _ 3 24 Try.underlying22 hi hz0 hz1 hz2 rfl (by decide) _ _ _ rfl (hrow1.alloc _) ⟨w1.heap.size, 0, none⟩ 1 1 (edCells (flipE x)) rfl rfl (ed_new _ (flipE x) _) (edCells_one _) (by unfold maxLen; omega) (by omega) (by have := hB2.size; simp; omega) ?_
                intro v9 w2 hown9 hgrow9
                obtain ⟨g', cap', rfl⟩ := ownsRow_succ hown9
                obtain ⟨hv1, hv2, hr2, hk2, hb3⟩ := c51.appended (by decide) hrow1 hB2.size (by omega) hown9 hgrow9
                have hc7 := hv1.cell
                have hf7 := hv1.frozen
                refine hK _ _ ?_
                clear hK K
                try simp only [Act.put, List.setIfInBounds_toArray]
                refine wpAnyIn_ready (rs := [6]) (by kernel_rfl) (by simp) ?_
                refine AllReadyIn.cons rfl (fun K hK => ?_) ?_
                · go_simp
                  refine hK _ _ ?_
                  clear hK K
                  try simp only [Act.put, List.setIfInBounds_toArray]
                  refine wpAnyIn_done (by kernel_rfl) ?_ _
                  refine ⟨(((KeepsOthers.drew W).trans hko).trans hk2).from _, ((hB1d.trans hb9).trans hb3).mono hb.size, ⟨⟨⟨_, hv2, ?_, trivial⟩, ?_⟩, hB2.trans hb3⟩⟩
                  · rw [List.map_append, List.map_cons, List.map_nil, cellsE_snoc, List.length_append]
                    exact hr2
                  · exact ((kt1.alloc _).kept hgrow9 (kt1.not_row (by decide) hrow1)).other (B' := w.heap.size + 1) (by omega) _
                exact AllReadyIn.nil
              exact AllReadyIn.nil
            exact AllReadyIn.nil
          exact AllReadyIn.nil
        exact AllReadyIn.nil
      refine AllReadyIn.cons rfl (fun K hK => ?_) ?_
      · go_simp
        refine hK _ _ ?_
        clear hK K
        try simp only [Act.put, List.setIfInBounds_toArray, List.set_cons_zero, List.set_cons_succ]
        refine wpAnyIn_ready (rs := [0, 3]) (by kernel_rfl) (by simp) ?_
        refine AllReadyIn.cons rfl (fun K hK => ?_) ?_
        · go_simp
          refine hK _ _ ?_
          clear hK K
          try simp only [Act.put, List.setIfInBounds_toArray, List.set_cons_zero, List.set_cons_succ]
          refine wpAnyIn_ready (rs := [3]) (by kernel_rfl) (by simp) ?_
          refine AllReadyIn.cons rfl (fun K hK => ?_) ?_
          · go_simp
            refine ⟨trivial, (fun h => by cases h), ((callsIn_wide.2 (HT.out _)).inRound l).mono ?_⟩
            rintro e9 w1 ⟨rfl, b9⟩
            obtain ⟨c51, hrow1, kt1, hB2, hko, hb9⟩ := HAF.out w1 b9
            go_simp
            refine hK _ _ ?_
            clear hK K
            try simp only [Act.put, List.setIfInBounds_toArray, List.set_cons_zero, List.set_cons_succ]
            refine wpAnyIn_ready (rs := [4]) (by kernel_rfl) (by simp) ?_
            refine AllReadyIn.cons rfl (fun K hK => ?_) ?_
            · go_simp
              refine hK _ _ ?_
              clear hK K
              try simp only [Act.put, List.setIfInBounds_toArray, List.set_cons_zero, List.set_cons_succ]
              refine wpAnyIn_ready (rs := [5]) (by kernel_rfl) (by simp) ?_
              refine AllReadyIn.cons rfl (fun K hK => ?_) ?_
              · refine stepIn_append_own _ rfl (.tmp 9) (.tmp 13) 22 rfl w.heap.size 34 i0 _ 3 24 Try.underlying22 hi hz0 hz1 hz2 rfl (by decide) _ _ _ rfl (hrow1.alloc _) ⟨w1.heap.size, 0, none⟩ 1 1 (edCells (flipE x)) rfl rfl (ed_new _ (flipE x) _) (edCells_one _) (by unfold maxLen; omega) (by omega) (by have := hB2.size; simp; omega) ?_
                intro v9 w2 hown9 hgrow9
                obtain ⟨g', cap', rfl⟩ := ownsRow_succ hown9
                obtain ⟨hv1, hv2, hr2, hk2, hb3⟩ := c51.appended (by decide) hrow1 hB2.size (by omega) hown9 hgrow9
                have hc7 := hv1.cell
                have hf7 := hv1.frozen
                refine hK _ _ ?_
                clear hK K
                try simp only [Act.put, List.setIfInBounds_toArray]
                refine wpAnyIn_ready (rs := [6]) (by kernel_rfl) (by simp) ?_
                refine AllReadyIn.cons rfl (fun K hK => ?_) ?_
                · go_simp
                  refine hK _ _ ?_
                  clear hK K
                  try simp only [Act.put, List.setIfInBounds_toArray]
                  refine wpAnyIn_done (by kernel_rfl) ?_ _
                  refine ⟨(((KeepsOthers.drew W).trans hko).trans hk2).from _, ((hB1d.trans hb9).trans hb3).mono hb.size, ⟨⟨⟨_, hv2, ?_, trivial⟩, ?_⟩, hB2.trans hb3⟩⟩
                  · rw [List.map_append, List.map_cons, List.map_nil, cellsE_snoc, List.length_append]
                    exact hr2
                  · exact ((kt1.alloc _).kept hgrow9 (kt1.not_row (by decide) hrow1)).other (B' := w.heap.size + 1) (by omega) _
                exact AllReadyIn.nil
              exact AllReadyIn.nil
            exact AllReadyIn.nil
          exact AllReadyIn.nil
        refine AllReadyIn.cons rfl (fun K hK => ?_) ?_
        · go_simp
          refine ⟨trivial, (fun h => by cases h), ((callsIn_wide.2 (HT.out _)).inRound l).mono ?_⟩
          rintro e9 w1 ⟨rfl, b9⟩
          obtain ⟨c51, hrow1, kt1, hB2, hko, hb9⟩ := HAF.out w1 b9
          have hc5 := c51.cell
          have hc6 := (c51.alloc (.cells #[.int .i64 x.2.1, .int .i64 x.1, .int .i64 x.2.2] 34)).cell
          go_simp
          refine hK _ _ ?_
          clear hK K
          try simp only [Act.put, List.setIfInBounds_toArray, List.set_cons_zero, List.set_cons_succ]
          refine wpAnyIn_ready (rs := [0, 4]) (by kernel_rfl) (by simp) ?_
          refine AllReadyIn.cons rfl (fun K hK => ?_) ?_
          · go_simp
            refine hK _ _ ?_
            clear hK K
            try simp only [Act.put, List.setIfInBounds_toArray, List.set_cons_zero, List.set_cons_succ]
            refine wpAnyIn_ready (rs := [4]) (by kernel_rfl) (by simp) ?_
            refine AllReadyIn.cons rfl (fun K hK => ?_) ?_
            · go_simp
              refine hK _ _ ?_
              clear hK K
              try simp only [Act.put, List.setIfInBounds_toArray, List.set_cons_zero, List.set_cons_succ]
              refine wpAnyIn_ready (rs := [5]) (by kernel_rfl) (by simp) ?_
              refine AllReadyIn.cons rfl (fun K hK => ?_) ?_
              · refine stepIn_append_own _ rfl (.tmp 9) (.tmp 13) 22 rfl w.heap.size 34 i0 _ 3 24 Try.underlying22 hi hz0 hz1 hz2 rfl (by decide) _ _ _ rfl (hrow1.alloc _) ⟨w1.heap.size, 0, none⟩ 1 1 (edCells (flipE x)) rfl rfl (ed_new _ (flipE x) _) (edCells_one _) (by unfold maxLen; omega) (by omega) (by have := hB2.size; simp; omega) ?_
                intro v9 w2 hown9 hgrow9
                obtain ⟨g', cap', rfl⟩ := ownsRow_succ hown9
                obtain ⟨hv1, hv2, hr2, hk2, hb3⟩ := c51.appended (by decide) hrow1 hB2.size (by omega) hown9 hgrow9
                have hc7 := hv1.cell
                have hf7 := hv1.frozen
                refine hK _ _ ?_
                clear hK K
                try simp only [Act.put, List.setIfInBounds_toArray]
                refine wpAnyIn_ready (rs := [6]) (by kernel_rfl) (by simp) ?_
                refine AllReadyIn.cons rfl (fun K hK => ?_) ?_
                · go_simp
                  refine hK _ _ ?_
                  clear hK K
                  try simp only [Act.put, List.setIfInBounds_toArray]
                  refine wpAnyIn_done (by kernel_rfl) ?_ _
                  refine ⟨(((KeepsOthers.drew W).trans hko).trans hk2).from _, ((hB1d.trans hb9).trans hb3).mono hb.size, ⟨⟨⟨_, hv2, ?_, trivial⟩, ?_⟩, hB2.trans hb3⟩⟩
                  · rw [List.map_append, List.map_cons, List.map_nil, cellsE_snoc, List.length_append]
                    exact hr2
                  · exact ((kt1.alloc _).kept hgrow9 (kt1.not_row (by decide) hrow1)).other (B' := w.heap.size + 1) (by omega) _
                exact AllReadyIn.nil
              exact AllReadyIn.nil
            exact AllReadyIn.nil
          refine AllReadyIn.cons rfl (fun K hK => ?_) ?_
          · go_simp
            refine hK _ _ ?_
            clear hK K
            try simp only [Act.put, List.setIfInBounds_toArray, List.set_cons_zero, List.set_cons_succ]
            refine wpAnyIn_ready (rs := [0]) (by kernel_rfl) (by simp) ?_
            refine AllReadyIn.cons rfl (fun K hK => ?_) ?_
            · go_simp
              refine hK _ _ ?_
              clear hK K
              try simp only [Act.put, List.setIfInBounds_toArray, List.set_cons_zero, List.set_cons_succ]
              refine wpAnyIn_ready (rs := [5]) (by kernel_rfl) (by simp) ?_
              refine AllReadyIn.cons rfl (fun K hK => ?_) ?_
              · refine stepIn_append_own _ rfl (.tmp 9) (.tmp 13) 22 rfl w.heap.size 34 i0 _ 3 24 Try.underlying22 hi hz0 hz1 hz2 rfl (by decide) _ _ _ rfl (hrow1.alloc _) ⟨w1.heap.size, 0, none⟩ 1 1 (edCells (flipE x)) rfl rfl (ed_new _ (flipE x) _) (edCells_one _) (by unfold maxLen; omega) (by omega) (by have := hB2.size; simp; omega) ?_
                intro v9 w2 hown9 hgrow9
                obtain ⟨g', cap', rfl⟩ := ownsRow_succ hown9
                obtain ⟨hv1, hv2, hr2, hk2, hb3⟩ := c51.appended (by decide) hrow1 hB2.size (by omega) hown9 hgrow9
                have hc7 := hv1.cell
                have hf7 := hv1.frozen
                refine hK _ _ ?_
                clear hK K
                try simp only [Act.put, List.setIfInBounds_toArray]
                refine wpAnyIn_ready (rs := [6]) (by kernel_rfl) (by simp) ?_
                refine AllReadyIn.cons rfl (fun K hK => ?_) ?_
                · go_simp
                  refine hK _ _ ?_
                  clear hK K
                  try simp only [Act.put, List.setIfInBounds_toArray]
                  refine wpAnyIn_done (by kernel_rfl) ?_ _
                  refine ⟨(((KeepsOthers.drew W).trans hko).trans hk2).from _, ((hB1d.trans hb9).trans hb3).mono hb.size, ⟨⟨⟨_, hv2, ?_, trivial⟩, ?_⟩, hB2.trans hb3⟩⟩
                  · rw [List.map_append, List.map_cons, List.map_nil, cellsE_snoc, List.length_append]
                    exact hr2
                  · exact ((kt1.alloc _).kept hgrow9 (kt1.not_row (by decide) hrow1)).other (B' := w.heap.size + 1) (by omega) _
                exact AllReadyIn.nil
              exact AllReadyIn.nil
            exact AllReadyIn.nil
          exact AllReadyIn.nil
        exact AllReadyIn.nil
      exact AllReadyIn.nil
    refine AllReadyIn.cons rfl (fun K hK => ?_) ?_
    · go_simp
      refine hK _ _ ?_
      clear hK K
      try simp only [Act.put, List.setIfInBounds_toArray, List.set_cons_zero, List.set_cons_succ]
      refine wpAnyIn_ready (rs := [0, 1]) (by kernel_rfl) (by simp) ?_
      refine AllReadyIn.cons rfl (fun K hK => ?_) ?_
      · go_simp
        refine hK _ _ ?_
        clear hK K
        try simp only [Act.put, List.setIfInBounds_toArray, List.set_cons_zero, List.set_cons_succ]
        refine wpAnyIn_ready (rs := [1]) (by kernel_rfl) (by simp) ?_
        refine AllReadyIn.cons rfl (fun K hK => ?_) ?_
        · go_simp
          refine hK _ _ ?_
          clear hK K
          try simp only [Act.put, List.setIfInBounds_toArray, List.set_cons_zero, List.set_cons_succ]
          refine wpAnyIn_ready (rs := [3]) (by kernel_rfl) (by simp) ?_
          refine AllReadyIn.cons rfl (fun K hK => ?_) ?_
          · go_simp
            refine ⟨trivial, (fun h => by cases h), ((callsIn_wide.2 (HT.out _)).inRound l).mono ?_⟩
            rintro e9 w1 ⟨rfl, b9⟩
            obtain ⟨c51, hrow1, kt1, hB2, hko, hb9⟩ := HAF.out w1 b9
            go_simp
            refine hK _ _ ?_
            clear hK K
            try simp only [Act.put, List.setIfInBounds_toArray, List.set_cons_zero, List.set_cons_succ]
            refine wpAnyIn_ready (rs := [4]) (by kernel_rfl) (by simp) ?_
            refine AllReadyIn.cons rfl (fun K hK => ?_) ?_
            · go_simp
              refine hK _ _ ?_
              clear hK K
              try simp only [Act.put, List.setIfInBounds_toArray, List.set_cons_zero, List.set_cons_succ]
              refine wpAnyIn_ready (rs := [5]) (by kernel_rfl) (by simp) ?_
              refine AllReadyIn.cons rfl (fun K hK => ?_) ?_
              · refine stepIn_append_own _ rfl (.tmp 9) (.tmp 13) 22 rfl w.heap.size 34 i0 _ 3 24 Try.underlying22 hi hz0 hz1 hz2 rfl (by decide) _ _ _ rfl (hrow1.alloc _) ⟨w1.heap.size, 0, none⟩ 1 1 (edCells (flipE x)) rfl rfl (ed_new _ (flipE x) _) (edCells_one _) (by unfold maxLen; omega) (by omega) (by have := hB2.size; simp; omega) ?_
                intro v9 w2 hown9 hgrow9
                obtain ⟨g', cap', rfl⟩ := ownsRow_succ hown9
                obtain ⟨hv1, hv2, hr2, hk2, hb3⟩ := c51.appended (by decide) hrow1 hB2.size (by omega) hown9 hgrow9
                have hc7 := hv1.cell
                have hf7 := hv1.frozen
                refine hK _ _ ?_
                clear hK K
                try simp only [Act.put, List.setIfInBounds_toArray]
                refine wpAnyIn_ready (rs := [6]) (by kernel_rfl) (by simp) ?_
                refine AllReadyIn.cons rfl (fun K hK => ?_) ?_
                · go_simp
                  refine hK _ _ ?_
                  clear hK K
                  try simp only [Act.put, List.setIfInBounds_toArray]
                  refine wpAnyIn_done (by kernel_rfl) ?_ _
                  refine ⟨(((KeepsOthers.drew W).trans hko).trans hk2).from _, ((hB1d.trans hb9).trans hb3).mono hb.size, ⟨⟨⟨_, hv2, ?_, trivial⟩, ?_⟩, hB2.trans hb3⟩⟩
                  · rw [List.map_append, List.map_cons, List.map_nil, cellsE_snoc, List.length_append]
                    exact hr2
                  · exact ((kt1.alloc _).kept hgrow9 (kt1.not_row (by decide) hrow1)).other (B' := w.heap.size + 1) (by omega) _
                exact AllReadyIn.nil
              exact AllReadyIn.nil
            exact AllReadyIn.nil
          exact AllReadyIn.nil
        exact AllReadyIn.nil
      refine AllReadyIn.cons rfl (fun K hK => ?_) ?_
      · go_simp
        refine hK _ _ ?_
        clear hK K
        try simp only [Act.put, List.setIfInBounds_toArray, List.set_cons_zero, List.set_cons_succ]
        refine wpAnyIn_ready (rs := [0, 3]) (by kernel_rfl) (by simp) ?_
        refine AllReadyIn.cons rfl (fun K hK => ?_) ?_
        · go_simp
          refine hK _ _ ?_
          clear hK K
          try simp only [Act.put, List.setIfInBounds_toArray, List.set_cons_zero, List.set_cons_succ]
          refine wpAnyIn_ready (rs := [3]) (by kernel_rfl) (by simp) ?_
          refine AllReadyIn.cons rfl (fun K hK => ?_) ?_
          · go_simp
            refine ⟨trivial, (fun h => by cases h), ((callsIn_wide.2 (HT.out _)).inRound l).mono ?_⟩
            rintro e9 w1 ⟨rfl, b9⟩
            obtain ⟨c51, hrow1, kt1, hB2, hko, hb9⟩ := HAF.out w1 b9
            go_simp
            refine hK _ _ ?_
            clear hK K
            try simp only [Act.put, List.setIfInBounds_toArray, List.set_cons_zero, List.set_cons_succ]
            refine wpAnyIn_ready (rs := [4]) (by kernel_rfl) (by simp) ?_
            refine AllReadyIn.cons rfl (fun K hK => ?_) ?_
            · go_simp
              refine hK _ _ ?_
              clear hK K
              try simp only [Act.put, List.setIfInBounds_toArray, List.set_cons_zero, List.set_cons_succ]
              refine wpAnyIn_ready (rs := [5]) (by kernel_rfl) (by simp) ?_
              refine AllReadyIn.cons rfl (fun K hK => ?_) ?_
              · refine stepIn_append_own _ rfl (.tmp 9) (.tmp 13) 22 rfl w.heap.size 34 i0 _ 3 24 Try.underlying22 hi hz0 hz1 hz2 rfl (by decide) _ _ _ rfl (hrow1.alloc _) ⟨w1.heap.size, 0, none⟩ 1 1 (edCells (flipE x)) rfl rfl (ed_new _ (flipE x) _) (edCells_one _) (by unfold maxLen; omega) (by omega) (by have := hB2.size; simp; omega) ?_
                intro v9 w2 hown9 hgrow9
                obtain ⟨g', cap', rfl⟩ := ownsRow_succ hown9
                obtain ⟨hv1, hv2, hr2, hk2, hb3⟩ := c51.appended (by decide) hrow1 hB2.size (by omega) hown9 hgrow9
                have hc7 := hv1.cell
                have hf7 := hv1.frozen
                refine hK _ _ ?_
                clear hK K
                try simp only [Act.put, List.setIfInBounds_toArray]
                refine wpAnyIn_ready (rs := [6]) (by kernel_rfl) (by simp) ?_
                refine AllReadyIn.cons rfl (fun K hK => ?_) ?_
                · go_simp
                  refine hK _ _ ?_
                  clear hK K
                  try simp only [Act.put, List.setIfInBounds_toArray]
                  refine wpAnyIn_done (by kernel_rfl) ?_ _
                  refine ⟨(((KeepsOthers.drew W).trans hko).trans hk2).from _, ((hB1d.trans hb9).trans hb3).mono hb.size, ⟨⟨⟨_, hv2, ?_, trivial⟩, ?_⟩, hB2.trans hb3⟩⟩
                  · rw [List.map_append, List.map_cons, List.map_nil, cellsE_snoc, List.length_append]
                    exact hr2
                  · exact ((kt1.alloc _).kept hgrow9 (kt1.not_row (by decide) hrow1)).other (B' := w.heap.size + 1) (by omega) _
                exact AllReadyIn.nil
              exact AllReadyIn.nil
            exact AllReadyIn.nil
          exact AllReadyIn.nil
        refine AllReadyIn.cons rfl (fun K hK => ?_) ?_
        · go_simp
          refine ⟨trivial, (fun h => by cases h), ((callsIn_wide.2 (HT.out _)).inRound l).mono ?_⟩
          rintro e9 w1 ⟨rfl, b9⟩
          obtain ⟨c51, hrow1, kt1, hB2, hko, hb9⟩ := HAF.out w1 b9
          have hc5 := c51.cell
          have hc6 := (c51.alloc (.cells #[.int .i64 x.2.1, .int .i64 x.1, .int .i64 x.2.2] 34)).cell
          go_simp
          refine hK _ _ ?_
          clear hK K
          try simp only [Act.put, List.setIfInBounds_toArray, List.set_cons_zero, List.set_cons_succ]
          refine wpAnyIn_ready (rs := [0, 4]) (by kernel_rfl) (by simp) ?_
          refine AllReadyIn.cons rfl (fun K hK => ?_) ?_
          · go_simp
            refine hK _ _ ?_
            clear hK K
            try simp only [Act.put, List.setIfInBounds_toArray, List.set_cons_zero, List.set_cons_succ]
            refine wpAnyIn_ready (rs := [4]) (by kernel_rfl) (by simp) ?_
            refine AllReadyIn.cons rfl (fun K hK => ?_) ?_
            · go_simp
              refine hK _ _ ?_
              clear hK K
              try simp only [Act.put, List.setIfInBounds_toArray, List.set_cons_zero, List.set_cons_succ]
              refine wpAnyIn_ready (rs := [5]) (by kernel_rfl) (by simp) ?_
              refine AllReadyIn.cons rfl (fun K hK => ?_) ?_
              · refine stepIn_append_own _ rfl (.tmp 9) (.tmp 13) 22 rfl w.heap.size 34 i0 _ 3 24 Try.underlying22 hi hz0 hz1 hz2 rfl (by decide) _ _ _ rfl (hrow1.alloc _) ⟨w1.heap.size, 0, none⟩ 1 1 (edCells (flipE x)) rfl rfl (ed_new _ (flipE x) _) (edCells_one _) (by unfold maxLen; omega) (by omega) (by have := hB2.size; simp; omega) ?_
                intro v9 w2 hown9 hgrow9
                obtain ⟨g', cap', rfl⟩ := ownsRow_succ hown9
                obtain ⟨hv1, hv2, hr2, hk2, hb3⟩ := c51.appended (by decide) hrow1 hB2.size (by omega) hown9 hgrow9
                have hc7 := hv1.cell
                have hf7 := hv1.frozen
                refine hK _ _ ?_
                clear hK K
                try simp only [Act.put, List.setIfInBounds_toArray]
                refine wpAnyIn_ready (rs := [6]) (by kernel_rfl) (by simp) ?_
                refine AllReadyIn.cons rfl (fun K hK => ?_) ?_
                · go_simp
                  refine hK _ _ ?_
                  clear hK K
                  try simp only [Act.put, List.setIfInBounds_toArray]
                  refine wpAnyIn_done (by kernel_rfl) ?_ _
                  refine ⟨(((KeepsOthers.drew W).trans hko).trans hk2).from _, ((hB1d.trans hb9).trans hb3).mono hb.size, ⟨⟨⟨_, hv2, ?_, trivial⟩, ?_⟩, hB2.trans hb3⟩⟩
                  · rw [List.map_append, List.map_cons, List.map_nil, cellsE_snoc, List.length_append]
                    exact hr2
                  · exact ((kt1.alloc _).kept hgrow9 (kt1.not_row (by decide) hrow1)).other (B' := w.heap.size + 1) (by omega) _
                exact AllReadyIn.nil
              exact AllReadyIn.nil
            exact AllReadyIn.nil
          refine AllReadyIn.cons rfl (fun K hK => ?_) ?_
          · go_simp
            refine hK _ _ ?_
            clear hK K
            try simp only [Act.put, List.setIfInBounds_toArray, List.set_cons_zero, List.set_cons_succ]
            refine wpAnyIn_ready (rs := [0]) (by kernel_rfl) (by simp) ?_
            refine AllReadyIn.cons rfl (fun K hK => ?_) ?_
            · go_simp
              refine hK _ _ ?_
              clear hK K
              try simp only [Act.put, List.setIfInBounds_toArray, List.set_cons_zero, List.set_cons_succ]
              refine wpAnyIn_ready (rs := [5]) (by kernel_rfl) (by simp) ?_
              refine AllReadyIn.cons rfl (fun K hK => ?_) ?_
              · refine stepIn_append_own _ rfl (.tmp 9) (.tmp 13) 22 rfl w.heap.size 34 i0 _ 3 24 Try.underlying22 hi hz0 hz1 hz2 rfl (by decide) _ _ _ rfl (hrow1.alloc _) ⟨w1.heap.size, 0, none⟩ 1 1 (edCells (flipE x)) rfl rfl (ed_new _ (flipE x) _) (edCells_one _) (by unfold maxLen; omega) (by omega) (by have := hB2.size; simp; omega) ?_
                intro v9 w2 hown9 hgrow9
                obtain ⟨g', cap', rfl⟩ := ownsRow_succ hown9
                obtain ⟨hv1, hv2, hr2, hk2, hb3⟩ := c51.appended (by decide) hrow1 hB2.size (by omega) hown9 hgrow9
                have hc7 := hv1.cell
                have hf7 := hv1.frozen
                refine hK _ _ ?_
                clear hK K
                try simp only [Act.put, List.setIfInBounds_toArray]
                refine wpAnyIn_ready (rs := [6]) (by kernel_rfl) (by simp) ?_
                refine AllReadyIn.cons rfl (fun K hK => ?_) ?_
                · go_simp
                  refine hK _ _ ?_
                  clear hK K
                  try simp only [Act.put, List.setIfInBounds_toArray]
                  refine wpAnyIn_done (by kernel_rfl) ?_ _
                  refine ⟨(((KeepsOthers.drew W).trans hko).trans hk2).from _, ((hB1d.trans hb9).trans hb3).mono hb.size, ⟨⟨⟨_, hv2, ?_, trivial⟩, ?_⟩, hB2.trans hb3⟩⟩
                  · rw [List.map_append, List.map_cons, List.map_nil, cellsE_snoc, List.length_append]
                    exact hr2
                  · exact ((kt1.alloc _).kept hgrow9 (kt1.not_row (by decide) hrow1)).other (B' := w.heap.size + 1) (by omega) _
                exact AllReadyIn.nil
              exact AllReadyIn.nil
            exact AllReadyIn.nil
          exact AllReadyIn.nil
        exact AllReadyIn.nil
      exact AllReadyIn.nil
    exact AllReadyIn.nil
  case done =>
    rintro D xs W hD rfl ⟨⟨⟨v, c3, hrow, _⟩, kt⟩, hB1⟩ hK
    obtain ⟨A', c', rfl, h51, h52⟩ := own_form2 hrow
    have e0 := c3.cell
    have HK := Lib.hid hK
    gi_wp2
    refine ⟨by simp, .inl ⟨_, _, rfl, run_takeDeferred HK.out, ?_⟩⟩
    have ho := ownsRow_putObj hrow (.deferred none) HK.out rfl
    rw [← List.length_map (f := flipE)] at ho h51
    refine ⟨.slice A' xs.length c', by simp [results, Try.results56, go_sem], A', c', by rw [List.length_map], ho, h51, h52, hB1.trans (belowK_b (w := w) (Nat.le_refl _) W D _ _ (by omega) HK.out rfl rfl)⟩
  case stop =>
    rintro D c pre W hD _ h
    exact h.elim

end Go.Proofs.Ytkebeadaoiiokaa
namespace Go.Proofs.Ytkebeadaoiiokaa
open Go.RowKit

theorem eg_those : ∀ args w, (callFunc 83 args).run Try.prog w = .ok (.enter 83 args) w := enters_of Try.func83 (by kernel_rfl) rfl
theorem eg_values : ∀ args w, (callFunc 78 args).run Try.prog w = .ok (.enter 78 args) w := enters_of Try.func78 (by kernel_rfl) rfl

/-- What those lays: the row, and the question. -/
theorem those_laid (A : Option Addr) (n c g : Nat) (caps : Array Value) (zs : List Ed) (w : World) (hR : Reads w w.heap.size 3 A n (cellsE zs)) :
    ∃ W, W = (w.alloc (.cells #[.slice A n c] 22)).alloc (.cells #[.func (.func g) #[] caps] 64) ∧ Blk W w.heap.size 22 #[.slice A n c] ∧ Blk W (w.heap.size + 1) 64 #[.func (.func g) #[] caps] ∧ Reads W W.heap.size 3 A n (cellsE zs) ∧ Below w.heap.size w W := by
  obtain ⟨k0, k1, b0⟩ := two_new w #[.slice A n c] #[.func (.func g) #[] caps] 22 64
  exact ⟨_, rfl, k0, k1, (hR.below b0).more b0.size, b0⟩

theorem in_filter (zs : List Ed) (v : Int) : zs.filter (fun p => p.2.1 == v) = inE zs v := by
  unfold inE
  refine List.filter_congr fun p _ => ?_
  rw [Bool.eq_iff_iff]; simp

theorem kinds_filter (zs : List Ed) (u v : Int) : ((outE zs u).filter (fun p => p.2.1 == v)).map (fun p => p.2.2) = kindsE zs u v := by
  unfold kindsE
  congr 1

set_option maxRecDepth 100000 in
set_option maxHeartbeats 4000000 in
theorem rev_ok (nodes : Int) (A : Option Addr) (n c : Nat) (zs : List Ed) (hg : IsG nodes zs) (hn : n ≤ 1000) (w : World) (hR : Reads w w.heap.size 3 A n (cellsE zs)) :
    Calls Try.prog 23 #[.agg #[.int .i64 nodes, .slice A n c]] w (GErr nodes (backE zs) 0 w) := by
  obtain ⟨k0, k1, b0⟩ := two_new w #[.int .i64 nodes, .slice A n c] #[.int .i64 0, .slice none 0 0] 24 24
  obtain ⟨W0, hW0⟩ : ∃ W0, (w.alloc (.cells #[.int .i64 nodes, .slice A n c] 24)).alloc (.cells #[.int .i64 0, .slice none 0 0] 24) = W0 := ⟨_, rfl⟩
  rw [hW0] at k0 k1 b0
  have hl := reads_len hR
  have HC := Lib.hid (check_any nodes A n c zs hn W0 ((hR.below b0).more b0.size))
  rw [check_yes (rightG_iff.2 hg)] at HC
  have HR := Lib.hid fun W (h : Below w.heap.size w W) => (hR.below h).more h.size
  have HOK := Lib.hid hg.flip_ok
  have HK0 := Lib.hid fun W (h : Below W0.heap.size W0 W) => k0.below h k0.lt
  have HK1 := Lib.hid fun W (h : Below W0.heap.size W0 W) => k1.below h k1.lt
  have HLN : Hid ((zs.map flipE).length ≤ 1000) := by show _ ≤ _; rw [List.length_map]; omega
  have B0 := Lib.hid b0
  have z0 := k0.cell 0
  have z1 := k0.cell 1
  clear hR k0 k1 b0 hg hl
  go_enter Try.func23, Try.ntmps23
  go_wp2_with fail
  clear hW0
  refine HC.out.mono ?_
  rintro e w1 ⟨rfl, b⟩
  have B1 : Hid (Below W0.heap.size W0 w1) := Lib.hid b
  have BW1 : Hid (Below w.heap.size w w1) := B0.out.trans (b.mono B0.out.size)
  clear b z0 z1 HC
  have z0 := (HK0.out _ B1.out).cell 0
  have z1 := (HK0.out _ B1.out).cell 1
  go_wp2_with fail
  refine (values_any A n c w1).mono ?_
  rintro e w2 ⟨rfl, rfl⟩
  obtain ⟨t0, t3⟩ := box_new w1 #[.slice A n c] 22
  have HS := Lib.hid (values_stops 9 (by omega) w1.heap.size n c A zs hn _ t0 (((HR.out _ BW1.out).below t3).more t3.size))
  have HG := Lib.hid (callsIn_wide.1 (gatherE_in 10 (by omega) _ _ _ n hn _ _ eg_values HS.out _ (Below.refl _ _)))
  have B2 : Hid (Below W0.heap.size W0 (w1.alloc (.cells #[.slice A n c] 22))) := B1.out.trans (t3.mono B1.out.size)
  clear t0 t3 HS z0 z1
  generalize w1.alloc (.cells #[.slice A n c] 22) = w2 at *
  go_wp2_with fail
  refine HG.out.mono ?_
  rintro e w3 hx
  obtain ⟨A2, c2, rfl, h1, h2, h3, h4⟩ := rows_row hx
  have B3 : Hid (Below W0.heap.size W0 w3) := B2.out.trans (h4.mono B2.out.size)
  have HSO := Lib.hid (sorted_any A2 _ c2 (zs.map flipE) HOK.out HLN.out w3.drew (reads_own h1))
  have HBE : Hid (sorE (zs.map flipE) = backE zs) := rfl
  rw [HBE.out] at HSO
  clear h1 h2 h3 h4 hx HG
  generalize (zs.map flipE).length = q at *
  go_wp2_with fail
  have J0 : Hid (Below W0.heap.size W0 w3.drew) := B3.out.drew
  have HS1 : Hid (∀ W, Below W0.heap.size W0 W → W.cell? ⟨w.heap.size, 0, none⟩ = some (.int .i64 nodes) ∧ W.cell? ⟨w.heap.size, 1, none⟩ = some (.slice A n c)) := fun W h => ⟨(HK0.out W h).cell 0, (HK0.out W h).cell 1⟩
  have HS2 : Hid (∀ (W : World) u v, Below W0.heap.size W0 W → ((W.setCell ⟨w.heap.size + 1, 0, none⟩ u).setCell ⟨w.heap.size + 1, 1, none⟩ v).cell? ⟨w.heap.size, 0, none⟩ = some (.int .i64 nodes) ∧ ((W.setCell ⟨w.heap.size + 1, 0, none⟩ u).setCell ⟨w.heap.size + 1, 1, none⟩ v).cell? ⟨w.heap.size, 1, none⟩ = some (.slice A n c)) :=
    fun W u v h => have b := ((HK0.out W h).far (p := ⟨w.heap.size + 1, 0, none⟩) (by simp) u).far (p := ⟨w.heap.size + 1, 1, none⟩) (by simp) v; ⟨b.cell 0, b.cell 1⟩
  go_region_held3 (fun W => W.cell? ⟨w.heap.size, 0, none⟩ = some (.int .i64 nodes) ∧ W.cell? ⟨w.heap.size, 1, none⟩ = some (.slice A n c)) (first | exact HS2.out _ _ _ J1.out | exact HS1.out _ J1.out | exact HS1.out _ J0.out | fail) (first
    | (go_at_call 59; refine HSO.out.mono ?_; rintro e w4 ⟨A3, c3, rfl, i1, i2, i3, i4⟩; have J1 : Hid (Below W0.heap.size W0 w4) := J0.out.trans (i4.mono J0.out.size); have HG := Lib.hid (And.intro i1 (And.intro i2 i3)); have q0 := (HK1.out _ J1.out).cell 0; have q1 := (HK1.out _ J1.out).cell 1; have q2 := (HK1.out _ J1.out).frozen 0; have q3 := (HK1.out _ J1.out).frozen 1; clear i1 i2 i3 i4)
    | fail)
  have y0 := (store2 (HK1.out _ J1.out) (.int .i64 nodes) (.slice A3 (backE zs).length c3)).cell 0
  have y1 := (store2 (HK1.out _ J1.out) (.int .i64 nodes) (.slice A3 (backE zs).length c3)).cell 1
  have HE : Hid (GErr nodes (backE zs) 0 w (.returned (.tuple #[.agg #[.int .i64 nodes, .slice A3 (backE zs).length c3], .int .i64 0])) ((w4.setCell ⟨w.heap.size + 1, 0, none⟩ (.int .i64 nodes)).setCell ⟨w.heap.size + 1, 1, none⟩ (.slice A3 (backE zs).length c3))) :=
    ⟨A3, c3, rfl, own_store2 (own_base HG.out.1 (Nat.le_trans B0.out.size J0.out.size)) (HK1.out _ J1.out) (by decide) _ _, HG.out.2.1, HG.out.2.2, below_store2 (B0.out.trans (J1.out.mono B0.out.size)) (Nat.le_succ _) _ _⟩
  go_wp2_with fail
  exact bodyPost_ret (v := .tuple #[.agg #[.int .i64 nodes, .slice A3 (backE zs).length c3], .int .i64 0]) (by simp [results, Try.results23, go_sem, y0, y1]) rfl HE.out

set_option maxRecDepth 100000 in
set_option maxHeartbeats 2000000 in
theorem rev_no (nodes : Int) (A : Option Addr) (n c : Nat) (zs : List Ed) (hg : rightG nodes zs = false) (hn : n ≤ 1000) (w : World) (hR : Reads w w.heap.size 3 A n (cellsE zs)) :
    Calls Try.prog 23 #[.agg #[.int .i64 nodes, .slice A n c]] w (GErr 0 [] 150 w) := by
  obtain ⟨k0, k1, b0⟩ := two_new w #[.int .i64 nodes, .slice A n c] #[.int .i64 0, .slice none 0 0] 24 24
  obtain ⟨W0, hW0⟩ : ∃ W0, (w.alloc (.cells #[.int .i64 nodes, .slice A n c] 24)).alloc (.cells #[.int .i64 0, .slice none 0 0] 24) = W0 := ⟨_, rfl⟩
  rw [hW0] at k0 k1 b0
  have HC := Lib.hid (check_any nodes A n c zs hn W0 ((hR.below b0).more b0.size))
  rw [check_no hg] at HC
  have HK1 := Lib.hid fun W (h : Below W0.heap.size W0 W) => k1.below h k1.lt
  have B0 := Lib.hid b0
  have z0 := k0.cell 0
  have z1 := k0.cell 1
  clear hR k0 k1 b0 hg
  go_enter Try.func23, Try.ntmps23
  go_wp2_with fail
  clear hW0
  refine HC.out.mono ?_
  rintro e w1 ⟨rfl, b⟩
  have K1 := Lib.hid (HK1.out _ b)
  have B1 : Hid (Below w.heap.size w w1) := B0.out.trans (b.mono B0.out.size)
  clear b z0 z1 HC HK1
  have q0 := K1.out.cell 0
  have q1 := K1.out.cell 1
  have q2 := K1.out.frozen 0
  have q3 := K1.out.frozen 1
  have y0 := (store2 K1.out (.int .i64 0) (.slice none 0 0)).cell 0
  have y1 := (store2 K1.out (.int .i64 0) (.slice none 0 0)).cell 1
  have HE : Hid (GErr 0 [] 150 w (.returned (.tuple #[.agg #[.int .i64 0, .slice none 0 0], .int .i64 150])) ((w1.setCell ⟨w.heap.size + 1, 0, none⟩ (.int .i64 0)).setCell ⟨w.heap.size + 1, 1, none⟩ (.slice none 0 0))) :=
    ⟨none, 0, rfl, World.ownsRow_nil _ _ _ _, Nat.le_refl _, by decide, below_store2 B1.out (Nat.le_succ _) _ _⟩
  go_wp2_with fail
  exact bodyPost_ret (v := .tuple #[.agg #[.int .i64 0, .slice none 0 0], .int .i64 150]) (by simp [results, Try.results23, go_sem, y0, y1]) rfl HE.out

set_option maxRecDepth 100000 in
set_option maxHeartbeats 2000000 in
theorem filter_no (nodes : Int) (A : Option Addr) (n c : Nat) (g : Nat) (caps : Array Value) (zs : List Ed) (hg : rightG nodes zs = false) (hn : n ≤ 1000) (w : World) (hR : Reads w w.heap.size 3 A n (cellsE zs)) :
    Calls Try.prog 31 #[.agg #[.int .i64 nodes, .slice A n c], .func (.func g) #[] caps] w (GErr 0 [] 150 w) := by
  obtain ⟨k0, k1, b0⟩ := two_new w #[.int .i64 nodes, .slice A n c] #[.int .i64 0, .slice none 0 0] 24 24
  obtain ⟨W0, hW0⟩ : ∃ W0, (w.alloc (.cells #[.int .i64 nodes, .slice A n c] 24)).alloc (.cells #[.int .i64 0, .slice none 0 0] 24) = W0 := ⟨_, rfl⟩
  rw [hW0] at k0 k1 b0
  have HC := Lib.hid (check_any nodes A n c zs hn W0 ((hR.below b0).more b0.size))
  rw [check_no hg] at HC
  have HK1 := Lib.hid fun W (h : Below W0.heap.size W0 W) => k1.below h k1.lt
  have B0 := Lib.hid b0
  have z0 := k0.cell 0
  have z1 := k0.cell 1
  clear hR k0 k1 b0 hg
  go_enter Try.func31, Try.ntmps31
  go_wp2_with fail
  clear hW0
  refine HC.out.mono ?_
  rintro e w1 ⟨rfl, b⟩
  have K1 := Lib.hid (HK1.out _ b)
  have B1 : Hid (Below w.heap.size w w1) := B0.out.trans (b.mono B0.out.size)
  clear b z0 z1 HC HK1
  have q0 := K1.out.cell 0
  have q1 := K1.out.cell 1
  have q2 := K1.out.frozen 0
  have q3 := K1.out.frozen 1
  have y0 := (store2 K1.out (.int .i64 0) (.slice none 0 0)).cell 0
  have y1 := (store2 K1.out (.int .i64 0) (.slice none 0 0)).cell 1
  have HE : Hid (GErr 0 [] 150 w (.returned (.tuple #[.agg #[.int .i64 0, .slice none 0 0], .int .i64 150])) ((w1.setCell ⟨w.heap.size + 1, 0, none⟩ (.int .i64 0)).setCell ⟨w.heap.size + 1, 1, none⟩ (.slice none 0 0))) :=
    ⟨none, 0, rfl, World.ownsRow_nil _ _ _ _, Nat.le_refl _, by decide, below_store2 B1.out (Nat.le_succ _) _ _⟩
  go_wp2_with fail
  exact bodyPost_ret (v := .tuple #[.agg #[.int .i64 0, .slice none 0 0], .int .i64 150]) (by simp [results, Try.results31, go_sem, y0, y1]) rfl HE.out

end Go.Proofs.Ytkebeadaoiiokaa
namespace Go.Proofs.Ytkebeadaoiiokaa
open Go.RowKit

/-- A graph as it stands in memory. -/
structure GV where
  z : Int
  A : Option Addr
  n : Nat
  c : Nat
  es : List Ed
def GV.ok (g : GV) (w : World) : Prop := Reads w w.heap.size 3 g.A g.n (cellsE g.es) ∧ g.n ≤ g.c ∧ g.c ≤ 9223372036854775807 ∧ (g.A = none → g.c = 0)
theorem GV.ok.on {g : GV} {w w' : World} (h : g.ok w) (hb : Below w.heap.size w w') : g.ok w' := ⟨(h.1.below hb).more hb.size, h.2⟩
theorem GV.ok.len {g : GV} {w : World} (h : g.ok w) : g.es.length = g.n := reads_len h.1
theorem gerr_gv {nodes k : Int} {ps : List Ed} {w w' : World} {e : Ending} (h : GErr nodes ps k w e w') :
    ∃ g : GV, e = .returned (.tuple #[.agg #[.int .i64 g.z, .slice g.A g.n g.c], .int .i64 k]) ∧ g.z = nodes ∧ g.es = ps ∧ g.ok w' ∧ Below w.heap.size w w' := by
  obtain ⟨A, c, he, ho, h1, h2, hb⟩ := h
  exact ⟨⟨nodes, A, ps.length, c, ps⟩, he, rfl, rfl, ⟨reads_own ho, h1, h2, own_nil ho⟩, hb⟩
theorem gis_gv {nodes : Int} {ps : List Ed} {w w' : World} {e : Ending} (h : GIs nodes ps w e w') :
    ∃ g : GV, e = .returned (.agg #[.int .i64 g.z, .slice g.A g.n g.c]) ∧ g.z = nodes ∧ g.es = ps ∧ g.ok w' ∧ Below w.heap.size w w' := by
  obtain ⟨A, c, he, ho, h1, h2, hb⟩ := h
  exact ⟨⟨nodes, A, ps.length, c, ps⟩, he, rfl, rfl, ⟨reads_own ho, h1, h2, own_nil ho⟩, hb⟩

/-- What a law holds between its calls: the graphs in its variables. -/
structure Env (w : World) (L : List (Nat × GV)) (W : World) : Prop where
  below : Below w.heap.size w W
  all : ∀ p ∈ L, Blk W p.1 24 #[.int .i64 p.2.z, .slice p.2.A p.2.n p.2.c] ∧ p.2.ok W
section
variable {w W W' : World} {L : List (Nat × GV)}
theorem Env.on (h : Env w L W) (hb : Below W.heap.size W W') : Env w L W' :=
  ⟨h.below.trans (hb.mono h.below.size), fun p hp => ⟨(h.all p hp).1.below hb (h.all p hp).1.lt, (h.all p hp).2.on hb⟩⟩
theorem Env.drew (h : Env w L W) : Env w L W.drew := h.on ((Below.refl _ _).drew)
theorem Env.drewN (h : Env w L W) (n : Nat) : Env w L (W.drewN n) := h.on (below_drewN (Below.refl _ _) n)
theorem Env.alloc (h : Env w L W) (o : Obj) : Env w L (W.alloc o) := h.on ((Below.refl _ _).alloc (Nat.le_refl _) o)
theorem Env.start (w : World) : Env w [] w := ⟨Below.refl _ _, fun p hp => by simp at hp⟩
theorem Env.add (h : Env w L W) {g : GV} (hg : g.ok W) : Env w ((W.heap.size, g) :: L) (W.alloc (.cells #[.int .i64 g.z, .slice g.A g.n g.c] 24)) := by
  have hb : Below W.heap.size W (W.alloc (.cells #[.int .i64 g.z, .slice g.A g.n g.c] 24)) := (Below.refl _ _).alloc (Nat.le_refl _) _
  have h2 := h.on hb
  refine ⟨h2.below, fun p hp => ?_⟩
  rcases List.mem_cons.1 hp with rfl | hp
  · exact ⟨Blk.new _ _ _, hg.on hb⟩
  · exact h2.all p hp
theorem Env.c0 (h : Env w L W) {b : Nat} {g : GV} (hm : (b, g) ∈ L) : W.cell? ⟨b, 0, none⟩ = some (.int .i64 g.z) := (h.all _ hm).1.cell 0
theorem Env.c1 (h : Env w L W) {b : Nat} {g : GV} (hm : (b, g) ∈ L) : W.cell? ⟨b, 1, none⟩ = some (.slice g.A g.n g.c) := (h.all _ hm).1.cell 1
theorem Env.ok (h : Env w L W) {b : Nat} {g : GV} (hm : (b, g) ∈ L) : g.ok W := (h.all _ hm).2
theorem Env.lt (h : Env w L W) {b : Nat} {g : GV} (hm : (b, g) ∈ L) : b < W.heap.size := (h.all _ hm).1.lt
end
theorem take_len (zs : List Ed) : (zs.take 80).length ≤ 80 := by rw [List.length_take]; omega
end Go.Proofs.Ytkebeadaoiiokaa
namespace Go.Proofs.Ytkebeadaoiiokaa
open Go.RowKit Go.Shelf

/-- A graph that the call makes itself, an edge at a time. -/
structure Wish (wb : World) (X : Nat) (k : GV) (W : World) : Prop where
  below : Below wb.heap.size wb W
  lo : wb.heap.size ≤ X
  blk : Blk W X 24 #[.int .i64 k.z, .slice k.A k.n k.c]
  own : W.ownsRow wb.heap.size 34 3 (.slice k.A k.n k.c) k.n (cellsE k.es)
  cap : k.n ≤ k.c ∧ k.c ≤ 9223372036854775807
theorem Wish.alloc {wb W : World} {X : Nat} {k : GV} (h : Wish wb X k W) (o : Obj) : Wish wb X k (W.alloc o) := ⟨h.below.alloc h.below.size o, h.lo, h.blk.alloc o, h.own.alloc o, h.cap⟩
theorem Wish.drewN {wb W : World} {X : Nat} {k : GV} (h : Wish wb X k W) (n : Nat) : Wish wb X k (W.drewN n) := ⟨below_drewN h.below n, h.lo, h.blk, h.own, h.cap⟩
theorem Wish.start (wb : World) (z : Int) : Wish wb wb.heap.size ⟨z, none, 0, 0, []⟩ (wb.alloc (.cells #[.int .i64 z, .slice none 0 0] 24)) :=
  ⟨(Below.refl _ _).alloc (Nat.le_refl _) _, Nat.le_refl _, Blk.new _ _ _, World.ownsRow_nil _ _ _ _, Nat.le_refl _, Nat.zero_le _⟩
theorem Wish.len {wb W : World} {X : Nat} {k : GV} (h : Wish wb X k W) : k.es.length = k.n := reads_len (reads_own h.own)
theorem Wish.more {wb W w5 : World} {X : Nat} {k : GV} {o : Obj} {A5 : Option Addr} {c5 : Nat} {p : Ed} (h : Wish wb X k W) (hgrow : (W.alloc o).grownBy w5 (Value.slice k.A k.n k.c).ownBlock) (hown : w5.ownsRow wb.heap.size 34 3 (.slice A5 (k.n + 1) c5) (k.n + 1) (cellsE (k.es ++ [p]))) (h1 : k.n + 1 ≤ c5) (h2 : c5 ≤ 9223372036854775807) :
    Blk w5 X 24 #[.int .i64 k.z, .slice k.A k.n k.c] ∧ Wish wb X ⟨k.z, A5, k.n + 1, c5, k.es ++ [p]⟩ (w5.setCell ⟨X, 1, none⟩ (.slice A5 (k.n + 1) c5)) := by
  have hb : Blk w5 X 24 #[.int .i64 k.z, .slice k.A k.n k.c] := (h.blk.alloc o).grown hgrow fun e => own_blk_ne h.own h.blk (by decide) e.symm
  exact ⟨hb, ((h.below.alloc h.below.size o).grown hgrow (Nat.le_trans h.below.size (by simp)) fun k hk => (h.own.lt k hk).1).setCell h.lo _, h.lo, by simpa using hb.set_ 1 (.slice A5 (k.n + 1) c5), own_store hown hb (by decide) _, h1, h2⟩
/-- The numbers of an edge's ends. -/
def ofFrom (os : List Int) (p : Ed) : Int := os.getD p.1.toNat 0
def ofTo (os : List Int) (p : Ed) : Int := os.getD p.2.1.toNat 0
def sameOf (os : List Int) (p : Ed) : Bool := ofFrom os p == ofTo os p
theorem of_cells {W : World} {base m c : Nat} {A : Option Addr} {os : List Int} (h : W.ownsRow base 3 1 (.slice A m c) m (ints os)) (hm : 0 < m) :
    ∃ b o, A = some ⟨b, o, none⟩ ∧ ∀ W', Below W.heap.size W W' → ∀ j, j < m → W'.cell? ⟨b, o + j, none⟩ = some (.int .i64 (os.getD j 0)) := by
  have hl : os.length = m := by have := h.1; rw [ints_length] at this; omega
  obtain ⟨b, o, hA, hb, hc⟩ := reads_plain (Reads.of_own h) hm
  refine ⟨b, o, hA, fun W' hW j hj => ?_⟩
  have := ints_get hc j (by omega)
  rw [← this]
  exact World.cell?_of_block (w := W) (hW.block b hb)
theorem own_edge_len {W : World} {base n c : Nat} {A : Option Addr} {es : List Ed} (h : W.ownsRow base 34 3 (.slice A n c) n (cellsE es)) : es.length = n := reads_len (reads_own h)
/-- What the document's Of gives, by itself. -/
def Comps (zs : List Ed) (m : Nat) (ls : List (List Int)) (os : List Int) : Prop := ∃ ms, AllM zs m ms ∧ ls = setsE (togM ms) m m ∧ os = ofM ls m ls.length
theorem Comps.unique {zs : List Ed} {m : Nat} {ls ls' : List (List Int)} {os os' : List Int} (h : Comps zs m ls os) (h' : Comps zs m ls' os') : ls = ls' ∧ os = os' := by
  obtain ⟨ms, h1, rfl, rfl⟩ := h
  obtain ⟨ms', h1', rfl, rfl⟩ := h'
  rw [h1.unique h1']
  exact ⟨rfl, rfl⟩
theorem Comps.len {zs : List Ed} {m : Nat} {ls : List (List Int)} {os : List Int} (h : Comps zs m ls os) : os.length = m ∧ ls.length ≤ m := by
  obtain ⟨ms, h1, rfl, rfl⟩ := h
  exact ⟨ofM_len _ _ _, setsE_len _ _ _⟩
theorem rof6_comps (z : Int) (A : Option Addr) (n c : Nat) (zs : List Ed) (hg : IsG z zs) (hn : n ≤ 1000) (w : World) (hR : Reads w w.heap.size 3 A n (cellsE zs)) :
    Calls Try.prog 36 #[.agg #[.int .i64 z, .slice A n c]] w fun e w' => ∃ ls os, Comps zs z.toNat ls os ∧ IntsOwn os w e w' :=
  (rof6_any z A n c zs hg hn w hR).mono fun _ _ ⟨ms, h1, h2⟩ => ⟨_, _, ⟨ms, h1, rfl, rfl⟩, h2⟩
theorem rsets_comps (z : Int) (A : Option Addr) (n c : Nat) (zs : List Ed) (hg : IsG z zs) (hn : n ≤ 1000) (w : World) (hR : Reads w w.heap.size 3 A n (cellsE zs)) :
    Calls Try.prog 38 #[.agg #[.int .i64 z, .slice A n c]] w fun e w' => ∃ ls os, Comps zs z.toNat ls os ∧ SetsIs ls w e w' :=
  (rsets_any z A n c zs hg hn w hR).mono fun _ _ ⟨ms, h1, h2⟩ => ⟨_, _, ⟨ms, h1, rfl, rfl⟩, h2⟩

set_option maxRecDepth 100000 in
set_option maxHeartbeats 4000000 in
theorem rinner_any (z : Int) (A : Option Addr) (n c : Nat) (zs : List Ed) (hg : IsG z zs) (hn : n ≤ 900) (w : World) (hR : Reads w w.heap.size 3 A n (cellsE zs)) :
    Calls Try.prog 12 #[.agg #[.int .i64 z, .slice A n c]] w fun e w' => ∃ ls os, Comps zs z.toNat ls os ∧ GIs z (zs.filter (sameOf os)) w e w' := by
  obtain ⟨k0, k1, b0⟩ := two_new w #[.int .i64 z, .slice A n c] #[.int .i64 0, .slice none 0 0] 24 24
  have hnd := hg.nodes
  have HL := Lib.hid (reads_len hR)
  have HR := Lib.hid fun W (h : Below w.heap.size w W) => (hR.below h)
  obtain ⟨m, hm⟩ : ∃ m : Nat, z = (m : Int) := ⟨z.toNat, by omega⟩
  have hmz : z.toNat = m := by omega
  have hm300 : m ≤ 300 := by omega
  have HOF := Lib.hid fun W (h : Below w.heap.size w W) => rof6_comps z A n c zs hg (by omega) W ((hR.below h).more h.size)
  rw [hmz] at HOF ⊢
  subst hm
  have HZ := Lib.hid hg.all
  obtain ⟨i0, hi, hz0, hz1, hz2⟩ := info_parts pair_info
  obtain ⟨W0, hW0⟩ : ∃ W0, (w.alloc (.cells #[.int .i64 (m : Int), .slice A n c] 24)).alloc (.cells #[.int .i64 0, .slice none 0 0] 24) = W0 := ⟨_, rfl⟩
  rw [hW0] at k0 k1 b0
  have K0 := Lib.hid k0
  have K1 := Lib.hid k1
  have B0 := Lib.hid b0
  have z0 := k0.cell 0
  have z1 := k0.cell 1
  clear hR k0 k1 b0 hg hnd hmz
  go_enter Try.func12, Try.ntmps12
  go_wp2_with fail
  clear hW0
  refine (HOF.out W0 B0.out).mono ?_
  rintro e w2 ⟨ls, os, hcs, Ao, co, he, ho, h1, h2, b⟩
  have HCS := Lib.hid hcs
  have hol := hcs.len.1
  rw [hol] at he ho h1
  subst he
  have HOO := Lib.hid ho
  have K02 := Lib.hid (K0.out.below b K0.out.lt)
  have K12 := Lib.hid (K1.out.below b K1.out.lt)
  have B2 : Hid (Below w.heap.size w w2) := B0.out.trans (b.mono B0.out.size)
  clear hcs hol ho h1 h2 b z0 z1 K0 K1 B0 HOF
  have z0 := K02.out.cell 0
  have z1 := K02.out.cell 1
  have WS := Lib.hid (Wish.start w2 (m : Int))
  have K03 := Lib.hid (K02.out.alloc (.cells #[.int .i64 (m : Int), .slice none 0 0] 24))
  have x1 := K03.out.cell 1
  go_wp2_with fail
  clear z0 z1 x1 K03
  generalize w2.alloc (.cells #[.int .i64 (m : Int), .slice none 0 0] 24) = w3 at *
  obtain ⟨X, hX⟩ : ∃ X, w2.heap.size = X := ⟨_, rfl⟩
  rw [hX] at WS ⊢
  clear hX
  go_loopg [15] n (fun gg s15 wr => ∃ (i : Nat) (k : GV), i + gg = n ∧ s15 = .int .i64 i ∧ Hid (k.z = (m : Int) ∧ k.es = fil (sameOf os) zs i) ∧ Hid (Wish w2 X k wr))
  case atStart => exact ⟨0, ⟨(m : Int), none, 0, 0, []⟩, by omega, rfl, ⟨rfl, rfl⟩, WS⟩
  case round =>
    clear WS
    obtain ⟨i, k, hig, rfl, HK, WS⟩ := hrel
    cases gk with
    | zero =>
      obtain rfl : i = n := by omega
      have hlt : ¬ (i : Int) < (i : Int) := by omega
      have hk2 := HK.out.2
      rw [fil_all (by rw [HL.out]; omega)] at hk2
      have hkl := WS.out.len
      have K13 := Lib.hid (K12.out.below WS.out.below K12.out.lt)
      have x0 := WS.out.blk.cell 0
      have x1 := WS.out.blk.cell 1
      have y0 := K13.out.cell 0
      have y1 := K13.out.cell 1
      have f0 := K13.out.frozen 0
      have f1 := K13.out.frozen 1
      have q0 := (store2 K13.out (.int .i64 k.z) (.slice k.A k.n k.c)).cell 0
      have q1 := (store2 K13.out (.int .i64 k.z) (.slice k.A k.n k.c)).cell 1
      have HE : Hid (∃ ls os, Comps zs m ls os ∧ GIs (m : Int) (zs.filter (sameOf os)) w (.returned (.agg #[.int .i64 k.z, .slice k.A k.n k.c])) ((wr.setCell ⟨w.heap.size + 1, 0, none⟩ (.int .i64 k.z)).setCell ⟨w.heap.size + 1, 1, none⟩ (.slice k.A k.n k.c))) := by
        refine ⟨ls, os, HCS.out, ?_⟩
        have := gis_end (nodes := k.z) (ps := k.es) (A := k.A) (c := k.c) B2.out.size (by rw [hkl]; exact WS.out.own) (by rw [hkl]; exact WS.out.cap.1) WS.out.cap.2 (B2.out.trans (WS.out.below.mono B2.out.size)) (Nat.le_succ _) K13.out
        rw [hkl] at this
        rw [← hk2, ← HK.out.1]
        exact this
      clear hig hk2 hkl
      go_wp2_with fail
      exact bodyPost_ret (v := .agg #[.int .i64 k.z, .slice k.A k.n k.c]) (by simp [results, Try.results12, go_sem, q0, q1]) rfl HE.out
    | succ g2 =>
      have hlt : (i : Int) < (n : Int) := by omega
      have hin : i < n := by omega
      have HIG : Hid (i + 1 + g2 = n) := by show _ = _; omega
      have hw1 : IntKind.i64.wrap ((i : Int) + 1) = ((i + 1 : Nat) : Int) := by rw [IntKind.wrap_i64]; omega
      have HW1 := Lib.hid hw1
      obtain ⟨p, hp⟩ : ∃ p, zs[i]? = some p := ⟨zs[i]'(by rw [HL.out]; omega), List.getElem?_eq_getElem _⟩
      have hpr := of_decide_eq_true (HZ.out p (List.mem_of_getElem? hp))
      obtain ⟨b, o, hA, hb, g0, g1, gk2⟩ := ed_at (HR.out _ (B2.out.trans (WS.out.below.mono B2.out.size))) hp
      have hkn : k.n ≤ 900 := by
        have h1 := WS.out.len
        rw [HK.out.2] at h1
        unfold fil at h1
        have h2 := List.length_filter_le (sameOf os) (zs.take i)
        rw [List.length_take] at h2
        omega
      obtain ⟨bo, oo, hAo, hcells⟩ := of_cells HOO.out (by omega)
      have HCE := Lib.hid hcells
      have HP := Lib.hid hp
      have HA := Lib.hid hA
      have HAO := Lib.hid hAo
      have HX := Lib.hid (Blk.new wr 34 #[.int .i64 p.1, .int .i64 p.2.1, .int .i64 p.2.2])
      have WS1 := Lib.hid (WS.out.alloc (.cells #[.int .i64 p.1, .int .i64 p.2.1, .int .i64 p.2.2] 34))
      clear hp hig hw1 hcells
      rw [hA, hAo]
      clear hA hAo
      go_upto_region 6 with fail
      clear g0 g1 gk2 WS
      generalize wr.alloc (.cells #[.int .i64 p.1, .int .i64 p.2.1, .int .i64 p.2.2] 34) = wx at *
      generalize wr.heap.size = Y at *
      obtain ⟨p1, p2, p3⟩ := p
      simp only at hpr
      obtain ⟨a, rfl⟩ : ∃ a : Nat, p1 = (a : Int) := ⟨p1.toNat, by omega⟩
      obtain ⟨b2, rfl⟩ : ∃ b2 : Nat, p2 = (b2 : Int) := ⟨p2.toNat, by omega⟩
      have y0 : wx.cell? ⟨Y, 0, none⟩ = some (.int .i64 (a : Int)) := HX.out.cell 0
      have y1 : wx.cell? ⟨Y, 1, none⟩ = some (.int .i64 (b2 : Int)) := HX.out.cell 1
      have y2 : wx.cell? ⟨Y, 2, none⟩ = some (.int .i64 p3) := HX.out.cell 2
      have ham : (a : Int) < (m : Int) := hpr.1.2
      have hbm : (b2 : Int) < (m : Int) := hpr.2.1.2
      have c0 := HCE.out wx WS1.out.below a (by omega)
      have c1 := HCE.out wx WS1.out.below b2 (by omega)
      have HQ : Hid (sameOf os ((a : Int), (b2 : Int), p3) = (os.getD a 0 == os.getD b2 0)) := rfl
      have y4 := WS1.out.blk.cell 1
      have han : a < m := by omega
      have hbn : b2 < m := by omega
      clear hpr
      generalize os.getD a 0 = va at *
      generalize os.getD b2 0 = vb at *
      cases hq : va == vb
      · have HNX := Lib.hid (fil_skip (q := sameOf os) HP.out (HQ.out.trans hq))
        have hw1 := HW1.out
        go_wp2_with fail
        go_quiet (fail)
        go_wp2_with fail
        rw [← HA.out, ← HAO.out]
        go_roundg g2
        case measure => omega
        case rel => exact ⟨i + 1, k, HIG.out, rfl, ⟨HK.out.1, by rw [HNX.out]; exact HK.out.2⟩, WS1.out.drewN _⟩
      · have HNX := Lib.hid (fil_keep (q := sameOf os) HP.out (HQ.out.trans hq))
        have hw1 := HW1.out
        go_wp2_with fail
        go_quiet (fail)
        have WS2 := Lib.hid (WS1.out.drewN nq)
        have HX2 := Lib.hid (HX.out.drewN nq)
        clear y0 y1 y2 y4 c0 c1 WS1 HX
        generalize wx.drewN nq = wy at *
        have y0 : wy.cell? ⟨Y, 0, none⟩ = some (.int .i64 (a : Int)) := HX2.out.cell 0
        have y1 : wy.cell? ⟨Y, 1, none⟩ = some (.int .i64 (b2 : Int)) := HX2.out.cell 1
        have y2 : wy.cell? ⟨Y, 2, none⟩ = some (.int .i64 p3) := HX2.out.cell 2
        have y4 := WS2.out.blk.cell 1
        go_wp2_with (at_builtin; refine wpList_append_own_at _ rfl _ _ 22 rfl w2.heap.size 34 i0 _ 3 24 Try.underlying22 hi hz0 hz1 hz2 rfl (by decide) (.slice k.A k.n k.c) k.n _ rfl (WS2.out.own.alloc _) ⟨wy.heap.size, 0, none⟩ 1 1 (edCells ((a : Int), (b2 : Int), p3)) rfl rfl (ed_new _ ((a : Int), (b2 : Int), p3) _) (edCells_one _) (by unfold maxLen; omega) (by omega) (by have := WS2.out.below.size; simp; omega) ?_; intro v5 w5 hown5 hgrow5 _ _; obtain ⟨A5, c5, rfl, h51, h52⟩ := own_form2 hown5; rw [← cellsE_snoc] at hown5; have hM := Wish.more WS2.out hgrow5 hown5 h51 h52; have a0 := hM.1.cell 1; have f0 := hM.1.frozen 1; have HE := Lib.hid hM.2; clear hown5 hgrow5 hM y0 y1 y2 y4)
        rw [← HA.out, ← HAO.out]
        go_roundg g2
        case measure => omega
        case rel => exact ⟨i + 1, ⟨k.z, A5, k.n + 1, c5, k.es ++ [((a : Int), (b2 : Int), p3)]⟩, HIG.out, rfl, ⟨HK.out.1, by show k.es ++ [_] = _; rw [HNX.out, HK.out.2]⟩, HE⟩
end Go.Proofs.Ytkebeadaoiiokaa
namespace Go.Proofs.Ytkebeadaoiiokaa
open Go.RowKit Go.Shelf

def foldP (os : List Int) (p : Ed) : Ed := (ofFrom os p, ofTo os p, p.2.2)
def foldL (os : List Int) (l : List Ed) : List Ed := (l.filter fun p => !sameOf os p).map (foldP os)
def folds (os : List Int) (l : List Ed) (k : Nat) : List Ed := foldL os (l.take k)
theorem folds_keep {os : List Int} {l : List Ed} {k : Nat} {x : Ed} (h : l[k]? = some x) (hq : sameOf os x = false) : folds os l (k + 1) = folds os l k ++ [foldP os x] := by
  unfold folds foldL
  rw [List.take_add_one, h, List.filter_append, List.map_append, Option.toList_some, List.filter_cons_of_pos (p := fun p => !sameOf os p) (by simp [hq])]
  rfl
theorem folds_skip {os : List Int} {l : List Ed} {k : Nat} {x : Ed} (h : l[k]? = some x) (hq : sameOf os x = true) : folds os l (k + 1) = folds os l k := by
  unfold folds foldL
  rw [List.take_add_one, h, List.filter_append, List.map_append, Option.toList_some, List.filter_cons_of_neg (p := fun p => !sameOf os p) (by simp [hq])]
  simp
theorem folds_len (os : List Int) (l : List Ed) (k : Nat) : (folds os l k).length ≤ k := by
  unfold folds foldL
  rw [List.length_map]
  exact Nat.le_trans (List.length_filter_le _ _) (by rw [List.length_take]; omega)

set_option maxRecDepth 100000 in
set_option maxHeartbeats 4000000 in
theorem rfold_any (z : Int) (A : Option Addr) (n c : Nat) (zs : List Ed) (hg : IsG z zs) (hn : n ≤ 900) (w : World) (hR : Reads w w.heap.size 3 A n (cellsE zs)) :
    Calls Try.prog 13 #[.agg #[.int .i64 z, .slice A n c]] w fun e w' => ∃ ls os, Comps zs z.toNat ls os ∧ GIs (ls.length : Int) (ofE (foldL os zs)) w e w' := by
  obtain ⟨k0, k1, b0⟩ := two_new w #[.int .i64 z, .slice A n c] #[.int .i64 0, .slice none 0 0] 24 24
  have hnd := hg.nodes
  have HL := Lib.hid (reads_len hR)
  have HR := Lib.hid fun W (h : Below w.heap.size w W) => (hR.below h)
  obtain ⟨m, hm⟩ : ∃ m : Nat, z = (m : Int) := ⟨z.toNat, by omega⟩
  have hmz : z.toNat = m := by omega
  have hm300 : m ≤ 300 := by omega
  have HOF := Lib.hid fun W (h : Below w.heap.size w W) => rof6_comps z A n c zs hg (by omega) W ((hR.below h).more h.size)
  have HSE := Lib.hid fun W (h : Below w.heap.size w W) => rsets_comps z A n c zs hg (by omega) W ((hR.below h).more h.size)
  rw [hmz] at HOF HSE ⊢
  subst hm
  have HZ := Lib.hid hg.all
  obtain ⟨i0, hi, hz0, hz1, hz2⟩ := info_parts pair_info
  obtain ⟨W0, hW0⟩ : ∃ W0, (w.alloc (.cells #[.int .i64 (m : Int), .slice A n c] 24)).alloc (.cells #[.int .i64 0, .slice none 0 0] 24) = W0 := ⟨_, rfl⟩
  rw [hW0] at k0 k1 b0
  have K0 := Lib.hid k0
  have K1 := Lib.hid k1
  have B0 := Lib.hid b0
  have z0 := k0.cell 0
  have z1 := k0.cell 1
  clear hR k0 k1 b0 hg hnd hmz
  go_enter Try.func13, Try.ntmps13
  go_wp2_with fail
  clear hW0
  refine (HOF.out W0 B0.out).mono ?_
  rintro e w2 ⟨ls, os, hcs, Ao, co, he, ho, h1, h2, b⟩
  have HCS := Lib.hid hcs
  have hol := hcs.len.1
  rw [hol] at he ho h1
  subst he
  have HOO := Lib.hid ho
  have K02 := Lib.hid (K0.out.below b K0.out.lt)
  have K12 := Lib.hid (K1.out.below b K1.out.lt)
  have B2 : Hid (Below w.heap.size w w2) := B0.out.trans (b.mono B0.out.size)
  clear hcs hol ho h1 h2 b z0 z1 K0 K1 B0 HOF
  have z0 := K02.out.cell 0
  have z1 := K02.out.cell 1
  go_wp2_with fail
  clear z0 z1
  go_loopg [4, 12] n (fun gg s4 s12 wr => ∃ (i u : Nat) (A' : Option Addr) (c' : Nat), i + gg = n ∧ s12 = .int .i64 i ∧ s4 = .slice A' u c' ∧ Hid (wr.ownsRow w2.heap.size 34 3 (.slice A' u c') u (cellsE (folds os zs i))) ∧ Hid (Below w2.heap.size w2 wr))
  case atStart => exact ⟨0, 0, none, 0, by omega, rfl, rfl, World.ownsRow_nil _ _ _ _, Below.refl _ _⟩
  case round =>
    obtain ⟨i, u, A', c', hig, rfl, rfl, HO, HB⟩ := hrel
    have hul : (folds os zs i).length = u := reads_len (reads_own HO.out)
    have hu9 : u ≤ 900 := by have := folds_len os zs i; omega
    cases gk with
    | zero =>
      obtain rfl : i = n := by omega
      have hlt : ¬ (i : Int) < (i : Int) := by omega
      have HF : Hid (folds os zs i = foldL os zs) := by show _ = _; unfold folds; rw [List.take_of_length_le (by rw [HL.out]; omega)]
      rw [HF.out] at HO
      have HSET := Lib.hid (HSE.out wr (B2.out.trans (HB.out.mono B2.out.size)))
      have K03 := Lib.hid (K02.out.below HB.out K02.out.lt)
      have K13 := Lib.hid (K12.out.below HB.out K12.out.lt)
      have HB2 : Hid (Below w.heap.size w wr) := B2.out.trans (HB.out.mono B2.out.size)
      have z0 := K03.out.cell 0
      have z1 := K03.out.cell 1
      clear hig hul HB HF
      go_wp2_with fail
      refine HSET.out.mono ?_
      rintro e w4 ⟨ls', os', hcs', As, cs, rfl, hr, b⟩
      obtain ⟨rfl, rfl⟩ := HCS.out.unique hcs'
      have K14 := Lib.hid (K13.out.below b K13.out.lt)
      have HB4 : Hid (Below w.heap.size w w4) := HB2.out.trans (b.mono HB2.out.size)
      have HOF := Lib.hid (rof_any (ls.length : Int) A' u c' (foldL os zs) hu9 w4 (reads_own (own_on HO.out b)))
      clear hcs' hr b z0 z1 HSET K13 K03 HB2 HO
      obtain ⟨rs, hrs⟩ : ∃ rs, ofE (foldL os zs) = rs := ⟨_, rfl⟩
      have HRS := Lib.hid hrs
      rw [hrs] at HOF
      clear hrs
      obtain ⟨q, hq⟩ : ∃ q, ls.length = q := ⟨_, rfl⟩
      have HQ := Lib.hid hq
      rw [hq] at HOF ⊢
      clear hq
      go_wp2_with fail
      refine HOF.out.mono ?_
      rintro e w5 ⟨A2, c2, rfl, h1, h2, h3, h4⟩
      have K15 := Lib.hid (K14.out.below h4 K14.out.lt)
      have HB5 : Hid (Below w.heap.size w w5) := HB4.out.trans (h4.mono HB4.out.size)
      have HE : Hid (∃ ls os, Comps zs m ls os ∧ GIs (ls.length : Int) (ofE (foldL os zs)) w (.returned (.agg #[.int .i64 (q : Int), .slice A2 rs.length c2])) ((w5.setCell ⟨w.heap.size + 1, 0, none⟩ (.int .i64 (q : Int))).setCell ⟨w.heap.size + 1, 1, none⟩ (.slice A2 rs.length c2))) := by
        refine ⟨ls, os, HCS.out, ?_⟩
        rw [HQ.out, HRS.out]
        exact gis_end (nodes := (q : Int)) HB4.out.size h1 h2 h3 HB5.out (Nat.le_succ _) K15.out
      have x0 := K15.out.cell 0
      have x1 := K15.out.cell 1
      have f0 := K15.out.frozen 0
      have f1 := K15.out.frozen 1
      have q0 := (store2 K15.out (.int .i64 (q : Int)) (.slice A2 rs.length c2)).cell 0
      have q1 := (store2 K15.out (.int .i64 (q : Int)) (.slice A2 rs.length c2)).cell 1
      clear h1 h2 h3 h4 HOF K14 HB4
      go_wp2_with fail
      exact bodyPost_ret (v := .agg #[.int .i64 (q : Int), .slice A2 rs.length c2]) (by simp [results, Try.results13, go_sem, q0, q1]) rfl HE.out
    | succ g2 =>
      have hlt : (i : Int) < (n : Int) := by omega
      have hin : i < n := by omega
      have HIG : Hid (i + 1 + g2 = n) := by show _ = _; omega
      have hw1 : IntKind.i64.wrap ((i : Int) + 1) = ((i + 1 : Nat) : Int) := by rw [IntKind.wrap_i64]; omega
      have HW1 := Lib.hid hw1
      obtain ⟨p, hp⟩ : ∃ p, zs[i]? = some p := ⟨zs[i]'(by rw [HL.out]; omega), List.getElem?_eq_getElem _⟩
      have hpr := of_decide_eq_true (HZ.out p (List.mem_of_getElem? hp))
      obtain ⟨b, o, hA, hb, g0, g1, gk2⟩ := ed_at (HR.out _ (B2.out.trans (HB.out.mono B2.out.size))) hp
      obtain ⟨bo, oo, hAo, hcells⟩ := of_cells HOO.out (by omega)
      have HCE := Lib.hid hcells
      have HP := Lib.hid hp
      have HA := Lib.hid hA
      have HAO := Lib.hid hAo
      have HX := Lib.hid (Blk.new wr 34 #[.int .i64 p.1, .int .i64 p.2.1, .int .i64 p.2.2])
      have HO1 := Lib.hid (HO.out.alloc (.cells #[.int .i64 p.1, .int .i64 p.2.1, .int .i64 p.2.2] 34))
      have HB1 := Lib.hid (HB.out.alloc HB.out.size (.cells #[.int .i64 p.1, .int .i64 p.2.1, .int .i64 p.2.2] 34))
      have HU9 : Hid (u ≤ 900) := hu9
      have HYB : Hid (∀ g, (Value.slice A' u c').ownBlock = some g → g ≠ wr.heap.size) := fun g hg e => by have := (HO.out.lt g hg).2; omega
      clear hp hig hw1 hcells hul hu9
      rw [hA, hAo]
      clear hA hAo
      go_upto_region 6 with fail
      clear g0 g1 gk2 HO HB
      generalize wr.alloc (.cells #[.int .i64 p.1, .int .i64 p.2.1, .int .i64 p.2.2] 34) = wx at *
      generalize wr.heap.size = Y at *
      obtain ⟨p1, p2, p3⟩ := p
      simp only at hpr
      obtain ⟨a, rfl⟩ : ∃ a : Nat, p1 = (a : Int) := ⟨p1.toNat, by omega⟩
      obtain ⟨b2, rfl⟩ : ∃ b2 : Nat, p2 = (b2 : Int) := ⟨p2.toNat, by omega⟩
      have y0 : wx.cell? ⟨Y, 0, none⟩ = some (.int .i64 (a : Int)) := HX.out.cell 0
      have y1 : wx.cell? ⟨Y, 1, none⟩ = some (.int .i64 (b2 : Int)) := HX.out.cell 1
      have ham : (a : Int) < (m : Int) := hpr.1.2
      have hbm : (b2 : Int) < (m : Int) := hpr.2.1.2
      have c0 := HCE.out wx HB1.out a (by omega)
      have c1 := HCE.out wx HB1.out b2 (by omega)
      have HQ : Hid (sameOf os ((a : Int), (b2 : Int), p3) = (os.getD a 0 == os.getD b2 0)) := rfl
      have HFP : Hid (foldP os ((a : Int), (b2 : Int), p3) = (os.getD a 0, os.getD b2 0, p3)) := rfl
      have HCA := Lib.hid fun W h => HCE.out W h a (by omega)
      have HCB := Lib.hid fun W h => HCE.out W h b2 (by omega)
      have han : a < m := by omega
      have hbn : b2 < m := by omega
      clear hpr
      generalize os.getD a 0 = va at *
      generalize os.getD b2 0 = vb at *
      cases hq : va == vb
      · have HNX := Lib.hid (folds_keep HP.out (HQ.out.trans hq))
        have hne : (va != vb) = true := by simp [bne, hq]
        have hw1 := HW1.out
        go_wp2_with fail
        go_quiet (fail)
        have HX2 := Lib.hid (HX.out.drewN nq)
        have HO2 : Hid ((wx.drewN nq).ownsRow w2.heap.size 34 3 (.slice A' u c') u (cellsE (folds os zs i))) := HO1.out
        have HB2 := Lib.hid (below_drewN HB1.out nq)
        clear y0 y1 c0 c1 HO1 HB1 HX
        generalize wx.drewN nq = wy at *
        have y0 : wy.cell? ⟨Y, 0, none⟩ = some (.int .i64 (a : Int)) := HX2.out.cell 0
        have y1 : wy.cell? ⟨Y, 1, none⟩ = some (.int .i64 (b2 : Int)) := HX2.out.cell 1
        have y2 : wy.cell? ⟨Y, 2, none⟩ = some (.int .i64 p3) := HX2.out.cell 2
        have c0 := HCA.out wy HB2.out
        have c1 := HCB.out wy HB2.out
        go_wp2_with fail
        clear y0 y1 y2 c0 c1
        have HX3 := Lib.hid HX2.out.drew
        have HO3 : Hid (wy.drew.ownsRow w2.heap.size 34 3 (.slice A' u c') u (cellsE (folds os zs i))) := HO2.out
        have HB3 := Lib.hid HB2.out.drew
        have hne2 : (Value.slice A' u c').ownBlock ≠ some Y := fun e => by
          exact HYB.out _ e rfl
        clear HO2 HB2 HX2
        have hu9 := HU9.out
        -- REGION7
        refine wp_region_noPanic ?_
        refine wp_region_held_drew (S := fun w' => w'.cell? ⟨Y, 0, none⟩ = some (.int .i64 (a : Int)) ∧ w'.cell? ⟨Y, 1, none⟩ = some (.int .i64 (b2 : Int)) ∧ w'.cell? ⟨Y, 2, none⟩ = some (.int .i64 p3) ∧ w'.cell? ⟨bo, oo + a, none⟩ = some (.int .i64 va) ∧ w'.cell? ⟨bo, oo + b2, none⟩ = some (.int .i64 vb)) (by kernel_rfl) ⟨HX3.out.cell 0, HX3.out.cell 1, HX3.out.cell 2, HCA.out _ HB3.out, HCB.out _ HB3.out⟩ (fun hHeld => ?_)
        generalize wy.drew = wz at *
        refine wpAnyH_take (i := 0) (oi := { dst := some 27, op := Op.move (Operand.tmp 4), type := 22, pos := "ref.go:95", after := #[], guard := none }) (v := .slice A' u c') rfl (by kernel_rfl) (by kernel_rfl) (by kernel_rfl) (fun _ _ _ h => h) (Or.inl ⟨by kernel_rfl, fun w' hSw => by (try dsimp only at hSw); go_simp⟩) (by assumption) ?_
        try simp only [Act.put, List.setIfInBounds_toArray, List.set_cons_zero, List.set_cons_succ]
        refine wpAnyH_take (i := 1) (oi := { dst := some 28, op := Op.move (Operand.tmp 3), type := 35, pos := "ref.go:95", after := #[], guard := none }) (v := .slice (some ⟨bo, oo, none⟩) m co) rfl (by kernel_rfl) (by kernel_rfl) (by kernel_rfl) (fun _ _ _ h => h) (Or.inl ⟨by kernel_rfl, fun w' hSw => by (try dsimp only at hSw); go_simp⟩) (by assumption) ?_
        try simp only [Act.put, List.setIfInBounds_toArray, List.set_cons_zero, List.set_cons_succ]
        refine wpAnyH_take (i := 2) (oi := { dst := some 29, op := Op.fieldAddr 34 (Operand.tmp 6) 0, type := 0, pos := "ref.go:95", after := #[], guard := none }) (v := .pointer (some ⟨Y, 0, none⟩)) rfl (by kernel_rfl) (by kernel_rfl) (by kernel_rfl) (fun _ _ _ h => h) (Or.inl ⟨by kernel_rfl, fun w' hSw => by (try dsimp only at hSw); go_simp⟩) (by assumption) ?_
        try simp only [Act.put, List.setIfInBounds_toArray, List.set_cons_zero, List.set_cons_succ]
        refine wpAnyH_take (i := 3) (oi := { dst := some 30, op := Op.load 3 (Operand.tmp 29), type := 3, pos := "ref.go:95", after := #[{ on := 2, ground := Ground.data }], guard := none }) (v := .int .i64 (a : Int)) rfl (by kernel_rfl) (by kernel_rfl) (by kernel_rfl) (fun _ _ _ h => h) (Or.inl ⟨by kernel_rfl, fun w' hSw => by (try dsimp only at hSw); go_simp⟩) (by assumption) ?_
        try simp only [Act.put, List.setIfInBounds_toArray, List.set_cons_zero, List.set_cons_succ]
        refine wpAnyH_take (i := 4) (oi := { dst := some 31, op := Op.indexAddr 35 (Operand.tmp 28) (Operand.tmp 30), type := 0, pos := "ref.go:95", after := #[{ on := 1, ground := Ground.data }, { on := 3, ground := Ground.data }], guard := none }) (v := .pointer (some ⟨bo, oo + a, none⟩)) rfl (by kernel_rfl) (by kernel_rfl) (by kernel_rfl) (fun _ _ _ h => h) (Or.inl ⟨by kernel_rfl, fun w' hSw => by (try dsimp only at hSw); go_simp⟩) (by assumption) ?_
        try simp only [Act.put, List.setIfInBounds_toArray, List.set_cons_zero, List.set_cons_succ]
        refine wpAnyH_take (i := 5) (oi := { dst := some 32, op := Op.load 3 (Operand.tmp 31), type := 3, pos := "ref.go:95", after := #[{ on := 4, ground := Ground.data }], guard := none }) (v := .int .i64 va) rfl (by kernel_rfl) (by kernel_rfl) (by kernel_rfl) (fun _ _ _ h => h) (Or.inl ⟨by kernel_rfl, fun w' hSw => by (try dsimp only at hSw); go_simp⟩) (by assumption) ?_
        try simp only [Act.put, List.setIfInBounds_toArray, List.set_cons_zero, List.set_cons_succ]
        refine wpAnyH_take (i := 6) (oi := { dst := some 33, op := Op.move (Operand.tmp 3), type := 35, pos := "ref.go:95", after := #[], guard := none }) (v := .slice (some ⟨bo, oo, none⟩) m co) rfl (by kernel_rfl) (by kernel_rfl) (by kernel_rfl) (fun _ _ _ h => h) (Or.inl ⟨by kernel_rfl, fun w' hSw => by (try dsimp only at hSw); go_simp⟩) (by assumption) ?_
        try simp only [Act.put, List.setIfInBounds_toArray, List.set_cons_zero, List.set_cons_succ]
        refine wpAnyH_take (i := 7) (oi := { dst := some 34, op := Op.fieldAddr 34 (Operand.tmp 6) 1, type := 0, pos := "ref.go:95", after := #[], guard := none }) (v := .pointer (some ⟨Y, 1, none⟩)) rfl (by kernel_rfl) (by kernel_rfl) (by kernel_rfl) (fun _ _ _ h => h) (Or.inl ⟨by kernel_rfl, fun w' hSw => by (try dsimp only at hSw); go_simp⟩) (by assumption) ?_
        try simp only [Act.put, List.setIfInBounds_toArray, List.set_cons_zero, List.set_cons_succ]
        refine wpAnyH_take (i := 8) (oi := { dst := some 35, op := Op.load 3 (Operand.tmp 34), type := 3, pos := "ref.go:95", after := #[{ on := 7, ground := Ground.data }], guard := none }) (v := .int .i64 (b2 : Int)) rfl (by kernel_rfl) (by kernel_rfl) (by kernel_rfl) (fun _ _ _ h => h) (Or.inl ⟨by kernel_rfl, fun w' hSw => by (try dsimp only at hSw); go_simp⟩) (by assumption) ?_
        try simp only [Act.put, List.setIfInBounds_toArray, List.set_cons_zero, List.set_cons_succ]
        refine wpAnyH_take (i := 9) (oi := { dst := some 36, op := Op.indexAddr 35 (Operand.tmp 33) (Operand.tmp 35), type := 0, pos := "ref.go:95", after := #[{ on := 6, ground := Ground.data }, { on := 8, ground := Ground.data }], guard := none }) (v := .pointer (some ⟨bo, oo + b2, none⟩)) rfl (by kernel_rfl) (by kernel_rfl) (by kernel_rfl) (fun _ _ _ h => h) (Or.inl ⟨by kernel_rfl, fun w' hSw => by (try dsimp only at hSw); go_simp⟩) (by assumption) ?_
        try simp only [Act.put, List.setIfInBounds_toArray, List.set_cons_zero, List.set_cons_succ]
        refine wpAnyH_take (i := 10) (oi := { dst := some 37, op := Op.load 3 (Operand.tmp 36), type := 3, pos := "ref.go:95", after := #[{ on := 9, ground := Ground.data }], guard := none }) (v := .int .i64 vb) rfl (by kernel_rfl) (by kernel_rfl) (by kernel_rfl) (fun _ _ _ h => h) (Or.inl ⟨by kernel_rfl, fun w' hSw => by (try dsimp only at hSw); go_simp⟩) (by assumption) ?_
        try simp only [Act.put, List.setIfInBounds_toArray, List.set_cons_zero, List.set_cons_succ]
        refine wpAnyH_take (i := 11) (oi := { dst := some 38, op := Op.fieldAddr 34 (Operand.tmp 6) 2, type := 0, pos := "ref.go:95", after := #[], guard := none }) (v := .pointer (some ⟨Y, 2, none⟩)) rfl (by kernel_rfl) (by kernel_rfl) (by kernel_rfl) (fun _ _ _ h => h) (Or.inl ⟨by kernel_rfl, fun w' hSw => by (try dsimp only at hSw); go_simp⟩) (by assumption) ?_
        try simp only [Act.put, List.setIfInBounds_toArray, List.set_cons_zero, List.set_cons_succ]
        refine wpAnyH_take (i := 12) (oi := { dst := some 39, op := Op.load 3 (Operand.tmp 38), type := 3, pos := "ref.go:95", after := #[{ on := 11, ground := Ground.data }], guard := none }) (v := .int .i64 p3) rfl (by kernel_rfl) (by kernel_rfl) (by kernel_rfl) (fun _ _ _ h => h) (Or.inl ⟨by kernel_rfl, fun w' hSw => by (try dsimp only at hSw); go_simp⟩) (by assumption) ?_
        try simp only [Act.put, List.setIfInBounds_toArray, List.set_cons_zero, List.set_cons_succ]
        refine wpAnyH_take (i := 13) (oi := { dst := some 40, op := Op.build 34 #[(0, Operand.tmp 32), (1, Operand.tmp 37), (2, Operand.tmp 39)], type := 34, pos := "ref.go:95", after := #[{ on := 5, ground := Ground.data }, { on := 10, ground := Ground.data }, { on := 12, ground := Ground.data }], guard := none }) (v := .agg #[.int .i64 va, .int .i64 vb, .int .i64 p3]) rfl (by kernel_rfl) (by kernel_rfl) (by kernel_rfl) (fun _ _ _ h => h) (Or.inl ⟨by kernel_rfl, fun w' hSw => by (try dsimp only at hSw); go_simp⟩) (by assumption) ?_
        try simp only [Act.put, List.setIfInBounds_toArray, List.set_cons_zero, List.set_cons_succ]
        refine wpAnyH_ready (rs := [14]) (by kernel_rfl) (by simp) ?_
        refine AllReadyH.cons (o := { dst := some 41, op := Op.buildSlice 22 1 #[(0, Operand.tmp 40)], type := 22, pos := "ref.go:95", after := #[{ on := 13, ground := Ground.data }], guard := none }) rfl (fun K hK => ?_) AllReadyH.nil
        go_simp
        have HX4 := Lib.hid (HX3.out.alloc (.cells #[.int .i64 va, .int .i64 vb, .int .i64 p3] 34))
        have HO4 := Lib.hid (HO3.out.alloc (.cells #[.int .i64 va, .int .i64 vb, .int .i64 p3] 34))
        have HB4 := Lib.hid (HB3.out.alloc HB3.out.size (.cells #[.int .i64 va, .int .i64 vb, .int .i64 p3] 34))
        clear hHeld HX3
        refine hK.out _ _ ⟨HX4.out.cell 0, HX4.out.cell 1, HX4.out.cell 2, HCA.out _ HB4.out, HCB.out _ HB4.out⟩ (fun hHeld => ?_)
        clear hK K
        try simp only [Act.put, List.setIfInBounds_toArray, List.set_cons_zero, List.set_cons_succ]
        refine wpAnyH_ready (rs := [15]) (by kernel_rfl) (by simp) ?_
        refine AllReadyH.cons (o := { dst := some 42, op := Op.call { callee := Callee.builtin Builtin.append, args := #[Operand.tmp 27, Operand.tmp 41], argTypes := #[22, 22] }, type := 22, pos := "ref.go:95", after := #[{ on := 0, ground := Ground.data }, { on := 14, ground := Ground.data }], guard := none }) rfl (fun K hK => ?_) AllReadyH.nil
        refine step_append_any _ rfl (.tmp 27) (.tmp 41) 22 rfl w2.heap.size 34 i0 _ 3 24 Try.underlying22 hi hz0 hz1 hz2 rfl (by decide) (.slice A' u c') u _ rfl HO4.out (wz.heap.size + 1) (some ⟨wz.heap.size, 0, none⟩) 1 _ (cellsE [(va, vb, p3)]) rfl (pair_one wz (va, vb, p3)) (cellsE_one _) (by unfold maxLen; omega) (by omega) (by have := HB3.out.size; simp; omega) ?_
        intro v5 w5 hown5 hgrow5 _
        obtain ⟨A5, c5, rfl, h51, h52⟩ := own_form2 hown5
        rw [← cellsE_append, ← HFP.out, ← HNX.out] at hown5
        have HO5 := Lib.hid hown5
        have HB5 : Hid (Below w2.heap.size w2 w5) := HB4.out.grown hgrow5 (by have := HB3.out.size; simp; omega) (fun k hk => (HO3.out.lt k hk).1)
        have HX5 := Lib.hid (HX4.out.grown hgrow5 (fun e => hne2 e.symm))
        clear hown5 hgrow5 hHeld HX4 HO4 HB4
        refine hK.out _ _ ⟨HX5.out.cell 0, HX5.out.cell 1, HX5.out.cell 2, HCA.out _ HB5.out, HCB.out _ HB5.out⟩ (fun hHeld => ?_)
        clear hK K
        try simp only [Act.put, List.setIfInBounds_toArray, List.set_cons_zero, List.set_cons_succ]
        refine wpAnyH_take (i := 16) (oi := { dst := some 4, op := Op.assign (Operand.tmp 42), type := 22, pos := "ref.go:95", after := #[{ on := 15, ground := Ground.data }, { on := 15, ground := Ground.chain }, { on := 0, ground := Ground.phase }, { on := 1, ground := Ground.phase }, { on := 2, ground := Ground.phase }, { on := 3, ground := Ground.phase }, { on := 4, ground := Ground.phase }, { on := 5, ground := Ground.phase }, { on := 6, ground := Ground.phase }, { on := 7, ground := Ground.phase }, { on := 8, ground := Ground.phase }, { on := 9, ground := Ground.phase }, { on := 10, ground := Ground.phase }, { on := 11, ground := Ground.phase }, { on := 12, ground := Ground.phase }, { on := 13, ground := Ground.phase }, { on := 14, ground := Ground.phase }, { on := 15, ground := Ground.phase }], guard := none }) (v := .slice A5 (u + 1) c5) rfl (by kernel_rfl) (by kernel_rfl) (by kernel_rfl) (fun _ _ _ h => h) (Or.inl ⟨by kernel_rfl, fun w' hSw => by (try dsimp only at hSw); go_simp⟩) (by assumption) ?_
        try simp only [Act.put, List.setIfInBounds_toArray, List.set_cons_zero, List.set_cons_succ]
        refine wpAnyH_done (by kernel_rfl) ?_ _
        refine NoPanic.normal ?_
        -- END7
        clear hHeld
        go_wp2_with fail
        rw [← HA.out, ← HAO.out]
        go_roundg g2
        case measure => omega
        case rel => exact ⟨i + 1, u + 1, A5, c5, HIG.out, rfl, rfl, HO5, HB5⟩
      · have HNX := Lib.hid (folds_skip HP.out (HQ.out.trans hq))
        have hne : (va != vb) = false := by simp [bne, hq]
        have hw1 := HW1.out
        go_wp2_with fail
        go_quiet (fail)
        go_wp2_with fail
        rw [← HA.out, ← HAO.out]
        go_roundg g2
        case measure => omega
        case rel => exact ⟨i + 1, u, A', c', HIG.out, rfl, rfl, by rw [HNX.out]; exact HO1, below_drewN HB1.out _⟩
end Go.Proofs.Ytkebeadaoiiokaa
namespace Go.Proofs.Ytkebeadaoiiokaa
open Go.RowKit

/-- Who is together with whom, below m. -/
structure Eqv (t : Nat → Nat → Bool) (m : Nat) : Prop where
  refl : ∀ v, v < m → t v v = true
  symm : ∀ v w, v < m → w < m → t v w = true → t w v = true
  trans : ∀ u v w, u < m → v < m → w < m → t u v = true → t v w = true → t u w = true
/-- The least nodes, rising. -/
def leasts (t : Nat → Nat → Bool) (m : Nat) : List Nat := (List.range m).filter (leastB t m)
theorem setsE_eq (t : Nat → Nat → Bool) (m : Nat) : setsE t m m = (leasts t m).map (setE t m) := rfl
theorem leastB_iff {t : Nat → Nat → Bool} {m v : Nat} : leastB t m v = true ↔ ∀ w, w < m → t v w = true → v ≤ w := by
  unfold leastB
  rw [List.all_eq_true]
  refine ⟨fun h w hw ht => ?_, fun h w hw => ?_⟩
  · have := h w (List.mem_range.2 hw)
    rw [ht] at this
    simpa using this
  · cases ht : t v w
    · simp
    · simpa using h w (List.mem_range.1 hw) ht
theorem mem_leasts {t : Nat → Nat → Bool} {m v : Nat} : v ∈ leasts t m ↔ v < m ∧ ∀ w, w < m → t v w = true → v ≤ w := by
  unfold leasts
  rw [List.mem_filter, List.mem_range, leastB_iff]
theorem leasts_up (t : Nat → Nat → Bool) (m : Nat) : (leasts t m).Pairwise (· < ·) := (List.pairwise_lt_range).filter _
theorem mem_setE_iff {t : Nat → Nat → Bool} {m v : Nat} {x : Int} : x ∈ setE t m v ↔ ∃ w : Nat, x = (w : Int) ∧ w < m ∧ t v w = true := by
  unfold setE
  rw [List.mem_map]
  refine ⟨fun ⟨w, hw, e⟩ => ⟨w, e.symm, List.mem_range.1 (List.mem_filter.1 hw).1, (List.mem_filter.1 hw).2⟩, fun ⟨w, e, h1, h2⟩ => ⟨w, List.mem_filter.2 ⟨List.mem_range.2 h1, h2⟩, e.symm⟩⟩
theorem setE_nat {t : Nat → Nat → Bool} {m v w : Nat} : (w : Int) ∈ setE t m v ↔ w < m ∧ t v w = true := by
  rw [mem_setE_iff]
  refine ⟨fun ⟨w', e, h⟩ => ?_, fun h => ⟨w, rfl, h⟩⟩
  have : w = w' := by omega
  subst this; exact h
/-- Each node is together with just one least node. -/
theorem Eqv.least {t : Nat → Nat → Bool} {m : Nat} (h : Eqv t m) {v : Nat} (hv : v < m) : ∃ u, u ∈ leasts t m ∧ t u v = true := by
  have : ∀ k, (∃ w, w ≤ k ∧ w < m ∧ t v w = true) → ∃ u, u < m ∧ t v u = true ∧ ∀ w, w < m → t v w = true → u ≤ w := by
    intro k
    induction k with
    | zero =>
      rintro ⟨w, h0, h1, h2⟩
      have : w = 0 := by omega
      subst this
      exact ⟨0, h1, h2, fun w _ _ => Nat.zero_le _⟩
    | succ k ih =>
      rintro ⟨w, h0, h1, h2⟩
      by_cases hx : ∃ w, w ≤ k ∧ w < m ∧ t v w = true
      · exact ih hx
      · refine ⟨w, h1, h2, fun w' h3 h4 => ?_⟩
        rcases Nat.lt_or_ge w' w with h5 | h5
        · exact absurd ⟨w', by omega, h3, h4⟩ hx
        · exact h5
  obtain ⟨u, hu, htu, hm⟩ := this v ⟨v, Nat.le_refl _, hv, h.refl v hv⟩
  exact ⟨u, mem_leasts.2 ⟨hu, fun w hw htw => hm w hw (h.trans v u w hv hu hw htu htw)⟩, h.symm v u hv hu htu⟩
theorem Eqv.least_one {t : Nat → Nat → Bool} {m u u' : Nat} (h : Eqv t m) (hu : u ∈ leasts t m) (hu' : u' ∈ leasts t m) (ht : t u u' = true) : u = u' := by
  rw [mem_leasts] at hu hu'
  have h1 := hu.2 u' hu'.1 ht
  have h2 := hu'.2 u hu.1 (h.symm u u' hu.1 hu'.1 ht)
  omega
theorem putE_get (os l : List Int) (i : Int) (v : Nat) (hv : v < os.length) (hl : ∀ x ∈ l, 0 ≤ x) : (putE os i l)[v]? = if (v : Int) ∈ l then some i else os[v]? := by
  unfold putE
  induction l generalizing os with
  | nil => simp
  | cons x l ih =>
    have hx := hl x (.head _)
    rw [List.foldl_cons, ih _ (by rw [List.length_set]; exact hv) (fun y hy => hl y (.tail _ hy))]
    by_cases h1 : (v : Int) ∈ l
    · rw [if_pos h1, if_pos (.tail _ h1)]
    · rw [if_neg h1]
      by_cases h2 : (v : Int) = x
      · rw [if_pos (by rw [h2]; exact .head _), List.getElem?_set, if_pos (by omega), if_pos (by omega)]
      · rw [if_neg (fun h => by rcases List.mem_cons.1 h with h | h; exact h2 h; exact h1 h), List.getElem?_set, if_neg (by omega)]
/-- The number of a node is the place of its class. -/
theorem ofM_get {ls : List (List Int)} {m v i : Nat} (hv : v < m) (h0 : ∀ l ∈ ls, ∀ x ∈ l, 0 ≤ x) {l : List Int} (hl : ls[i]? = some l) (hm : (v : Int) ∈ l) (hu : ∀ j l', ls[j]? = some l' → (v : Int) ∈ l' → j = i) : ∀ k, i < k → k ≤ ls.length → (ofM ls m k)[v]? = some (i : Int)
  | 0, h, _ => by omega
  | k + 1, h, hk => by
    unfold ofM
    obtain ⟨l', hl'⟩ : ∃ l', ls[k]? = some l' := ⟨ls[k]'(by omega), List.getElem?_eq_getElem _⟩
    rw [putE_get _ _ _ _ (by rw [ofM_len]; exact hv) (by rw [List.getD_eq_getElem?_getD, hl']; exact h0 l' (List.mem_of_getElem? hl')), List.getD_eq_getElem?_getD, hl', Option.getD_some]
    by_cases hx : (v : Int) ∈ l'
    · rw [if_pos hx, hu k l' hl' hx]
    · rw [if_neg hx]
      have hne : i ≠ k := by
        rintro rfl
        rw [hl] at hl'
        injection hl' with e
        subst e
        exact hx hm
      exact ofM_get hv h0 hl hm hu k (by omega) (by omega)
def ofT (t : Nat → Nat → Bool) (m : Nat) : List Int := ofM (setsE t m m) m (setsE t m m).length
theorem ofT_len (t : Nat → Nat → Bool) (m : Nat) : (ofT t m).length = m := ofM_len _ _ _
theorem Eqv.ofT_get {t : Nat → Nat → Bool} {m : Nat} (h : Eqv t m) {v u i : Nat} (hv : v < m) (hi : (leasts t m)[i]? = some u) (ht : t u v = true) : (ofT t m)[v]? = some (i : Int) := by
  have hul := List.mem_of_getElem? hi
  have hu := (mem_leasts.1 hul).1
  have hl : (setsE t m m)[i]? = some (setE t m u) := by rw [setsE_eq, List.getElem?_map, hi]; rfl
  refine ofM_get hv (fun l hl x hx => ?_) hl (setE_nat.2 ⟨hv, ht⟩) (fun j l' hj hm => ?_) _ ?_ (Nat.le_refl _)
  · obtain ⟨w, rfl⟩ := mem_setsE hl
    exact (mem_setE hx).1
  · rw [setsE_eq, List.getElem?_map] at hj
    cases hj' : (leasts t m)[j]? with
    | none => rw [hj'] at hj; cases hj
    | some u' =>
      rw [hj'] at hj
      injection hj with hj
      subst hj
      have hul' := List.mem_of_getElem? hj'
      have hu' := (mem_leasts.1 hul').1
      have e : u = u' := h.least_one hul hul' (h.trans u v u' hu hv hu' ht (h.symm u' v hu' hv (setE_nat.1 hm).2))
      subst e
      have h1 := (List.getElem?_eq_some_iff.1 hi).1
      have h2 := (List.getElem?_eq_some_iff.1 hj').1
      rcases Nat.lt_trichotomy i j with h3 | h3 | h3
      · have := List.pairwise_iff_getElem.1 (leasts_up t m) i j h1 h2 h3
        rw [(List.getElem?_eq_some_iff.1 hi).2, (List.getElem?_eq_some_iff.1 hj').2] at this
        omega
      · exact h3.symm
      · have := List.pairwise_iff_getElem.1 (leasts_up t m) j i h2 h1 h3
        rw [(List.getElem?_eq_some_iff.1 hi).2, (List.getElem?_eq_some_iff.1 hj').2] at this
        omega
  · exact (List.getElem?_eq_some_iff.1 hl).1
/-- Numbers that are one within classes, and rise with the least nodes, are these. -/
theorem Eqv.ofT_is {t : Nat → Nat → Bool} {m : Nat} (h : Eqv t m) {os : List Int} (hl : os.length = m) (ha : ∀ v w, v < m → w < m → t v w = true → os[v]? = os[w]?) (hb : ∀ (i u : Nat), (leasts t m)[i]? = some u → os[u]? = some (i : Int)) : os = ofT t m := by
  refine List.ext_getElem? fun v => ?_
  rcases Nat.lt_or_ge v m with hv | hv
  · obtain ⟨u, hu, ht⟩ := h.least hv
    obtain ⟨i, hi⟩ := List.getElem?_of_mem hu
    rw [h.ofT_get hv hi ht, ← ha u v (mem_leasts.1 hu).1 hv ht, hb i u hi]
  · rw [List.getElem?_eq_none (by omega), List.getElem?_eq_none (by rw [ofT_len]; omega)]
theorem Eqv.same {t : Nat → Nat → Bool} {m : Nat} (h : Eqv t m) {v w : Nat} (hv : v < m) (hw : w < m) : (ofT t m)[v]? = (ofT t m)[w]? ↔ t v w = true := by
  obtain ⟨u, hu, ht⟩ := h.least hv
  obtain ⟨i, hi⟩ := List.getElem?_of_mem hu
  obtain ⟨u', hu', ht'⟩ := h.least hw
  obtain ⟨j, hj⟩ := List.getElem?_of_mem hu'
  have hum := (mem_leasts.1 hu).1
  have hum' := (mem_leasts.1 hu').1
  rw [h.ofT_get hv hi ht, h.ofT_get hw hj ht']
  refine ⟨fun e => ?_, fun e => ?_⟩
  · injection e with e
    have : i = j := by omega
    subst this
    rw [hi] at hj
    injection hj with hj
    subst hj
    exact h.trans v u w hv hum hw (h.symm u v hum hv ht) ht'
  · have e2 : u = u' := h.least_one hu hu' (h.trans u v u' hum hv hum' ht (h.trans v w u' hv hw hum' e (h.symm u' w hum' hw ht')))
    subst e2
    have h1 := (List.getElem?_eq_some_iff.1 hi).1
    have h2 := (List.getElem?_eq_some_iff.1 hj).1
    rcases Nat.lt_trichotomy i j with h3 | h3 | h3
    · have := List.pairwise_iff_getElem.1 (leasts_up t m) i j h1 h2 h3
      rw [(List.getElem?_eq_some_iff.1 hi).2, (List.getElem?_eq_some_iff.1 hj).2] at this
      omega
    · rw [h3]
    · have := List.pairwise_iff_getElem.1 (leasts_up t m) j i h2 h1 h3
      rw [(List.getElem?_eq_some_iff.1 hi).2, (List.getElem?_eq_some_iff.1 hj).2] at this
      omega
theorem setsE_congr {t s : Nat → Nat → Bool} {m : Nat} (h : ∀ v w, v < m → w < m → t v w = s v w) : setsE t m m = setsE s m m := by
  have h1 : ∀ v, v < m → leastB t m v = leastB s m v := fun v hv => by
    rw [Bool.eq_iff_iff, leastB_iff, leastB_iff]
    exact ⟨fun hh w hw hs => hh w hw (by rw [h v w hv hw]; exact hs), fun hh w hw ht => hh w hw (by rw [← h v w hv hw]; exact ht)⟩
  have h2 : leasts t m = leasts s m := by
    unfold leasts
    exact List.filter_congr fun v hv => h1 v (List.mem_range.1 hv)
  rw [setsE_eq, setsE_eq, h2]
  refine List.map_congr_left fun v hv => ?_
  unfold setE
  rw [List.filter_congr fun w hw => h v w (mem_leasts.1 hv).1 (List.mem_range.1 hw)]
theorem ofT_congr {t s : Nat → Nat → Bool} {m : Nat} (h : ∀ v w, v < m → w < m → t v w = s v w) : ofT t m = ofT s m := by unfold ofT; rw [setsE_congr h]
/-- Together, by rows of edges. -/
def Tog (zs : List Ed) (v w : Nat) : Prop := v = w ∨ (Leads zs (v : Int) (w : Int) ∧ Leads zs (w : Int) (v : Int))
theorem AllM.cell {zs : List Ed} {m : Nat} {ms : List (List Bool)} (h : AllM zs m ms) {v w : Nat} (hv : v < m) (hw : w < m) : cellM ms v w = true ↔ Leads zs (v : Int) (w : Int) := by
  obtain ⟨bs, hb⟩ : ∃ bs, ms[v]? = some bs := ⟨ms[v]'(by rw [h.len]; exact hv), List.getElem?_eq_getElem _⟩
  obtain ⟨hl, hr⟩ := h.row v bs hb
  obtain ⟨b, hbw⟩ : ∃ b, bs[w]? = some b := ⟨bs[w]'(by omega), List.getElem?_eq_getElem _⟩
  rw [cellM_is hb hbw, ← hr w, hbw]
  simp
theorem AllM.tog {zs : List Ed} {m : Nat} {ms : List (List Bool)} (h : AllM zs m ms) {v w : Nat} (hv : v < m) (hw : w < m) : togM ms v w = true ↔ Tog zs v w := by
  unfold togM Tog
  rw [Bool.or_eq_true, Bool.and_eq_true, h.cell hv hw, h.cell hw hv, decide_eq_true_eq]
  exact ⟨fun e => e.elim (fun e => .inl e.symm) .inr, fun e => e.elim (fun e => .inl e.symm) .inr⟩
theorem Tog.symm {zs : List Ed} {v w : Nat} (h : Tog zs v w) : Tog zs w v := h.elim (fun e => .inl e.symm) (fun e => .inr ⟨e.2, e.1⟩)
theorem Tog.trans {zs : List Ed} {u v w : Nat} (h : Tog zs u v) (k : Tog zs v w) : Tog zs u w := by
  rcases h with rfl | h
  · exact k
  · rcases k with rfl | k
    · exact .inr h
    · exact .inr ⟨h.1.trans k.1, k.2.trans h.2⟩
theorem AllM.eqv {zs : List Ed} {m : Nat} {ms : List (List Bool)} (h : AllM zs m ms) : Eqv (togM ms) m :=
  ⟨fun _ hv => (h.tog hv hv).2 (.inl rfl), fun _ _ hv hw ht => (h.tog hw hv).2 ((h.tog hv hw).1 ht).symm, fun _ _ _ hu hv hw h1 h2 => (h.tog hu hw).2 (((h.tog hu hv).1 h1).trans ((h.tog hv hw).1 h2))⟩
theorem AllM.congr {zs ys : List Ed} {m : Nat} {ms ns : List (List Bool)} (h : AllM zs m ms) (k : AllM ys m ns) (ht : ∀ v w, v < m → w < m → (Tog zs v w ↔ Tog ys v w)) : ∀ v w, v < m → w < m → togM ms v w = togM ns v w := fun v w hv hw => by
  rw [Bool.eq_iff_iff, h.tog hv hw, k.tog hv hw]
  exact ht v w hv hw
theorem Comps.congr {zs ys : List Ed} {m : Nat} {ls ls' : List (List Int)} {os os' : List Int} (h : Comps zs m ls os) (k : Comps ys m ls' os') (ht : ∀ v w, v < m → w < m → (Tog zs v w ↔ Tog ys v w)) : ls = ls' ∧ os = os' := by
  obtain ⟨ms, h1, rfl, rfl⟩ := h
  obtain ⟨ns, k1, rfl, rfl⟩ := k
  have := setsE_congr (h1.congr k1 ht)
  rw [this]
  exact ⟨rfl, rfl⟩
theorem Comps.same {zs : List Ed} {m : Nat} {ls : List (List Int)} {os : List Int} (h : Comps zs m ls os) {v w : Nat} (hv : v < m) (hw : w < m) : os[v]? = os[w]? ↔ Tog zs v w := by
  obtain ⟨ms, h1, rfl, rfl⟩ := h
  rw [← h1.tog hv hw]
  exact h1.eqv.same hv hw
end Go.Proofs.Ytkebeadaoiiokaa
namespace Go.Proofs.Ytkebeadaoiiokaa
open Go.RowKit

theorem getD_of {os : List Int} {m v : Nat} (hl : os.length = m) (hv : v < m) : os[v]? = some (os.getD v 0) := by
  rw [List.getD_eq_getElem?_getD, List.getElem?_eq_getElem (by omega)]
  rfl
theorem Comps.sameOf {zs : List Ed} {m : Nat} {ls : List (List Int)} {os : List Int} (h : Comps zs m ls os) {p : Ed} (hp : rightE (m : Int) p = true) : sameOf os p = true ↔ Tog zs p.1.toNat p.2.1.toNat := by
  have hr := of_decide_eq_true hp
  have h1 : p.1.toNat < m := by omega
  have h2 : p.2.1.toNat < m := by omega
  rw [← h.same h1 h2, getD_of h.len.1 h1, getD_of h.len.1 h2]
  unfold Go.Proofs.Ytkebeadaoiiokaa.sameOf ofFrom ofTo
  rw [beq_iff_eq, Option.some.injEq]
/-- The first edge of a row of them. -/
theorem Leads.first {zs : List Ed} {u v : Int} (h : Leads zs u v) : ∃ p ∈ zs, p.1 = u ∧ (p.2.1 = v ∨ Leads zs p.2.1 v) := by
  induction h with
  | one hp hu => exact ⟨_, hp, hu, .inl rfl⟩
  | more _ hp ih =>
    obtain ⟨q, hq, hu, hv⟩ := ih
    refine ⟨q, hq, hu, .inr ?_⟩
    rcases hv with hv | hv
    · exact .one hp hv.symm
    · exact .more hv hp
/-- Whoever goes round is together with another one. -/
theorem round_iff {zs : List Ed} {nodes : Int} (hz : ∀ p ∈ zs, rightE nodes p = true) (v : Nat) : Leads zs (v : Int) (v : Int) ↔ ∃ w : Nat, w ≠ v ∧ Tog zs v w := by
  constructor
  · intro h
    obtain ⟨p, hp, hu, hv⟩ := h.first
    have hr := of_decide_eq_true (hz p hp)
    refine ⟨p.2.1.toNat, by omega, .inr ?_⟩
    rw [show ((p.2.1.toNat : Nat) : Int) = p.2.1 from by omega]
    refine ⟨.one hp hu, ?_⟩
    rcases hv with hv | hv
    · exact absurd (hu.trans hv.symm) hr.2.2.1
    · exact hv
  · rintro ⟨w, hw, h | h⟩
    · exact absurd h.symm hw
    · exact h.1.trans h.2
/-- Within components. -/
theorem leads_inner {zs : List Ed} {m : Nat} {ls : List (List Int)} {os : List Int} (hz : ∀ p ∈ zs, rightE (m : Int) p = true) (h : Comps zs m ls os) (u v : Nat) : Leads (zs.filter (sameOf os)) (u : Int) (v : Int) ↔ Leads zs (u : Int) (v : Int) ∧ Tog zs u v := by
  constructor
  · intro hl
    have key : ∀ y : Int, Leads (zs.filter (sameOf os)) (u : Int) y → Leads zs (u : Int) y ∧ Tog zs u y.toNat := by
      intro y hy
      induction hy with
      | @one p hp hu =>
        have hp2 := List.mem_filter.1 hp
        have := (h.sameOf (hz p hp2.1)).1 hp2.2
        refine ⟨.one hp2.1 hu, ?_⟩
        rwa [hu, Int.toNat_natCast] at this
      | @more p hl hp ih =>
        have hp2 := List.mem_filter.1 hp
        exact ⟨.more ih.1 hp2.1, ih.2.trans ((h.sameOf (hz p hp2.1)).1 hp2.2)⟩
    have := key v hl
    rwa [Int.toNat_natCast] at this
  · rintro ⟨hl, ht⟩
    have hback : u = v ∨ Leads zs (v : Int) (u : Int) := ht.elim .inl (fun e => .inr e.2)
    have key : ∀ y : Int, Leads zs (u : Int) y → (y = (u : Int) ∨ Leads zs y (u : Int)) → Leads (zs.filter (sameOf os)) (u : Int) y := by
      intro y hy
      induction hy with
      | @one p hp hu =>
        intro hb
        have hr := of_decide_eq_true (hz p hp)
        refine .one (List.mem_filter.2 ⟨hp, (h.sameOf (hz p hp)).2 ?_⟩) hu
        rcases hb with hb | hb
        · exact absurd (hu.trans hb.symm) hr.2.2.1
        · refine .inr ?_
          rw [show ((p.1.toNat : Nat) : Int) = p.1 from by omega, show ((p.2.1.toNat : Nat) : Int) = p.2.1 from by omega]
          exact ⟨.one hp rfl, by rw [hu]; exact hb⟩
      | @more p hl hp ih =>
        intro hb
        have hr := of_decide_eq_true (hz p hp)
        have hpu : Leads zs p.1 (u : Int) := by
          rcases hb with hb | hb
          · have : Leads zs p.1 p.2.1 := .one hp rfl
            rwa [hb] at this
          · exact (Leads.one hp rfl).trans hb
        refine .more (ih (.inr hpu)) (List.mem_filter.2 ⟨hp, (h.sameOf (hz p hp)).2 (.inr ?_)⟩)
        rw [show ((p.1.toNat : Nat) : Int) = p.1 from by omega, show ((p.2.1.toNat : Nat) : Int) = p.2.1 from by omega]
        refine ⟨.one hp rfl, ?_⟩
        rcases hb with hb | hb
        · rw [hb]; exact hl
        · exact hb.trans hl
    refine key v hl ?_
    rcases hback with hb | hb
    · exact .inl (by rw [hb])
    · exact .inr hb
theorem tog_inner {zs : List Ed} {m : Nat} {ls : List (List Int)} {os : List Int} (hz : ∀ p ∈ zs, rightE (m : Int) p = true) (h : Comps zs m ls os) (u v : Nat) : Tog (zs.filter (sameOf os)) u v ↔ Tog zs u v := by
  unfold Tog
  rw [leads_inner hz h, leads_inner hz h]
  refine ⟨fun e => e.elim .inl (fun e => .inr ⟨e.1.1, e.2.1⟩), fun e => ?_⟩
  rcases e with e | e
  · exact .inl e
  · exact .inr ⟨⟨e.1, .inr e⟩, ⟨e.2, .inr ⟨e.2, e.1⟩⟩⟩
/-- Turned round. -/
theorem leads_flip {zs ys : List Ed} (hy : ∀ p, p ∈ ys ↔ flipE p ∈ zs) {u v : Int} (h : Leads ys u v) : Leads zs v u := by
  induction h with
  | @one p hp hu => exact hu ▸ Leads.one (p := flipE p) ((hy p).1 hp) rfl
  | @more p _ hp ih => exact (Leads.one (p := flipE p) ((hy p).1 hp) rfl).trans ih
theorem tog_back {zs : List Ed} {nodes : Int} (h : IsG nodes zs) (u v : Nat) : Tog (backE zs) u v ↔ Tog zs u v := by
  have h1 := fun p => mem_back h p
  have h2 : ∀ p, p ∈ zs ↔ flipE p ∈ backE zs := fun p => by rw [h1, flip_flip]
  unfold Tog
  refine ⟨fun e => e.elim .inl (fun e => .inr ⟨leads_flip h1 e.2, leads_flip h1 e.1⟩), fun e => e.elim .inl (fun e => .inr ⟨leads_flip h2 e.2, leads_flip h2 e.1⟩)⟩
/-- What leads in Fold leads in the graph. -/
theorem leads_fold {zs fs : List Ed} {m : Nat} {ls : List (List Int)} {os : List Int} (hz : ∀ p ∈ zs, rightE (m : Int) p = true) (h : Comps zs m ls os) (hf : ∀ q, q ∈ fs ↔ q ∈ foldL os zs) {i j : Int} (hl : Leads fs i j) :
    ∀ v w : Nat, v < m → w < m → os[v]? = some i → os[w]? = some j → Tog zs v w ∨ Leads zs (v : Int) (w : Int) := by
  have edge : ∀ q ∈ fs, ∃ p ∈ zs, os[p.1.toNat]? = some q.1 ∧ os[p.2.1.toNat]? = some q.2.1 := by
    intro q hq
    have hq2 := (hf q).1 hq
    unfold foldL at hq2
    obtain ⟨p, hp, rfl⟩ := List.mem_map.1 hq2
    have hp2 := (List.mem_filter.1 hp).1
    have hr := of_decide_eq_true (hz p hp2)
    exact ⟨p, hp2, getD_of h.len.1 (by omega), getD_of h.len.1 (by omega)⟩
  have two : ∀ p ∈ zs, ∀ v w : Nat, v < m → w < m → os[v]? = os[p.1.toNat]? → os[w]? = os[p.2.1.toNat]? → Leads zs (v : Int) (w : Int) := by
    intro p hp v w hv hw h1 h2
    have hr := of_decide_eq_true (hz p hp)
    have t1 := (h.same hv (by omega)).1 h1
    have t2 := (h.same hw (by omega)).1 h2
    have l0 : Leads zs ((p.1.toNat : Nat) : Int) ((p.2.1.toNat : Nat) : Int) := by
      rw [show ((p.1.toNat : Nat) : Int) = p.1 from by omega, show ((p.2.1.toNat : Nat) : Int) = p.2.1 from by omega]
      exact .one hp rfl
    have l1 : Leads zs (v : Int) ((p.2.1.toNat : Nat) : Int) := by
      rcases t1 with e | e
      · rw [e]; exact l0
      · exact e.1.trans l0
    rcases t2 with e | e
    · rw [e]; exact l1
    · exact l1.trans e.2
  induction hl with
  | @one q hq hu =>
    intro v w hv hw h1 h2
    obtain ⟨p, hp, e1, e2⟩ := edge q hq
    exact .inr (two p hp v w hv hw (by rw [h1, e1, hu]) (by rw [h2, e2]))
  | @more q _ hq ih =>
    intro v w hv hw h1 h2
    obtain ⟨p, hp, e1, e2⟩ := edge q hq
    have hr := of_decide_eq_true (hz p hp)
    have hpm : p.1.toNat < m := by omega
    have l2 := two p hp p.1.toNat w hpm hw rfl (by rw [h2, e2])
    rcases ih v p.1.toNat hv hpm h1 e1 with ht | ht
    · rcases ht with e | e
      · rw [e]; exact .inr l2
      · exact .inr (e.1.trans l2)
    · exact .inr (ht.trans l2)
/-- Fold's edges are between its nodes. -/
theorem Comps.num {zs : List Ed} {m : Nat} {ls : List (List Int)} {os : List Int} (h : Comps zs m ls os) {v : Nat} (hv : v < m) : ∃ i : Nat, os[v]? = some (i : Int) ∧ i < ls.length := by
  obtain ⟨ms, h1, rfl, rfl⟩ := h
  obtain ⟨u, hu, ht⟩ := h1.eqv.least hv
  obtain ⟨i, hi⟩ := List.getElem?_of_mem hu
  refine ⟨i, h1.eqv.ofT_get hv hi ht, ?_⟩
  rw [setsE_eq, List.length_map]
  exact (List.getElem?_eq_some_iff.1 hi).1
theorem Comps.has {zs : List Ed} {m : Nat} {ls : List (List Int)} {os : List Int} (h : Comps zs m ls os) {i : Nat} (hi : i < ls.length) : ∃ v : Nat, v < m ∧ os[v]? = some (i : Int) := by
  obtain ⟨ms, h1, rfl, rfl⟩ := h
  rw [setsE_eq, List.length_map] at hi
  have hi2 : (leasts (togM ms) m)[i]? = some ((leasts (togM ms) m)[i]'hi) := List.getElem?_eq_getElem hi
  have hm := (mem_leasts.1 (List.mem_of_getElem? hi2)).1
  exact ⟨_, hm, h1.eqv.ofT_get hm hi2 (h1.eqv.refl _ hm)⟩
theorem fold_right {zs : List Ed} {m : Nat} {ls : List (List Int)} {os : List Int} (hz : ∀ p ∈ zs, rightE (m : Int) p = true) (h : Comps zs m ls os) : ∀ q ∈ foldL os zs, rightE (ls.length : Int) q = true := by
  intro q hq
  unfold foldL at hq
  obtain ⟨p, hp, rfl⟩ := List.mem_map.1 hq
  obtain ⟨hp1, hp2⟩ := List.mem_filter.1 hp
  have hr := of_decide_eq_true (hz p hp1)
  have h1 : p.1.toNat < m := by omega
  have h2 : p.2.1.toNat < m := by omega
  obtain ⟨i, hi, hil⟩ := h.num h1
  obtain ⟨j, hj, hjl⟩ := h.num h2
  have e1 : ofFrom os p = (i : Int) := by unfold ofFrom; rw [List.getD_eq_getElem?_getD, hi]; rfl
  have e2 : ofTo os p = (j : Int) := by unfold ofTo; rw [List.getD_eq_getElem?_getD, hj]; rfl
  unfold Go.Proofs.Ytkebeadaoiiokaa.sameOf at hp2
  rw [e1, e2] at hp2
  have hne : (i : Int) ≠ (j : Int) := by simpa using hp2
  have e3 : foldP os p = ((i : Int), (j : Int), p.2.2) := by unfold foldP; rw [e1, e2]
  rw [e3]
  exact decide_eq_true ⟨⟨by show (0 : Int) ≤ (i : Int); omega, by show (i : Int) < (ls.length : Int); omega⟩, ⟨by show (0 : Int) ≤ (j : Int); omega, by show (j : Int) < (ls.length : Int); omega⟩, hne, hr.2.2.2⟩
/-- Fold is not cyclic. -/
theorem fold_no_round {zs fs : List Ed} {m : Nat} {ls : List (List Int)} {os : List Int} (hz : ∀ p ∈ zs, rightE (m : Int) p = true) (h : Comps zs m ls os) (hf : ∀ q, q ∈ fs ↔ q ∈ foldL os zs) (i : Nat) : ¬ Leads fs (i : Int) (i : Int) := by
  intro hl
  have hfr : ∀ q ∈ fs, rightE (ls.length : Int) q = true := fun q hq => fold_right hz h q ((hf q).1 hq)
  obtain ⟨j, hj, ht⟩ := (round_iff hfr i).1 hl
  rcases ht with e | ⟨e1, e2⟩
  · exact hj e.symm
  · have r1 := e1.ends hfr
    obtain ⟨v, hv, hvi⟩ := h.has (i := i) (by omega)
    obtain ⟨w, hw, hwj⟩ := h.has (i := j) (by omega)
    have a1 := leads_fold hz h hf e1 v w hv hw hvi hwj
    have a2 := leads_fold hz h hf e2 w v hw hv hwj hvi
    have : Tog zs v w := by
      rcases a1 with a1 | a1
      · exact a1
      · rcases a2 with a2 | a2
        · exact a2.symm
        · exact .inr ⟨a1, a2⟩
    have := (h.same hv hw).2 this
    rw [hvi, hwj] at this
    injection this with this
    omega
/-- One edge more. -/
theorem leads_edge {zs ys : List Ed} {e : Ed} (hy : ∀ p, p ∈ ys ↔ p ∈ zs ∨ p = e) (u v : Int) : Leads ys u v ↔ Leads zs u v ∨ ((u = e.1 ∨ Leads zs u e.1) ∧ (v = e.2.1 ∨ Leads zs e.2.1 v)) := by
  constructor
  · intro h
    induction h with
    | @one p hp hu =>
      rcases (hy p).1 hp with hp | rfl
      · exact .inl (.one hp hu)
      · exact .inr ⟨.inl hu.symm, .inl rfl⟩
    | @more p _ hp ih =>
      rcases (hy p).1 hp with hp | rfl
      · rcases ih with ih | ⟨ih1, ih2⟩
        · exact .inl (.more ih hp)
        · refine .inr ⟨ih1, .inr ?_⟩
          rcases ih2 with ih2 | ih2
          · exact .one hp ih2
          · exact .more ih2 hp
      · rcases ih with ih | ⟨ih1, _⟩
        · exact .inr ⟨.inr ih, .inl rfl⟩
        · exact .inr ⟨ih1, .inl rfl⟩
  · have hs : ∀ p ∈ zs, p ∈ ys := fun p hp => (hy p).2 (.inl hp)
    have he : Leads ys e.1 e.2.1 := .one ((hy e).2 (.inr rfl)) rfl
    rintro (h | ⟨h1, h2⟩)
    · exact h.mono hs
    · have a : Leads ys u e.2.1 := by
        rcases h1 with rfl | h1
        · exact he
        · exact (h1.mono hs).trans he
      rcases h2 with rfl | h2
      · exact a
      · exact a.trans (h2.mono hs)
/-- An edge that leads as the graph does already changes nothing. -/
theorem leads_there {zs ys : List Ed} {e : Ed} (hy : ∀ p, p ∈ ys ↔ p ∈ zs ∨ p = e) (hl : Leads zs e.1 e.2.1) (u v : Int) : Leads ys u v ↔ Leads zs u v := by
  rw [leads_edge hy]
  refine ⟨fun h => ?_, .inl⟩
  rcases h with h | ⟨h1, h2⟩
  · exact h
  · have a : Leads zs u e.2.1 := by
      rcases h1 with rfl | h1
      · exact hl
      · exact h1.trans hl
    rcases h2 with rfl | h2
    · exact a
    · exact a.trans h2
/-- An edge back puts both together just if there is a way. -/
theorem tog_edge {zs ys : List Ed} {e : Ed} {from_ to_ : Nat} (h1 : e.1 = (to_ : Int)) (h2 : e.2.1 = (from_ : Int)) (hne : from_ ≠ to_) (hy : ∀ p, p ∈ ys ↔ p ∈ zs ∨ p = e) : Tog ys from_ to_ ↔ Leads zs (from_ : Int) (to_ : Int) := by
  have hb : Leads ys (to_ : Int) (from_ : Int) := by rw [← h1, ← h2]; exact .one ((hy e).2 (.inr rfl)) rfl
  have hs : ∀ p ∈ zs, p ∈ ys := fun p hp => (hy p).2 (.inl hp)
  constructor
  · rintro (h | h)
    · exact absurd h hne
    · rcases (leads_edge hy _ _).1 h.1 with h | ⟨h3, _⟩
      · exact h
      · rw [h1] at h3
        rcases h3 with h3 | h3
        · exact absurd (by omega) hne
        · exact h3
  · intro h
    exact .inr ⟨h.mono hs, hb⟩
end Go.Proofs.Ytkebeadaoiiokaa
namespace Go.Proofs.Ytkebeadaoiiokaa
open Go.RowKit Go.Shelf

set_option maxRecDepth 100000 in
set_option maxHeartbeats 2000000 in
theorem own6_any (nodes : Int) (A : Option Addr) (n c : Nat) (zs : List Ed) (hc : A = none → c = 0) (hnc : n ≤ c) (hcm : c ≤ 9223372036854775807) (w : World) (hR : Reads w w.heap.size 3 A n (cellsE zs)) :
    Calls Try.prog 8 #[.agg #[.int .i64 nodes, .slice A n c]] w (GIs nodes (zs.take 600) w) := by
  obtain ⟨k0, k1, b0⟩ := two_new w #[.int .i64 nodes, .slice A n c] #[.int .i64 0, .slice none 0 0] 24 24
  have hl := reads_len hR
  have hk6 : min n 600 ≤ n ∧ min n 600 ≤ 600 := by omega
  have hmin : min (n : Int) 600 = ((min n 600 : Nat) : Int) := by omega
  have hsl := fun W => pr_slice_h A n c (min n 600) ((min n 600 : Nat) : Int) rfl (by omega) W
  have hcl := clone_any A (min n 600) c (zs.take 600) (by omega) hc (by omega) _ (show Reads ((w.alloc (.cells #[.int .i64 nodes, .slice A n c] 24)).alloc (.cells #[.int .i64 0, .slice none 0 0] 24)).drew _ 3 A (min n 600) (cellsE (zs.take 600)) from by
    have h1 := ((hR.below b0).more b0.size)
    rcases Nat.le_total n 600 with h | h
    · rw [Nat.min_eq_left h, List.take_of_length_le (by omega)]; exact h1
    · rw [Nat.min_eq_right h, cellsE_take]; exact reads_take h1 h)
  have hlt : (zs.take 600).length = min n 600 := by rw [List.length_take]; omega
  generalize zs.take 600 = ts at *
  rw [← hlt] at hk6 hmin hsl hcl
  have HC := Lib.hid hcl
  have HSS : Hid (∀ W, Below ((w.alloc (.cells #[.int .i64 nodes, .slice A n c] 24)).alloc (.cells #[.int .i64 0, .slice none 0 0] 24)).heap.size ((w.alloc (.cells #[.int .i64 nodes, .slice A n c] 24)).alloc (.cells #[.int .i64 0, .slice none 0 0] 24)) W →
      Blk W w.heap.size 24 #[.int .i64 nodes, .slice A n c] ∧ Blk W (w.heap.size + 1) 24 #[.int .i64 0, .slice none 0 0]) := fun W h => ⟨k0.below h k0.lt, k1.below h k1.lt⟩
  have B0 := Lib.hid b0
  clear hR k0 k1 b0 hl hcl hlt hc hk6
  go_enter Try.func8, Try.ntmps8
  go_wp2_with fail
  generalize (w.alloc (.cells #[.int .i64 nodes, .slice A n c] 24)).alloc (.cells #[.int .i64 0, .slice none 0 0] 24) = W0 at *
  have J0 : Hid (Below W0.heap.size W0 W0.drew) := (Below.refl _ _).drew
  refine wp_region_noPanic ?_
  refine wp_region_held_drew (S := fun W => W.cell? ⟨w.heap.size, 0, none⟩ = some (.int .i64 nodes) ∧ W.cell? ⟨w.heap.size, 1, none⟩ = some (.slice A n c)) (by kernel_rfl) ⟨(HSS.out _ J0.out).1.cell 0, (HSS.out _ J0.out).1.cell 1⟩ (fun hHeld => ?_)
  refine wpAnyH_take (i := 0) (oi := { dst := some 3, op := Op.fieldAddr 24 (Operand.tmp 1) 0, type := 0, pos := "law.go:30", after := #[], guard := none }) (v := .pointer (some ⟨w.heap.size, 0, none⟩)) rfl (by kernel_rfl) (by kernel_rfl) (by kernel_rfl) (fun _ _ _ h => h) (Or.inl ⟨by kernel_rfl, fun w' hSw => by (try dsimp only at hSw); go_simp⟩) (by assumption) ?_
  try simp only [Act.put, List.setIfInBounds_toArray, List.set_cons_zero, List.set_cons_succ]
  refine wpAnyH_take (i := 1) (oi := { dst := some 4, op := Op.load 3 (Operand.tmp 3), type := 3, pos := "law.go:30", after := #[{ on := 0, ground := Ground.data }], guard := none }) (v := .int .i64 nodes) rfl (by kernel_rfl) (by kernel_rfl) (by kernel_rfl) (fun _ _ _ h => h) (Or.inl ⟨by kernel_rfl, fun w' hSw => by (try dsimp only at hSw); go_simp⟩) (by assumption) ?_
  try simp only [Act.put, List.setIfInBounds_toArray, List.set_cons_zero, List.set_cons_succ]
  refine wpAnyH_take (i := 2) (oi := { dst := some 5, op := Op.fieldAddr 24 (Operand.tmp 1) 1, type := 0, pos := "law.go:30", after := #[], guard := none }) (v := .pointer (some ⟨w.heap.size, 1, none⟩)) rfl (by kernel_rfl) (by kernel_rfl) (by kernel_rfl) (fun _ _ _ h => h) (Or.inl ⟨by kernel_rfl, fun w' hSw => by (try dsimp only at hSw); go_simp⟩) (by assumption) ?_
  try simp only [Act.put, List.setIfInBounds_toArray, List.set_cons_zero, List.set_cons_succ]
  refine wpAnyH_take (i := 3) (oi := { dst := some 6, op := Op.load 22 (Operand.tmp 5), type := 22, pos := "law.go:30", after := #[{ on := 2, ground := Ground.data }], guard := none }) (v := .slice A n c) rfl (by kernel_rfl) (by kernel_rfl) (by kernel_rfl) (fun _ _ _ h => h) (Or.inl ⟨by kernel_rfl, fun w' hSw => by (try dsimp only at hSw); go_simp⟩) (by assumption) ?_
  try simp only [Act.put, List.setIfInBounds_toArray, List.set_cons_zero, List.set_cons_succ]
  refine wpAnyH_take (i := 4) (oi := { dst := some 7, op := Op.fieldAddr 24 (Operand.tmp 1) 1, type := 0, pos := "law.go:30", after := #[], guard := none }) (v := .pointer (some ⟨w.heap.size, 1, none⟩)) rfl (by kernel_rfl) (by kernel_rfl) (by kernel_rfl) (fun _ _ _ h => h) (Or.inl ⟨by kernel_rfl, fun w' hSw => by (try dsimp only at hSw); go_simp⟩) (by assumption) ?_
  try simp only [Act.put, List.setIfInBounds_toArray, List.set_cons_zero, List.set_cons_succ]
  refine wpAnyH_take (i := 5) (oi := { dst := some 8, op := Op.load 22 (Operand.tmp 7), type := 22, pos := "law.go:30", after := #[{ on := 4, ground := Ground.data }], guard := none }) (v := .slice A n c) rfl (by kernel_rfl) (by kernel_rfl) (by kernel_rfl) (fun _ _ _ h => h) (Or.inl ⟨by kernel_rfl, fun w' hSw => by (try dsimp only at hSw); go_simp⟩) (by assumption) ?_
  try simp only [Act.put, List.setIfInBounds_toArray, List.set_cons_zero, List.set_cons_succ]
  refine wpAnyH_take (i := 6) (oi := { dst := some 9, op := Op.call { callee := Callee.builtin Builtin.len, args := #[Operand.tmp 8], argTypes := #[22] }, type := 3, pos := "law.go:30", after := #[{ on := 5, ground := Ground.data }], guard := none }) (v := .int .i64 (n : Int)) rfl (by kernel_rfl) (by kernel_rfl) (by kernel_rfl) (fun _ _ _ h => h) (Or.inl ⟨by kernel_rfl, fun w' hSw => by (try dsimp only at hSw); go_simp⟩) (by assumption) ?_
  try simp only [Act.put, List.setIfInBounds_toArray, List.set_cons_zero, List.set_cons_succ]
  refine wpAnyH_take (i := 7) (oi := { dst := some 10, op := Op.call { callee := Callee.builtin Builtin.min, args := #[Operand.tmp 9, Operand.const (Value.int IntKind.i64 600)], argTypes := #[3, 3] }, type := 3, pos := "law.go:30", after := #[{ on := 6, ground := Ground.data }], guard := none }) (v := .int .i64 (ts.length : Int)) rfl (by kernel_rfl) (by kernel_rfl) (by kernel_rfl) (fun _ _ _ h => h) (Or.inl ⟨by kernel_rfl, fun w' hSw => by (try dsimp only at hSw); go_simp⟩) (by assumption) ?_
  try simp only [Act.put, List.setIfInBounds_toArray, List.set_cons_zero, List.set_cons_succ]
  refine wpAnyH_take (i := 8) (oi := { dst := some 11, op := Op.slice 22 (Operand.tmp 6) none (some (Operand.tmp 10)) none, type := 22, pos := "law.go:30", after := #[{ on := 3, ground := Ground.data }, { on := 7, ground := Ground.data }], guard := none }) (v := .slice A ts.length c) rfl (by kernel_rfl) (by kernel_rfl) (by kernel_rfl) (fun _ _ _ h => h) (Or.inl ⟨by kernel_rfl, fun w' hSw => by (try dsimp only at hSw); go_simp⟩) (by assumption) ?_
  try simp only [Act.put, List.setIfInBounds_toArray, List.set_cons_zero, List.set_cons_succ]
  refine wpAnyH_ready (rs := [9]) (by kernel_rfl) (by simp) ?_
  refine AllReadyH.cons (o := { dst := some 12, op := Op.call { callee := Callee.value (Operand.func 27), args := #[Operand.tmp 11], argTypes := #[22] }, type := 22, pos := "law.go:30", after := #[{ on := 8, ground := Ground.data }], guard := none }) rfl (fun K hK => ?_) AllReadyH.nil
  go_simp
  refine HC.out.mono ?_
  rintro e w2 ⟨A2, c2, rfl, h1, h2, h3, h4⟩
  have J1 : Hid (Below W0.heap.size W0 w2) := J0.out.trans (h4.mono J0.out.size)
  have HG := Lib.hid (And.intro h1 (And.intro h2 h3))
  have q0 := (HSS.out _ J1.out).2.cell 0
  have q1 := (HSS.out _ J1.out).2.cell 1
  have q2 := (HSS.out _ J1.out).2.frozen 0
  have q3 := (HSS.out _ J1.out).2.frozen 1
  clear h1 h2 h3 h4 hHeld
  refine hK.out _ _ ⟨(HSS.out _ J1.out).1.cell 0, (HSS.out _ J1.out).1.cell 1⟩ (fun hHeld => ?_)
  clear hK K
  try simp only [Act.put, List.setIfInBounds_toArray, List.set_cons_zero, List.set_cons_succ]
  refine wpAnyH_take (i := 10) (oi := { dst := some 13, op := Op.build 24 #[(0, Operand.tmp 4), (1, Operand.tmp 12)], type := 24, pos := "law.go:30", after := #[{ on := 1, ground := Ground.data }, { on := 9, ground := Ground.data }], guard := none }) (v := .agg #[.int .i64 nodes, .slice A2 ts.length c2]) rfl (by kernel_rfl) (by kernel_rfl) (by kernel_rfl) (fun _ _ _ h => h) (Or.inl ⟨by kernel_rfl, fun w' hSw => by (try dsimp only at hSw); go_simp⟩) (by assumption) ?_
  try simp only [Act.put, List.setIfInBounds_toArray, List.set_cons_zero, List.set_cons_succ]
  refine wpAnyH_ready (rs := [11]) (by kernel_rfl) (by simp) ?_
  refine AllReadyH.cons (o := { dst := none, op := Op.store 24 (Operand.tmp 2) (Operand.tmp 13), type := 0, pos := "law.go:30", after := #[{ on := 10, ground := Ground.data }, { on := 9, ground := Ground.chain }, { on := 0, ground := Ground.phase }, { on := 1, ground := Ground.phase }, { on := 2, ground := Ground.phase }, { on := 3, ground := Ground.phase }, { on := 4, ground := Ground.phase }, { on := 5, ground := Ground.phase }, { on := 6, ground := Ground.phase }, { on := 7, ground := Ground.phase }, { on := 8, ground := Ground.phase }, { on := 9, ground := Ground.phase }, { on := 10, ground := Ground.phase }], guard := none }) rfl (fun K hK => ?_) AllReadyH.nil
  go_simp
  have y0 := (store2 (HSS.out _ J1.out).2 (.int .i64 nodes) (.slice A2 ts.length c2)).cell 0
  have y1 := (store2 (HSS.out _ J1.out).2 (.int .i64 nodes) (.slice A2 ts.length c2)).cell 1
  have HE : Hid (GIs nodes ts w (.returned (.agg #[.int .i64 nodes, .slice A2 ts.length c2])) ((w2.setCell ⟨w.heap.size + 1, 0, none⟩ (.int .i64 nodes)).setCell ⟨w.heap.size + 1, 1, none⟩ (.slice A2 ts.length c2))) := ⟨A2, c2, rfl, own_store2 (own_base HG.out.1 (Nat.le_trans B0.out.size J0.out.size)) (HSS.out _ J1.out).2 (by decide) _ _, HG.out.2.1, HG.out.2.2, below_store2 (B0.out.trans (J1.out.mono B0.out.size)) (Nat.le_succ _) _ _⟩
  have b9 := ((HSS.out _ J1.out).1.far (p := ⟨w.heap.size + 1, 0, none⟩) (by simp) (.int .i64 nodes)).far (p := ⟨w.heap.size + 1, 1, none⟩) (by simp) (.slice A2 ts.length c2)
  clear hHeld q0 q1 q2 q3
  refine hK.out _ _ ⟨b9.cell 0, b9.cell 1⟩ (fun hHeld => ?_)
  clear hK K
  try simp only [Act.put, List.setIfInBounds_toArray, List.set_cons_zero, List.set_cons_succ]
  refine wpAnyH_done (by kernel_rfl) ?_ _
  refine NoPanic.normal ?_
  go_wp2_with fail
  exact bodyPost_ret (v := .agg #[.int .i64 nodes, .slice A2 ts.length c2]) (by simp [results, Try.results8, go_sem, y0, y1]) rfl HE.out
/-- The chapter's graph. -/
def small6 : List Ed := [(0, 1, 0), (1, 2, 0), (2, 1, 0), (3, 0, 0)]
def small6A : Array Value := #[.int .i64 0, .int .i64 1, .int .i64 0, .int .i64 1, .int .i64 2, .int .i64 0, .int .i64 2, .int .i64 1, .int .i64 0, .int .i64 3, .int .i64 0, .int .i64 0]
theorem small6_any (w : World) : Calls Try.prog 28 #[] w fun e w' => ∃ A c, e = .returned (.agg #[.int .i64 4, .slice A 4 c]) ∧ Reads w' w'.heap.size 3 A 4 (cellsE small6) ∧ 4 ≤ c ∧ c ≤ 9223372036854775807 ∧ (A = none → c = 0) ∧ Below w.heap.size w w' := by
  have b0 : Below w.heap.size w (w.alloc (.cells #[.int .i64 4, .slice (some ⟨w.heap.size + 1, 0, none⟩) 4 4] 24)) := (Below.refl _ _).alloc (Nat.le_refl _) _
  have E1 := Blk.new (w.alloc (.cells #[.int .i64 4, .slice (some ⟨w.heap.size + 1, 0, none⟩) 4 4] 24)) 34 small6A
  have B1 := b0.alloc b0.size (.cells small6A 34)
  rw [World.size_alloc] at E1
  have HE : Hid (Reads ((w.alloc (.cells #[.int .i64 4, .slice (some ⟨w.heap.size + 1, 0, none⟩) 4 4] 24)).alloc (.cells small6A 34)) ((w.alloc (.cells #[.int .i64 4, .slice (some ⟨w.heap.size + 1, 0, none⟩) 4 4] 24)).alloc (.cells small6A 34)).heap.size 3 (some ⟨w.heap.size + 1, 0, none⟩) 4 (cellsE small6) ∧ Below w.heap.size w ((w.alloc (.cells #[.int .i64 4, .slice (some ⟨w.heap.size + 1, 0, none⟩) 4 4] 24)).alloc (.cells small6A 34))) := by
    refine ⟨⟨rfl, fun _ => ⟨_, rfl, E1.lt, fun j x hx => ?_⟩⟩, B1⟩
    rw [Go.WideShapes.add_plain, Nat.zero_add, E1.cell, ← hx, ← List.getElem?_toArray]
    rfl
  clear E1 B1 b0
  go_enter Try.func28, Try.ntmps28
  go_wp2_with fail
  exact bodyPost_ret (v := .agg #[.int .i64 4, .slice (some ⟨w.heap.size + 1, 0, none⟩) 4 4]) (by simp [results, Try.results28, go_sem]) rfl ⟨_, _, rfl, HE.out.1, Nat.le_refl _, by decide, (fun e => by cases e), HE.out.2⟩

theorem Ints.on6 {W W' : World} {n : Nat} {A : Option Addr} {xs : List Int} (h : Reads W W.heap.size 1 A n (ints xs)) (hb : Below W.heap.size W W') : Reads W' W'.heap.size 1 A n (ints xs) := (h.below hb).more hb.size
/-- What scc.Of, Sets, Cyclic, Inner and Fold give. -/
def OfC (z : Int) (zs : List Ed) (w : World) (e : Ending) (w' : World) : Prop :=
  ∃ (os : List Int) (k : Int), IErr os k w e w' ∧ (rightG z zs = true → k = 0 ∧ ∃ ls, Comps zs z.toNat ls os) ∧ (rightG z zs = false → k = 150 ∧ os = [])
def SetsC (z : Int) (zs : List Ed) (w : World) (e : Ending) (w' : World) : Prop :=
  ∃ (ls : List (List Int)) (k : Int) (A : Option Addr) (c : Nat), e = .returned (.tuple #[.slice A ls.length c, .int .i64 k]) ∧ IRows w' w.heap.size A ls.length c ls ∧ Below w.heap.size w w' ∧ (rightG z zs = true → k = 0 ∧ ∃ os, Comps zs z.toNat ls os) ∧ (rightG z zs = false → k = 150 ∧ ls = [])
def CyclicC (z : Int) (zs : List Ed) (w : World) (e : Ending) (w' : World) : Prop :=
  ∃ (b : Bool) (k : Int), e = .returned (.tuple #[.bool b, .int .i64 k]) ∧ Below w.heap.size w w' ∧ (rightG z zs = true → k = 0 ∧ (b = true ↔ ∃ v : Nat, Leads zs (v : Int) (v : Int))) ∧ (rightG z zs = false → k = 150 ∧ b = false)
def InnerC (z : Int) (zs : List Ed) (w : World) (e : Ending) (w' : World) : Prop :=
  ∃ (gz : Int) (ges : List Ed) (k : Int), GErr gz ges k w e w' ∧ (rightG z zs = true → k = 0 ∧ gz = z ∧ ∃ ls os, Comps zs z.toNat ls os ∧ ges = zs.filter (sameOf os)) ∧ (rightG z zs = false → k = 150 ∧ gz = 0 ∧ ges = [])
def FoldC (z : Int) (zs : List Ed) (w : World) (e : Ending) (w' : World) : Prop :=
  ∃ (gz : Int) (ges : List Ed) (k : Int), GErr gz ges k w e w' ∧ (rightG z zs = true → k = 0 ∧ ∃ ls os, Comps zs z.toNat ls os ∧ gz = (ls.length : Int) ∧ ges = sorE (foldL os zs)) ∧ (rightG z zs = false → k = 150 ∧ gz = 0 ∧ ges = [])
/-- The layer's calls, as they are asked for. -/
def AtG (f : FuncId) (Q : Int → List Ed → World → Ending → World → Prop) : Prop :=
  ∀ (g : GV) (w : World), g.n ≤ 700 → g.ok w → Calls Try.prog f #[.agg #[.int .i64 g.z, .slice g.A g.n g.c]] w (Q g.z g.es w)
structure Scc : Prop where
  of : AtG 15 OfC
  sets : AtG 16 SetsC
  cyclic : AtG 20 CyclicC
  inner : AtG 9 InnerC
  fold : AtG 10 FoldC
end Go.Proofs.Ytkebeadaoiiokaa
namespace Go.Proofs.Ytkebeadaoiiokaa

/-- Where no two nodes are together each one is its own component. -/
theorem Comps.ones {fs : List Ed} {k : Nat} {ls : List (List Int)} {os : List Int} (h : Comps fs k ls os) (hr : ∀ v w, v < k → w < k → Tog fs v w → v = w) : ls.length = k ∧ os = (List.range k).map (fun v : Nat => (v : Int)) := by
  obtain ⟨ms, h1, rfl, rfl⟩ := h
  have ht : ∀ v w, v < k → w < k → togM ms v w = true → v = w := fun v w hv hw e => hr v w hv hw ((h1.tog hv hw).1 e)
  have hle : leasts (togM ms) k = List.range k := List.filter_eq_self.2 fun v hv => leastB_iff.2 fun w hw e => by
    have := ht v w (List.mem_range.1 hv) hw e
    omega
  have hlen : (setsE (togM ms) k k).length = k := by rw [setsE_eq, List.length_map, hle, List.length_range]
  refine ⟨hlen, ?_⟩
  show ofT (togM ms) k = _
  refine ((h1.eqv).ofT_is (by simp) (fun v w hv hw e => by rw [ht v w hv hw e]) (fun i u hu => ?_)).symm
  rw [hle] at hu
  obtain ⟨hi, hu⟩ := List.getElem?_eq_some_iff.1 hu
  rw [List.length_range] at hi
  rw [List.getElem_range] at hu
  subst hu
  rw [List.getElem?_map, List.getElem?_range hi]
  rfl
theorem ones_at {k : Nat} {x : Int} (h0 : 0 ≤ x) (h1 : x < k) : ((List.range k).map (fun v : Nat => (v : Int))).getD x.toNat 0 = x := by
  rw [List.getD_eq_getElem?_getD, List.getElem?_map, List.getElem?_range (by omega)]
  show ((x.toNat : Nat) : Int) = x
  omega
theorem ones_fold {k : Nat} : ∀ {fs : List Ed}, (∀ p ∈ fs, rightE (k : Int) p = true) → foldL ((List.range k).map (fun v : Nat => (v : Int))) fs = fs
  | [], _ => rfl
  | p :: fs, h => by
    have hp := h p (.head _)
    have ih := ones_fold fun q hq => h q (.tail _ hq)
    unfold rightE at hp
    rw [decide_eq_true_eq] at hp
    have e1 : ofFrom ((List.range k).map (fun v : Nat => (v : Int))) p = p.1 := ones_at hp.1.1 hp.1.2
    have e2 : ofTo ((List.range k).map (fun v : Nat => (v : Int))) p = p.2.1 := ones_at hp.2.1.1 hp.2.1.2
    unfold foldL at ih ⊢
    rw [List.filter_cons_of_pos (by unfold sameOf; rw [e1, e2]; simp [hp.2.2.1]), List.map_cons, ih]
    unfold foldP
    rw [e1, e2]
theorem no_round_ones {fs : List Ed} {k : Nat} (hr : ∀ i : Nat, ¬ Leads fs (i : Int) (i : Int)) : ∀ v w, v < k → w < k → Tog fs v w → v = w := fun v w _ _ h => by
  rcases h with h | h
  · exact h
  · exact absurd (h.1.trans h.2) (hr v)
theorem fold_isG {zs : List Ed} {m : Nat} {ls : List (List Int)} {os : List Int} (hg : IsG (m : Int) zs) (h : Comps zs m ls os) : IsG (ls.length : Int) (sorE (foldL os zs)) ∧ ∀ q, q ∈ sorE (foldL os zs) ↔ q ∈ foldL os zs := by
  have hm : mayN (ls.length : Int) = true := by
    have h1 := hg.nodes
    have h2 := h.len.2
    unfold mayN
    rw [decide_eq_true_eq]
    omega
  have hr := fold_right hg.all h
  exact ⟨IsG.sor hm hr, mem_sorE fun p hp => rightE_ok hm (hr p hp)⟩
theorem fold_still {zs : List Ed} {m : Nat} {ls : List (List Int)} {os : List Int} (hg : IsG (m : Int) zs) (h : Comps zs m ls os) : ∀ i : Nat, ¬ Leads (sorE (foldL os zs)) (i : Int) (i : Int) :=
  fold_no_round hg.all h (fold_isG hg h).2
/-- The graph of the components' graph is that graph. -/
theorem fold_fold {zs : List Ed} {m : Nat} {ls ls' : List (List Int)} {os os' : List Int} (hg : IsG (m : Int) zs) (h : Comps zs m ls os) (h' : Comps (sorE (foldL os zs)) ls.length ls' os') : ls'.length = ls.length ∧ sorE (foldL os' (sorE (foldL os zs))) = sorE (foldL os zs) := by
  obtain ⟨hf, _⟩ := fold_isG hg h
  obtain ⟨h1, rfl⟩ := h'.ones (no_round_ones (fold_still hg h))
  refine ⟨h1, ?_⟩
  rw [ones_fold hf.all]
  exact sorE_is hf.ok hf.up fun _ => Iff.rfl
/-- The edges within components: the same components. -/
theorem inner_of {zs : List Ed} {m : Nat} {ls ls' : List (List Int)} {os os' : List Int} (hg : IsG (m : Int) zs) (h : Comps zs m ls os) (h' : Comps (zs.filter (sameOf os)) m ls' os') : os' = os :=
  (h'.congr h fun u v _ _ => tog_inner hg.all h u v).2
theorem back_of {zs : List Ed} {m : Nat} {ls ls' : List (List Int)} {os os' : List Int} (hg : IsG (m : Int) zs) (h : Comps zs m ls os) (h' : Comps (backE zs) m ls' os') : os' = os :=
  (h'.congr h fun u v _ _ => tog_back hg u v).2
end Go.Proofs.Ytkebeadaoiiokaa
