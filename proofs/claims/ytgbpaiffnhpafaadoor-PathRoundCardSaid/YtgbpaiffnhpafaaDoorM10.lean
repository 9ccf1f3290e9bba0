/- What is kept while a walk goes on that has memory of its own; ranging over a function that tells components. -/
import Derived.RangeFuncNested
import Derived.RangeFuncBound
import Derived.RangeFuncCalls
import Derived.RangeFuncLeaves
import Derived.Shelf.Abstract
import Derived.Shelf.RegionOpen
import Derived.WalkKit
import Derived.OwnWalkIn
import Derived.TacticsInMore
import Derived.LoopNIn
import Derived.LoopIn
import Derived.Outline
import Derived.Test.YtgbpaiffnhpafaaDoorM7
import Derived.RangeFuncBox
import Derived.RangeFuncFrom
import Derived.Maps.AppendAt
import Derived.Test.YtgbpaiffnhpafaaDoorWords
import Derived.Test.YtgbpaiffnhpafaaDoorM9
import Derived.Test.YtgbpaiffnhpafaaDoorM2
import Derived.Test.YtgbpaiffnhpafaaDoorM6
import Derived.Lib.Slices
-- holds: YtgbpaiffnhpafaaDoorGv YtgbpaiffnhpafaaDoorGw YtgbpaiffnhpafaaDoorGx YtgbpaiffnhpafaaDoorGy YtgbpaiffnhpafaaDoorHb YtgbpaiffnhpafaaDoorCg YtgbpaiffnhpafaaDoorCh YtgbpaiffnhpafaaDoorCi YtgbpaiffnhpafaaDoorCj YtgbpaiffnhpafaaDoorPd YtgbpaiffnhpafaaDoorPf YtgbpaiffnhpafaaDoorQa YtgbpaiffnhpafaaDoorCk YtgbpaiffnhpafaaDoorCo YtgbpaiffnhpafaaDoorCp YtgbpaiffnhpafaaDoorCq
namespace Go.Proofs.YtgbpaiffnhpafaaDoor
open Go.RowKit Go.Shelf
attribute [local go_sem] Oper.semAt_some

/-- An edge, as the one value that is told. -/
def encE (p : Ed) : Array Value := #[.agg #[.int .i64 p.1, .int .i64 p.2.1, .int .i64 p.2.2]]
theorem grown_of_below {W W' : World} (h : Below W.heap.size W W') : W.grownBy W' none := ⟨h.os, h.tape, h.output, h.size, fun k hk _ => h.block k hk⟩

end Go.Proofs.YtgbpaiffnhpafaaDoor
namespace Go.Proofs.YtgbpaiffnhpafaaDoor
open Go.RowKit Go.Shelf
attribute [local go_sem] Oper.semAt_some

/-- The cells of one edge in a new block. -/
theorem ed_new (w : World) (p : Ed) (t : TypeId) : ∀ j u, (edCells p)[j]? = some u → (w.alloc (.cells #[.int .i64 p.1, .int .i64 p.2.1, .int .i64 p.2.2] t)).cell? ((⟨w.heap.size, 0, none⟩ : Addr).add j) = some u := by
  intro j u hu
  have hb := Blk.new w t #[.int .i64 p.1, .int .i64 p.2.1, .int .i64 p.2.2]
  rw [Go.WideShapes.add_plain, Nat.zero_add, hb.cell, ← hu, ← List.getElem?_toArray]
  rfl
theorem edCells_one (p : Ed) : ∀ u ∈ edCells p, u.oneCell' = true := fun u hu => cellsE_one [p] u (by simpa [cellsE] using hu)
theorem cellsE_snoc (xs : List Ed) (p : Ed) : cellsE (xs ++ [p]) = cellsE xs ++ edCells p := by simp [cellsE]
theorem blk_own {β : Type} (B : Nat) (t : TypeId) (f : β → Array Value) : _root_.Go.Own fun s W => Blk W B t (f s) := fun s W W' row hs hg hr =>
  hs.grown hg (fun e => by
    obtain ⟨o, ho, hoc⟩ := hr B e.symm
    unfold Blk at hs
    rw [hs] at ho
    cases ho
    cases hoc)

set_option maxRecDepth 100000 in
set_option maxHeartbeats 4000000 in
theorem append_seq_in (m : Nat) (hm : 6 ≤ m) (gf : Nat) (lb : Array Value) (rs : List Ed) (N : Nat) (hN : N ≤ 1000) (Sp : List Ed → Prop) (w0 : World) (eg : ∀ args w, (callFunc gf args).run Tryd.prog w = .ok (.enter gf args) w)
    (hseq : SeqStopsK Fence.wide (m - 1) Tryd.prog gf lb encE (fun X Y => Below w0.heap.size X Y) (fun ys => ys = rs) Sp N w0) (w : World) (hb : Below w0.heap.size w0 w) :
    CallsIn Fence.wide m Tryd.prog 110 #[.slice none 0 0, .func (.func gf) #[] lb] w (RowIs rs w) := by
  have h1 : 1 ≤ m := by omega
  obtain ⟨i0, hi, hz0, hz1, hz2⟩ := info_parts pair_info
  refine callsIn_of_wp_marks Tryd.func110 rfl trivial ?_ rfl
  simp only [Tryd.ntmps110, List.size_toArray, List.length_cons, List.length_nil, Nat.reduceAdd, Nat.reduceSub, Array.replicate_succ, Array.replicate_zero, List.push_toArray, List.append_toArray, List.nil_append, List.cons_append]
  gi_wp2_with fail
  have c0 := Boxed.new w 22 (.slice none 0 0)
  have hB0 : Below w.heap.size w (w.alloc (.cells #[.slice none 0 0] 22)) := (Below.refl _ w).alloc (Nat.le_refl _) _
  have hsz : (w.alloc (.cells #[.slice none 0 0] 22)).heap.size = w.heap.size + 1 := by simp
  obtain ⟨W0, hW0⟩ : ∃ W0, w.alloc (.cells #[.slice none 0 0] 22) = W0 := ⟨_, rfl⟩
  rw [hW0] at c0 hB0 hsz ⊢
  clear hW0
  have hb2 : Below w0.heap.size w0 W0 := hb.trans (hB0.mono hb.size)
  refine wpIn_rangeFunc_ownH rfl h1 (gf := gf) (lb := lb) rfl trivial eg
    hseq (fun h k => belowK_t h k) (fun W l o o' hl h1 h2 h3 => belowK_b hb2.size W l o o' hl h1 h2 h3) hb2 (fun _ => rfl)
    (fun pre W => (∃ v, Boxed W w.heap.size 22 v ∧ W.ownsRow w.heap.size 53 3 v pre.length (cellsE pre) ∧ True) ∧ Below w.heap.size w W)
    (fun _ _ _ => False)
    (OwnFrom.and (_root_.Go.Own.from (holdsRow_own w.heap.size w.heap.size 22 53 3 (fun pre : List Ed => pre.length) (fun pre => cellsE pre) (fun _ _ => True)) _) (ownFrom_below (Nat.le_refl _) (by omega)))
    (fun c => fun _ _ _ _ h _ _ => h)
    ⟨⟨_, c0, World.ownsRow_nil _ _ _ _, trivial⟩, hB0⟩
    (fun x a' W => ∃ Bx : Nat, w.heap.size < Bx ∧ Blk W Bx 53 #[.int .i64 x.1, .int .i64 x.2.1, .int .i64 x.2.2] ∧ a' = { tmps := #[.slice none 0 0, .func (.func gf) #[] lb, .pointer (some ⟨w.heap.size, 0, none⟩), undef, .slice none 0 0, .pointer (some ⟨Bx, 0, none⟩), .func (.func gf) #[] lb, .agg #[.int .i64 x.1, .int .i64 x.2.1, .int .i64 x.2.2], undef, undef, undef, undef, undef], defers := [] })
    (fun x a' _ X Y row hs hg hr => by
      obtain ⟨Bx, e1, e3, e5⟩ := hs
      exact ⟨Bx, e1, blk_own _ _ (fun (_ : Unit) => _) () X Y row e3 hg (fun r e => (hr r e).2), e5⟩)
    ?assign ?body ?done ?stop
  case assign =>
    rintro l pre x W K ⟨⟨v, c3, hrow, _⟩, hB1⟩ hK
    have hs1 := c3.lt
    unfold encE
    gi_wp2
    exact hK _ _ ((KeepsOthers.alloc _ _).from _) ((Below.refl _ _).alloc (Nat.le_trans hb.size hB1.size) _)
      ⟨⟨v, c3.alloc _, hrow.alloc _, trivial⟩, hB1.alloc hB1.size _⟩
      ⟨W.heap.size, by omega, Blk.new W _ _, rfl⟩
  case body =>
    rintro l pre x a' W hl ⟨r, hr⟩ ⟨⟨v, c3, hrow, _⟩, hB1⟩ ⟨Bx, hBx, kx, rfl⟩ hlt
    have q0 := kx.cell 0
    have q1 := kx.cell 1
    have q2 := kx.cell 2
    have hc3 := c3.cell
    have hlen : pre.length < 1000 := by omega
    gi_wp2_with (gi_at_builtin; refine wpListIn_append_own _ rfl _ _ 22 rfl w.heap.size 53 i0 _ 3 24 Tryd.underlying22 hi hz0 hz1 hz2 rfl (by decide) _ _ _ rfl (hrow.alloc _) ⟨W.heap.size, 0, none⟩ 1 1 (edCells x) rfl rfl (ed_new _ _ _) (edCells_one _) (by unfold maxLen; omega) (by omega) (by have := hB1.size; simp; omega) ?_; intro v' w1 hown' hgrow _; obtain ⟨g', cap', rfl⟩ := ownsRow_succ hown'; obtain ⟨hv1, hv2, hr2, hk2, hb3⟩ := c3.appended (by decide) hrow hB1.size (by omega) hown' hgrow; have hc5 := hv1.cell; have hf5 := hv1.frozen)
    refine ⟨hk2.from _, hb3.mono hb.size, ⟨⟨_, hv2, ?_, trivial⟩, hB1.trans hb3⟩⟩
    rw [cellsE_snoc, List.length_append]
    exact hr2
  case done =>
    rintro D xs W hD rfl ⟨⟨v, c3, hrow, _⟩, hB1⟩ hK
    obtain ⟨A', c', rfl, h51, h52⟩ := own_form2 hrow
    have e0 := c3.cell
    have HC3 := Lib.hid c3
    have HK := Lib.hid hK
    clear c3
    gi_wp2
    refine ⟨by simp, .inl ⟨_, _, rfl, run_takeDeferred HK.out, ?_⟩⟩
    exact ⟨.slice A' xs.length c', by simp [results, Tryd.results110, go_sem], A', c', rfl, ownsRow_putObj hrow _ HK.out rfl, h51, h52, hB1.trans (belowK_b (w := w) (Nat.le_refl _) W D _ _ (by omega) HK.out rfl rfl)⟩
  case stop =>
    rintro D c pre W hD _ h
    exact h.elim

set_option maxHeartbeats 1000000 in
theorem collect_any (gf : Nat) (lb : Array Value) (rs : List Ed) (N : Nat) (hN : N ≤ 1000) (Sp : List Ed → Prop) (w0 : World) (eg : ∀ args w, (callFunc gf args).run Tryd.prog w = .ok (.enter gf args) w)
    (hseq : SeqStopsK Fence.wide 9 Tryd.prog gf lb encE (fun X Y => Below w0.heap.size X Y) (fun ys => ys = rs) Sp N w0) (w : World) (hb : Below w0.heap.size w0 w) :
    Calls Tryd.prog 105 #[.func (.func gf) #[] lb] w (RowIs rs w) := by
  have HA := Lib.hid (callsIn_wide.1 (append_seq_in 10 (by omega) gf lb rs N hN Sp w0 eg hseq w hb))
  clear hseq
  go_enter Tryd.func105, Tryd.ntmps105
  go_wp2_with fail
  refine HA.out.mono ?_
  rintro e w1 hx
  obtain ⟨A2, c2, rfl, h1, h2, h3, h4⟩ := rows_row hx
  have HF := Lib.hid (And.intro h1 (And.intro h2 (And.intro h3 h4)))
  clear h1 h2 h3 h4 hx HA
  go_wp2_with fail
  go_ret
  exact ⟨A2, c2, rfl, HF.out⟩
end Go.Proofs.YtgbpaiffnhpafaaDoor
namespace Go.Proofs.YtgbpaiffnhpafaaDoor
open Go.RowKit Go.Shelf
attribute [local go_sem] Oper.semAt_some

/-- append within a region that draws its order, inside a fence. -/
theorem stepIn_append_own {F : Fence} {n : Nat} {P : Program} (w : World) {ops : Array Oper} {o : Oper} {a : Act} {K : Act → World → Prop} {Q : Exit → Act → World → Prop} {E : Prop}
    (hg : o.guard = none) (s x : Operand) (t : TypeId) (hop : o.op = Op.call { callee := Callee.builtin Builtin.append, args := #[s, x], argTypes := #[t, t] })
    (base : Nat) (e : TypeId) (i : TypeInfo) (z : Value) (size bytes : Nat) (h1 : P.underlying t = some (.slice e)) (h2 : P.info? e = some i) (h3 : i.zero = some z) (h4 : i.size = size) (h5 : i.bytes = bytes) (h6 : z.cells.size = size) (h7 : 0 < size)
    (v : Value) (k : Nat) (xs : List Value) (hs : a.eval s = v) (hown : w.ownsRow base e size v k xs) (ad : Addr) (m c : Nat) (news : List Value) (hx : a.eval x = .slice (some ad) m c) (hn : news.length = m * size)
    (hc : ∀ j u, news[j]? = some u → w.cell? (ad.add j) = some u) (h1c : ∀ u ∈ news, u.oneCell' = true) (b1 : k + m ≤ maxLen) (b2 : (k + m) * bytes ≤ 140737488355328) (b3 : base ≤ w.heap.size)
    (hK : ∀ v' w', w'.ownsRow base e size v' (k + m) (xs ++ news) → w.grownBy w' v.ownBlock → K (a.put o.dst v') w') :
    if Region.wanted o (yielded ops a.tmps) = true then Oper.wpIn F n P o a w K Q else E := by
  have hw : Region.wanted o (yielded ops a.tmps) = true := by simp [Region.wanted, hg]
  rw [if_pos hw]
  obtain ⟨v', w', hrun, r1, r2, _⟩ := run_append_own (P := P) w base t o.type e i z size bytes h1 h2 h3 h4 h5 h6 h7 v k xs hown ad m c news hn hc h1c b1 b2 b3
  unfold Oper.wpIn
  refine ⟨?_, ?_⟩
  · simp [Oper.about, hop, resolve, Target.leads, Sem.run_pure]
  · rw [Oper.semAt_plain F _ _ (by rw [hop]; intro c hc'; cases hc')]
    simp [execOp, hop, resolve, invoke, builtin, hs, hx, hrun, Result.andThen]
    exact hK _ _ r1 r2
theorem boxed_below {W W' : World} {B : Nat} {t : TypeId} {v : Value} (h : Boxed W B t v) (b : Below W.heap.size W W') : Boxed W' B t v := (b.block B h.lt).trans h
theorem int_new (w : World) (z : Int) (t : TypeId) : ∀ j u, ([.int .i64 z] : List Value)[j]? = some u → (w.alloc (.cells #[.int .i64 z] t)).cell? ((⟨w.heap.size, 0, none⟩ : Addr).add j) = some u := by
  intro j u hu
  have hb := Blk.new w t #[.int .i64 z]
  rw [Go.WideShapes.add_plain, Nat.zero_add, hb.cell, ← hu, ← List.getElem?_toArray]

end Go.Proofs.YtgbpaiffnhpafaaDoor
namespace Go.Proofs.YtgbpaiffnhpafaaDoor
open Go.RowKit

theorem eg_those : ∀ args w, (callFunc 111 args).run Tryd.prog w = .ok (.enter 111 args) w := enters_of Tryd.func111 (by kernel_rfl) rfl
/-- What those lays: the row, and the question. -/
theorem those_laid (A : Option Addr) (n c g : Nat) (caps : Array Value) (zs : List Ed) (w : World) (hR : Reads w w.heap.size 3 A n (cellsE zs)) :
    ∃ W, W = (w.alloc (.cells #[.slice A n c] 22)).alloc (.cells #[.func (.func g) #[] caps] 127) ∧ Blk W w.heap.size 22 #[.slice A n c] ∧ Blk W (w.heap.size + 1) 127 #[.func (.func g) #[] caps] ∧ Reads W W.heap.size 3 A n (cellsE zs) ∧ Below w.heap.size w W := by
  obtain ⟨k0, k1, b0⟩ := two_new w #[.slice A n c] #[.func (.func g) #[] caps] 22 127
  exact ⟨_, rfl, k0, k1, (hR.below b0).more b0.size, b0⟩

theorem in_filter (zs : List Ed) (v : Int) : zs.filter (fun p => p.2.1 == v) = inE zs v := by
  unfold inE
  refine List.filter_congr fun p _ => ?_
  rw [Bool.eq_iff_iff]; simp

theorem kinds_filter (zs : List Ed) (u v : Int) : ((outE zs u).filter (fun p => p.2.1 == v)).map (fun p => p.2.2) = kindsE zs u v := by
  unfold kindsE
  congr 1

set_option maxRecDepth 100000 in
set_option maxHeartbeats 2000000 in
theorem filter_no (nodes : Int) (A : Option Addr) (n c : Nat) (g : Nat) (caps : Array Value) (zs : List Ed) (hg : rightG nodes zs = false) (hn : n ≤ 1000) (w : World) (hR : Reads w w.heap.size 3 A n (cellsE zs)) :
    Calls Tryd.prog 91 #[.agg #[.int .i64 nodes, .slice A n c], .func (.func g) #[] caps] w (GErr 0 [] 150 w) := by
  obtain ⟨k0, k1, b0⟩ := two_new w #[.int .i64 nodes, .slice A n c] #[.int .i64 0, .slice none 0 0] 24 24
  obtain ⟨W0, hW0⟩ : ∃ W0, (w.alloc (.cells #[.int .i64 nodes, .slice A n c] 24)).alloc (.cells #[.int .i64 0, .slice none 0 0] 24) = W0 := ⟨_, rfl⟩
  rw [hW0] at k0 k1 b0
  have HC := Lib.hid (check_any nodes A n c zs hn W0 ((hR.below b0).more b0.size))
  rw [check_no hg] at HC
  have HK1 := Lib.hid fun W (h : Below W0.heap.size W0 W) => k1.below h k1.lt
  have B0 := Lib.hid b0
  have z0 := k0.cell 0
  have z1 := k0.cell 1
  clear hR k0 k1 b0 hg
  go_enter Tryd.func91, Tryd.ntmps91
  go_wp2_with fail
  clear hW0
  refine HC.out.mono ?_
  rintro e w1 ⟨rfl, b⟩
  have K1 := Lib.hid (HK1.out _ b)
  have B1 : Hid (Below w.heap.size w w1) := B0.out.trans (b.mono B0.out.size)
  clear b z0 z1 HC HK1
  have q0 := K1.out.cell 0
  have q1 := K1.out.cell 1
  have q2 := K1.out.frozen 0
  have q3 := K1.out.frozen 1
  have y0 := (store2 K1.out (.int .i64 0) (.slice none 0 0)).cell 0
  have y1 := (store2 K1.out (.int .i64 0) (.slice none 0 0)).cell 1
  have HE : Hid (GErr 0 [] 150 w (.returned (.tuple #[.agg #[.int .i64 0, .slice none 0 0], .int .i64 150])) ((w1.setCell ⟨w.heap.size + 1, 0, none⟩ (.int .i64 0)).setCell ⟨w.heap.size + 1, 1, none⟩ (.slice none 0 0))) :=
    ⟨none, 0, rfl, World.ownsRow_nil _ _ _ _, Nat.le_refl _, by decide, below_store2 B1.out (Nat.le_succ _) _ _⟩
  go_wp2_with fail
  exact bodyPost_ret (v := .tuple #[.agg #[.int .i64 0, .slice none 0 0], .int .i64 150]) (by simp [results, Tryd.results91, go_sem, y0, y1]) rfl HE.out

end Go.Proofs.YtgbpaiffnhpafaaDoor
namespace Go.Proofs.YtgbpaiffnhpafaaDoor
open Go.RowKit

/-- A graph as it stands in memory. -/
structure GV where
  z : Int
  A : Option Addr
  n : Nat
  c : Nat
  es : List Ed
def GV.ok (g : GV) (w : World) : Prop := Reads w w.heap.size 3 g.A g.n (cellsE g.es) ∧ g.n ≤ g.c ∧ g.c ≤ 9223372036854775807 ∧ (g.A = none → g.c = 0)
theorem GV.ok.on {g : GV} {w w' : World} (h : g.ok w) (hb : Below w.heap.size w w') : g.ok w' := ⟨(h.1.below hb).more hb.size, h.2⟩
theorem GV.ok.len {g : GV} {w : World} (h : g.ok w) : g.es.length = g.n := reads_len h.1
theorem gerr_gv {nodes k : Int} {ps : List Ed} {w w' : World} {e : Ending} (h : GErr nodes ps k w e w') :
    ∃ g : GV, e = .returned (.tuple #[.agg #[.int .i64 g.z, .slice g.A g.n g.c], .int .i64 k]) ∧ g.z = nodes ∧ g.es = ps ∧ g.ok w' ∧ Below w.heap.size w w' := by
  obtain ⟨A, c, he, ho, h1, h2, hb⟩ := h
  exact ⟨⟨nodes, A, ps.length, c, ps⟩, he, rfl, rfl, ⟨reads_own ho, h1, h2, own_nil ho⟩, hb⟩
theorem gis_gv {nodes : Int} {ps : List Ed} {w w' : World} {e : Ending} (h : GIs nodes ps w e w') :
    ∃ g : GV, e = .returned (.agg #[.int .i64 g.z, .slice g.A g.n g.c]) ∧ g.z = nodes ∧ g.es = ps ∧ g.ok w' ∧ Below w.heap.size w w' := by
  obtain ⟨A, c, he, ho, h1, h2, hb⟩ := h
  exact ⟨⟨nodes, A, ps.length, c, ps⟩, he, rfl, rfl, ⟨reads_own ho, h1, h2, own_nil ho⟩, hb⟩

/-- What a law holds between its calls: the graphs in its variables. -/
structure Env (w : World) (L : List (Nat × GV)) (W : World) : Prop where
  below : Below w.heap.size w W
  all : ∀ p ∈ L, Blk W p.1 24 #[.int .i64 p.2.z, .slice p.2.A p.2.n p.2.c] ∧ p.2.ok W
section
variable {w W W' : World} {L : List (Nat × GV)}
theorem Env.on (h : Env w L W) (hb : Below W.heap.size W W') : Env w L W' :=
  ⟨h.below.trans (hb.mono h.below.size), fun p hp => ⟨(h.all p hp).1.below hb (h.all p hp).1.lt, (h.all p hp).2.on hb⟩⟩
theorem Env.drew (h : Env w L W) : Env w L W.drew := h.on ((Below.refl _ _).drew)
theorem Env.drewN (h : Env w L W) (n : Nat) : Env w L (W.drewN n) := h.on (below_drewN (Below.refl _ _) n)
theorem Env.alloc (h : Env w L W) (o : Obj) : Env w L (W.alloc o) := h.on ((Below.refl _ _).alloc (Nat.le_refl _) o)
theorem Env.start (w : World) : Env w [] w := ⟨Below.refl _ _, fun p hp => by simp at hp⟩
theorem Env.add (h : Env w L W) {g : GV} (hg : g.ok W) : Env w ((W.heap.size, g) :: L) (W.alloc (.cells #[.int .i64 g.z, .slice g.A g.n g.c] 24)) := by
  have hb : Below W.heap.size W (W.alloc (.cells #[.int .i64 g.z, .slice g.A g.n g.c] 24)) := (Below.refl _ _).alloc (Nat.le_refl _) _
  have h2 := h.on hb
  refine ⟨h2.below, fun p hp => ?_⟩
  rcases List.mem_cons.1 hp with rfl | hp
  · exact ⟨Blk.new _ _ _, hg.on hb⟩
  · exact h2.all p hp
theorem Env.c0 (h : Env w L W) {b : Nat} {g : GV} (hm : (b, g) ∈ L) : W.cell? ⟨b, 0, none⟩ = some (.int .i64 g.z) := (h.all _ hm).1.cell 0
theorem Env.c1 (h : Env w L W) {b : Nat} {g : GV} (hm : (b, g) ∈ L) : W.cell? ⟨b, 1, none⟩ = some (.slice g.A g.n g.c) := (h.all _ hm).1.cell 1
theorem Env.ok (h : Env w L W) {b : Nat} {g : GV} (hm : (b, g) ∈ L) : g.ok W := (h.all _ hm).2
theorem Env.lt (h : Env w L W) {b : Nat} {g : GV} (hm : (b, g) ∈ L) : b < W.heap.size := (h.all _ hm).1.lt
end
theorem take_len (zs : List Ed) : (zs.take 80).length ≤ 80 := by rw [List.length_take]; omega
end Go.Proofs.YtgbpaiffnhpafaaDoor
namespace Go.Proofs.YtgbpaiffnhpafaaDoor
open Go.RowKit Go.Shelf

/-- A graph that the call makes itself, an edge at a time. -/
structure Wish (wb : World) (X : Nat) (k : GV) (W : World) : Prop where
  below : Below wb.heap.size wb W
  lo : wb.heap.size ≤ X
  blk : Blk W X 24 #[.int .i64 k.z, .slice k.A k.n k.c]
  own : W.ownsRow wb.heap.size 53 3 (.slice k.A k.n k.c) k.n (cellsE k.es)
  cap : k.n ≤ k.c ∧ k.c ≤ 9223372036854775807
theorem Wish.alloc {wb W : World} {X : Nat} {k : GV} (h : Wish wb X k W) (o : Obj) : Wish wb X k (W.alloc o) := ⟨h.below.alloc h.below.size o, h.lo, h.blk.alloc o, h.own.alloc o, h.cap⟩
theorem Wish.drewN {wb W : World} {X : Nat} {k : GV} (h : Wish wb X k W) (n : Nat) : Wish wb X k (W.drewN n) := ⟨below_drewN h.below n, h.lo, h.blk, h.own, h.cap⟩
theorem Wish.start (wb : World) (z : Int) : Wish wb wb.heap.size ⟨z, none, 0, 0, []⟩ (wb.alloc (.cells #[.int .i64 z, .slice none 0 0] 24)) :=
  ⟨(Below.refl _ _).alloc (Nat.le_refl _) _, Nat.le_refl _, Blk.new _ _ _, World.ownsRow_nil _ _ _ _, Nat.le_refl _, Nat.zero_le _⟩
theorem Wish.len {wb W : World} {X : Nat} {k : GV} (h : Wish wb X k W) : k.es.length = k.n := reads_len (reads_own h.own)
theorem Wish.more {wb W w5 : World} {X : Nat} {k : GV} {o : Obj} {A5 : Option Addr} {c5 : Nat} {p : Ed} (h : Wish wb X k W) (hgrow : (W.alloc o).grownBy w5 (Value.slice k.A k.n k.c).ownBlock) (hown : w5.ownsRow wb.heap.size 53 3 (.slice A5 (k.n + 1) c5) (k.n + 1) (cellsE (k.es ++ [p]))) (h1 : k.n + 1 ≤ c5) (h2 : c5 ≤ 9223372036854775807) :
    Blk w5 X 24 #[.int .i64 k.z, .slice k.A k.n k.c] ∧ Wish wb X ⟨k.z, A5, k.n + 1, c5, k.es ++ [p]⟩ (w5.setCell ⟨X, 1, none⟩ (.slice A5 (k.n + 1) c5)) := by
  have hb : Blk w5 X 24 #[.int .i64 k.z, .slice k.A k.n k.c] := (h.blk.alloc o).grown hgrow fun e => own_blk_ne h.own h.blk (by decide) e.symm
  exact ⟨hb, ((h.below.alloc h.below.size o).grown hgrow (Nat.le_trans h.below.size (by simp)) fun k hk => (h.own.lt k hk).1).setCell h.lo _, h.lo, by simpa using hb.set_ 1 (.slice A5 (k.n + 1) c5), own_store hown hb (by decide) _, h1, h2⟩
/-- The numbers of an edge's ends. -/
def ofFrom (os : List Int) (p : Ed) : Int := os.getD p.1.toNat 0
def ofTo (os : List Int) (p : Ed) : Int := os.getD p.2.1.toNat 0
def sameOf (os : List Int) (p : Ed) : Bool := ofFrom os p == ofTo os p
theorem of_cells {W : World} {base m c : Nat} {A : Option Addr} {os : List Int} (h : W.ownsRow base 3 1 (.slice A m c) m (ints os)) (hm : 0 < m) :
    ∃ b o, A = some ⟨b, o, none⟩ ∧ ∀ W', Below W.heap.size W W' → ∀ j, j < m → W'.cell? ⟨b, o + j, none⟩ = some (.int .i64 (os.getD j 0)) := by
  have hl : os.length = m := by have := h.1; rw [ints_length] at this; omega
  obtain ⟨b, o, hA, hb, hc⟩ := reads_plain (Reads.of_own h) hm
  refine ⟨b, o, hA, fun W' hW j hj => ?_⟩
  have := ints_get hc j (by omega)
  rw [← this]
  exact World.cell?_of_block (w := W) (hW.block b hb)
theorem own_edge_len {W : World} {base n c : Nat} {A : Option Addr} {es : List Ed} (h : W.ownsRow base 53 3 (.slice A n c) n (cellsE es)) : es.length = n := reads_len (reads_own h)
/-- What the document's Of gives, by itself. -/
def Comps (zs : List Ed) (m : Nat) (ls : List (List Int)) (os : List Int) : Prop := ∃ ms, AllM zs m ms ∧ ls = setsE (togM ms) m m ∧ os = ofM ls m ls.length
theorem Comps.unique {zs : List Ed} {m : Nat} {ls ls' : List (List Int)} {os os' : List Int} (h : Comps zs m ls os) (h' : Comps zs m ls' os') : ls = ls' ∧ os = os' := by
  obtain ⟨ms, h1, rfl, rfl⟩ := h
  obtain ⟨ms', h1', rfl, rfl⟩ := h'
  rw [h1.unique h1']
  exact ⟨rfl, rfl⟩
theorem Comps.len {zs : List Ed} {m : Nat} {ls : List (List Int)} {os : List Int} (h : Comps zs m ls os) : os.length = m ∧ ls.length ≤ m := by
  obtain ⟨ms, h1, rfl, rfl⟩ := h
  exact ⟨ofM_len _ _ _, setsE_len _ _ _⟩
end Go.Proofs.YtgbpaiffnhpafaaDoor
namespace Go.Proofs.YtgbpaiffnhpafaaDoor
open Go.RowKit Go.Shelf

def foldP (os : List Int) (p : Ed) : Ed := (ofFrom os p, ofTo os p, p.2.2)
def foldL (os : List Int) (l : List Ed) : List Ed := (l.filter fun p => !sameOf os p).map (foldP os)
def folds (os : List Int) (l : List Ed) (k : Nat) : List Ed := foldL os (l.take k)
theorem folds_keep {os : List Int} {l : List Ed} {k : Nat} {x : Ed} (h : l[k]? = some x) (hq : sameOf os x = false) : folds os l (k + 1) = folds os l k ++ [foldP os x] := by
  unfold folds foldL
  rw [List.take_add_one, h, List.filter_append, List.map_append, Option.toList_some, List.filter_cons_of_pos (p := fun p => !sameOf os p) (by simp [hq])]
  rfl
theorem folds_skip {os : List Int} {l : List Ed} {k : Nat} {x : Ed} (h : l[k]? = some x) (hq : sameOf os x = true) : folds os l (k + 1) = folds os l k := by
  unfold folds foldL
  rw [List.take_add_one, h, List.filter_append, List.map_append, Option.toList_some, List.filter_cons_of_neg (p := fun p => !sameOf os p) (by simp [hq])]
  simp
theorem folds_len (os : List Int) (l : List Ed) (k : Nat) : (folds os l k).length ≤ k := by
  unfold folds foldL
  rw [List.length_map]
  exact Nat.le_trans (List.length_filter_le _ _) (by rw [List.length_take]; omega)

end Go.Proofs.YtgbpaiffnhpafaaDoor
namespace Go.Proofs.YtgbpaiffnhpafaaDoor
open Go.RowKit

/-- Who is together with whom, below m. -/
structure Eqv (t : Nat → Nat → Bool) (m : Nat) : Prop where
  refl : ∀ v, v < m → t v v = true
  symm : ∀ v w, v < m → w < m → t v w = true → t w v = true
  trans : ∀ u v w, u < m → v < m → w < m → t u v = true → t v w = true → t u w = true
/-- The least nodes, rising. -/
def leasts (t : Nat → Nat → Bool) (m : Nat) : List Nat := (List.range m).filter (leastB t m)
theorem setsE_eq (t : Nat → Nat → Bool) (m : Nat) : setsE t m m = (leasts t m).map (setE t m) := rfl
theorem leastB_iff {t : Nat → Nat → Bool} {m v : Nat} : leastB t m v = true ↔ ∀ w, w < m → t v w = true → v ≤ w := by
  unfold leastB
  rw [List.all_eq_true]
  refine ⟨fun h w hw ht => ?_, fun h w hw => ?_⟩
  · have := h w (List.mem_range.2 hw)
    rw [ht] at this
    simpa using this
  · cases ht : t v w
    · simp
    · simpa using h w (List.mem_range.1 hw) ht
theorem mem_leasts {t : Nat → Nat → Bool} {m v : Nat} : v ∈ leasts t m ↔ v < m ∧ ∀ w, w < m → t v w = true → v ≤ w := by
  unfold leasts
  rw [List.mem_filter, List.mem_range, leastB_iff]
theorem leasts_up (t : Nat → Nat → Bool) (m : Nat) : (leasts t m).Pairwise (· < ·) := (List.pairwise_lt_range).filter _
theorem mem_setE_iff {t : Nat → Nat → Bool} {m v : Nat} {x : Int} : x ∈ setE t m v ↔ ∃ w : Nat, x = (w : Int) ∧ w < m ∧ t v w = true := by
  unfold setE
  rw [List.mem_map]
  refine ⟨fun ⟨w, hw, e⟩ => ⟨w, e.symm, List.mem_range.1 (List.mem_filter.1 hw).1, (List.mem_filter.1 hw).2⟩, fun ⟨w, e, h1, h2⟩ => ⟨w, List.mem_filter.2 ⟨List.mem_range.2 h1, h2⟩, e.symm⟩⟩
theorem setE_nat {t : Nat → Nat → Bool} {m v w : Nat} : (w : Int) ∈ setE t m v ↔ w < m ∧ t v w = true := by
  rw [mem_setE_iff]
  refine ⟨fun ⟨w', e, h⟩ => ?_, fun h => ⟨w, rfl, h⟩⟩
  have : w = w' := by omega
  subst this; exact h
/-- Each node is together with just one least node. -/
theorem Eqv.least {t : Nat → Nat → Bool} {m : Nat} (h : Eqv t m) {v : Nat} (hv : v < m) : ∃ u, u ∈ leasts t m ∧ t u v = true := by
  have : ∀ k, (∃ w, w ≤ k ∧ w < m ∧ t v w = true) → ∃ u, u < m ∧ t v u = true ∧ ∀ w, w < m → t v w = true → u ≤ w := by
    intro k
    induction k with
    | zero =>
      rintro ⟨w, h0, h1, h2⟩
      have : w = 0 := by omega
      subst this
      exact ⟨0, h1, h2, fun w _ _ => Nat.zero_le _⟩
    | succ k ih =>
      rintro ⟨w, h0, h1, h2⟩
      by_cases hx : ∃ w, w ≤ k ∧ w < m ∧ t v w = true
      · exact ih hx
      · refine ⟨w, h1, h2, fun w' h3 h4 => ?_⟩
        rcases Nat.lt_or_ge w' w with h5 | h5
        · exact absurd ⟨w', by omega, h3, h4⟩ hx
        · exact h5
  obtain ⟨u, hu, htu, hm⟩ := this v ⟨v, Nat.le_refl _, hv, h.refl v hv⟩
  exact ⟨u, mem_leasts.2 ⟨hu, fun w hw htw => hm w hw (h.trans v u w hv hu hw htu htw)⟩, h.symm v u hv hu htu⟩
theorem Eqv.least_one {t : Nat → Nat → Bool} {m u u' : Nat} (h : Eqv t m) (hu : u ∈ leasts t m) (hu' : u' ∈ leasts t m) (ht : t u u' = true) : u = u' := by
  rw [mem_leasts] at hu hu'
  have h1 := hu.2 u' hu'.1 ht
  have h2 := hu'.2 u hu.1 (h.symm u u' hu.1 hu'.1 ht)
  omega
theorem putE_get (os l : List Int) (i : Int) (v : Nat) (hv : v < os.length) (hl : ∀ x ∈ l, 0 ≤ x) : (putE os i l)[v]? = if (v : Int) ∈ l then some i else os[v]? := by
  unfold putE
  induction l generalizing os with
  | nil => simp
  | cons x l ih =>
    have hx := hl x (.head _)
    rw [List.foldl_cons, ih _ (by rw [List.length_set]; exact hv) (fun y hy => hl y (.tail _ hy))]
    by_cases h1 : (v : Int) ∈ l
    · rw [if_pos h1, if_pos (.tail _ h1)]
    · rw [if_neg h1]
      by_cases h2 : (v : Int) = x
      · rw [if_pos (by rw [h2]; exact .head _), List.getElem?_set, if_pos (by omega), if_pos (by omega)]
      · rw [if_neg (fun h => by rcases List.mem_cons.1 h with h | h; exact h2 h; exact h1 h), List.getElem?_set, if_neg (by omega)]
/-- The number of a node is the place of its class. -/
theorem ofM_get {ls : List (List Int)} {m v i : Nat} (hv : v < m) (h0 : ∀ l ∈ ls, ∀ x ∈ l, 0 ≤ x) {l : List Int} (hl : ls[i]? = some l) (hm : (v : Int) ∈ l) (hu : ∀ j l', ls[j]? = some l' → (v : Int) ∈ l' → j = i) : ∀ k, i < k → k ≤ ls.length → (ofM ls m k)[v]? = some (i : Int)
  | 0, h, _ => by omega
  | k + 1, h, hk => by
    unfold ofM
    obtain ⟨l', hl'⟩ : ∃ l', ls[k]? = some l' := ⟨ls[k]'(by omega), List.getElem?_eq_getElem _⟩
    rw [putE_get _ _ _ _ (by rw [ofM_len]; exact hv) (by rw [List.getD_eq_getElem?_getD, hl']; exact h0 l' (List.mem_of_getElem? hl')), List.getD_eq_getElem?_getD, hl', Option.getD_some]
    by_cases hx : (v : Int) ∈ l'
    · rw [if_pos hx, hu k l' hl' hx]
    · rw [if_neg hx]
      have hne : i ≠ k := by
        rintro rfl
        rw [hl] at hl'
        injection hl' with e
        subst e
        exact hx hm
      exact ofM_get hv h0 hl hm hu k (by omega) (by omega)
def ofT (t : Nat → Nat → Bool) (m : Nat) : List Int := ofM (setsE t m m) m (setsE t m m).length
theorem ofT_len (t : Nat → Nat → Bool) (m : Nat) : (ofT t m).length = m := ofM_len _ _ _
theorem Eqv.ofT_get {t : Nat → Nat → Bool} {m : Nat} (h : Eqv t m) {v u i : Nat} (hv : v < m) (hi : (leasts t m)[i]? = some u) (ht : t u v = true) : (ofT t m)[v]? = some (i : Int) := by
  have hul := List.mem_of_getElem? hi
  have hu := (mem_leasts.1 hul).1
  have hl : (setsE t m m)[i]? = some (setE t m u) := by rw [setsE_eq, List.getElem?_map, hi]; rfl
  refine ofM_get hv (fun l hl x hx => ?_) hl (setE_nat.2 ⟨hv, ht⟩) (fun j l' hj hm => ?_) _ ?_ (Nat.le_refl _)
  · obtain ⟨w, rfl⟩ := mem_setsE hl
    exact (mem_setE hx).1
  · rw [setsE_eq, List.getElem?_map] at hj
    cases hj' : (leasts t m)[j]? with
    | none => rw [hj'] at hj; cases hj
    | some u' =>
      rw [hj'] at hj
      injection hj with hj
      subst hj
      have hul' := List.mem_of_getElem? hj'
      have hu' := (mem_leasts.1 hul').1
      have e : u = u' := h.least_one hul hul' (h.trans u v u' hu hv hu' ht (h.symm u' v hu' hv (setE_nat.1 hm).2))
      subst e
      have h1 := (List.getElem?_eq_some_iff.1 hi).1
      have h2 := (List.getElem?_eq_some_iff.1 hj').1
      rcases Nat.lt_trichotomy i j with h3 | h3 | h3
      · have := List.pairwise_iff_getElem.1 (leasts_up t m) i j h1 h2 h3
        rw [(List.getElem?_eq_some_iff.1 hi).2, (List.getElem?_eq_some_iff.1 hj').2] at this
        omega
      · exact h3.symm
      · have := List.pairwise_iff_getElem.1 (leasts_up t m) j i h2 h1 h3
        rw [(List.getElem?_eq_some_iff.1 hi).2, (List.getElem?_eq_some_iff.1 hj').2] at this
        omega
  · exact (List.getElem?_eq_some_iff.1 hl).1
/-- Numbers that are one within classes, and rise with the least nodes, are these. -/
theorem Eqv.ofT_is {t : Nat → Nat → Bool} {m : Nat} (h : Eqv t m) {os : List Int} (hl : os.length = m) (ha : ∀ v w, v < m → w < m → t v w = true → os[v]? = os[w]?) (hb : ∀ (i u : Nat), (leasts t m)[i]? = some u → os[u]? = some (i : Int)) : os = ofT t m := by
  refine List.ext_getElem? fun v => ?_
  rcases Nat.lt_or_ge v m with hv | hv
  · obtain ⟨u, hu, ht⟩ := h.least hv
    obtain ⟨i, hi⟩ := List.getElem?_of_mem hu
    rw [h.ofT_get hv hi ht, ← ha u v (mem_leasts.1 hu).1 hv ht, hb i u hi]
  · rw [List.getElem?_eq_none (by omega), List.getElem?_eq_none (by rw [ofT_len]; omega)]
theorem Eqv.same {t : Nat → Nat → Bool} {m : Nat} (h : Eqv t m) {v w : Nat} (hv : v < m) (hw : w < m) : (ofT t m)[v]? = (ofT t m)[w]? ↔ t v w = true := by
  obtain ⟨u, hu, ht⟩ := h.least hv
  obtain ⟨i, hi⟩ := List.getElem?_of_mem hu
  obtain ⟨u', hu', ht'⟩ := h.least hw
  obtain ⟨j, hj⟩ := List.getElem?_of_mem hu'
  have hum := (mem_leasts.1 hu).1
  have hum' := (mem_leasts.1 hu').1
  rw [h.ofT_get hv hi ht, h.ofT_get hw hj ht']
  refine ⟨fun e => ?_, fun e => ?_⟩
  · injection e with e
    have : i = j := by omega
    subst this
    rw [hi] at hj
    injection hj with hj
    subst hj
    exact h.trans v u w hv hum hw (h.symm u v hum hv ht) ht'
  · have e2 : u = u' := h.least_one hu hu' (h.trans u v u' hum hv hum' ht (h.trans v w u' hv hw hum' e (h.symm u' w hum' hw ht')))
    subst e2
    have h1 := (List.getElem?_eq_some_iff.1 hi).1
    have h2 := (List.getElem?_eq_some_iff.1 hj).1
    rcases Nat.lt_trichotomy i j with h3 | h3 | h3
    · have := List.pairwise_iff_getElem.1 (leasts_up t m) i j h1 h2 h3
      rw [(List.getElem?_eq_some_iff.1 hi).2, (List.getElem?_eq_some_iff.1 hj).2] at this
      omega
    · rw [h3]
    · have := List.pairwise_iff_getElem.1 (leasts_up t m) j i h2 h1 h3
      rw [(List.getElem?_eq_some_iff.1 hi).2, (List.getElem?_eq_some_iff.1 hj).2] at this
      omega
theorem setsE_congr {t s : Nat → Nat → Bool} {m : Nat} (h : ∀ v w, v < m → w < m → t v w = s v w) : setsE t m m = setsE s m m := by
  have h1 : ∀ v, v < m → leastB t m v = leastB s m v := fun v hv => by
    rw [Bool.eq_iff_iff, leastB_iff, leastB_iff]
    exact ⟨fun hh w hw hs => hh w hw (by rw [h v w hv hw]; exact hs), fun hh w hw ht => hh w hw (by rw [← h v w hv hw]; exact ht)⟩
  have h2 : leasts t m = leasts s m := by
    unfold leasts
    exact List.filter_congr fun v hv => h1 v (List.mem_range.1 hv)
  rw [setsE_eq, setsE_eq, h2]
  refine List.map_congr_left fun v hv => ?_
  unfold setE
  rw [List.filter_congr fun w hw => h v w (mem_leasts.1 hv).1 (List.mem_range.1 hw)]
theorem ofT_congr {t s : Nat → Nat → Bool} {m : Nat} (h : ∀ v w, v < m → w < m → t v w = s v w) : ofT t m = ofT s m := by unfold ofT; rw [setsE_congr h]
/-- Together, by rows of edges. -/
def Tog (zs : List Ed) (v w : Nat) : Prop := v = w ∨ (Leads zs (v : Int) (w : Int) ∧ Leads zs (w : Int) (v : Int))
theorem AllM.cell {zs : List Ed} {m : Nat} {ms : List (List Bool)} (h : AllM zs m ms) {v w : Nat} (hv : v < m) (hw : w < m) : cellM ms v w = true ↔ Leads zs (v : Int) (w : Int) := by
  obtain ⟨bs, hb⟩ : ∃ bs, ms[v]? = some bs := ⟨ms[v]'(by rw [h.len]; exact hv), List.getElem?_eq_getElem _⟩
  obtain ⟨hl, hr⟩ := h.row v bs hb
  obtain ⟨b, hbw⟩ : ∃ b, bs[w]? = some b := ⟨bs[w]'(by omega), List.getElem?_eq_getElem _⟩
  rw [cellM_is hb hbw, ← hr w, hbw]
  simp
theorem AllM.tog {zs : List Ed} {m : Nat} {ms : List (List Bool)} (h : AllM zs m ms) {v w : Nat} (hv : v < m) (hw : w < m) : togM ms v w = true ↔ Tog zs v w := by
  unfold togM Tog
  rw [Bool.or_eq_true, Bool.and_eq_true, h.cell hv hw, h.cell hw hv, decide_eq_true_eq]
  exact ⟨fun e => e.elim (fun e => .inl e.symm) .inr, fun e => e.elim (fun e => .inl e.symm) .inr⟩
theorem Tog.symm {zs : List Ed} {v w : Nat} (h : Tog zs v w) : Tog zs w v := h.elim (fun e => .inl e.symm) (fun e => .inr ⟨e.2, e.1⟩)
theorem Tog.trans {zs : List Ed} {u v w : Nat} (h : Tog zs u v) (k : Tog zs v w) : Tog zs u w := by
  rcases h with rfl | h
  · exact k
  · rcases k with rfl | k
    · exact .inr h
    · exact .inr ⟨h.1.trans k.1, k.2.trans h.2⟩
theorem AllM.eqv {zs : List Ed} {m : Nat} {ms : List (List Bool)} (h : AllM zs m ms) : Eqv (togM ms) m :=
  ⟨fun _ hv => (h.tog hv hv).2 (.inl rfl), fun _ _ hv hw ht => (h.tog hw hv).2 ((h.tog hv hw).1 ht).symm, fun _ _ _ hu hv hw h1 h2 => (h.tog hu hw).2 (((h.tog hu hv).1 h1).trans ((h.tog hv hw).1 h2))⟩
theorem AllM.congr {zs ys : List Ed} {m : Nat} {ms ns : List (List Bool)} (h : AllM zs m ms) (k : AllM ys m ns) (ht : ∀ v w, v < m → w < m → (Tog zs v w ↔ Tog ys v w)) : ∀ v w, v < m → w < m → togM ms v w = togM ns v w := fun v w hv hw => by
  rw [Bool.eq_iff_iff, h.tog hv hw, k.tog hv hw]
  exact ht v w hv hw
theorem Comps.congr {zs ys : List Ed} {m : Nat} {ls ls' : List (List Int)} {os os' : List Int} (h : Comps zs m ls os) (k : Comps ys m ls' os') (ht : ∀ v w, v < m → w < m → (Tog zs v w ↔ Tog ys v w)) : ls = ls' ∧ os = os' := by
  obtain ⟨ms, h1, rfl, rfl⟩ := h
  obtain ⟨ns, k1, rfl, rfl⟩ := k
  have := setsE_congr (h1.congr k1 ht)
  rw [this]
  exact ⟨rfl, rfl⟩
theorem Comps.same {zs : List Ed} {m : Nat} {ls : List (List Int)} {os : List Int} (h : Comps zs m ls os) {v w : Nat} (hv : v < m) (hw : w < m) : os[v]? = os[w]? ↔ Tog zs v w := by
  obtain ⟨ms, h1, rfl, rfl⟩ := h
  rw [← h1.tog hv hw]
  exact h1.eqv.same hv hw
end Go.Proofs.YtgbpaiffnhpafaaDoor
namespace Go.Proofs.YtgbpaiffnhpafaaDoor
open Go.RowKit

theorem getD_of {os : List Int} {m v : Nat} (hl : os.length = m) (hv : v < m) : os[v]? = some (os.getD v 0) := by
  rw [List.getD_eq_getElem?_getD, List.getElem?_eq_getElem (by omega)]
  rfl
theorem Comps.sameOf {zs : List Ed} {m : Nat} {ls : List (List Int)} {os : List Int} (h : Comps zs m ls os) {p : Ed} (hp : rightE (m : Int) p = true) : sameOf os p = true ↔ Tog zs p.1.toNat p.2.1.toNat := by
  have hr := of_decide_eq_true hp
  have h1 : p.1.toNat < m := by omega
  have h2 : p.2.1.toNat < m := by omega
  rw [← h.same h1 h2, getD_of h.len.1 h1, getD_of h.len.1 h2]
  unfold Go.Proofs.YtgbpaiffnhpafaaDoor.sameOf ofFrom ofTo
  rw [beq_iff_eq, Option.some.injEq]
/-- The first edge of a row of them. -/
theorem Leads.first {zs : List Ed} {u v : Int} (h : Leads zs u v) : ∃ p ∈ zs, p.1 = u ∧ (p.2.1 = v ∨ Leads zs p.2.1 v) := by
  induction h with
  | one hp hu => exact ⟨_, hp, hu, .inl rfl⟩
  | more _ hp ih =>
    obtain ⟨q, hq, hu, hv⟩ := ih
    refine ⟨q, hq, hu, .inr ?_⟩
    rcases hv with hv | hv
    · exact .one hp hv.symm
    · exact .more hv hp
/-- Whoever goes round is together with another one. -/
theorem round_iff {zs : List Ed} {nodes : Int} (hz : ∀ p ∈ zs, rightE nodes p = true) (v : Nat) : Leads zs (v : Int) (v : Int) ↔ ∃ w : Nat, w ≠ v ∧ Tog zs v w := by
  constructor
  · intro h
    obtain ⟨p, hp, hu, hv⟩ := h.first
    have hr := of_decide_eq_true (hz p hp)
    refine ⟨p.2.1.toNat, by omega, .inr ?_⟩
    rw [show ((p.2.1.toNat : Nat) : Int) = p.2.1 from by omega]
    refine ⟨.one hp hu, ?_⟩
    rcases hv with hv | hv
    · exact absurd (hu.trans hv.symm) hr.2.2.1
    · exact hv
  · rintro ⟨w, hw, h | h⟩
    · exact absurd h.symm hw
    · exact h.1.trans h.2
/-- Within components. -/
theorem leads_inner {zs : List Ed} {m : Nat} {ls : List (List Int)} {os : List Int} (hz : ∀ p ∈ zs, rightE (m : Int) p = true) (h : Comps zs m ls os) (u v : Nat) : Leads (zs.filter (sameOf os)) (u : Int) (v : Int) ↔ Leads zs (u : Int) (v : Int) ∧ Tog zs u v := by
  constructor
  · intro hl
    have key : ∀ y : Int, Leads (zs.filter (sameOf os)) (u : Int) y → Leads zs (u : Int) y ∧ Tog zs u y.toNat := by
      intro y hy
      induction hy with
      | @one p hp hu =>
        have hp2 := List.mem_filter.1 hp
        have := (h.sameOf (hz p hp2.1)).1 hp2.2
        refine ⟨.one hp2.1 hu, ?_⟩
        rwa [hu, Int.toNat_natCast] at this
      | @more p hl hp ih =>
        have hp2 := List.mem_filter.1 hp
        exact ⟨.more ih.1 hp2.1, ih.2.trans ((h.sameOf (hz p hp2.1)).1 hp2.2)⟩
    have := key v hl
    rwa [Int.toNat_natCast] at this
  · rintro ⟨hl, ht⟩
    have hback : u = v ∨ Leads zs (v : Int) (u : Int) := ht.elim .inl (fun e => .inr e.2)
    have key : ∀ y : Int, Leads zs (u : Int) y → (y = (u : Int) ∨ Leads zs y (u : Int)) → Leads (zs.filter (sameOf os)) (u : Int) y := by
      intro y hy
      induction hy with
      | @one p hp hu =>
        intro hb
        have hr := of_decide_eq_true (hz p hp)
        refine .one (List.mem_filter.2 ⟨hp, (h.sameOf (hz p hp)).2 ?_⟩) hu
        rcases hb with hb | hb
        · exact absurd (hu.trans hb.symm) hr.2.2.1
        · refine .inr ?_
          rw [show ((p.1.toNat : Nat) : Int) = p.1 from by omega, show ((p.2.1.toNat : Nat) : Int) = p.2.1 from by omega]
          exact ⟨.one hp rfl, by rw [hu]; exact hb⟩
      | @more p hl hp ih =>
        intro hb
        have hr := of_decide_eq_true (hz p hp)
        have hpu : Leads zs p.1 (u : Int) := by
          rcases hb with hb | hb
          · have : Leads zs p.1 p.2.1 := .one hp rfl
            rwa [hb] at this
          · exact (Leads.one hp rfl).trans hb
        refine .more (ih (.inr hpu)) (List.mem_filter.2 ⟨hp, (h.sameOf (hz p hp)).2 (.inr ?_)⟩)
        rw [show ((p.1.toNat : Nat) : Int) = p.1 from by omega, show ((p.2.1.toNat : Nat) : Int) = p.2.1 from by omega]
        refine ⟨.one hp rfl, ?_⟩
        rcases hb with hb | hb
        · rw [hb]; exact hl
        · exact hb.trans hl
    refine key v hl ?_
    rcases hback with hb | hb
    · exact .inl (by rw [hb])
    · exact .inr hb
theorem tog_inner {zs : List Ed} {m : Nat} {ls : List (List Int)} {os : List Int} (hz : ∀ p ∈ zs, rightE (m : Int) p = true) (h : Comps zs m ls os) (u v : Nat) : Tog (zs.filter (sameOf os)) u v ↔ Tog zs u v := by
  unfold Tog
  rw [leads_inner hz h, leads_inner hz h]
  refine ⟨fun e => e.elim .inl (fun e => .inr ⟨e.1.1, e.2.1⟩), fun e => ?_⟩
  rcases e with e | e
  · exact .inl e
  · exact .inr ⟨⟨e.1, .inr e⟩, ⟨e.2, .inr ⟨e.2, e.1⟩⟩⟩
/-- Turned round. -/
theorem leads_flip {zs ys : List Ed} (hy : ∀ p, p ∈ ys ↔ flipE p ∈ zs) {u v : Int} (h : Leads ys u v) : Leads zs v u := by
  induction h with
  | @one p hp hu => exact hu ▸ Leads.one (p := flipE p) ((hy p).1 hp) rfl
  | @more p _ hp ih => exact (Leads.one (p := flipE p) ((hy p).1 hp) rfl).trans ih
theorem tog_back {zs : List Ed} {nodes : Int} (h : IsG nodes zs) (u v : Nat) : Tog (backE zs) u v ↔ Tog zs u v := by
  have h1 := fun p => mem_back h p
  have h2 : ∀ p, p ∈ zs ↔ flipE p ∈ backE zs := fun p => by rw [h1, flip_flip]
  unfold Tog
  refine ⟨fun e => e.elim .inl (fun e => .inr ⟨leads_flip h1 e.2, leads_flip h1 e.1⟩), fun e => e.elim .inl (fun e => .inr ⟨leads_flip h2 e.2, leads_flip h2 e.1⟩)⟩
/-- What leads in Fold leads in the graph. -/
theorem leads_fold {zs fs : List Ed} {m : Nat} {ls : List (List Int)} {os : List Int} (hz : ∀ p ∈ zs, rightE (m : Int) p = true) (h : Comps zs m ls os) (hf : ∀ q, q ∈ fs ↔ q ∈ foldL os zs) {i j : Int} (hl : Leads fs i j) :
    ∀ v w : Nat, v < m → w < m → os[v]? = some i → os[w]? = some j → Tog zs v w ∨ Leads zs (v : Int) (w : Int) := by
  have edge : ∀ q ∈ fs, ∃ p ∈ zs, os[p.1.toNat]? = some q.1 ∧ os[p.2.1.toNat]? = some q.2.1 := by
    intro q hq
    have hq2 := (hf q).1 hq
    unfold foldL at hq2
    obtain ⟨p, hp, rfl⟩ := List.mem_map.1 hq2
    have hp2 := (List.mem_filter.1 hp).1
    have hr := of_decide_eq_true (hz p hp2)
    exact ⟨p, hp2, getD_of h.len.1 (by omega), getD_of h.len.1 (by omega)⟩
  have two : ∀ p ∈ zs, ∀ v w : Nat, v < m → w < m → os[v]? = os[p.1.toNat]? → os[w]? = os[p.2.1.toNat]? → Leads zs (v : Int) (w : Int) := by
    intro p hp v w hv hw h1 h2
    have hr := of_decide_eq_true (hz p hp)
    have t1 := (h.same hv (by omega)).1 h1
    have t2 := (h.same hw (by omega)).1 h2
    have l0 : Leads zs ((p.1.toNat : Nat) : Int) ((p.2.1.toNat : Nat) : Int) := by
      rw [show ((p.1.toNat : Nat) : Int) = p.1 from by omega, show ((p.2.1.toNat : Nat) : Int) = p.2.1 from by omega]
      exact .one hp rfl
    have l1 : Leads zs (v : Int) ((p.2.1.toNat : Nat) : Int) := by
      rcases t1 with e | e
      · rw [e]; exact l0
      · exact e.1.trans l0
    rcases t2 with e | e
    · rw [e]; exact l1
    · exact l1.trans e.2
  induction hl with
  | @one q hq hu =>
    intro v w hv hw h1 h2
    obtain ⟨p, hp, e1, e2⟩ := edge q hq
    exact .inr (two p hp v w hv hw (by rw [h1, e1, hu]) (by rw [h2, e2]))
  | @more q _ hq ih =>
    intro v w hv hw h1 h2
    obtain ⟨p, hp, e1, e2⟩ := edge q hq
    have hr := of_decide_eq_true (hz p hp)
    have hpm : p.1.toNat < m := by omega
    have l2 := two p hp p.1.toNat w hpm hw rfl (by rw [h2, e2])
    rcases ih v p.1.toNat hv hpm h1 e1 with ht | ht
    · rcases ht with e | e
      · rw [e]; exact .inr l2
      · exact .inr (e.1.trans l2)
    · exact .inr (ht.trans l2)
/-- Fold's edges are between its nodes. -/
theorem Comps.num {zs : List Ed} {m : Nat} {ls : List (List Int)} {os : List Int} (h : Comps zs m ls os) {v : Nat} (hv : v < m) : ∃ i : Nat, os[v]? = some (i : Int) ∧ i < ls.length := by
  obtain ⟨ms, h1, rfl, rfl⟩ := h
  obtain ⟨u, hu, ht⟩ := h1.eqv.least hv
  obtain ⟨i, hi⟩ := List.getElem?_of_mem hu
  refine ⟨i, h1.eqv.ofT_get hv hi ht, ?_⟩
  rw [setsE_eq, List.length_map]
  exact (List.getElem?_eq_some_iff.1 hi).1
theorem Comps.has {zs : List Ed} {m : Nat} {ls : List (List Int)} {os : List Int} (h : Comps zs m ls os) {i : Nat} (hi : i < ls.length) : ∃ v : Nat, v < m ∧ os[v]? = some (i : Int) := by
  obtain ⟨ms, h1, rfl, rfl⟩ := h
  rw [setsE_eq, List.length_map] at hi
  have hi2 : (leasts (togM ms) m)[i]? = some ((leasts (togM ms) m)[i]'hi) := List.getElem?_eq_getElem hi
  have hm := (mem_leasts.1 (List.mem_of_getElem? hi2)).1
  exact ⟨_, hm, h1.eqv.ofT_get hm hi2 (h1.eqv.refl _ hm)⟩
theorem fold_right {zs : List Ed} {m : Nat} {ls : List (List Int)} {os : List Int} (hz : ∀ p ∈ zs, rightE (m : Int) p = true) (h : Comps zs m ls os) : ∀ q ∈ foldL os zs, rightE (ls.length : Int) q = true := by
  intro q hq
  unfold foldL at hq
  obtain ⟨p, hp, rfl⟩ := List.mem_map.1 hq
  obtain ⟨hp1, hp2⟩ := List.mem_filter.1 hp
  have hr := of_decide_eq_true (hz p hp1)
  have h1 : p.1.toNat < m := by omega
  have h2 : p.2.1.toNat < m := by omega
  obtain ⟨i, hi, hil⟩ := h.num h1
  obtain ⟨j, hj, hjl⟩ := h.num h2
  have e1 : ofFrom os p = (i : Int) := by unfold ofFrom; rw [List.getD_eq_getElem?_getD, hi]; rfl
  have e2 : ofTo os p = (j : Int) := by unfold ofTo; rw [List.getD_eq_getElem?_getD, hj]; rfl
  unfold Go.Proofs.YtgbpaiffnhpafaaDoor.sameOf at hp2
  rw [e1, e2] at hp2
  have hne : (i : Int) ≠ (j : Int) := by simpa using hp2
  have e3 : foldP os p = ((i : Int), (j : Int), p.2.2) := by unfold foldP; rw [e1, e2]
  rw [e3]
  exact decide_eq_true ⟨⟨by show (0 : Int) ≤ (i : Int); omega, by show (i : Int) < (ls.length : Int); omega⟩, ⟨by show (0 : Int) ≤ (j : Int); omega, by show (j : Int) < (ls.length : Int); omega⟩, hne, hr.2.2.2⟩
/-- Fold is not cyclic. -/
theorem fold_no_round {zs fs : List Ed} {m : Nat} {ls : List (List Int)} {os : List Int} (hz : ∀ p ∈ zs, rightE (m : Int) p = true) (h : Comps zs m ls os) (hf : ∀ q, q ∈ fs ↔ q ∈ foldL os zs) (i : Nat) : ¬ Leads fs (i : Int) (i : Int) := by
  intro hl
  have hfr : ∀ q ∈ fs, rightE (ls.length : Int) q = true := fun q hq => fold_right hz h q ((hf q).1 hq)
  obtain ⟨j, hj, ht⟩ := (round_iff hfr i).1 hl
  rcases ht with e | ⟨e1, e2⟩
  · exact hj e.symm
  · have r1 := e1.ends hfr
    obtain ⟨v, hv, hvi⟩ := h.has (i := i) (by omega)
    obtain ⟨w, hw, hwj⟩ := h.has (i := j) (by omega)
    have a1 := leads_fold hz h hf e1 v w hv hw hvi hwj
    have a2 := leads_fold hz h hf e2 w v hw hv hwj hvi
    have : Tog zs v w := by
      rcases a1 with a1 | a1
      · exact a1
      · rcases a2 with a2 | a2
        · exact a2.symm
        · exact .inr ⟨a1, a2⟩
    have := (h.same hv hw).2 this
    rw [hvi, hwj] at this
    injection this with this
    omega
/-- One edge more. -/
theorem leads_edge {zs ys : List Ed} {e : Ed} (hy : ∀ p, p ∈ ys ↔ p ∈ zs ∨ p = e) (u v : Int) : Leads ys u v ↔ Leads zs u v ∨ ((u = e.1 ∨ Leads zs u e.1) ∧ (v = e.2.1 ∨ Leads zs e.2.1 v)) := by
  constructor
  · intro h
    induction h with
    | @one p hp hu =>
      rcases (hy p).1 hp with hp | rfl
      · exact .inl (.one hp hu)
      · exact .inr ⟨.inl hu.symm, .inl rfl⟩
    | @more p _ hp ih =>
      rcases (hy p).1 hp with hp | rfl
      · rcases ih with ih | ⟨ih1, ih2⟩
        · exact .inl (.more ih hp)
        · refine .inr ⟨ih1, .inr ?_⟩
          rcases ih2 with ih2 | ih2
          · exact .one hp ih2
          · exact .more ih2 hp
      · rcases ih with ih | ⟨ih1, _⟩
        · exact .inr ⟨.inr ih, .inl rfl⟩
        · exact .inr ⟨ih1, .inl rfl⟩
  · have hs : ∀ p ∈ zs, p ∈ ys := fun p hp => (hy p).2 (.inl hp)
    have he : Leads ys e.1 e.2.1 := .one ((hy e).2 (.inr rfl)) rfl
    rintro (h | ⟨h1, h2⟩)
    · exact h.mono hs
    · have a : Leads ys u e.2.1 := by
        rcases h1 with rfl | h1
        · exact he
        · exact (h1.mono hs).trans he
      rcases h2 with rfl | h2
      · exact a
      · exact a.trans (h2.mono hs)
/-- An edge that leads as the graph does already changes nothing. -/
theorem leads_there {zs ys : List Ed} {e : Ed} (hy : ∀ p, p ∈ ys ↔ p ∈ zs ∨ p = e) (hl : Leads zs e.1 e.2.1) (u v : Int) : Leads ys u v ↔ Leads zs u v := by
  rw [leads_edge hy]
  refine ⟨fun h => ?_, .inl⟩
  rcases h with h | ⟨h1, h2⟩
  · exact h
  · have a : Leads zs u e.2.1 := by
      rcases h1 with rfl | h1
      · exact hl
      · exact h1.trans hl
    rcases h2 with rfl | h2
    · exact a
    · exact a.trans h2
/-- An edge back puts both together just if there is a way. -/
theorem tog_edge {zs ys : List Ed} {e : Ed} {from_ to_ : Nat} (h1 : e.1 = (to_ : Int)) (h2 : e.2.1 = (from_ : Int)) (hne : from_ ≠ to_) (hy : ∀ p, p ∈ ys ↔ p ∈ zs ∨ p = e) : Tog ys from_ to_ ↔ Leads zs (from_ : Int) (to_ : Int) := by
  have hb : Leads ys (to_ : Int) (from_ : Int) := by rw [← h1, ← h2]; exact .one ((hy e).2 (.inr rfl)) rfl
  have hs : ∀ p ∈ zs, p ∈ ys := fun p hp => (hy p).2 (.inl hp)
  constructor
  · rintro (h | h)
    · exact absurd h hne
    · rcases (leads_edge hy _ _).1 h.1 with h | ⟨h3, _⟩
      · exact h
      · rw [h1] at h3
        rcases h3 with h3 | h3
        · exact absurd (by omega) hne
        · exact h3
  · intro h
    exact .inr ⟨h.mono hs, hb⟩
end Go.Proofs.YtgbpaiffnhpafaaDoor
namespace Go.Proofs.YtgbpaiffnhpafaaDoor
/-- An edge leads from the one node to the other one. -/
def EdR (zs : List Ed) (x y : Int) : Prop := ∃ p ∈ zs, p.1 = x ∧ p.2.1 = y
def edB (zs : List Ed) (x y : Int) : Bool := zs.any fun p => p.1 == x && p.2.1 == y
section
variable {zs : List Ed} {m : Nat} {x y a b v : Int} {l : List Int}
theorem edB_iff : edB zs x y = true ↔ EdR zs x y := by
  unfold edB EdR
  rw [List.any_eq_true]
  constructor
  · rintro ⟨p, hp, h⟩
    simp at h
    exact ⟨p, hp, h⟩
  · rintro ⟨p, hp, h1, h2⟩
    exact ⟨p, hp, by simp [h1, h2]⟩
theorem EdR.in_ (h : ∀ p ∈ zs, rightE (m : Int) p = true) : In (EdR zs) m := by
  rintro x y ⟨p, hp, rfl, rfl⟩
  have := of_decide_eq_true (h p hp)
  exact ⟨this.1, this.2.1⟩
theorem EdR.irr {nodes : Int} (h : ∀ p ∈ zs, rightE nodes p = true) (x : Int) : ¬ EdR zs x x := by
  rintro ⟨p, hp, h1, h2⟩
  have := of_decide_eq_true (h p hp)
  exact this.2.2.1 (h1.trans h2.symm)
theorem edR_back {nodes : Int} (h : IsG nodes zs) : EdR (backE zs) x y ↔ EdR zs y x := by
  constructor
  · rintro ⟨p, hp, h1, h2⟩
    exact ⟨flipE p, (mem_back h p).1 hp, h2, h1⟩
  · rintro ⟨p, hp, h1, h2⟩
    exact ⟨flipE p, (mem_back h (flipE p)).2 hp, h2, h1⟩
theorem mem_outE {p : Ed} : p ∈ outE zs x ↔ p ∈ zs ∧ p.1 = x := by unfold outE; rw [List.mem_filter]; simp
theorem edR_out : EdR zs x y ↔ ∃ p ∈ outE zs x, p.2.1 = y := by
  constructor
  · rintro ⟨p, hp, h1, h2⟩
    exact ⟨p, mem_outE.2 ⟨hp, h1⟩, h2⟩
  · rintro ⟨p, hp, h2⟩
    exact ⟨p, (mem_outE.1 hp).1, (mem_outE.1 hp).2, h2⟩
/-- What leads out of a node rises. -/
theorem out_up {nodes : Int} (h : IsG nodes zs) (v : Int) : (outE zs v).Pairwise fun p q => p.2.1 ≤ q.2.1 := by
  have h1 : upE (outE zs v) := List.Pairwise.filter _ h.up
  refine List.Pairwise.imp_of_mem ?_ h1
  intro p q hp hq hpq
  have e1 := mem_outE.1 hp
  have e2 := mem_outE.1 hq
  have o1 := h.ok p e1.1
  have o2 := h.ok q e2.1
  unfold okE at o1 o2
  unfold plE at hpq
  omega
/-- Steps over those that may be gone over. -/
def StepR (zs : List Ed) (may : Int → Bool) (x y : Int) : Prop := EdR zs x y ∧ may y = true
theorem StepR.in_ {may : Int → Bool} (h : ∀ p ∈ zs, rightE (m : Int) p = true) : In (StepR zs may) m := fun x y hs => EdR.in_ h x y hs.1
theorem step_any {x y : Int} : StepR zs (fun _ => true) x y ↔ EdR zs x y := ⟨fun h => h.1, fun h => ⟨h, rfl⟩⟩

theorem star_iff : Star (EdR zs) x y ↔ x = y ∨ Leads zs x y := by
  constructor
  · rintro ⟨r, h⟩
    induction h with
    | one => exact .inl rfl
    | more _ hr ih =>
      obtain ⟨p, hp, h1, h2⟩ := hr
      subst h2
      rcases ih with e | ih
      · exact .inr (.one hp (h1.trans e.symm))
      · exact .inr (.more (h1 ▸ ih) hp)
  · rintro (rfl | h)
    · exact ⟨[x], .one⟩
    · induction h with
      | one hp hu => subst hu; exact ⟨_, .more .one ⟨_, hp, rfl, rfl⟩⟩
      | more _ hp ih =>
        obtain ⟨r, hr⟩ := ih
        exact ⟨_, .more hr ⟨_, hp, rfl, rfl⟩⟩
/-- Who lead to one another. -/
def TogR (zs : List Ed) (x y : Int) : Prop := Star (EdR zs) x y ∧ Star (EdR zs) y x
theorem inner_iff {ls : List (List Int)} {os : List Int} (hz : ∀ p ∈ zs, rightE (m : Int) p = true) (h : Comps zs m ls os) : EdR (zs.filter (sameOf os)) x y ↔ EdR zs x y ∧ TogR zs x y := by
  have key : ∀ p ∈ zs, sameOf os p = true ↔ TogR zs p.1 p.2.1 := by
    intro p hp
    have hr := of_decide_eq_true (hz p hp)
    rw [h.sameOf (hz p hp)]
    unfold Tog TogR
    rw [star_iff, star_iff, Int.toNat_of_nonneg hr.1.1, Int.toNat_of_nonneg hr.2.1.1]
    constructor
    · rintro (e | ⟨h1, h2⟩)
      · exact absurd (by omega) hr.2.2.1
      · exact ⟨.inr h1, .inr h2⟩
    · rintro ⟨e | h1, e2 | h2⟩
      · exact absurd e hr.2.2.1
      · exact absurd e hr.2.2.1
      · exact absurd e2.symm hr.2.2.1
      · exact .inr ⟨h1, h2⟩
  constructor
  · rintro ⟨p, hp, rfl, rfl⟩
    obtain ⟨h1, h2⟩ := List.mem_filter.1 hp
    exact ⟨⟨p, h1, rfl, rfl⟩, (key p h1).1 h2⟩
  · rintro ⟨⟨p, hp, rfl, rfl⟩, h2⟩
    exact ⟨p, List.mem_filter.2 ⟨hp, (key p hp).2 h2⟩, rfl, rfl⟩
/-- Who goes round stays within. -/
theorem Cw.inner {ls : List (List Int)} {os : List Int} {q : Int → Int → Prop} (hz : ∀ p ∈ zs, rightE (m : Int) p = true) (h : Comps zs m ls os) :
    Cw (fun x y => EdR (zs.filter (sameOf os)) x y ∧ q x y) (EdR (zs.filter (sameOf os))) v l ↔ Cw (fun x y => EdR zs x y ∧ q x y) (EdR zs) v l := by
  constructor
  · exact Cw.mono (fun _ _ hxy => ⟨((inner_iff hz h).1 hxy.1).1, hxy.2⟩) fun _ _ hxy => ((inner_iff hz h).1 hxy).1
  · intro hc
    have := Cw.within (E := EdR zs) (R := fun x y => EdR zs x y ∧ q x y) (T := TogR zs) (fun x y h1 h2 => ⟨h1, h2⟩) (fun _ _ h => h.1) hc
    exact this.mono (fun _ _ hxy => ⟨(inner_iff hz h).2 ⟨hxy.1.1, hxy.2⟩, hxy.1.2⟩) fun _ _ hxy => (inner_iff hz h).2 ⟨hxy.1, hxy.2⟩

/-- How far all nodes are. -/
structure FarL (R : Int → Int → Prop) (m : Nat) (a : Int) (l : List Int) : Prop where
  len : l.length = m
  at_ : ∀ (u : Nat) d, l[u]? = some d → FarAt R a (u : Int) d
theorem FarL.one_ {R : Int → Int → Prop} {l l' : List Int} (h : FarL R m a l) (k : FarL R m a l') : l = l' := by
  refine List.ext_getElem (h.len.trans k.len.symm) fun i h1 h2 => ?_
  exact (h.at_ i _ (List.getElem?_eq_getElem h1)).one_ (k.at_ i _ (List.getElem?_eq_getElem h2))
theorem FarL.get {R : Int → Int → Prop} (h : FarL R m a l) {u : Nat} (hu : u < m) : ∃ d, l[u]? = some d ∧ FarAt R a (u : Int) d := by
  have : u < l.length := by rw [h.len]; exact hu
  exact ⟨_, List.getElem?_eq_getElem this, h.at_ u _ (List.getElem?_eq_getElem this)⟩
/-- The least of all shortest rounds from a node on, if there is one. -/
def ThrIs (zs : List Ed) (v : Int) (o : List Int) : Prop := (o ≠ [] ∧ LC (EdR zs) (EdR zs) v o) ∨ (o = [] ∧ ∀ r, ¬ Cw (EdR zs) (EdR zs) v r)
theorem ThrIs.one_ {o o' : List Int} (h : ThrIs zs v o) (k : ThrIs zs v o') : o = o' := by
  rcases h with ⟨_, h⟩ | ⟨rfl, h⟩ <;> rcases k with ⟨_, k⟩ | ⟨rfl, k⟩
  · exact h.one_ k
  · exact absurd h.1 (k _)
  · exact absurd k.1 (h _)
  · rfl
theorem Cw.any {zs : List Ed} {v : Int} {r : List Int} : Cw (fun x y => EdR zs x y ∧ True) (EdR zs) v r ↔ Cw (EdR zs) (EdR zs) v r :=
  ⟨Cw.mono (fun _ _ h => h.1) fun _ _ h => h, Cw.mono (fun _ _ h => ⟨h, trivial⟩) fun _ _ h => h⟩
theorem ThrIs.of_found {ls : List (List Int)} {os o : List Int} (hz : ∀ p ∈ zs, rightE (m : Int) p = true) (hv : 0 ≤ v ∧ v < (m : Int)) (h : Comps zs m ls os)
    (hf : Found (StepR (zs.filter (sameOf os)) fun _ => true) (EdR (zs.filter (sameOf os))) v m o) : ThrIs zs v o := by
  have hc : ∀ r, Cw (StepR (zs.filter (sameOf os)) fun _ => true) (EdR (zs.filter (sameOf os))) v r ↔ Cw (EdR zs) (EdR zs) v r := fun r => by
    rw [← Cw.any (zs := zs), ← Cw.inner (q := fun _ _ => True) hz h]
    exact ⟨Cw.mono (fun _ _ h => ⟨h.1, trivial⟩) fun _ _ h => h, Cw.mono (fun _ _ h => ⟨h.1, rfl⟩) fun _ _ h => h⟩
  have hf2 : Found (EdR zs) (EdR zs) v m o := Found.congr hc hf
  rcases hf2 with ⟨h1, h2, _⟩ | ⟨rfl, h2⟩
  · exact .inl ⟨h1, h2⟩
  · exact .inr ⟨rfl, Found.none_all (EdR.in_ hz) hv (.inr ⟨rfl, h2⟩)⟩
/-- One node more that is looked at. -/
theorem BestIs.look {ls : List (List Int)} {os o p : List Int} {k most : Nat} (hz : ∀ p ∈ zs, rightE (m : Int) p = true) (hk : k < m) (h : Comps zs m ls os) (hb : BestIs (EdR zs) k o)
    (hf : Found (StepR (zs.filter (sameOf os)) fun y => decide ((k : Int) < y)) (EdR (zs.filter (sameOf os))) (k : Int) most p) (hm : o ≠ [] → most + 1 = o.length) (hm0 : o = [] → most = m) :
    BestIs (EdR zs) (k + 1) (if o = [] ∨ (p ≠ [] ∧ p.length < o.length) then p else o) := by
  have hc : ∀ r, Cw (StepR (zs.filter (sameOf os)) fun y => decide ((k : Int) < y)) (EdR (zs.filter (sameOf os))) (k : Int) r ↔ Cw (Ab (EdR zs) (k : Int)) (EdR zs) (k : Int) r := fun r => by
    have h1 := Cw.inner (v := (k : Int)) (l := r) (q := fun _ y => (k : Int) < y) hz h
    constructor
    · intro h2
      exact h1.1 (h2.mono (fun _ _ h => ⟨h.1, of_decide_eq_true h.2⟩) fun _ _ h => h)
    · intro h2
      exact (h1.2 h2).mono (fun _ _ h => ⟨h.1, decide_eq_true h.2⟩) fun _ _ h => h
  have hf2 : Found (To (EdR zs) (k : Int)) (EdR zs) (k : Int) most p := (Found.congr hc hf).above
  refine hb.next hf2 hm fun e r hr => ?_
  have hin : In (To (EdR zs) (k : Int)) m := fun x y hs => EdR.in_ hz x y hs.1
  obtain ⟨s, h1, h2⟩ := hr.few hin ⟨by omega, by omega⟩
  exact ⟨s, h1, by rw [hm0 e]; exact h2⟩
theorem BestIs.few {o : List Int} {k : Nat} (hz : ∀ p ∈ zs, rightE (m : Int) p = true) (hk : k ≤ m) (h : BestIs (EdR zs) k o) : o.length ≤ m := by
  rcases h with ⟨rfl, _⟩ | ⟨_, v, hv, h1, _⟩
  · exact Nat.zero_le _
  · exact h1.few (fun x y hs => EdR.in_ hz x y hs.1) ⟨by omega, by omega⟩

/-- A row of nodes, from each of which an edge leads to the next one. -/
structure IsW (zs : List Ed) (m : Nat) (l : List Int) : Prop where
  any : l ≠ []
  once : l.Nodup
  ends : ∀ x ∈ l, 0 ≤ x ∧ x < (m : Int)
  on : ∀ (i : Nat) x y, l[i]? = some x → l[i + 1]? = some y → EdR zs x y
structure IsC (zs : List Ed) (m : Nat) (l : List Int) : Prop where
  way : IsW zs m l
  two : 1 < l.length
  least : ∀ x ∈ l, l.headD 0 ≤ x
  back : EdR zs (endO l) (l.headD 0)
def IsP (zs : List Ed) (m : Nat) (l : List Int) (round : Bool) : Prop := if round = true then IsC zs m l else IsW zs m l
theorem Wk.steps {R : Int → Int → Prop} (h : Wk R a l b) : ∀ (i : Nat) x y, l[i]? = some x → l[i + 1]? = some y → R x y := by
  induction h with
  | one => intro i x y _ h2; simp at h2
  | more h hr ih =>
    rename_i p b c
    intro i x y h1 h2
    rcases Nat.lt_trichotomy (i + 1) p.length with h3 | h3 | h3
    · rw [List.getElem?_append_left (by omega)] at h1
      rw [List.getElem?_append_left h3] at h2
      exact ih i x y h1 h2
    · rw [List.getElem?_append_left (by omega)] at h1
      rw [List.getElem?_append_right (by omega), show i + 1 - p.length = 0 by omega] at h2
      simp at h2
      subst h2
      have e : endO p = x := by
        unfold endO
        rw [List.getLastD_eq_getLast?, List.getLast?_eq_getElem?, show p.length - 1 = i by omega, h1]
        rfl
      rw [← e, h.end_]
      exact hr
    · rw [List.getElem?_eq_none (by simp; omega)] at h2
      cases h2
theorem Wk.of_steps {R : Int → Int → Prop} : ∀ {l : List Int} {a : Int}, (∀ (i : Nat) x y, (a :: l)[i]? = some x → (a :: l)[i + 1]? = some y → R x y) → Wk R a (a :: l) (endO (a :: l))
  | [], a, _ => .one
  | c :: l, a, h => by
    have h1 : R a c := h 0 a c rfl rfl
    have h2 : Wk R c (c :: l) (endO (c :: l)) := Wk.of_steps fun i x y hx hy => h (i + 1) x y hx hy
    have := h2.cons h1
    rwa [show endO (a :: c :: l) = endO (c :: l) by unfold endO; simp [List.getLastD]]
theorem IsW.wk (h : IsW zs m l) : ∃ a, l.head? = some a ∧ Wk (EdR zs) a l (endO l) := by
  cases l with
  | nil => exact absurd rfl h.any
  | cons a l => exact ⟨a, rfl, Wk.of_steps h.on⟩
theorem Wk.isW (hz : ∀ p ∈ zs, rightE (m : Int) p = true) (ha : 0 ≤ a ∧ a < (m : Int)) (h : Wk (EdR zs) a l b) (hn : l.Nodup) : IsW zs m l :=
  ⟨fun e => by have := h.pos; rw [e] at this; simp at this, hn, h.nodes (EdR.in_ hz) ha, h.steps⟩
theorem Wk.headD {R : Int → Int → Prop} (h : Wk R a l b) : l.headD 0 = a := by
  have := h.head
  cases l with
  | nil => simp at this
  | cons x l => simpa using this
end
end Go.Proofs.YtgbpaiffnhpafaaDoor
namespace Go.Proofs.YtgbpaiffnhpafaaDoor
open Go.RowKit

/-- A walk's rows, as they lie. -/
structure PwAt (B : Nat) (A : Option Addr) (n c : Nat) (Sa : Option Addr) (sc m : Nat) (zs : List Ed) (W : World) : Prop where
  es : Reads W B 3 A n (cellsE zs)
  ss : Reads W B 1 Sa (m + 1) (ints (startsE zs (m + 1)))
  nc : n ≤ c
section
variable {B : Nat} {A : Option Addr} {n c : Nat} {Sa : Option Addr} {sc m : Nat} {zs : List Ed} {W W' : World}
theorem PwAt.on (h : PwAt B A n c Sa sc m zs W) (hb : Below B W W') : PwAt B A n c Sa sc m zs W' := ⟨h.es.below hb, h.ss.below hb, h.nc⟩
theorem PwAt.more (h : PwAt B A n c Sa sc m zs W) {B' : Nat} (hb : B ≤ B') : PwAt B' A n c Sa sc m zs W := ⟨h.es.more hb, h.ss.more hb, h.nc⟩
theorem PwAt.len (h : PwAt B A n c Sa sc m zs W) : zs.length = n := reads_len h.es
end
theorem starts_two8 {w : World} {B m v : Nat} {Sa : Option Addr} {zs : List Ed} (h : Reads w B 1 Sa (m + 1) (ints (startsE zs (m + 1)))) (hv : v < m) :
    ∃ b o, Sa = some ⟨b, o, none⟩ ∧ b < B ∧ w.cell? ⟨b, o + v, none⟩ = some (.int .i64 (startE zs (v : Int) : Int)) ∧ w.cell? ⟨b, o + (v + 1), none⟩ = some (.int .i64 (startE zs ((v : Int) + 1) : Int)) := by
  obtain ⟨b, o, e, hb, hc⟩ := reads_plain h (by omega)
  have hat : ∀ j, j < m + 1 → (ints (startsE zs (m + 1)))[j]? = some (.int .i64 (startE zs (j : Int) : Int)) := fun j hj => by
    unfold ints startsE
    rw [List.getElem?_map, List.getElem?_map, List.getElem?_range hj]
    rfl
  exact ⟨b, o, e, hb, hc _ _ (hat v (by omega)), hc _ _ (hat (v + 1) (by omega))⟩

/-- The edges that lead out, cut out of all. -/
def OutW (B : Nat) (l : List Ed) (w : World) (e : Ending) (w' : World) : Prop :=
  ∃ C : Option Addr, e = .returned (.slice C l.length l.length) ∧ Reads w' B 3 C l.length (cellsE l) ∧ Below w.heap.size w w'

set_option maxRecDepth 100000 in
set_option maxHeartbeats 4000000 in
theorem out8_any (B : Nat) (A : Option Addr) (n c : Nat) (Sa : Option Addr) (sc m : Nat) (zs : List Ed) (v : Nat) (hz : InRow zs) (hm : m ≤ 300) (hv : v < m) (w : World) (h : PwAt B A n c Sa sc m zs w) (hB : B ≤ w.heap.size) :
    Calls Tryd.prog 79 #[.agg #[.slice A n c, .slice Sa (m + 1) sc], .int .i64 (v : Int)] w (OutW B (outE zs (v : Int)) w) := by
  have hl := reads_len h.es
  have h1 := start_mono zs (u := (v : Int)) (v := (v : Int) + 1) (by omega)
  have h2 := start_le zs ((v : Int) + 1)
  have hnc := h.nc
  have hor := cut_reads (v : Int) hz h.es
  have hol := reads_len hor
  have hs := fun W => pr_slice_lhm A n c (startE zs (v : Int)) (startE zs ((v : Int) + 1)) (startE zs ((v : Int) + 1)) _ _ _ rfl rfl rfl h1 (Nat.le_refl _) (by omega) W
  have HD : Hid (CutAt zs (v : Int) A = if startE zs ((v : Int) + 1) = startE zs (v : Int) then A else A.map (·.add (startE zs (v : Int) * 3))) := rfl
  rw [← HD.out] at hs
  obtain ⟨b, o, rfl, hb, s0, s1⟩ := starts_two8 h.ss hv
  have b0 : Below w.heap.size w (w.alloc (.cells #[.slice A n c, .slice (some ⟨b, o, none⟩) (m + 1) sc] 69)) := (Below.refl _ _).alloc (Nat.le_refl _) _
  have HO : Hid (∀ W, Below B w W → Reads W B 3 (CutAt zs (v : Int) A) (outE zs (v : Int)).length (cellsE (outE zs (v : Int)))) := fun W hW => by rw [hol]; exact hor.below hW
  have HOL : Hid (startE zs ((v : Int) + 1) - startE zs (v : Int) = (outE zs (v : Int)).length) := hol.symm
  have t0 : (w.alloc (.cells #[.slice A n c, .slice (some ⟨b, o, none⟩) (m + 1) sc] 69)).cell? ⟨b, o + v, none⟩ = some (.int .i64 (startE zs (v : Int) : Int)) := (b0.cell (p := ⟨b, o + v, none⟩) (Nat.lt_of_lt_of_le hb hB)).trans s0
  have t1 : (w.alloc (.cells #[.slice A n c, .slice (some ⟨b, o, none⟩) (m + 1) sc] 69)).cell? ⟨b, o + (v + 1), none⟩ = some (.int .i64 (startE zs ((v : Int) + 1) : Int)) := (b0.cell (p := ⟨b, o + (v + 1), none⟩) (Nat.lt_of_lt_of_le hb hB)).trans s1
  obtain ⟨v1, hv1⟩ : ∃ v1, v + 1 = v1 := ⟨_, rfl⟩
  have hwv : IntKind.i64.wrap ((v : Int) + 1) = (v1 : Int) := by rw [IntKind.wrap_i64]; omega
  have hv1m : (v1 : Int) < ((m + 1 : Nat) : Int) := by omega
  have hv0m : (v : Int) < ((m + 1 : Nat) : Int) := by omega
  rw [hv1] at t1
  have HB := Lib.hid hB
  have B0 := Lib.hid b0
  have z0 := (Blk.new w 69 #[.slice A n c, .slice (some ⟨b, o, none⟩) (m + 1) sc]).cell 0
  have z1 := (Blk.new w 69 #[.slice A n c, .slice (some ⟨b, o, none⟩) (m + 1) sc]).cell 1
  clear h hl h2 hnc hor hol hz hb hv1 hB s0 s1 b0 HD
  generalize m + 1 = sn at *
  generalize CutAt zs (v : Int) A = C at *
  obtain ⟨k, hk⟩ : ∃ k, (outE zs (v : Int)).length = k := ⟨_, rfl⟩
  rw [hk] at HO HOL
  have HK := Lib.hid hk
  clear hk
  generalize startE zs (v : Int) = s at *
  generalize startE zs ((v : Int) + 1) = t at *
  go_enter Tryd.func79, Tryd.ntmps79
  go_upto_region 1 with fail
  generalize w.alloc (.cells #[.slice A n c, .slice (some ⟨b, o, none⟩) sn sc] 69) = W0 at *
  go_quiet (fail)
  have B1 := Lib.hid (below_drewN B0.out nq)
  have y0 : (W0.drewN nq).cell? ⟨w.heap.size, 0, none⟩ = some (.slice A n c) := z0
  clear B0 z0 z1 t0 t1
  generalize W0.drewN nq = W1 at *
  go_wp2_with fail
  have e : Value.slice C (t - s) (t - s) = .slice C k k := by rw [HOL.out]
  go_ret
  exact ⟨C, by rw [HK.out, ← e]; rfl, by rw [HK.out]; exact HO.out _ (B1.out.mono HB.out), B1.out⟩

set_option maxHeartbeats 1000000 in
theorem leads1_any (p : Ed) (hp : okE p) (v : Int) (hv : 0 ≤ v ∧ v ≤ 1000) (W : World) :
    Calls Tryd.prog 80 #[.agg #[.int .i64 p.1, .int .i64 p.2.1, .int .i64 p.2.2], .int .i64 v] W fun e W' => e = .returned (.int .i64 (p.2.1 - v)) ∧ Below W.heap.size W W' := by
  have hw : IntKind.i64.wrap (p.2.1 - v) = p.2.1 - v := by rw [IntKind.wrap_i64]; unfold okE at hp; omega
  go_enter Tryd.func80, Tryd.ntmps80
  go_wp2_with fail
  go_ret
  exact ⟨rfl, (Below.refl _ _).alloc (Nat.le_refl _) _⟩
theorem anywhere_any (v : Int) (w : World) : Calls Tryd.prog 39 #[.int .i64 v] w fun e w' => e = .returned (.bool true) ∧ w = w' := by
  go_enter Tryd.func39, Tryd.ntmps39
  go_wp2_with fail
  go_ret
  exact ⟨rfl, rfl⟩

set_option maxRecDepth 100000 in
set_option maxHeartbeats 4000000 in
theorem search8_any (cv : Int) (A : Option Addr) (n c j : Nat) (ps : List Ed) (q : Ed → Int) (bb : Bool) (hn : n ≤ 1000000) (w : World) (hR : Reads w w.heap.size 3 A n (cellsE ps))
    (hj : j ≤ n) (hlo : ∀ i p, ps[i]? = some p → i < j → q p < 0) (hhi : ∀ i p, ps[i]? = some p → j ≤ i → ¬ q p < 0) (hbb : j < n → ∀ p, ps[j]? = some p → bb = (q p == 0)) (hb0 : ¬ j < n → bb = false)
    (hq : ∀ p ∈ ps, ∀ W : World, Below w.heap.size w W → Calls Tryd.prog 80 #[.agg #[.int .i64 p.1, .int .i64 p.2.1, .int .i64 p.2.2], .int .i64 cv] W fun e W' => e = .returned (.int .i64 (q p)) ∧ Below W.heap.size W W') :
    Calls Tryd.prog 78 #[.slice A n c, .int .i64 cv, .func (.func 80) #[] #[]] w fun e w' => e = .returned (.tuple #[.int .i64 j, .bool bb]) ∧ Below w.heap.size w w' := by
  have HR := Lib.hid hR
  have HL := Lib.hid (reads_len hR)
  have HLO := Lib.hid hlo
  have HHI := Lib.hid hhi
  have HBB := Lib.hid (And.intro hbb hb0)
  have HQ := Lib.hid hq
  clear hR hlo hhi hbb hb0 hq
  go_enter Tryd.func78, Tryd.ntmps78
  go_wp2_with fail
  go_loopg [9, 10] n (fun gg s6 s7 wr => ∃ l h : Nat, h - l ≤ gg ∧ l ≤ j ∧ j ≤ h ∧ h ≤ n ∧ s6 = .int .i64 l ∧ s7 = .int .i64 h ∧ Hid (Below w.heap.size w wr))
  case atStart => exact ⟨0, n, by omega, by omega, by omega, by omega, rfl, rfl, Below.refl _ _⟩
  case round =>
    obtain ⟨l, h, hg, hlj, hjh, hhn, rfl, rfl, bk⟩ := hrel
    by_cases hlt : l < h
    · have hlt2 : (l : Int) < (h : Int) := by omega
      obtain ⟨m, hm⟩ : ∃ m, m = (l + h) / 2 := ⟨_, rfl⟩
      have hmi : ((l : Int) + (h : Int)) / 2 = (m : Int) := by omega
      have hml : l ≤ m := by omega
      have hmh : m < h := by omega
      obtain ⟨p, hp⟩ : ∃ p, ps[m]? = some p := ⟨ps[m]'(by rw [HL.out]; omega), List.getElem?_eq_getElem _⟩
      obtain ⟨b, o, rfl, hb, g0, g1, gk2⟩ := ed_at (HR.out.below bk.out) hp
      have hi1 : (0 : Int) ≤ (m : Int) := by omega
      have hi2 : (m : Int) < (n : Int) := by omega
      have HG := Lib.hid hg
      have HMM := Lib.hid hm
      clear hm hg
      by_cases hmj : m < j
      · have hv := HLO.out m p hp hmj
        have HP := Lib.hid (List.mem_of_getElem? hp)
        clear hp
        go_wp2_with fail
        refine (HQ.out p HP.out _ bk.out).mono ?_
        rintro e w2 ⟨rfl, b2⟩
        have HB2 : Hid (Below w.heap.size w w2) := bk.out.trans (b2.mono bk.out.size)
        clear b2 g0 g1 gk2
        generalize q p = v at *
        go_wp2_with fail
        go_roundg (gk - 1)
        case measure => have := HG.out; omega
        case rel => exact ⟨m + 1, h, by have := HG.out; have := HMM.out; omega, by omega, hjh, hhn, by go_num, rfl, HB2⟩
      · have hv := HHI.out m p hp (by omega)
        have HP := Lib.hid (List.mem_of_getElem? hp)
        clear hp
        go_wp2_with fail
        refine (HQ.out p HP.out _ bk.out).mono ?_
        rintro e w2 ⟨rfl, b2⟩
        have HB2 : Hid (Below w.heap.size w w2) := bk.out.trans (b2.mono bk.out.size)
        clear b2 g0 g1 gk2
        generalize q p = v at *
        go_wp2_with fail
        go_roundg (gk - 1)
        case measure => have := HG.out; omega
        case rel => exact ⟨l, m, by have := HG.out; have := HMM.out; omega, hlj, by omega, by omega, rfl, rfl, HB2⟩
    · have hge : ¬ (l : Int) < (h : Int) := by omega
      obtain rfl : l = j := by omega
      clear hlj hjh
      by_cases hjn : l < n
      · have hjn2 : (l : Int) < (n : Int) := by omega
        obtain ⟨p, hp⟩ : ∃ p, ps[l]? = some p := ⟨ps[l]'(by rw [HL.out]; omega), List.getElem?_eq_getElem _⟩
        obtain ⟨b, o, rfl, hb, g0, g1, gk2⟩ := ed_at (HR.out.below bk.out) hp
        have HV := Lib.hid (HBB.out.1 hjn p hp)
        have hi1 : (0 : Int) ≤ (l : Int) := by omega
        have HP := Lib.hid (List.mem_of_getElem? hp)
        clear hp
        go_wp2_with fail
        refine (HQ.out p HP.out _ bk.out).mono ?_
        rintro e w2 ⟨rfl, b2⟩
        have HB2 : Hid (Below w.heap.size w w2) := bk.out.trans (b2.mono bk.out.size)
        clear b2 g0 g1 gk2
        generalize q p = v at *
        go_wp2_with fail
        go_ret2
        exact ⟨by rw [HV.out]; rfl, HB2.out⟩
      · have hjn2 : decide ((l : Int) < (n : Int)) = false := by simp; omega
        have hjn3 : ¬ (l : Int) < (n : Int) := by omega
        have HV := Lib.hid (HBB.out.2 hjn)
        go_wp2_with fail
        go_ret2
        exact ⟨by rw [HV.out]; rfl, bk.out⟩

/-- Where a number stands in a row that rises. -/
theorem rise_split {l : List Ed} (h : l.Pairwise fun p q => p.2.1 ≤ q.2.1) (v : Int) : ∃ j, j ≤ l.length ∧ (∀ i p, l[i]? = some p → i < j → p.2.1 - v < 0) ∧ (∀ i p, l[i]? = some p → j ≤ i → ¬ p.2.1 - v < 0) := by
  induction l with
  | nil => exact ⟨0, Nat.le_refl _, fun i p hp => by simp at hp, fun i p hp => by simp at hp⟩
  | cons a l ih =>
    obtain ⟨h1, h2⟩ := List.pairwise_cons.1 h
    obtain ⟨j, h3, h4, h5⟩ := ih h2
    by_cases ha : a.2.1 < v
    · refine ⟨j + 1, by simp; omega, fun i p hp hi => ?_, fun i p hp hi => ?_⟩
      · cases i with
        | zero => simp at hp; subst hp; omega
        | succ i => exact h4 i p (by simpa using hp) (by omega)
      · cases i with
        | zero => omega
        | succ i => exact h5 i p (by simpa using hp) (by omega)
    · refine ⟨0, Nat.zero_le _, fun i p hp hi => by omega, fun i p hp hi => ?_⟩
      cases i with
      | zero => simp at hp; subst hp; omega
      | succ i =>
        have := h1 p (List.mem_of_getElem? (by simpa using hp))
        omega

set_option maxRecDepth 100000 in
set_option maxHeartbeats 4000000 in
theorem leads8_any (B : Nat) (A : Option Addr) (n c : Nat) (Sa : Option Addr) (sc m : Nat) (zs : List Ed) (hg : IsG (m : Int) zs) (hn : n ≤ 1000) (v : Nat) (u : Int) (hv : v < m) (hu : 0 ≤ u ∧ u ≤ 1000) (w : World) (h : PwAt B A n c Sa sc m zs w) (hB : B ≤ w.heap.size) :
    Calls Tryd.prog 56 #[.agg #[.slice A n c, .slice Sa (m + 1) sc], .int .i64 (v : Int), .int .i64 u] w fun e w' => e = .returned (.bool (edB zs (v : Int) u)) ∧ Below w.heap.size w w' := by
  have hm := hg.nodes
  have b0 : Below w.heap.size w (w.alloc (.cells #[.slice A n c, .slice Sa (m + 1) sc] 69)) := (Below.refl _ _).alloc (Nat.le_refl _) _
  have HO := Lib.hid (out8_any B A n c Sa sc m zs v hg.row (by omega) hv _ (h.on (b0.mono hB)) (Nat.le_trans hB b0.size))
  obtain ⟨j, hj, hlo, hhi⟩ := rise_split (out_up hg (v : Int)) u
  have hk : (outE zs (v : Int)).length ≤ n := by rw [← h.len]; exact List.length_filter_le _ _
  have hbb : ∃ bb, bb = edB zs (v : Int) u ∧ (j < (outE zs (v : Int)).length → ∀ p, (outE zs (v : Int))[j]? = some p → bb = (p.2.1 - u == 0)) ∧ (¬ j < (outE zs (v : Int)).length → bb = false) := by
    refine ⟨_, rfl, fun hlt p hp => ?_, fun hge => ?_⟩
    · have hp1 := hhi j p hp (Nat.le_refl _)
      rw [Bool.eq_iff_iff, edB_iff, edR_out, beq_iff_eq]
      constructor
      · rintro ⟨q, hq, e⟩
        obtain ⟨i, hi, e2⟩ := List.getElem_of_mem hq
        have hi2 := List.getElem?_eq_getElem hi
        rw [e2] at hi2
        have hij : j ≤ i := Nat.le_of_not_lt fun hlt => by have := hlo i _ hi2 hlt; omega
        rcases Nat.lt_or_eq_of_le hij with h3 | h3
        · obtain ⟨i1, e3⟩ := List.getElem?_eq_some_iff.1 hp
          have := List.pairwise_iff_getElem.1 (out_up hg (v : Int)) j i i1 hi h3
          rw [e2, e3] at this
          omega
        · subst h3
          rw [hp] at hi2
          injection hi2 with hi2
          rw [hi2]
          omega
      · intro e
        exact ⟨p, List.mem_of_getElem? hp, by omega⟩
    · rw [← Bool.not_eq_true, edB_iff, edR_out]
      rintro ⟨q, hq, e⟩
      obtain ⟨i, hi, e2⟩ := List.getElem_of_mem hq
      have := hlo i q (by rw [List.getElem?_eq_getElem hi, e2]) (by omega)
      omega
  obtain ⟨bb, hbe, hb1, hb2⟩ := hbb
  have HS : Hid (∀ C W, Below w.heap.size w W → Reads W B 3 C (outE zs (v : Int)).length (cellsE (outE zs (v : Int))) → Calls Tryd.prog 78 #[.slice C (outE zs (v : Int)).length (outE zs (v : Int)).length, .int .i64 u, .func (.func 80) #[] #[]] W fun e w' => e = .returned (.tuple #[.int .i64 j, .bool bb]) ∧ Below W.heap.size W w') := fun C W hW hR =>
    search8_any u C _ _ j (outE zs (v : Int)) (fun p => p.2.1 - u) bb (by omega) W (hR.more (Nat.le_trans hB hW.size)) hj hlo hhi hb1 hb2 fun p hp W' _ => leads1_any p (hg.ok p (mem_outE.1 hp).1) u hu W'
  have B0 := Lib.hid b0
  have HE := Lib.hid hbe
  have z0 := (Blk.new w 69 #[.slice A n c, .slice Sa (m + 1) sc]).cell 0
  have z1 := (Blk.new w 69 #[.slice A n c, .slice Sa (m + 1) sc]).cell 1
  clear h hB hg hm hj hlo hhi hb1 hb2 hbe b0 hk
  go_enter Tryd.func56, Tryd.ntmps56
  go_upto_region 1 with fail
  generalize w.alloc (.cells #[.slice A n c, .slice Sa (m + 1) sc] 69) = W0 at *
  go_wp2_with fail
  refine HO.out.mono ?_
  rintro e w1 ⟨C, rfl, hr, b1⟩
  have HB1 : Hid (Below w.heap.size w w1) := B0.out.trans (b1.mono B0.out.size)
  have HSS := Lib.hid (HS.out C w1 HB1.out hr)
  clear hr b1 z0 z1 HS HO B0
  go_wp2_with fail
  refine HSS.out.mono ?_
  rintro e w2 ⟨rfl, b2⟩
  have HB2 : Hid (Below w.heap.size w w2) := HB1.out.trans (b2.mono HB1.out.size)
  clear b2 HSS HB1
  go_wp2_with fail
  go_ret
  exact ⟨by rw [HE.out]; rfl, HB2.out⟩
end Go.Proofs.YtgbpaiffnhpafaaDoor
namespace Go.Proofs.YtgbpaiffnhpafaaDoor
open Go.RowKit Go.Shelf

/-- What S names lies as it lay. -/
structure Keep (S : Nat → Prop) (W W' : World) : Prop where
  os : W'.os = W.os
  tape : W'.tape = W.tape
  output : W'.output = W.output
  size : W.heap.size ≤ W'.heap.size
  block : ∀ k, k < W.heap.size → S k → W'.heap[k]? = W.heap[k]?
section
variable {S T : Nat → Prop} {W X Y : World}
theorem Keep.refl (S : Nat → Prop) (W : World) : Keep S W W := ⟨rfl, rfl, rfl, Nat.le_refl _, fun _ _ _ => rfl⟩
theorem Keep.trans (h : Keep S W X) (k : Keep S X Y) : Keep S W Y :=
  ⟨k.os.trans h.os, k.tape.trans h.tape, k.output.trans h.output, Nat.le_trans h.size k.size, fun i hi hs => (k.block i (Nat.lt_of_lt_of_le hi h.size) hs).trans (h.block i hi hs)⟩
theorem Keep.mono (h : Keep S W X) (hS : ∀ k, k < W.heap.size → T k → S k) : Keep T W X := ⟨h.os, h.tape, h.output, h.size, fun k hk ht => h.block k hk (hS k hk ht)⟩
theorem Keep.alloc (h : Keep S W X) (o : Obj) : Keep S W (X.alloc o) :=
  ⟨h.os, h.tape, h.output, Nat.le_trans h.size (by simp), fun k hk hs => (Below.heap_alloc X o k (Nat.lt_of_lt_of_le hk h.size)).trans (h.block k hk hs)⟩
theorem Keep.drewN (h : Keep S W X) (n : Nat) : Keep S W (X.drewN n) := ⟨h.os, h.tape, h.output, h.size, h.block⟩
theorem Keep.drew (h : Keep S W X) : Keep S W X.drew := ⟨h.os, h.tape, h.output, h.size, h.block⟩
theorem Keep.set (h : Keep S W X) {g : Nat} (hg : W.heap.size ≤ g ∨ ¬ S g) (i : Nat) (u : Value) : Keep S W (X.setCell ⟨g, i, none⟩ u) :=
  ⟨h.os, h.tape, h.output, Nat.le_trans h.size (by rw [World.size_setCell]; exact Nat.le_refl _), fun k hk hs => (Below.heap_setCell X ⟨g, i, none⟩ u k (fun e => by
    have e : k = g := e
    subst e
    rcases hg with hg | hg
    · omega
    · exact hg hs)).trans (h.block k hk hs)⟩
theorem Keep.grown (h : Keep S W X) {row : Option Nat} (hg : X.grownBy Y row) (hr : ∀ g, row = some g → W.heap.size ≤ g ∨ ¬ S g) : Keep S W Y :=
  ⟨hg.os.trans h.os, hg.tape.trans h.tape, hg.output.trans h.output, Nat.le_trans h.size hg.size, fun k hk hs => (hg.block k (Nat.lt_of_lt_of_le hk h.size) (fun e => by
    rcases hr k e.symm with h1 | h1
    · omega
    · exact h1 hs)).trans (h.block k hk hs)⟩
theorem Keep.put (h : Keep S W X) {l : Nat} (hl : W.heap.size ≤ l ∨ ¬ S l) (o : Obj) : Keep S W (X.putObj l o) :=
  ⟨h.os, h.tape, h.output, Nat.le_trans h.size (by simp [World.putObj]), fun k hk hs => (World.putObj_heap_other (fun e => by
    rcases hl with h1 | h1
    · omega
    · exact h1 (e ▸ hs))).trans (h.block k hk hs)⟩
theorem Keep.of_below {B : Nat} (h : Below B W X) : Keep (fun k => k < B) W X := ⟨h.os, h.tape, h.output, h.size, fun k _ hs => h.block k hs⟩
theorem Keep.of_all (S : Nat → Prop) (h : Below W.heap.size W X) : Keep S W X := ⟨h.os, h.tape, h.output, h.size, fun k hk _ => h.block k hk⟩
theorem Keep.below {B : Nat} (h : Keep S W X) (hB : B ≤ W.heap.size) (hs : ∀ k, k < B → S k) : Below B W X := ⟨h.os, h.tape, h.output, h.size, fun k hk => h.block k (by omega) (hs k hk)⟩
theorem Keep.blk (h : Keep S W X) {g : Nat} {t : TypeId} {cs : Array Value} (hb : Blk W g t cs) (hs : S g) : Blk X g t cs := (h.block g hb.lt hs).trans hb
theorem own_heap6 {base n size : Nat} {e : TypeId} {v : Value} {xs : List Value} (h : W.ownsRow base e size v n xs) (hg : ∀ g, v.ownBlock = some g → X.heap[g]? = W.heap[g]?) : X.ownsRow base e size v n xs := by
  refine ⟨h.1, ?_⟩
  rcases h.2 with hn | ⟨g, cap, cur, rfl, hbg, hk, rest⟩
  · exact .inl hn
  · exact .inr ⟨g, cap, cur, rfl, hbg, (hg g (by simp [Value.ownBlock])).trans hk, rest⟩
theorem own_in {base n size : Nat} {e : TypeId} {v : Value} {xs : List Value} (h : W.ownsRow base e size v n xs) {g : Nat} (hg : v.ownBlock = some g) : base ≤ g ∧ g < W.heap.size ∧ ∃ cur, Blk W g e cur := by
  rcases h.2 with ⟨rfl, _⟩ | ⟨g', cap, cur, rfl, hb, hk, _⟩
  · cases hg
  · have : g' = g := by simpa [Value.ownBlock] using hg
    subst this
    exact ⟨hb, (Array.getElem?_eq_some_iff.1 hk).1, cur, hk⟩
theorem Keep.own (h : Keep S W X) {base n size : Nat} {e : TypeId} {v : Value} {xs : List Value} (ho : W.ownsRow base e size v n xs) (hs : ∀ g, v.ownBlock = some g → S g) : X.ownsRow base e size v n xs :=
  own_heap6 ho fun g hg => h.block g (own_in ho hg).2.1 (hs g hg)
theorem Keep.reads (h : Keep S W X) {B size n : Nat} {A : Option Addr} {xs : List Value} (hR : Reads W B size A n xs) (hB : B ≤ W.heap.size) (hs : ∀ k, k < B → S k) : Reads X B size A n xs :=
  hR.below (h.below hB hs)
theorem Keep.obj (h : Keep S W X) {l : Nat} {o : Obj} (hl : W.heap[l]? = some o) (hs : S l) : X.heap[l]? = some o := (h.block l (Array.getElem?_eq_some_iff.1 hl).1 hs).trans hl
end

theorem room_wide {F : Fence} (hd : F.depth = none) (k : Nat) : F.room k := fun d h => by rw [hd] at h; cases h
theorem RoundIn.deep {F : Fence} (hd : F.depth = none) {m m' : Nat} {P : Program} {l : Nat} {f : FuncId} {tmps : Array Value} {assign body : Code} {w : World} {R : Ending → World → Prop}
    (h : RoundIn F m P l f tmps assign body w R) : RoundIn F m' P l f tmps assign body w R := ⟨h.1, fun c cs _ => h.2 c cs (room_wide hd _)⟩
theorem YieldAt.deep {F : Fence} (hd : F.depth = none) {m : Nat} (m' : Nat) {P : Program} {l : Nat} {args : Array Value} {W : World} {R : Ending → World → Prop} (h : YieldAt F m P l args W R) : YieldAt F m' P l args W R := by
  obtain ⟨fn, tmps, assign, body, hy, hR⟩ := h
  exact ⟨fn, tmps, assign, body, hy, RoundIn.deep hd hR⟩


/-- The beginning of a row of one's own. -/
theorem own_less {W : World} {base n2 c2 : Nat} {e : TypeId} {A2 : Option Addr} {xs : List Value} (h : W.ownsRow base e 1 (.slice A2 n2 c2) n2 xs) {j : Nat} (hj : j ≤ n2) : W.ownsRow base e 1 (.slice A2 j c2) j (xs.take j) := by
  have hl := h.1
  refine ⟨by rw [List.length_take]; omega, ?_⟩
  rcases h.2 with ⟨e1, e2⟩ | ⟨g, cap, cur, e1, hb, hk, h3, h4, h5, h6⟩
  · injection e1 with e1 e3 e4
    subst e1; subst e4
    exact .inl ⟨by rw [show j = 0 by omega], by omega⟩
  · injection e1 with e1 e3 e4
    subst e1; subst e4
    refine .inr ⟨g, c2, cur, rfl, hb, hk, by omega, h4, h5, ?_⟩
    rw [← h6, List.take_take]
    congr 1
    omega
theorem ir_elem_size (W : World) : (sizeOf (Tryd.prog.elem 30)).run Tryd.prog W = .ok 1 W := by kernel_rfl
theorem ir_slice_h (A : Option Addr) (len cap h : Nat) (hh : h ≤ cap) (W : World) :
    (Instr.slice 30 (.slice A len cap) none (some (.int .i64 (h : Int))) none).run Tryd.prog W = .ok (.slice A h cap) W := by
  have e0 : Value.slice (if cap = 0 then A else A.map (·.add (0 * 1))) (h - 0) (cap - 0) = .slice A h cap := by
    have : (if cap = 0 then A else A.map (·.add (0 * 1))) = A := by
      split
      · rfl
      · cases A <;> simp [Addr.add]
    rw [this, Nat.sub_zero, Nat.sub_zero]
  rw [run_slice_h W 30 A len cap (show Tryd.prog.underlying 30 = some (.slice (Tryd.prog.elem 30)) by kernel_rfl) .i64 h (by omega) (by omega), ir_elem_size]
  exact congrArg (fun v => Result.ok v W) e0
theorem ir_slice_lhm (g len cap l h : Nat) (hl : l < h) (hh : h ≤ cap) (W : World) :
    (Instr.slice 30 (.slice (some ⟨g, 0, none⟩) len cap) (some (.int .i64 (l : Int))) (some (.int .i64 (h : Int))) (some (.int .i64 (h : Int)))).run Tryd.prog W = .ok (.slice (some ⟨g, l, none⟩) (h - l) (h - l)) W := by
  have e0 : Value.slice (if h = l then some ⟨g, 0, none⟩ else (some (⟨g, 0, none⟩ : Addr)).map (·.add (l * 1))) (h - l) (h - l) = .slice (some ⟨g, l, none⟩) (h - l) (h - l) := by
    rw [if_neg (by omega)]
    simp [Addr.add]
    exact fun e => e.symm
  rw [run_slice_lhm W 30 (some ⟨g, 0, none⟩) len cap (show Tryd.prog.underlying 30 = some (.slice (Tryd.prog.elem 30)) by kernel_rfl) .i64 .i64 .i64 l h h (by omega) (by omega) (by omega) (by omega), ir_elem_size]
  exact congrArg (fun v => Result.ok v W) e0

end Go.Proofs.YtgbpaiffnhpafaaDoor
namespace Go.Proofs.YtgbpaiffnhpafaaDoor
open Go.RowKit Go.Shelf

/-- The chapter's graph. -/
def small6 : List Ed := [(0, 1, 0), (1, 2, 0), (2, 1, 0), (3, 0, 0)]
def small6A : Array Value := #[.int .i64 0, .int .i64 1, .int .i64 0, .int .i64 1, .int .i64 2, .int .i64 0, .int .i64 2, .int .i64 1, .int .i64 0, .int .i64 3, .int .i64 0, .int .i64 0]
theorem Ints.on6 {W W' : World} {n : Nat} {A : Option Addr} {xs : List Int} (h : Reads W W.heap.size 1 A n (ints xs)) (hb : Below W.heap.size W W') : Reads W' W'.heap.size 1 A n (ints xs) := (h.below hb).more hb.size
/-- What scc.Of, Sets, Cyclic, Inner and Fold give. -/
def OfC (z : Int) (zs : List Ed) (w : World) (e : Ending) (w' : World) : Prop :=
  ∃ (os : List Int) (k : Int), IErr os k w e w' ∧ (rightG z zs = true → k = 0 ∧ ∃ ls, Comps zs z.toNat ls os) ∧ (rightG z zs = false → k = 150 ∧ os = [])
def SetsC (z : Int) (zs : List Ed) (w : World) (e : Ending) (w' : World) : Prop :=
  ∃ (ls : List (List Int)) (k : Int) (A : Option Addr) (c : Nat), e = .returned (.tuple #[.slice A ls.length c, .int .i64 k]) ∧ IRows w' w.heap.size A ls.length c ls ∧ Below w.heap.size w w' ∧ (rightG z zs = true → k = 0 ∧ ∃ os, Comps zs z.toNat ls os) ∧ (rightG z zs = false → k = 150 ∧ ls = [])
def CyclicC (z : Int) (zs : List Ed) (w : World) (e : Ending) (w' : World) : Prop :=
  ∃ (b : Bool) (k : Int), e = .returned (.tuple #[.bool b, .int .i64 k]) ∧ Below w.heap.size w w' ∧ (rightG z zs = true → k = 0 ∧ (b = true ↔ ∃ v : Nat, Leads zs (v : Int) (v : Int))) ∧ (rightG z zs = false → k = 150 ∧ b = false)
def InnerC (z : Int) (zs : List Ed) (w : World) (e : Ending) (w' : World) : Prop :=
  ∃ (gz : Int) (ges : List Ed) (k : Int), GErr gz ges k w e w' ∧ (rightG z zs = true → k = 0 ∧ gz = z ∧ ∃ ls os, Comps zs z.toNat ls os ∧ ges = zs.filter (sameOf os)) ∧ (rightG z zs = false → k = 150 ∧ gz = 0 ∧ ges = [])
def FoldC (z : Int) (zs : List Ed) (w : World) (e : Ending) (w' : World) : Prop :=
  ∃ (gz : Int) (ges : List Ed) (k : Int), GErr gz ges k w e w' ∧ (rightG z zs = true → k = 0 ∧ ∃ ls os, Comps zs z.toNat ls os ∧ gz = (ls.length : Int) ∧ ges = sorE (foldL os zs)) ∧ (rightG z zs = false → k = 150 ∧ gz = 0 ∧ ges = [])
/-- The layer's calls, as they are asked for. -/
def AtG (f : FuncId) (Q : Int → List Ed → World → Ending → World → Prop) : Prop :=
  ∀ (g : GV) (w : World), g.n ≤ 700 → g.ok w → Calls Tryd.prog f #[.agg #[.int .i64 g.z, .slice g.A g.n g.c]] w (Q g.z g.es w)
end Go.Proofs.YtgbpaiffnhpafaaDoor
namespace Go.Proofs.YtgbpaiffnhpafaaDoor
open Go.RowKit

/-- One is the other, or leads to it. -/
def Comes (zs : List Ed) (u v : Int) : Prop := u = v ∨ Leads zs u v
theorem Comes.refl {zs : List Ed} {u : Int} : Comes zs u u := .inl rfl
theorem Comes.trans {zs : List Ed} {u v x : Int} (h : Comes zs u v) (k : Comes zs v x) : Comes zs u x := by
  rcases h with rfl | h
  · exact k
  · rcases k with rfl | k
    · exact .inr h
    · exact .inr (h.trans k)
theorem Comes.edge {zs : List Ed} {e : Ed} (h : e ∈ zs) : Comes zs e.1 e.2.1 := .inr (.one h rfl)
/-- A set that no edge leaves. -/
theorem Comes.within {zs : List Ed} {S : Int → Prop} (hS : ∀ e ∈ zs, S e.1 → S e.2.1) {u v : Int} (h : Comes zs u v) (hu : S u) : S v := by
  rcases h with rfl | h
  · exact hu
  · induction h with
    | one hp hpu => subst hpu; exact hS _ hp hu
    | more _ hp ih => exact hS _ hp ih
def Both (zs : List Ed) (u v : Int) : Prop := Comes zs u v ∧ Comes zs v u
/-- Components that were told. -/
structure PartsIn (zs : List Ed) (m : Nat) (cs : List (List Int)) : Prop where
  some : ∀ c ∈ cs, c ≠ []
  once : ∀ c ∈ cs, c.Nodup
  ends : ∀ c ∈ cs, ∀ x ∈ c, 0 ≤ x ∧ x < (m : Int)
  both : ∀ c ∈ cs, ∀ x ∈ c, ∀ y : Int, 0 ≤ y → y < (m : Int) → (y ∈ c ↔ Both zs x y)
  apart : cs.Pairwise fun c d => ∀ x ∈ c, x ∉ d
structure Fr where
  p : Nat
  l : Nat
  A : Option Addr
  left : List Ed
/-- What stands between an open node's place and the next one's. -/
structure Seg (zs : List Ed) (op pl : List Int) (b : Nat) (f : Fr) : Prop where
  low : f.l ≤ f.p
  outs : ∀ e ∈ f.left, e ∈ zs ∧ ∀ y, op[f.p]? = some y → e.1 = y
  both : ∀ (k : Nat) x y, f.p ≤ k → k < b → op[f.p]? = some y → op[k]? = some x → Both zs x y
  back : ∀ x y, op[f.p]? = some y → op[f.l]? = some x → Comes zs y x
  gone : ∀ (k : Nat) x e, f.p ≤ k → k < b → op[k]? = some x → e ∈ zs → e.1 = x → (k = f.p → e ∉ f.left) → ∃ q : Int, pl[e.2.1.toNat]? = some q ∧ (f.l : Int) ≤ q
/-- The frames, the last one ahead. -/
def Far (zs : List Ed) (op pl : List Int) : Nat → List Fr → Prop
  | b, [] => b = 0
  | b, f :: fs => f.p < b ∧ Seg zs op pl b f ∧ (∀ g ∈ fs.head?, ∀ x y, op[g.p]? = some x → op[f.p]? = some y → Comes zs x y) ∧ Far zs op pl f.p fs
structure Tj (zs : List Ed) (m : Nat) (op pl : List Int) (cs : List (List Int)) : Prop where
  len : pl.length = m
  most : m ≤ 300
  opn : ∀ (k : Nat) x, op[k]? = some x → 0 ≤ x ∧ pl[x.toNat]? = some (k : Int)
  pls : ∀ (v : Nat) q, pl[v]? = some q → q = -1 ∨ (q = 300 ∧ ∃ c ∈ cs, (v : Int) ∈ c) ∨ ∃ k : Nat, q = (k : Int) ∧ op[k]? = some (v : Int)
  closed : ∀ e ∈ zs, pl[e.1.toNat]? = some 300 → pl[e.2.1.toNat]? = some 300
  parts : PartsIn zs m cs
  told : ∀ c ∈ cs, ∀ x ∈ c, 0 ≤ x ∧ pl[x.toNat]? = some 300
  few : op.length + pl.count (-1) ≤ m
theorem count_seti : ∀ (l : List Int) (y : Nat) (v : Int), l[y]? = some (-1) → v ≠ -1 → (l.set y v).count (-1) + 1 = l.count (-1)
  | [], y, v, h, _ => by simp at h
  | b :: l, 0, v, h, hv => by simp at h; subst h; simp [hv]
  | b :: l, y + 1, v, h, hv => by
    simp at h
    have := count_seti l y v h hv
    simp [List.count_cons]
    omega
theorem count_pos_of {l : List Int} {y : Nat} {v : Int} (h : l[y]? = some v) : 0 < l.count v := by
  rw [List.count_pos_iff]
  exact List.mem_of_getElem? h
theorem get_set {l : List Int} {y u : Nat} {v : Int} (hy : y < l.length) : (l.set y v)[u]? = if u = y then some v else l[u]? := by
  rw [List.getElem?_set]
  by_cases h : y = u
  · subst h; simp [hy]
  · rw [if_neg h, if_neg (fun e => h e.symm)]
theorem get_snoc {l : List Int} {v x : Int} {k : Nat} : (l ++ [v])[k]? = some x ↔ l[k]? = some x ∨ (k = l.length ∧ v = x) := by
  rcases Nat.lt_trichotomy k l.length with h | h | h
  · rw [List.getElem?_append_left h]
    exact ⟨.inl, fun h2 => h2.elim (fun e => e) (fun e => by omega)⟩
  · subst h
    simp
  · rw [List.getElem?_append_right (by omega), List.getElem?_eq_none (by simp; omega)]
    rw [List.getElem?_eq_none (by omega)]
    simp
    omega
section
variable {zs : List Ed} {m : Nat} {op pl : List Int} {cs : List (List Int)}
theorem Tj.start (hm : m ≤ 300) : Tj zs m [] (List.replicate m (-1)) [] := by
  refine ⟨List.length_replicate, hm, fun k x h => by simp at h, fun v q h => ?_, fun e _ h => ?_, ⟨by simp, by simp, by simp, by simp, by simp⟩, by simp, by simp⟩
  · rw [List.getElem?_replicate] at h
    split at h <;> simp at h
    exact .inl h.symm
  · rw [List.getElem?_replicate] at h
    split at h <;> simp at h
theorem Tj.lt (h : Tj zs m op pl cs) {x q : Int} (hx : pl[x.toNat]? = some q) : x.toNat < m := by
  rw [← h.len]
  exact (List.getElem?_eq_some_iff.1 hx).1
theorem Tj.place (h : Tj zs m op pl cs) {k : Nat} {x : Int} (hx : op[k]? = some x) : k < m := by
  have := (List.getElem?_eq_some_iff.1 hx).1
  have := h.few
  omega
/-- A node is met. -/
theorem Tj.open_ (h : Tj zs m op pl cs) {v : Int} (h0 : 0 ≤ v) (hv : pl[v.toNat]? = some (-1)) : Tj zs m (op ++ [v]) (pl.set v.toNat (op.length : Int)) cs := by
  have hlt := (List.getElem?_eq_some_iff.1 hv).1
  have hc := count_pos_of hv
  have hf := h.few
  have hmo := h.most
  refine ⟨by rw [List.length_set, h.len], hmo, fun k x hk => ?_, fun u q hu => ?_, fun e he h1 => ?_, h.parts, fun c hcs x hx => ?_, ?_⟩
  · rcases get_snoc.1 hk with hk | ⟨rfl, rfl⟩
    · obtain ⟨h1, h2⟩ := h.opn k x hk
      refine ⟨h1, ?_⟩
      rw [get_set hlt, if_neg (fun e => ?_)]
      · exact h2
      · rw [e, hv] at h2
        injection h2 with h2
        omega
    · exact ⟨h0, by rw [get_set hlt, if_pos rfl]⟩
  · rw [get_set hlt] at hu
    split at hu
    · rename_i e
      injection hu with hu
      refine .inr (.inr ⟨op.length, hu.symm, get_snoc.2 (.inr ⟨rfl, by omega⟩)⟩)
    · rcases h.pls u q hu with h1 | h1 | ⟨k, h1, h2⟩
      · exact .inl h1
      · exact .inr (.inl h1)
      · exact .inr (.inr ⟨k, h1, get_snoc.2 (.inl h2)⟩)
  · rw [get_set hlt] at h1
    split at h1
    · injection h1 with h1
      omega
    · have := h.closed e he h1
      rw [get_set hlt, if_neg (fun e2 => ?_)]
      · exact this
      · rw [e2, hv] at this
        injection this with this
        omega
  · obtain ⟨h1, h2⟩ := h.told c hcs x hx
    refine ⟨h1, ?_⟩
    rw [get_set hlt, if_neg (fun e => ?_)]
    · exact h2
    · rw [e, hv] at h2
      injection h2 with h2
      omega
  · have := count_seti pl v.toNat (op.length : Int) hv (by omega)
    simp
    omega
/-- What stands stays as it is while places are met. -/
theorem Seg.keep {op' pl' : List Int} {b : Nat} {f : Fr} (h : Seg zs op pl b f) (hb : b ≤ op.length) (hp : f.p < b) (ho : ∀ k, k < b → op'[k]? = op[k]?) (hq : ∀ (u : Nat) (q : Int), pl[u]? = some q → 0 ≤ q → ∃ q', pl'[u]? = some q' ∧ (q' = q ∨ 300 ≤ q')) (hm : op.length ≤ 300) : Seg zs op' pl' b f := by
  have hl := h.low
  have e1 := ho f.p hp
  have e2 := ho f.l (by omega)
  refine ⟨hl, fun e he => ⟨(h.outs e he).1, fun y hy => (h.outs e he).2 y (e1 ▸ hy)⟩, fun k x y h1 h2 h3 h4 => ?_, fun x y h3 h4 => h.back x y (e1 ▸ h3) (e2 ▸ h4), fun k x e h1 h2 h3 h4 h5 h6 => ?_⟩
  · exact h.both k x y h1 h2 (e1 ▸ h3) (ho k h2 ▸ h4)
  · obtain ⟨q, g1, g2⟩ := h.gone k x e h1 h2 (ho k h2 ▸ h3) h4 h5 h6
    obtain ⟨q', g3, g4⟩ := hq _ _ g1 (by omega)
    refine ⟨q', g3, ?_⟩
    rcases g4 with rfl | g4
    · exact g2
    · omega
theorem Far.keep {op' pl' : List Int} : ∀ {fs : List Fr} {b : Nat}, Far zs op pl b fs → b ≤ op.length → (∀ k, k < b → op'[k]? = op[k]?) → (∀ (u : Nat) (q : Int), pl[u]? = some q → 0 ≤ q → ∃ q', pl'[u]? = some q' ∧ (q' = q ∨ 300 ≤ q')) → op.length ≤ 300 → Far zs op' pl' b fs
  | [], _, h, _, _, _, _ => h
  | f :: fs, b, h, hb, ho, hq, hm => by
    obtain ⟨h1, h2, h3, h4⟩ := h
    refine ⟨h1, h2.keep hb h1 ho hq hm, fun g hg x y hx hy => ?_, Far.keep h4 (by omega) (fun k hk => ho k (by omega)) hq hm⟩
    have hgp : g.p < f.p := by
      cases fs with
      | nil => simp at hg
      | cons g' fs => simp at hg; subst hg; exact h4.1
    exact h3 g hg x y (ho g.p (by omega) ▸ hx) (ho f.p h1 ▸ hy)
theorem Tj.op_len (h : Tj zs m op pl cs) : op.length ≤ 300 := by
  have := h.few
  have := h.most
  omega
theorem met_keep {v : Int} (hv : pl[v.toNat]? = some (-1)) (k : Int) : ∀ (u : Nat) (q : Int), pl[u]? = some q → 0 ≤ q → ∃ q', (pl.set v.toNat k)[u]? = some q' ∧ (q' = q ∨ 300 ≤ q') := fun u q hu hq => by
  have hlt := (List.getElem?_eq_some_iff.1 hv).1
  refine ⟨q, ?_, .inl rfl⟩
  rw [get_set hlt, if_neg (fun e => ?_)]
  · exact hu
  · rw [e, hv] at hu
    injection hu with hu
    omega
/-- The frame of a node that is met. -/
theorem Far.push {fs : List Fr} {v : Int} {A : Option Addr} {es : List Ed} (h : Tj zs m op pl cs) (hf : Far zs op pl op.length fs) (hv : pl[v.toNat]? = some (-1)) (hes : ∀ e, e ∈ es ↔ e ∈ zs ∧ e.1 = v)
    (hj : ∀ g ∈ fs.head?, ∀ x, op[g.p]? = some x → Comes zs x v) : Far zs (op ++ [v]) (pl.set v.toNat (op.length : Int)) (op.length + 1) (⟨op.length, op.length, A, es⟩ :: fs) := by
  have hn : (op ++ [v])[op.length]? = some v := by simp
  refine ⟨Nat.lt_succ_self _, ⟨Nat.le_refl _, fun e he => ⟨((hes e).1 he).1, fun y hy => ?_⟩, fun k x y h1 h2 h3 h4 => ?_, fun x y h3 h4 => ?_, fun k x e h1 h2 h3 h4 h5 h6 => ?_⟩, fun g hg x y hx hy => ?_, hf.keep (Nat.le_refl _) (fun k hk => List.getElem?_append_left hk) (met_keep hv _) h.op_len⟩
  · rw [hn] at hy
    injection hy with hy
    rw [← hy, ((hes e).1 he).2]
  · have h1 : op.length ≤ k := h1
    have : k = op.length := by omega
    subst this
    rw [hn] at h3 h4
    injection h3 with h3
    injection h4 with h4
    subst h3; subst h4
    exact ⟨.refl, .refl⟩
  · simp only at h3 h4
    rw [hn] at h3 h4
    injection h3 with h3
    injection h4 with h4
    subst h3; subst h4
    exact .refl
  · have h1 : op.length ≤ k := h1
    have : k = op.length := by omega
    subst this
    rw [hn] at h3
    injection h3 with h3
    subst h3
    exact absurd ((hes e).2 ⟨h4, h5⟩) (h6 rfl)
  · simp only at hy
    rw [hn] at hy
    injection hy with hy
    subst hy
    have hgp : g.p < op.length := by
      cases fs with
      | nil => simp at hg
      | cons g' fs => simp at hg; subst hg; exact hf.1
    rw [List.getElem?_append_left hgp] at hx
    exact hj g hg x hx
/-- An edge to a node that was met. -/
theorem Far.step {fs : List Fr} {f : Fr} {e : Ed} {es : List Ed} {q : Int} (h : Tj zs m op pl cs) (hf : Far zs op pl op.length (f :: fs)) (hl : f.left = e :: es) (hq : pl[e.2.1.toNat]? = some q) (hq1 : q ≠ -1) (he0 : 0 ≤ e.2.1) (A : Option Addr) :
    0 ≤ q ∧ Far zs op pl op.length (⟨f.p, min f.l q.toNat, A, es⟩ :: fs) := by
  obtain ⟨h1, h2, h3, h4⟩ := hf
  have hq0 : 0 ≤ q := by
    rcases h.pls _ _ hq with h5 | h5 | ⟨k, h5, _⟩ <;> omega
  have hlow := h2.low
  have hsub : ∀ a ∈ es, a ∈ f.left := fun a ha => hl ▸ .tail _ ha
  obtain ⟨y, hy⟩ : ∃ y, op[f.p]? = some y := ⟨_, List.getElem?_eq_getElem h1⟩
  have hey := h2.outs e (hl ▸ .head _)
  refine ⟨hq0, h1, ⟨show min f.l q.toNat ≤ f.p by omega, fun a ha => h2.outs a (hsub a ha), h2.both, fun x y' h5 h6 => ?_, fun k x a h5 h6 h7 h8 h9 h10 => ?_⟩, h3, h4⟩
  · simp only at h5 h6
    rw [hy] at h5
    injection h5 with h5
    subst h5
    rcases Nat.le_total f.l q.toNat with h7 | h7
    · rw [Nat.min_eq_left h7] at h6
      exact h2.back x y hy h6
    · rw [Nat.min_eq_right h7] at h6
      have hx := (h.opn _ _ h6)
      have hop := h.op_len
      rcases h.pls _ _ hq with h8 | ⟨h8, _⟩ | ⟨k, h8, h9⟩
      · omega
      · omega
      · subst h8
        simp only [Int.toNat_natCast] at h6
        rw [h6] at h9
        injection h9 with h9
        have : x = e.2.1 := by omega
        subst this
        rw [← hey.2 y hy]
        exact .edge hey.1
  · show ∃ q', _ ∧ ((min f.l q.toNat : Nat) : Int) ≤ q'
    by_cases hae : a = e
    · subst hae
      exact ⟨q, hq, by omega⟩
    · obtain ⟨q', g1, g2⟩ := h2.gone k x a h5 h6 h7 h8 h9 (fun e2 hm => by
        rw [hl] at hm
        rcases List.mem_cons.1 hm with hm | hm
        · exact hae hm
        · exact h10 e2 hm)
      exact ⟨q', g1, by omega⟩
/-- Who is open comes to the last frame's node. -/
theorem Far.comes : ∀ {fs : List Fr} {g : Fr} {b k : Nat} {x z : Int}, Far zs op pl b (g :: fs) → b ≤ op.length → k < b → op[k]? = some x → op[g.p]? = some z → Comes zs x z
  | fs, g, b, k, x, z, hf, hb, hk, hx, hz => by
    obtain ⟨h1, h2, h3, h4⟩ := hf
    rcases Nat.lt_or_ge k g.p with h | h
    · cases fs with
      | nil => exact absurd h4 (by show ¬ g.p = 0; omega)
      | cons g' fs =>
        obtain ⟨y, hy⟩ : ∃ y, op[g'.p]? = some y := ⟨_, List.getElem?_eq_getElem (by have := h4.1; omega)⟩
        exact (Far.comes h4 (by omega) h hx hy).trans (h3 g' rfl y z hy hz)
    · exact (h2.both k x z h hk hz hx).1
theorem Both.symm {u v : Int} (h : Both zs u v) : Both zs v u := ⟨h.2, h.1⟩
theorem Both.trans {u v x : Int} (h : Both zs u v) (k : Both zs v x) : Both zs u x := ⟨h.1.trans k.1, k.2.trans h.2⟩
/-- The last frame is done, and its node came to one ahead. -/
theorem Far.merge {fs : List Fr} {f g : Fr} (hf : Far zs op pl op.length (f :: g :: fs)) (hl : f.left = []) (hlt : f.l < f.p) :
    Far zs op pl op.length (⟨g.p, min g.l f.l, g.A, g.left⟩ :: fs) := by
  obtain ⟨h1, h2, h3, h4⟩ := hf
  have hcome := fun (k : Nat) (x z : Int) => Far.comes (k := k) (x := x) (z := z) h4 (Nat.le_of_lt h1)
  obtain ⟨h4, h5, h6, h7⟩ := h4
  have hlow := h2.low
  have hlow5 := h5.low
  obtain ⟨y, hy⟩ : ∃ y, op[f.p]? = some y := ⟨_, List.getElem?_eq_getElem h1⟩
  obtain ⟨z, hz⟩ : ∃ z, op[g.p]? = some z := ⟨_, List.getElem?_eq_getElem (by omega)⟩
  obtain ⟨x, hx⟩ : ∃ x, op[f.l]? = some x := ⟨_, List.getElem?_eq_getElem (by omega)⟩
  have hzy : Comes zs z y := h3 g rfl z y hz hy
  have hyx : Comes zs y x := h2.back x y hy hx
  have hxz : Comes zs x z := hcome _ _ _ hlt hx hz
  have hb : Both zs y z := ⟨hyx.trans hxz, hzy⟩
  refine ⟨by show g.p < _; omega, ⟨show min g.l f.l ≤ g.p by omega, h5.outs, fun k u z' k1 k2 k3 k4 => ?_, fun u z' k3 k4 => ?_, fun k u e k1 k2 k3 k4 k5 k6 => ?_⟩, h6, h7⟩
  · simp only at k1 k3
    rw [hz] at k3
    injection k3 with k3
    subst k3
    rcases Nat.lt_or_ge k f.p with h | h
    · exact h5.both k u z k1 h hz k4
    · exact (h2.both k u y h k2 hy k4).trans hb
  · simp only at k3 k4
    rw [hz] at k3
    injection k3 with k3
    subst k3
    rcases Nat.le_total g.l f.l with h | h
    · rw [Nat.min_eq_left h] at k4
      exact h5.back u z hz k4
    · rw [Nat.min_eq_right h, hx] at k4
      injection k4 with k4
      subst k4
      exact hzy.trans hyx
  · simp only at k1 k6
    show ∃ q, _ ∧ ((min g.l f.l : Nat) : Int) ≤ q
    rcases Nat.lt_or_ge k f.p with h | h
    · obtain ⟨q, g1, g2⟩ := h5.gone k u e k1 h k3 k4 k5 k6
      exact ⟨q, g1, by omega⟩
    · obtain ⟨q, g1, g2⟩ := h2.gone k u e h k2 k3 k4 k5 (fun _ => by rw [hl]; simp)
      exact ⟨q, g1, by omega⟩
theorem count_le : ∀ (l : List Int) (y : Nat) (v : Int), v ≠ -1 → (l.set y v).count (-1) ≤ l.count (-1)
  | [], _, _, _ => by simp
  | b :: l, 0, v, hv => by simp [List.count_cons, hv]
  | b :: l, y + 1, v, hv => by
    have := count_le l y v hv
    simp [List.count_cons]
    omega
theorem putE_count (i : Int) (hi : i ≠ -1) : ∀ (l os : List Int), (putE os i l).count (-1) ≤ os.count (-1)
  | [], _ => Nat.le_refl _
  | _ :: l, os => Nat.le_trans (putE_count i hi l _) (count_le os _ i hi)
theorem get_drop {k p : Nat} {x : Int} : (op.drop p)[k]? = some x ↔ op[p + k]? = some x := by rw [List.getElem?_drop]
theorem mem_drop_iff {p : Nat} {x : Int} : x ∈ op.drop p ↔ ∃ k : Nat, p ≤ k ∧ op[k]? = some x := by
  rw [List.mem_iff_getElem?]
  constructor
  · rintro ⟨k, hk⟩
    exact ⟨p + k, by omega, get_drop.1 hk⟩
  · rintro ⟨k, h1, h2⟩
    exact ⟨k - p, get_drop.2 (by rw [show p + (k - p) = k by omega]; exact h2)⟩
/-- The last frame is done, and its node is the first one met of its component. -/
theorem Far.close {fs : List Fr} {f : Fr} (h : Tj zs m op pl cs) (hz : ∀ e ∈ zs, 0 ≤ e.1 ∧ 0 ≤ e.2.1 ∧ e.2.1 < (m : Int)) (hf : Far zs op pl op.length (f :: fs)) (hl : f.left = []) (heq : f.l = f.p) :
    Tj zs m (op.take f.p) (putE pl 300 (op.drop f.p)) (cs ++ [op.drop f.p]) ∧ Far zs (op.take f.p) (putE pl 300 (op.drop f.p)) f.p fs ∧ op.drop f.p ≠ [] := by
  obtain ⟨h1, h2, h3, h4⟩ := hf
  have hm := h.most
  have hop := h.op_len
  have h0 : ∀ x ∈ op.drop f.p, 0 ≤ x := fun x hx => by
    obtain ⟨k, _, h6⟩ := mem_drop_iff.1 hx
    exact (h.opn _ _ h6).1
  have hget : ∀ (v : Nat) (q : Int), pl[v]? = some q → (putE pl 300 (op.drop f.p))[v]? = if (v : Int) ∈ op.drop f.p then some 300 else some q := fun v q hv => by
    rw [putE_get pl _ 300 v (List.getElem?_eq_some_iff.1 hv).1 h0, hv]
  have hback : ∀ (v : Nat) (q : Int), (putE pl 300 (op.drop f.p))[v]? = some q → ∃ q0, pl[v]? = some q0 ∧ q = if (v : Int) ∈ op.drop f.p then 300 else q0 := fun v q hv => by
    have hlt := (List.getElem?_eq_some_iff.1 hv).1
    rw [putE_len] at hlt
    refine ⟨_, List.getElem?_eq_getElem hlt, ?_⟩
    rw [hget v _ (List.getElem?_eq_getElem hlt)] at hv
    split at hv
    · rename_i h8; rw [if_pos h8]; injection hv with hv; exact hv.symm
    · rename_i h8; rw [if_neg h8]; injection hv with hv; exact hv.symm
  have htake : ∀ k, k < f.p → (op.take f.p)[k]? = op[k]? := fun k hk => List.getElem?_take_of_lt hk
  have htk : ∀ (k : Nat) (x : Int), (op.take f.p)[k]? = some x → k < f.p ∧ op[k]? = some x := fun k x hk => by
    have : k < f.p := by
      have := (List.getElem?_eq_some_iff.1 hk).1
      rw [List.length_take] at this
      omega
    exact ⟨this, htake k this ▸ hk⟩
  obtain ⟨y, hy⟩ : ∃ y, op[f.p]? = some y := ⟨_, List.getElem?_eq_getElem h1⟩
  have hset : ∀ e ∈ zs, (e.1 ∈ op.drop f.p ∨ pl[e.1.toNat]? = some 300) → (e.2.1 ∈ op.drop f.p ∨ pl[e.2.1.toNat]? = some 300) := fun e he hs => by
    rcases hs with hs | hs
    · obtain ⟨k, k1, k2⟩ := mem_drop_iff.1 hs
      obtain ⟨q, g1, g2⟩ := h2.gone k e.1 e k1 (List.getElem?_eq_some_iff.1 k2).1 k2 he rfl (fun _ => by rw [hl]; simp)
      rcases h.pls _ _ g1 with g3 | ⟨g3, _⟩ | ⟨j, g3, g4⟩
      · omega
      · exact .inr (g3 ▸ g1)
      · refine .inl (mem_drop_iff.2 ⟨j, by omega, ?_⟩)
        have := (hz e he).2.1
        rw [show ((e.2.1.toNat : Nat) : Int) = e.2.1 by omega] at g4
        exact g4
    · exact .inr (h.closed e he hs)
  have hdo : ∀ x ∈ op.drop f.p, ∃ k : Nat, f.p ≤ k ∧ op[k]? = some x ∧ pl[x.toNat]? = some (k : Int) ∧ k < 300 := fun x hx => by
    obtain ⟨k, k1, k2⟩ := mem_drop_iff.1 hx
    have := (List.getElem?_eq_some_iff.1 k2).1
    exact ⟨k, k1, k2, (h.opn _ _ k2).2, by omega⟩
  have hnone : ∀ x ∈ op.drop f.p, pl[x.toNat]? ≠ some 300 := fun x hx e => by
    obtain ⟨k, _, _, k3, k4⟩ := hdo x hx
    rw [k3] at e
    injection e with e
    omega
  have hone : ∀ x ∈ op.drop f.p, Both zs y x := fun x hx => by
    obtain ⟨k, k1, k2⟩ := mem_drop_iff.1 hx
    exact (h2.both k x y k1 (List.getElem?_eq_some_iff.1 k2).1 hy k2).symm
  have hkeep : ∀ (u : Nat) (q : Int), pl[u]? = some q → 0 ≤ q → ∃ q', (putE pl 300 (op.drop f.p))[u]? = some q' ∧ (q' = q ∨ 300 ≤ q') := fun u q hu _ => by
    rw [hget u q hu]
    split
    · exact ⟨_, rfl, .inr (by omega)⟩
    · exact ⟨_, rfl, .inl rfl⟩
  have hnodup : op.Nodup := by
    rw [List.nodup_iff_pairwise_ne, List.pairwise_iff_getElem]
    intro i j hi hj hij e
    have a1 := (h.opn i _ (List.getElem?_eq_getElem hi)).2
    have a2 := (h.opn j _ (List.getElem?_eq_getElem hj)).2
    rw [e, a2] at a1
    injection a1 with a1
    omega
  refine ⟨⟨by rw [putE_len, h.len], hm, fun k x hk => ?_, fun v q hv => ?_, fun e he hv => ?_, ⟨fun c hc => ?_, fun c hc => ?_, fun c hc => ?_, fun c hc => ?_, ?_⟩, fun c hc x hx => ?_, ?_⟩, Far.keep h4 (by omega) htake hkeep hop, fun e => ?_⟩
  · obtain ⟨k1, k2⟩ := htk k x hk
    obtain ⟨k3, k4⟩ := h.opn _ _ k2
    refine ⟨k3, ?_⟩
    rw [hget _ _ k4, if_neg (fun hx => ?_)]
    have := (show ((x.toNat : Nat) : Int) = x by omega)
    rw [this] at hx
    obtain ⟨j, j1, _, j3, _⟩ := hdo x hx
    rw [k4] at j3
    injection j3 with j3
    omega
  · obtain ⟨q0, g1, g2⟩ := hback v q hv
    by_cases hm2 : (v : Int) ∈ op.drop f.p
    · rw [if_pos hm2] at g2
      exact .inr (.inl ⟨g2, _, by simp, hm2⟩)
    · rw [if_neg hm2] at g2
      subst g2
      rcases h.pls _ _ g1 with g3 | ⟨g3, c, g4, g5⟩ | ⟨j, g3, g4⟩
      · exact .inl g3
      · exact .inr (.inl ⟨g3, c, List.mem_append_left _ g4, g5⟩)
      · refine .inr (.inr ⟨j, g3, ?_⟩)
        rw [htake]
        · exact g4
        · exact Nat.lt_of_not_le fun hle => hm2 (mem_drop_iff.2 ⟨j, hle, g4⟩)
  · obtain ⟨q0, g1, g2⟩ := hback _ _ hv
    have h01 := (hz e he).1
    have h02 := (hz e he).2.1
    have e1 : ((e.1.toNat : Nat) : Int) = e.1 := by omega
    have e2 : ((e.2.1.toNat : Nat) : Int) = e.2.1 := by omega
    rw [e1] at g2
    have hs : e.1 ∈ op.drop f.p ∨ pl[e.1.toNat]? = some 300 := by
      by_cases hm2 : e.1 ∈ op.drop f.p
      · exact .inl hm2
      · rw [if_neg hm2] at g2
        exact .inr (g2 ▸ g1)
    rcases hset e he hs with hs | hs
    · obtain ⟨j, _, _, j3, _⟩ := hdo _ hs
      rw [hget _ _ j3, e2, if_pos hs]
    · rw [hget _ _ hs]
      split <;> rfl
  · rcases List.mem_append.1 hc with hc | hc
    · exact h.parts.some c hc
    · simp at hc
      subst hc
      intro e
      have := mem_drop_iff.2 ⟨f.p, Nat.le_refl _, hy⟩
      rw [e] at this
      simp at this
  · rcases List.mem_append.1 hc with hc | hc
    · exact h.parts.once c hc
    · simp at hc
      subst hc
      exact hnodup.sublist (List.drop_sublist _ _)
  · rcases List.mem_append.1 hc with hc | hc
    · exact h.parts.ends c hc
    · simp at hc
      subst hc
      intro x hx
      obtain ⟨j, _, _, j3, _⟩ := hdo x hx
      have := h.lt j3
      have := h0 x hx
      omega
  · rcases List.mem_append.1 hc with hc | hc
    · exact h.parts.both c hc
    · simp at hc
      subst hc
      intro x hx u hu0 hum
      constructor
      · intro hu
        exact (hone x hx).symm.trans (hone u hu)
      · intro hb
        have := Comes.within (S := fun u => u ∈ op.drop f.p ∨ pl[u.toNat]? = some 300) hset hb.1 (.inl hx)
        rcases this with h9 | h9
        · exact h9
        · have := Comes.within (S := fun u => pl[u.toNat]? = some 300) h.closed hb.2 h9
          exact absurd this (hnone x hx)
  · refine List.pairwise_append.2 ⟨h.parts.apart, by simp, fun c hc d hd x hx hxd => ?_⟩
    simp at hd
    subst hd
    exact hnone x hxd (h.told c hc x hx).2
  · have : 0 ≤ x ∧ ((x ∈ op.drop f.p) ∨ pl[x.toNat]? = some 300) := by
      rcases List.mem_append.1 hc with hc | hc
      · exact ⟨(h.told c hc x hx).1, .inr (h.told c hc x hx).2⟩
      · simp at hc
        subst hc
        exact ⟨h0 x hx, .inl hx⟩
    refine ⟨this.1, ?_⟩
    have e1 : ((x.toNat : Nat) : Int) = x := by omega
    rcases this.2 with h9 | h9
    · obtain ⟨j, _, _, j3, _⟩ := hdo _ h9
      rw [hget _ _ j3, e1, if_pos h9]
    · rw [hget _ _ h9]
      split <;> rfl
  · have := putE_count 300 (by omega) (op.drop f.p) pl
    have := h.few
    rw [List.length_take]
    omega
  · have := mem_drop_iff.2 ⟨f.p, Nat.le_refl _, hy⟩
    rw [e] at this
    simp at this
/-- No node is open, and all were met: all components are told. -/
theorem Tj.all (h : Tj zs m [] pl cs) (ha : ∀ v : Nat, v < m → pl[v]? ≠ some (-1)) {v : Nat} (hv : v < m) : ∃ c ∈ cs, (v : Int) ∈ c := by
  have hlt : v < pl.length := by rw [h.len]; exact hv
  rcases h.pls v _ (List.getElem?_eq_getElem hlt) with h1 | ⟨_, h2⟩ | ⟨k, _, h2⟩
  · exact absurd (h1 ▸ List.getElem?_eq_getElem hlt) (ha v hv)
  · exact h2
  · simp at h2
end
end Go.Proofs.YtgbpaiffnhpafaaDoor
namespace Go.Proofs.YtgbpaiffnhpafaaDoor
open Go.RowKit

theorem both_tog {zs : List Ed} {v w : Nat} : Both zs (v : Int) (w : Int) ↔ Tog zs v w := by
  unfold Both Comes Tog
  constructor
  · rintro ⟨h1 | h1, h2 | h2⟩
    · exact .inl (by omega)
    · exact .inl (by omega)
    · exact .inl (by omega)
    · exact .inr ⟨h1, h2⟩
  · rintro (rfl | ⟨h1, h2⟩)
    · exact ⟨.inl rfl, .inl rfl⟩
    · exact ⟨.inr h1, .inr h2⟩
open Classical in
theorem AllM.make {zs : List Ed} {m : Nat} (hz : ∀ p ∈ zs, rightE (m : Int) p = true) : ∃ ms, AllM zs m ms := by
  refine ⟨(List.range m).map fun (v : Nat) => (List.range m).map fun (w : Nat) => decide (Leads zs (v : Int) (w : Int)), by simp, fun i bs h => ?_⟩
  have hi := (List.getElem?_eq_some_iff.1 h).1
  rw [List.length_map, List.length_range] at hi
  rw [List.getElem?_map, List.getElem?_range hi] at h
  simp only [Option.map_some] at h
  injection h with h
  subst h
  refine ⟨by simp, fun u => ?_⟩
  rcases Nat.lt_or_ge u m with hu | hu
  · rw [List.getElem?_map, List.getElem?_range hu]
    simp
  · rw [List.getElem?_eq_none (by simp; exact hu)]
    refine ⟨fun e => by simp at e, fun e => ?_⟩
    have := e.ends hz
    omega
/-- The least number of a row. -/
theorem foldl_min_le : ∀ (l : List Int) (a : Int), l.foldl min a ≤ a ∧ (∀ x ∈ l, l.foldl min a ≤ x) ∧ (l.foldl min a = a ∨ l.foldl min a ∈ l)
  | [], a => ⟨Int.le_refl _, by simp, .inl rfl⟩
  | b :: l, a => by
    obtain ⟨h1, h2, h3⟩ := foldl_min_le l (min a b)
    rw [List.foldl_cons]
    refine ⟨by omega, fun x hx => ?_, ?_⟩
    · rcases List.mem_cons.1 hx with rfl | hx
      · omega
      · exact h2 x hx
    · rcases h3 with h3 | h3
      · rw [h3]
        rcases Int.le_total a b with h | h
        · exact .inl (by omega)
        · exact .inr (by rw [Int.min_eq_right h]; simp)
      · exact .inr (.tail _ h3)
theorem minOf_le {c : List Int} {x : Int} (h : x ∈ c) : Lib.minOf c ≤ x := (foldl_min_le c (c.headD 0)).2.1 x h
theorem minOf_mem {c : List Int} (h : c ≠ []) : Lib.minOf c ∈ c := by
  unfold Lib.minOf
  rcases (foldl_min_le c (c.headD 0)).2.2 with h3 | h3
  · rw [h3]
    cases c with
    | nil => exact absurd rfl h
    | cons a c => simp
  · exact h3
/-- To each node the least one of its component. -/
def firsts (cs : List (List Int)) (os : List Int) : List Int := cs.foldl (fun o c => putE o (Lib.minOf c) c) os
theorem firsts_snoc (cs : List (List Int)) (c os : List Int) : firsts (cs ++ [c]) os = putE (firsts cs os) (Lib.minOf c) c := by simp [firsts]
theorem firsts_len : ∀ (cs : List (List Int)) (os : List Int), (firsts cs os).length = os.length
  | [], _ => rfl
  | c :: cs, os => by
    show (firsts cs (putE os (Lib.minOf c) c)).length = _
    rw [firsts_len, putE_len]
theorem firsts_none : ∀ (cs : List (List Int)) (os : List Int) (v : Nat), v < os.length → (∀ c ∈ cs, ∀ x ∈ c, 0 ≤ x) → (∀ c ∈ cs, (v : Int) ∉ c) → (firsts cs os)[v]? = os[v]?
  | [], _, _, _, _, _ => rfl
  | c :: cs, os, v, hv, h0, hn => by
    show (firsts cs (putE os (Lib.minOf c) c))[v]? = _
    rw [firsts_none cs _ v (by rw [putE_len]; exact hv) (fun d hd => h0 d (.tail _ hd)) (fun d hd => hn d (.tail _ hd)), putE_get os c _ v hv (h0 c (.head _)), if_neg (hn c (.head _))]
theorem firsts_get : ∀ (cs : List (List Int)) (os : List Int) (v : Nat), v < os.length → (∀ c ∈ cs, ∀ x ∈ c, 0 ≤ x) → (cs.Pairwise fun c d => ∀ x ∈ c, x ∉ d) → ∀ c ∈ cs, (v : Int) ∈ c → (firsts cs os)[v]? = some (Lib.minOf c)
  | [], _, _, _, _, _, _, hc, _ => by simp at hc
  | d :: cs, os, v, hv, h0, hp, c, hc, hm => by
    show (firsts cs (putE os (Lib.minOf d) d))[v]? = _
    obtain ⟨hp1, hp2⟩ := List.pairwise_cons.1 hp
    rcases List.mem_cons.1 hc with rfl | hc
    · rw [firsts_none cs _ v (by rw [putE_len]; exact hv) (fun d hd => h0 d (.tail _ hd)) (fun d hd => hp1 d hd _ hm), putE_get os c _ v hv (h0 c (.head _)), if_pos hm]
    · exact firsts_get cs _ v (by rw [putE_len]; exact hv) (fun d hd => h0 d (.tail _ hd)) hp2 c hc hm
/-- All components. -/
structure PartsAll (zs : List Ed) (m : Nat) (cs : List (List Int)) : Prop extends PartsIn zs m cs where
  all : ∀ v : Nat, v < m → ∃ c ∈ cs, (v : Int) ∈ c
section
variable {zs : List Ed} {m : Nat} {cs ms : List (List Int)} {bs : List (List Bool)}
theorem PartsIn.nat (h : PartsIn zs m cs) {c : List Int} (hc : c ∈ cs) {x : Int} (hx : x ∈ c) : ∃ w : Nat, x = (w : Int) ∧ w < m := by
  have := h.ends c hc x hx
  exact ⟨x.toNat, by omega, by omega⟩
theorem PartsIn.tog (h : PartsIn zs m cs) (hA : AllM zs m bs) {c : List Int} (hc : c ∈ cs) {v w : Nat} (hv : (v : Int) ∈ c) (hw : w < m) : (w : Int) ∈ c ↔ togM bs v w = true := by
  obtain ⟨v', e, hvm⟩ := h.nat hc hv
  have : v = v' := by omega
  subst this
  rw [h.both c hc _ hv _ (by omega) (by omega), both_tog, hA.tog hvm hw]
theorem PartsIn.least (h : PartsIn zs m cs) (hA : AllM zs m bs) {c : List Int} (hc : c ∈ cs) : ∃ u : Nat, Lib.minOf c = (u : Int) ∧ (u : Int) ∈ c ∧ u ∈ leasts (togM bs) m := by
  have h1 := minOf_mem (h.some c hc)
  obtain ⟨u, e, hu⟩ := h.nat hc h1
  rw [e] at h1
  refine ⟨u, e, h1, mem_leasts.2 ⟨hu, fun w hw ht => ?_⟩⟩
  have := minOf_le ((h.tog hA hc h1 hw).2 ht)
  omega
/-- Which number comes to a node: how many least nodes are ahead of it. -/
theorem leasts_at {t : Nat → Nat → Bool} {v : Nat} (hv : v < m) (hl : leastB t m v = true) : (leasts t m)[((List.range v).filter (leastB t m)).length]? = some v := by
  have : List.range m = List.range v ++ v :: (List.range (m - v - 1)).map (v + 1 + ·) := by
    have h1 : m = v + 1 + (m - v - 1) := by omega
    have h2 := List.range_add (n := v + 1) (m := m - v - 1)
    rw [← h1, List.range_succ] at h2
    rw [h2]
    simp
  unfold leasts
  rw [this, List.filter_append, List.getElem?_append_right (Nat.le_refl _), Nat.sub_self, List.filter_cons, if_pos hl]
  rfl
/-- How far the nodes are numbered. -/
structure Nums (bs : List (List Bool)) (m v : Nat) (ol : List Int) (many : Nat) : Prop where
  len : ol.length = m
  same : ∀ u, u < v → ol[u]? = (ofT (togM bs) m)[u]?
  many : many = ((List.range v).filter (leastB (togM bs) m)).length
theorem Nums.start (bs : List (List Bool)) (m : Nat) : Nums bs m 0 (List.replicate m 0) 0 := ⟨List.length_replicate, fun u h => absurd h (Nat.not_lt_zero u), rfl⟩
theorem range_next {t : Nat → Bool} {v : Nat} : ((List.range (v + 1)).filter t).length = if t v = true then ((List.range v).filter t).length + 1 else ((List.range v).filter t).length := by
  rw [List.range_succ, List.filter_append, List.length_append]
  cases h : t v <;> simp [h]
theorem Nums.next (h : PartsAll zs m cs) (hA : AllM zs m bs) {v many : Nat} {ol : List Int} (k : Nums bs m v ol many) (hv : v < m) :
    ∃ f : Nat, (firsts cs (List.replicate m 0))[v]? = some (f : Int) ∧ (f < v → ∃ x, ol[f]? = some x ∧ Nums bs m (v + 1) (ol.set v x) many) ∧ (¬ f < v → Nums bs m (v + 1) (ol.set v (many : Int)) (many + 1)) := by
  obtain ⟨c, hc, hvc⟩ := h.all v hv
  obtain ⟨u, e, huc, hul⟩ := h.least hA hc
  have hlu := mem_leasts.1 hul
  have huv : togM bs u v = true := (h.tog hA hc huc hv).1 hvc
  have hle := hlu.2 v hv huv
  have ho := ofT_len (togM bs) m
  refine ⟨u, ?_, fun hlt => ?_, fun hge => ?_⟩
  · rw [firsts_get cs _ v (by simpa using hv) (fun d hd x hx => (h.ends d hd x hx).1) h.apart c hc hvc, e]
  · have h1 := k.same u hlt
    have h2 : u < (ofT (togM bs) m).length := by omega
    rw [List.getElem?_eq_getElem h2] at h1
    refine ⟨_, h1, by rw [List.length_set, k.len], fun w hw => ?_, ?_⟩
    · rw [List.getElem?_set]
      split
      · rename_i e2
        subst e2
        rw [if_pos (by rw [k.len]; exact hv), ← List.getElem?_eq_getElem h2]
        exact (hA.eqv.same hlu.1 hv).2 huv
      · exact k.same w (by omega)
    · rw [k.many, range_next, if_neg]
      intro hl
      have := leastB_iff.1 hl u hlu.1 (hA.eqv.symm _ _ hlu.1 hv huv)
      omega
  · have : u = v := by omega
    subst this
    have hlb : leastB (togM bs) m u = true := leastB_iff.2 hlu.2
    refine ⟨by rw [List.length_set, k.len], fun w hw => ?_, ?_⟩
    · rw [List.getElem?_set]
      split
      · rename_i e2
        subst e2
        rw [if_pos (by rw [k.len]; exact hv), k.many]
        exact (hA.eqv.ofT_get hv (leasts_at hv hlb) (hA.eqv.refl _ hv)).symm
      · exact k.same w (by omega)
    · rw [k.many, range_next, if_pos hlb]
theorem Nums.done (hA : AllM zs m bs) {many : Nat} {ol : List Int} (k : Nums bs m m ol many) : Comps zs m (setsE (togM bs) m m) ol ∧ many = (setsE (togM bs) m m).length := by
  refine ⟨⟨bs, hA, rfl, ?_⟩, by rw [k.many, setsE_eq, List.length_map]; rfl⟩
  refine List.ext_getElem? fun u => ?_
  rcases Nat.lt_or_ge u m with h | h
  · exact k.same u h
  · rw [List.getElem?_eq_none (by rw [k.len]; exact h), List.getElem?_eq_none (by rw [ofM_len]; exact h)]
/-- A component sorted is the row of its nodes. -/
def srtI (c : List Int) : List Int := c.mergeSort fun x y => decide (x ≤ y)
theorem srtI_mem {c : List Int} {x : Int} : x ∈ srtI c ↔ x ∈ c := List.mem_mergeSort
theorem srtI_up (c : List Int) : (srtI c).Pairwise (· ≤ ·) := by
  have := List.pairwise_mergeSort (le := fun x y : Int => decide (x ≤ y)) (by simp; omega) (by simp; omega) c
  exact this.imp fun h => by simpa using h
theorem setE_up (t : Nat → Nat → Bool) (m v : Nat) : (setE t m v).Pairwise (· < ·) := by
  unfold setE
  rw [List.pairwise_map]
  exact ((List.pairwise_lt_range).filter _).imp fun h => by omega
theorem PartsIn.srt (h : PartsIn zs m cs) (hA : AllM zs m bs) {c : List Int} (hc : c ∈ cs) {u : Nat} (hu : (u : Int) ∈ c) : srtI c = setE (togM bs) m u := by
  have hn : (setE (togM bs) m u).Nodup := (setE_up _ _ _).imp fun h e => by omega
  have hp : (srtI c).Perm (setE (togM bs) m u) := by
    refine (List.perm_ext_iff_of_nodup ((List.mergeSort_perm c _).nodup_iff.2 (h.once c hc)) hn).2 fun x => ?_
    show x ∈ srtI c ↔ _
    rw [srtI_mem, mem_setE_iff]
    constructor
    · intro hx
      obtain ⟨w, rfl, hw⟩ := h.nat hc hx
      exact ⟨w, rfl, hw, (h.tog hA hc hu hw).1 hx⟩
    · rintro ⟨w, rfl, hw, ht⟩
      exact (h.tog hA hc hu hw).2 ht
  exact hp.eq_of_pairwise (fun a b _ _ h1 h2 => Int.le_antisymm h1 h2) (srtI_up c) ((setE_up _ _ _).imp fun h => Int.le_of_lt h)
theorem setE_head {t : Nat → Nat → Bool} {u : Nat} (ht : t u u = true) (hu : u ∈ leasts t m) : (setE t m u).headD 0 = (u : Int) := by
  have hm : (u : Int) ∈ setE t m u := setE_nat.2 ⟨(mem_leasts.1 hu).1, ht⟩
  have hup := setE_up t m u
  cases hs : setE t m u with
  | nil => rw [hs] at hm; simp at hm
  | cons a l =>
    rw [hs] at hm hup
    have ha : a ∈ setE t m u := by rw [hs]; simp
    obtain ⟨w, e, hw, htw⟩ := mem_setE_iff.1 ha
    have := (mem_leasts.1 hu).2 w hw htw
    rcases List.mem_cons.1 hm with h | h
    · exact h.symm
    · have := (List.pairwise_cons.1 hup).1 _ h
      show a = _
      omega
theorem PartsAll.sets (h : PartsAll zs m cs) (hA : AllM zs m bs) {L : List (List Int)} (hp : L.Perm (cs.map srtI)) (hs : L.Pairwise fun a b => a.headD 0 ≤ b.headD 0) : L = setsE (togM bs) m m := by
  have hE := hA.eqv
  have hmem : ∀ l, l ∈ L ↔ l ∈ setsE (togM bs) m m := fun l => by
    rw [hp.mem_iff, setsE_eq, List.mem_map, List.mem_map]
    constructor
    · rintro ⟨c, hc, rfl⟩
      obtain ⟨u, _, h2, h3⟩ := h.least hA hc
      exact ⟨u, h3, (h.srt hA hc h2).symm⟩
    · rintro ⟨u, hu, rfl⟩
      obtain ⟨c, hc, huc⟩ := h.all u (mem_leasts.1 hu).1
      exact ⟨c, hc, h.srt hA hc huc⟩
  have hheads : ∀ a ∈ setsE (togM bs) m m, ∃ u, u ∈ leasts (togM bs) m ∧ a = setE (togM bs) m u ∧ a.headD 0 = (u : Int) := fun a ha => by
    rw [setsE_eq, List.mem_map] at ha
    obtain ⟨u, hu, rfl⟩ := ha
    exact ⟨u, hu, rfl, setE_head (hE.refl _ (mem_leasts.1 hu).1) hu⟩
  have hle : (setsE (togM bs) m m).Pairwise fun a b => a.headD 0 < b.headD 0 := by
    rw [setsE_eq, List.pairwise_map]
    refine (leasts_up (togM bs) m).imp_of_mem fun {a b} ha hb hab => ?_
    rw [setE_head (hE.refl _ (mem_leasts.1 ha).1) ha, setE_head (hE.refl _ (mem_leasts.1 hb).1) hb]
    omega
  have hnE : (setsE (togM bs) m m).Nodup := hle.imp fun h e => by subst e; omega
  have hnL : L.Nodup := by
    refine hp.nodup_iff.2 ?_
    rw [List.nodup_iff_pairwise_ne, List.pairwise_map]
    refine h.apart.imp_of_mem fun {a b} ha hb hab e => ?_
    obtain ⟨u, _, h2, _⟩ := h.least hA ha
    have : (u : Int) ∈ srtI b := e ▸ srtI_mem.2 h2
    exact hab _ h2 (srtI_mem.1 this)
  refine ((List.perm_ext_iff_of_nodup hnL hnE).2 hmem).eq_of_pairwise (fun a b ha hb h1 h2 => ?_) hs (hle.imp fun h => Int.le_of_lt h)
  obtain ⟨u, _, e1, e2⟩ := hheads a ((hmem a).1 ha)
  obtain ⟨w, _, e3, e4⟩ := hheads b hb
  have : u = w := by omega
  rw [e1, e3, this]
theorem PartsIn.round (h : PartsIn zs m cs) (hz : ∀ p ∈ zs, rightE (m : Int) p = true) {c : List Int} (hc : c ∈ cs) {v : Nat} (hv : (v : Int) ∈ c) : 1 < c.length ↔ Leads zs (v : Int) (v : Int) := by
  rw [round_iff hz]
  constructor
  · intro hl
    have hn := h.once c hc
    obtain ⟨x, hx, hne⟩ : ∃ x ∈ c, x ≠ (v : Int) := by
      match c, hl, hn with
      | a :: b :: l, _, hn =>
        by_cases e : a = (v : Int)
        · refine ⟨b, by simp, fun e2 => ?_⟩
          simp at hn
          exact hn.1.1 (e.trans e2.symm)
        · exact ⟨a, by simp, e⟩
    obtain ⟨w, rfl, hw⟩ := h.nat hc hx
    exact ⟨w, by omega, both_tog.1 ((h.both c hc _ hv _ (by omega) (by omega)).1 hx)⟩
  · rintro ⟨w, hne, ht⟩
    have hwm : w < m := by
      rcases ht with e | ⟨h1, _⟩
      · exact absurd e.symm hne
      · have := h1.ends hz; omega
    have hw : (w : Int) ∈ c := (h.both c hc _ hv _ (by omega) (by omega)).2 (both_tog.2 ht)
    match c, hv, hw with
    | [], hv, _ => simp at hv
    | [a], hv, hw => simp at hv hw; omega
    | a :: b :: l, _, _ => simp
theorem PartsAll.cyclic (h : PartsAll zs m cs) (hz : ∀ p ∈ zs, rightE (m : Int) p = true) : (∃ c ∈ cs, 1 < c.length) ↔ ∃ v : Nat, Leads zs (v : Int) (v : Int) := by
  constructor
  · rintro ⟨c, hc, hl⟩
    obtain ⟨x, hx⟩ := List.exists_mem_of_ne_nil _ (h.some c hc)
    obtain ⟨w, rfl, _⟩ := h.nat hc hx
    exact ⟨w, (h.round hz hc hx).1 hl⟩
  · rintro ⟨v, hv⟩
    have := hv.ends hz
    obtain ⟨c, hc, hvc⟩ := h.all v (by omega)
    exact ⟨c, hc, (h.round hz hc hvc).2 hv⟩
/-- The nodes of the components of more than one. -/
def roundL (cs : List (List Int)) : List Int := (cs.filter fun c => decide (1 < c.length)).flatten
theorem roundL_snoc (cs : List (List Int)) (c : List Int) : roundL (cs ++ [c]) = if 1 < c.length then roundL cs ++ c else roundL cs := by
  unfold roundL
  rw [List.filter_append]
  by_cases h : 1 < c.length <;> simp [h]
theorem PartsAll.rounds (h : PartsAll zs m cs) (hz : ∀ p ∈ zs, rightE (m : Int) p = true) (v : Nat) : (v : Int) ∈ roundL cs ↔ Leads zs (v : Int) (v : Int) := by
  unfold roundL
  rw [List.mem_flatten]
  constructor
  · rintro ⟨c, hc, hv⟩
    obtain ⟨h1, h2⟩ := List.mem_filter.1 hc
    exact (h.round hz h1 hv).1 (by simpa using h2)
  · intro hv
    have := hv.ends hz
    obtain ⟨c, hc, hvc⟩ := h.all v (by omega)
    exact ⟨c, List.mem_filter.2 ⟨hc, by simpa using (h.round hz hc hvc).2 hv⟩, hvc⟩
theorem PartsIn.rounds_ends (h : PartsIn zs m cs) {x : Int} (hx : x ∈ roundL cs) : 0 ≤ x ∧ x < (m : Int) := by
  unfold roundL at hx
  obtain ⟨c, hc, hv⟩ := List.mem_flatten.1 hx
  exact h.ends c (List.mem_filter.1 hc).1 x hv
end
end Go.Proofs.YtgbpaiffnhpafaaDoor
namespace Go.Proofs.YtgbpaiffnhpafaaDoor
open Go.RowKit Go.Shelf

/-- A function that tells the components of a graph, whatever it is asked by: C are the blocks that who asks may turn. -/
def PartsSeq (n : Nat) (P : Program) (gf : Nat) (lb : Array Value) (zs : List Ed) (m : Nat) (w1 : World) : Prop :=
  ∀ (l : Nat) (J : List (List Int) → (Nat → Prop) → World → Prop) (Jx : World → Prop) (C0 : Nat → Prop) (W : World),
    Below w1.heap.size w1 W → (∀ k, C0 k → w1.heap.size ≤ k ∧ k < W.heap.size) →
    (∀ cs C X Y, J cs C X → Keep (fun k => k < W.heap.size ∨ C k) X Y → J cs C Y) →
    (∀ cs c C X b o, J cs C X → PartsIn zs m (cs ++ [c]) → Reads X X.heap.size 1 (some ⟨b, o, none⟩) c.length (ints c) → ¬ C b → (∀ k, C k → w1.heap.size ≤ k ∧ k < X.heap.size) → W.heap.size ≤ X.heap.size →
      YieldAt Fence.wide n P l #[.slice (some ⟨b, o, none⟩) c.length c.length] X fun e X' => (∃ C' : Nat → Prop, (∀ k, C' k → k < X'.heap.size ∧ (C k ∨ X.heap.size ≤ k)) ∧ Keep (fun k => ¬ C k) X X' ∧ e = .returned (.bool true) ∧ J (cs ++ [c]) C' X') ∨
        (e = .returned (.bool false) ∧ Jx X')) →
    J [] C0 W →
    CallsIn Fence.wide n P gf (#[.func (.yield l) #[] #[]] ++ lb) W fun e X => (∃ v, e = .returned v) ∧ ((∃ cs C, PartsAll zs m cs ∧ J cs C X) ∨ Jx X)

/-- What a round hands on; N: where the range began. -/
def PartPost (N : Nat) (C : Nat → Prop) (I : List (List Int) → (Nat → Prop) → World → Prop) (Ix : World → Prop) (cs : List (List Int)) (X : World) : Exit → Act → World → Prop := fun e _ X' =>
  (∃ C' : Nat → Prop, (∀ k, C' k → k < X'.heap.size ∧ (C k ∨ X.heap.size ≤ k)) ∧ Keep (fun k => ¬ C k) X X' ∧ e = .normal ∧ I cs C' X') ∨ (e = .ret ∧ Keep (fun k => N ≤ k ∧ ¬ C k) X X' ∧ Ix X')

theorem range_parts {n : Nat} {P : Program} {g : Operand} {ps : Array Tmp} {assign body : Code} {Q : Exit → Act → World → Prop} {a : Act} {w : World} (h1 : 1 ≤ n) {gf : Nat} {lb : Array Value} (hg : a.eval g = .func (.func gf) #[] lb)
    (eg : ∀ args w, (callFunc gf args).run P w = .ok (.enter gf args) w) {zs : List Ed} {m : Nat} {w1 : World} (hseq : PartsSeq (n - 1) P gf lb zs m w1) (hb : Below w1.heap.size w1 w) (hps : ps.size = 1)
    (I : List (List Int) → (Nat → Prop) → World → Prop) (Ix : World → Prop) (C0 : Nat → Prop) (hC0 : ∀ k, C0 k → w1.heap.size ≤ k ∧ k < w.heap.size) (h0 : I [] C0 w)
    (hI : ∀ cs C X Y, I cs C X → Keep (fun k => k < w.heap.size ∨ C k) X Y → I cs C Y) (hIx : ∀ X Y, Ix X → Keep (fun k => k < w.heap.size) X Y → Ix Y)
    (a₁ : Value → Act)
    (hassign : ∀ (l : Nat) (v : Value) (W : World) (K : Act → World → Prop), K (a₁ v) W →
      assign.wpIn (Fence.wide.inRound l) (n - 1) P (Exit.then K (fun _ _ _ => False)) { tmps := (ps.zip #[v]).foldl (fun t (p, v) => t.setIfInBounds p v) a.tmps, defers := [] } W)
    (hbody : ∀ (l : Nat) (cs : List (List Int)) (c : List Int) (C : Nat → Prop) (X : World) (b o : Nat), I cs C X → PartsIn zs m (cs ++ [c]) → Reads X X.heap.size 1 (some ⟨b, o, none⟩) c.length (ints c) → ¬ C b → (∀ k, C k → w1.heap.size ≤ k ∧ k < X.heap.size) → w.heap.size ≤ X.heap.size →
      body.wpIn (Fence.wide.inRound l) (n - 1) P (PartPost w.heap.size C I Ix (cs ++ [c]) X) (a₁ (.slice (some ⟨b, o, none⟩) c.length c.length)) X)
    (hdone : ∀ (cs : List (List Int)) (C : Nat → Prop) (D : Nat) (W : World), w.heap.size ≤ D → PartsAll zs m cs → I cs C W → W.heap[D]? = some (.deferred (some [])) → Q .normal { a with defers := { target := .collected D, args := #[] } :: a.defers } W)
    (hstop : ∀ (D : Nat) (W : World), w.heap.size ≤ D → Ix W → W.heap[D]? = some (.deferred (some [])) → Code.ret.wpIn Fence.wide n P Q { a with defers := { target := .collected D, args := #[] } :: a.defers } W) :
    (Code.rangeFunc g ps assign body).wpIn Fence.wide n P Q a w := by
  refine wpIn_rangeFunc fun fn hfn => ?_
  rw [show Fence.wide.round = none from rfl]
  obtain ⟨rec, hrec⟩ : ∃ rec : LoopState → Option Code → Loop, rec = fun st pe => { state := st, pending := pe, fn, tmps := a.tmps, params := ps, assign, body, defers := w.heap.size } := ⟨_, rfl⟩
  obtain ⟨W1, hW1⟩ : ∃ W1, (w.alloc (.deferred (some []))).alloc (.loop (rec .ready none)) = W1 := ⟨_, rfl⟩
  have hL1 : W1.heap[w.heap.size + 1]? = some (.loop (rec .ready none)) := by
    rw [← hW1]; have := World.alloc_heap_new (w.alloc (.deferred (some []))) (.loop (rec .ready none)); rwa [World.size_alloc] at this
  have hK1 : W1.heap[w.heap.size]? = some (.deferred (some [])) := by
    rw [← hW1]; exact (Below.heap_alloc _ _ _ (by simp)).trans (World.alloc_heap_new w _)
  have hsz1 : W1.heap.size = w.heap.size + 2 := by rw [← hW1]; simp
  have hkw : Keep (fun k => k < w.heap.size ∨ C0 k) w W1 := by rw [← hW1]; exact ((Keep.refl _ w).alloc _).alloc _
  have hI1 : I [] C0 W1 := hI _ _ _ _ h0 hkw
  have hb1 : Below w1.heap.size w1 W1 := by
    rw [← hW1]; exact hb.trans ((((Below.refl _ w).alloc (Nat.le_refl _) _).alloc (by simp) _).mono hb.size)
  refine ⟨w.heap.size + 1, [{ target := .collected w.heap.size, args := #[] }], W1, { target := .fn (.func gf) lb, args := #[.func (.yield (w.heap.size + 1)) #[] #[]] }, W1, gf,
    #[.func (.yield (w.heap.size + 1)) #[] #[]] ++ lb, W1, ?_, ?_, ?_, ?_, fun _ => h1, ?_⟩
  · rw [← hW1, hrec]; exact run_enterLoop_outer _ _ _ _ _
  · simp only [resolve, hg]
    simp [go_sem]
  · intro f' hf'; trivial
  · simp [invoke, go_sem, eg]
  · refine (hseq (w.heap.size + 1)
      (fun cs C2 W => ∃ C : Nat → Prop, C2 = (fun k => C k ∨ k = w.heap.size ∨ k = w.heap.size + 1) ∧ I cs C W ∧ ¬ C w.heap.size ∧ ¬ C (w.heap.size + 1) ∧ W.heap[w.heap.size + 1]? = some (.loop (rec .ready none)) ∧ W.heap[w.heap.size]? = some (.deferred (some [])))
      (fun W => Ix W ∧ W.heap[w.heap.size + 1]? = some (.loop (rec .done (some .ret))) ∧ W.heap[w.heap.size]? = some (.deferred (some [])))
      (fun k => C0 k ∨ k = w.heap.size ∨ k = w.heap.size + 1) W1 hb1 ?_ ?_ ?_ ⟨C0, rfl, hI1, fun h => by have := (hC0 _ h).2; omega, fun h => by have := (hC0 _ h).2; omega, hL1, hK1⟩).mono ?_
    · rintro k (h | rfl | rfl)
      · have := hC0 k h; omega
      · have := hb.size; omega
      · have := hb.size; omega
    · rintro cs C2 X Y ⟨C, rfl, hi, n1, n2, hl, hk⟩ hkeep
      exact ⟨C, rfl, hI _ _ _ _ hi (hkeep.mono fun k _ hk => by
        rcases hk with hk | hk
        · exact .inl (by omega)
        · exact .inr (.inl hk)), n1, n2, hkeep.obj hl (.inr (.inr (.inr rfl))), hkeep.obj hk (.inr (.inr (.inl rfl)))⟩
    · rintro cs c C2 W b o ⟨C, rfl, hi, n1, n2, hl, hk⟩ hpi hR hCb hCk hsz
      have hlt : w.heap.size + 1 < W.heap.size := (Array.getElem?_eq_some_iff.1 hl).1
      have hbl : b ≠ w.heap.size + 1 := fun e => hCb (.inr (.inr e))
      have hbD : b ≠ w.heap.size := fun e => hCb (.inr (.inl e))
      have hy := run_yield (P := P) (args := #[.slice (some ⟨b, o, none⟩) c.length c.length]) hl (by rw [hrec]; exact hps.symm)
      rw [hrec] at hy
      refine ⟨fn, _, assign, body, hy, roundIn_of_wpIn hfn (hassign _ _ W _ ?_)⟩
      clear hy
      refine ⟨_, run_beginRound hl (by rw [hrec]), ?_⟩
      have hl2 : (W.putObj (w.heap.size + 1) (.loop { rec .ready none with state := .busy })).heap[w.heap.size + 1]? = some (.loop { rec .ready none with state := .busy }) := World.putObj_heap_same hlt
      have hk2 : (W.putObj (w.heap.size + 1) (.loop { rec .ready none with state := .busy })).heap[w.heap.size]? = some (.deferred (some [])) := (World.putObj_heap_other (by omega)).trans hk
      have hkeep2 : Keep (fun k => ¬ (C k ∨ k = w.heap.size ∨ k = w.heap.size + 1)) W (W.putObj (w.heap.size + 1) (.loop { rec .ready none with state := .busy })) := (Keep.refl _ W).put (.inr fun h => h (.inr (.inr rfl))) _
      have hi2 : I cs C (W.putObj (w.heap.size + 1) (.loop { rec .ready none with state := .busy })) := hI _ _ _ _ hi ((Keep.refl _ W).put (.inr fun h => by
        rcases h with h | h
        · omega
        · exact n2 h) _)
      have hsz2 : (W.putObj (w.heap.size + 1) (.loop { rec .ready none with state := .busy })).heap.size = W.heap.size := by simp [World.putObj]
      have hR2 : Reads (W.putObj (w.heap.size + 1) (.loop { rec .ready none with state := .busy })) W.heap.size 1 (some ⟨b, o, none⟩) c.length (ints c) := by
        refine ⟨hR.1, fun hn => ?_⟩
        obtain ⟨ad, e, h2, h3⟩ := hR.2 hn
        refine ⟨ad, e, h2, fun j u hu => ?_⟩
        have hb2 : (ad.add j).block = b := by rw [block_of_add]; injection e with e; rw [← e]
        rw [← h3 j u hu]
        exact World.cell?_of_block (World.putObj_heap_other (by rw [hb2]; exact hbl))
      rw [← hsz2] at hR2
      refine wpIn_mono (hbody _ cs c C _ b o hi2 hpi hR2 (fun h => hCb (.inl h)) (fun k hk => by rw [hsz2]; exact hCk k (.inl hk)) (by rw [hsz2]; omega)) ?_
      rintro e a3 W3 (⟨C', hC', hk3, rfl, hi3⟩ | ⟨rfl, hk3, hi3⟩)
      · rw [hsz2] at hC'
        have hl3 := hk3.obj hl2 n2
        have hD3 := hk3.obj hk2 n1
        have hk4 : Keep (fun k => ¬ (C k ∨ k = w.heap.size ∨ k = w.heap.size + 1)) W W3 := hkeep2.trans (hk3.mono fun k _ h h2 => h (.inl h2))
        have n3 : ¬ C' w.heap.size := fun h => by
          rcases (hC' _ h).2 with h | h
          · exact n1 h
          · omega
        have n4 : ¬ C' (w.heap.size + 1) := fun h => by
          rcases (hC' _ h).2 with h | h
          · exact n2 h
          · omega
        have hr := run_endRound (P := P) none hl3
        refine ⟨_, _, hr, .inl ⟨(fun k => C' k ∨ k = w.heap.size ∨ k = w.heap.size + 1), fun k hk => ?_, hk4.put (.inr fun h => h (.inr (.inr rfl))) _, rfl, C', rfl, hI _ _ _ _ hi3 ((Keep.refl _ W3).put (.inr fun h => ?_) _), n3, n4, ?_, ?_⟩⟩
        · have hs3 := hk4.size
          simp only [World.putObj, Array.size_setIfInBounds]
          rcases hk with hk | rfl | rfl
          · have := hC' k hk
            exact ⟨this.1, this.2.elim (fun h => .inl (.inl h)) .inr⟩
          · exact ⟨by omega, .inl (.inr (.inl rfl))⟩
          · exact ⟨by omega, .inl (.inr (.inr rfl))⟩
        · rcases h with h | h
          · omega
          · exact n4 h
        · rw [World.putObj_heap_same (Array.getElem?_eq_some_iff.1 hl3).1, hrec]
          rfl
        · exact (World.putObj_heap_other (by omega)).trans hD3
      · have hl3 := hk3.obj hl2 ⟨Nat.le_succ _, n2⟩
        have hD3 := hk3.obj hk2 ⟨Nat.le_refl _, n1⟩
        have hr := run_endRound (P := P) (some .ret) hl3
        refine ⟨_, _, hr, .inr ⟨rfl, hIx _ _ hi3 ((Keep.refl _ W3).put (.inr fun h => by omega) _), ?_, ?_⟩⟩
        · rw [World.putObj_heap_same (Array.getElem?_eq_some_iff.1 hl3).1, hrec]
          rfl
        · exact (World.putObj_heap_other (by omega)).trans hD3
    · rintro e W2 ⟨⟨v, rfl⟩, (⟨cs, _, hall, C, rfl, hi, n1, n2, hl, hk⟩ | ⟨hi, hl, hk⟩)⟩
      · refine ⟨none, _, by have := run_endLoop (P := P) hl (by rw [hrec]; simp); rw [hrec] at this; exact this, hdone cs C _ _ (Nat.le_refl _) hall (hI _ _ _ _ hi ((Keep.refl _ W2).put (.inr fun h => ?_) _)) ((World.putObj_heap_other (by omega)).trans hk)⟩
        rcases h with h | h
        · omega
        · exact n2 h
      · exact ⟨some .ret, _, by have := run_endLoop (P := P) hl (by rw [hrec]; simp); rw [hrec] at this; exact this, hstop _ _ (Nat.le_refl _) (hIx _ _ hi ((Keep.refl _ W2).put (.inr fun h => by omega) _)) ((World.putObj_heap_other (by omega)).trans hk)⟩
end Go.Proofs.YtgbpaiffnhpafaaDoor
