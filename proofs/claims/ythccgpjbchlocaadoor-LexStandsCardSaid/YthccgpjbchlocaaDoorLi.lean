/- Layer lex: what All gives, as a contract of the translated call. -/
import Derived.RangeFuncBox
import Derived.Maps.AppendAt
import Derived.Test.YthccgpjbchlocaaDoorLh
import Derived.Test.YthccgpjbchlocaaDoorWords
namespace Go.Proofs.YthccgpjbchlocaaDoor
open Go.RowKit Go.Shelf
attribute [local go_sem] Oper.semAt_some

/-- The cells of tokens in a row. -/
def tkCells (x : Tk) : List Value := [.int .i64 x.k, .int .i64 x.a, .string ⟨x.tx.toArray⟩, .bool x.gl]
def cellsT (xs : List Tk) : List Value := xs.flatMap tkCells
def tkA (x : Ans) : Tk := ⟨x.k, x.a, x.tx, x.gl⟩
theorem cellsT_snoc (xs : List Tk) (x : Tk) : cellsT (xs ++ [x]) = cellsT xs ++ tkCells x := by simp [cellsT]
theorem res_ok (n : Nat) : ∀ (xs : List Ans), (∀ x ∈ xs, x.e = 0) → resOf n xs = (xs.map tkA, n, 0)
  | [], _ => rfl
  | x :: xs, h => by
    have h0 := h x (by simp)
    rw [resOf, if_neg (by simpa using h0), res_ok n xs (fun y hy => h y (by simp [hy]))]
    rfl
theorem res_err (n : Nat) (x : Ans) (rest : List Ans) (hx : x.e ≠ 0) : ∀ (pre : List Ans), (∀ y ∈ pre, y.e = 0) → resOf n (pre ++ x :: rest) = ([], x.p, x.e)
  | [], _ => by rw [List.nil_append, resOf, if_pos hx]
  | y :: pre, h => by
    have h0 := h y (by simp)
    rw [List.cons_append, resOf, if_neg (by simpa using h0), res_err n x rest hx pre (fun z hz => h z (by simp [hz])), if_neg hx]
theorem token_info : (Tryd.prog.info? 29).map (fun i => (i.zero, i.size, i.bytes)) = some (some (.agg #[.int .i64 0, .int .i64 0, .string ⟨#[]⟩, .bool false]), 4, 40) := by kernel_rfl

/-- All's answer: the slice owns the tokens, the place, the error. -/
def AllOk (l : List UInt8) (w : World) (e : Ending) (w' : World) : Prop :=
  ∃ v, e = .returned (.tuple #[v, .int .i64 (allL l).2.1, .int .i64 (allL l).2.2]) ∧ w'.ownsRow w.heap.size 29 4 v (allL l).1.length (cellsT (allL l).1) ∧ Below w.heap.size w w'

theorem keepB_t {B : Nat} {A C D : World} (h : KeepB B A C) (k : KeepB B C D) : KeepB B A D := ⟨k.1.trans h.1, Nat.le_trans h.2 k.2⟩
theorem keepB_b {B : Nat} {w : World} (hB : B < w.heap.size) (W : World) (l : Nat) (o o' : Obj) (hl : w.heap.size ≤ l) (h : W.heap[l]? = some o) (_ : o.isCells = false) (_ : o.isWalk = false) : KeepB B W (W.putObj l o') :=
  ⟨(grownBy_putObj' W l o').block B (by have := block_lt h; omega) (fun e => by cases e; omega), (grownBy_putObj' W l o').size⟩
/-- A block known whole, said of cells alone. -/
theorem blk_own {β : Type} (B : Nat) (t : TypeId) (f : β → Array Value) : Own fun s W => Blk W B t (f s) := fun s W W' row hs hg hr =>
  hs.grown hg (fun e => by
    obtain ⟨o, ho, hoc⟩ := hr B e.symm
    unfold Blk at hs
    rw [hs] at ho
    cases ho
    cases hoc)
theorem four_new (w : World) (x : Tk) (t : TypeId) : ∀ j u, (tkCells x)[j]? = some u → (w.alloc (.cells #[.int .i64 x.k, .int .i64 x.a, .string ⟨x.tx.toArray⟩, .bool x.gl] t)).cell? ((⟨w.heap.size, 0, none⟩ : Addr).add j) = some u := by
  intro j u hu
  have hb := block_new w (.cells #[.int .i64 x.k, .int .i64 x.a, .string ⟨x.tx.toArray⟩, .bool x.gl] t)
  unfold tkCells at hu
  match j, hu with
  | 0, hu => simp at hu; subst hu; simp [Addr.add]
  | 1, hu => simp at hu; subst hu; simp [Addr.add]
  | 2, hu => simp at hu; subst hu; simp [Addr.add]
  | 3, hu => simp at hu; subst hu; simp [Addr.add]
theorem tkCells_one (x : Tk) : ∀ u ∈ tkCells x, u.oneCell' = true := by
  intro u hu
  unfold tkCells at hu
  simp at hu
  rcases hu with rfl | rfl | rfl | rfl <;> rfl

theorem own_set {W : World} {n₀ B k : Nat} {t e : TypeId} {size : Nat} {v u : Value} {xs : List Value} (hr : W.ownsRow n₀ e size v k xs) (hb : Boxed W B t u) (hte : t ≠ e) (u' : Value) : (W.setCell ⟨B, 0, none⟩ u').ownsRow n₀ e size v k xs :=
  hr.kept (grownBy_setCell' W B u') (.inr fun e => hb.not_row hte hr e.symm)

set_option maxRecDepth 100000 in
set_option maxHeartbeats 4000000 in
theorem all_in (s : ByteArray) (hs : s.size ≤ 1000000) (w : World) (n : Nat) (hn : 6 ≤ n) :
    CallsIn Fence.wide n Tryd.prog 6 #[.string s] w (AllOk s.data.toList w) := by
  have h1 : 1 ≤ n := by omega
  obtain ⟨i0, hi, hz0, hz1, hz2⟩ := info_parts token_info
  refine callsIn_of_wp_marks Tryd.func6 rfl trivial ?_ rfl
  simp only [Tryd.ntmps6, List.size_toArray, List.length_cons, List.length_nil, Nat.reduceAdd, Nat.reduceSub, Array.replicate_succ, Array.replicate_zero, List.push_toArray, List.append_toArray, List.nil_append, List.cons_append]
  gi_wp2_with fail
  refine ⟨trivial, (callsIn_wide.2 (tokens_any s _)).mono ?_⟩
  rintro e w' ⟨rfl, rfl⟩
  have b0 := (((Boxed.new w 24 (.slice none 0 0)).alloc (.cells #[.int .i64 0] 3)).alloc (.cells #[.int .i64 0] 25)).alloc (.cells #[.slice none 0 0] 24) |>.alloc (.cells #[.string s] 9)
  have b1 := ((Boxed.new (w.alloc (.cells #[.slice none 0 0] 24)) 3 (.int .i64 0)).alloc (.cells #[.int .i64 0] 25)).alloc (.cells #[.slice none 0 0] 24) |>.alloc (.cells #[.string s] 9)
  have b2 := (Boxed.new ((w.alloc (.cells #[.slice none 0 0] 24)).alloc (.cells #[.int .i64 0] 3)) 25 (.int .i64 0)).alloc (.cells #[.slice none 0 0] 24) |>.alloc (.cells #[.string s] 9)
  have b3 := (Boxed.new (((w.alloc (.cells #[.slice none 0 0] 24)).alloc (.cells #[.int .i64 0] 3)).alloc (.cells #[.int .i64 0] 25)) 24 (.slice none 0 0)).alloc (.cells #[.string s] 9)
  have b4 := block_new ((((w.alloc (.cells #[.slice none 0 0] 24)).alloc (.cells #[.int .i64 0] 3)).alloc (.cells #[.int .i64 0] 25)).alloc (.cells #[.slice none 0 0] 24)) (.cells #[.string s] 9)
  simp only [World.size_alloc] at b1 b2 b3 b4
  have hB0 : Below w.heap.size w (((((w.alloc (.cells #[.slice none 0 0] 24)).alloc (.cells #[.int .i64 0] 3)).alloc (.cells #[.int .i64 0] 25)).alloc (.cells #[.slice none 0 0] 24)).alloc (.cells #[.string s] 9)) :=
    (((((Below.refl _ w).alloc (Nat.le_refl _) _).alloc (by simp) _).alloc (by simp; omega) _).alloc (by simp; omega) _).alloc (by simp; omega) _
  have hsz : (((((w.alloc (.cells #[.slice none 0 0] 24)).alloc (.cells #[.int .i64 0] 3)).alloc (.cells #[.int .i64 0] 25)).alloc (.cells #[.slice none 0 0] 24)).alloc (.cells #[.string s] 9)).heap.size = w.heap.size + 5 := by simp
  gi_wp2_with fail
  obtain ⟨W0, hW0⟩ : ∃ W0, ((((w.alloc (.cells #[.slice none 0 0] 24)).alloc (.cells #[.int .i64 0] 3)).alloc (.cells #[.int .i64 0] 25)).alloc (.cells #[.slice none 0 0] 24)).alloc (.cells #[.string s] 9) = W0 := ⟨_, rfl⟩
  rw [hW0] at b0 b1 b2 b3 b4 hB0 hsz ⊢
  clear hW0
  refine wpIn_rangeFunc_ownH rfl h1 (gf := 27) (lb := #[.pointer (some ⟨w.heap.size + 1 + 1 + 1 + 1, 0, none⟩)]) rfl trivial (enters_of Tryd.func27 (by kernel_rfl) rfl)
    (iter_stops (n - 1) (by omega) (w.heap.size + 1 + 1 + 1 + 1) s hs W0 b4) (fun h k => keepB_t h k) (keepB_b (by omega)) (Below.refl _ _) (fun _ => rfl)
    (fun pre W => (((((((∀ x ∈ pre, x.e = 0) ∧ Boxed W w.heap.size 24 (.slice none 0 0)) ∧ Boxed W (w.heap.size + 1) 3 (.int .i64 0)) ∧ Boxed W (w.heap.size + 1 + 1) 25 (.int .i64 0)) ∧ (∃ v, Boxed W (w.heap.size + 1 + 1 + 1) 24 v ∧ W.ownsRow w.heap.size 29 4 v pre.length (cellsT (pre.map tkA)) ∧ True)) ∧ Blk W (w.heap.size + 1 + 1 + 1 + 1) 9 #[.string s]) ∧ Below w.heap.size w W))
    (fun c pre W => (∃ (pre' : List Ans) (x : Ans), (c = .ret ∧ pre = pre' ++ [x] ∧ (∀ y ∈ pre', y.e = 0) ∧ x.e ≠ 0) ∧ Boxed W w.heap.size 24 (.slice none 0 0) ∧ Boxed W (w.heap.size + 1) 3 (.int .i64 x.p) ∧ Boxed W (w.heap.size + 1 + 1) 25 (.int .i64 x.e)) ∧ Below w.heap.size w W)
    (OwnFrom.and (OwnFrom.and (OwnFrom.and (OwnFrom.and (OwnFrom.and (OwnFrom.and (ownFrom_pure _ _) (Own.from (boxed_own _ _ _) _)) (Own.from (boxed_own _ _ _) _)) (Own.from (boxed_own _ _ _) _)) (Own.from (holdsRow_own w.heap.size (w.heap.size + 1 + 1 + 1) 24 29 4 (fun pre : List Ans => pre.length) (fun pre => cellsT (pre.map tkA)) (fun _ _ => True)) _)) (Own.from (blk_own _ _ (fun _ => #[.string s])) _)) (ownFrom_below (Nat.le_refl _) (by omega)))
    (fun c => OwnFrom.and (fun pre X Y row hs hg hr => by
      obtain ⟨pre', x, e1, e2, e3, e4⟩ := hs
      exact ⟨pre', x, e1, boxed_own _ _ (fun (_ : Unit) => _) () X Y row e2 hg (fun r e => (hr r e).2), boxed_own _ _ (fun (_ : Unit) => _) () X Y row e3 hg (fun r e => (hr r e).2), boxed_own _ _ (fun (_ : Unit) => _) () X Y row e4 hg (fun r e => (hr r e).2)⟩) (ownFrom_below (Nat.le_refl _) (by omega)))
    ⟨⟨⟨⟨⟨⟨by simp, b0⟩, b1⟩, b2⟩, ⟨_, b3, World.ownsRow_nil _ _ _ _, trivial⟩⟩, b4⟩, hB0⟩
    (fun x a' W => ∃ Bx By : Nat, w.heap.size + 4 < Bx ∧ w.heap.size + 4 < By ∧ Blk W Bx 29 #[.int .i64 x.k, .int .i64 x.a, .string ⟨x.tx.toArray⟩, .bool x.gl] ∧ Blk W By 38 #[.int .i64 x.p, .int .i64 x.e] ∧ a' = { tmps := #[.string s, undef, .pointer (some ⟨w.heap.size, 0, none⟩), .pointer (some ⟨w.heap.size + 1, 0, none⟩), .pointer (some ⟨w.heap.size + 1 + 1, 0, none⟩), .pointer (some ⟨w.heap.size + 1 + 1 + 1, 0, none⟩), .pointer (some ⟨Bx, 0, none⟩), .pointer (some ⟨By, 0, none⟩), .string s, .func (.func 27) #[] #[.pointer (some ⟨w.heap.size + 1 + 1 + 1 + 1, 0, none⟩)], .agg #[.int .i64 x.k, .int .i64 x.a, .string ⟨x.tx.toArray⟩, .bool x.gl], .agg #[.int .i64 x.p, .int .i64 x.e], undef, undef, undef, undef, undef, undef, undef, undef, undef, undef, undef, undef, undef, undef], defers := [] })
    (fun x a' _ X Y row hs hg hr => by
      obtain ⟨Bx, By, e1, e2, e3, e4, e5⟩ := hs
      exact ⟨Bx, By, e1, e2, blk_own _ _ (fun (_ : Unit) => _) () X Y row e3 hg (fun r e => (hr r e).2), blk_own _ _ (fun (_ : Unit) => _) () X Y row e4 hg (fun r e => (hr r e).2), e5⟩)
    ?assign ?body ?done ?stop
  case assign =>
    rintro l pre x W K ⟨⟨⟨⟨⟨⟨hp, c0⟩, c1⟩, c2⟩, v, c3, hrow, _⟩, c4⟩, hB1⟩ hK
    have hsz1 := c4.lt
    have ky := Blk.new (W.alloc (.cells #[.int .i64 x.k, .int .i64 x.a, .string ⟨x.tx.toArray⟩, .bool x.gl] 29)) 38 #[.int .i64 x.p, .int .i64 x.e]
    rw [World.size_alloc] at ky
    unfold encA
    gi_wp2
    exact hK _ _ (((KeepsOthers.alloc _ _).trans (KeepsOthers.alloc _ _)).from _) ⟨(Below.heap_alloc _ _ _ (by simp; omega)).trans (Below.heap_alloc _ _ _ hsz1), by simp; omega⟩
      ⟨⟨⟨⟨⟨⟨hp, (c0.alloc _).alloc _⟩, (c1.alloc _).alloc _⟩, (c2.alloc _).alloc _⟩, v, (c3.alloc _).alloc _, (hrow.alloc _).alloc _, trivial⟩, (c4.alloc _).alloc _⟩, (hB1.alloc hB1.size _).alloc (by have := hB1.size; simp; omega) _⟩
      ⟨W.heap.size, W.heap.size + 1, by omega, by omega, (Blk.new W _ _).alloc _, ky, rfl⟩
  case body =>
    rintro l pre x a' W hl ⟨r, hr⟩ ⟨⟨⟨⟨⟨⟨hp, c0⟩, c1⟩, c2⟩, v, c3, hrow, _⟩, c4⟩, hB1⟩ ⟨Bx, By, hBx, hBy, kx, ky, rfl⟩ hlt
    have hlen := seqL_len s.data.toList
    rw [← Lib.size_eq] at hlen
    have g0 : W.cell? ⟨By, 0, none⟩ = some (.int .i64 x.p) := ky.cell 0
    have g1 : W.cell? ⟨By, 1, none⟩ = some (.int .i64 x.e) := ky.cell 1
    have HP := Lib.hid hp
    clear hp
    by_cases he : x.e = 0
    · have heb : (x.e != 0) = false := by simpa using he
      have HE := Lib.hid he
      clear he
      have q0 : W.cell? ⟨Bx, 0, none⟩ = some (.int .i64 x.k) := kx.cell 0
      have q1 : W.cell? ⟨Bx, 1, none⟩ = some (.int .i64 x.a) := kx.cell 1
      have q2 : W.cell? ⟨Bx, 2, none⟩ = some (.string ⟨x.tx.toArray⟩) := kx.cell 2
      have q3 : W.cell? ⟨Bx, 3, none⟩ = some (.bool x.gl) := kx.cell 3
      have hc3 := c3.cell
      gi_wp2_with (gi_at_builtin; refine wpListIn_append_own _ rfl _ _ 24 rfl w.heap.size 29 i0 _ 4 40 Tryd.underlying24 hi hz0 hz1 hz2 rfl (by decide) _ _ _ rfl (hrow.alloc _) ⟨W.heap.size, 0, none⟩ 1 1 (tkCells (tkA x)) rfl rfl (four_new _ _ _) (tkCells_one _) (by unfold maxLen; omega) (by omega) (by have := hB1.size; simp; omega) ?_; intro v' w1 hown' hgrow _; obtain ⟨g', cap', rfl⟩ := ownsRow_succ hown'; obtain ⟨hv1, hv2, hr2, hk2, hb2⟩ := c3.appended (by decide) hrow hB1.size (by omega) hown' hgrow; have hc5 := hv1.cell; have hf5 := hv1.frozen)
      have hne4 := own_blk_ne hrow c4 (by decide)
      have hK4 : Hid (Blk (w1.setCell ⟨w.heap.size + 1 + 1 + 1, 0, none⟩ (.slice (some ⟨g', 0, none⟩) (pre.length + 1) cap')) (w.heap.size + 1 + 1 + 1 + 1) 9 #[.string s]) :=
        ((c4.alloc _).grown hgrow (fun e => hne4 e.symm)).far (by simp) _
      have hk0 := (((c0.alloc _).kept hgrow (c0.not_row (by decide) hrow)).other (B' := w.heap.size + 1 + 1 + 1) (by omega) (.slice (some ⟨g', 0, none⟩) (pre.length + 1) cap'))
      have hk1 := (((c1.alloc _).kept hgrow (c1.not_row (by decide) hrow)).other (B' := w.heap.size + 1 + 1 + 1) (by omega) (.slice (some ⟨g', 0, none⟩) (pre.length + 1) cap'))
      have hkk2 := (((c2.alloc _).kept hgrow (c2.not_row (by decide) hrow)).other (B' := w.heap.size + 1 + 1 + 1) (by omega) (.slice (some ⟨g', 0, none⟩) (pre.length + 1) cap'))
      have hmap : (pre ++ [x]).map tkA = pre.map tkA ++ [tkA x] := by simp
      refine ⟨hk2.from _, ⟨hK4.out.trans c4.symm, hb2.size⟩, ⟨⟨⟨⟨⟨?_, hk0⟩, hk1⟩, hkk2⟩, ⟨_, hv2, ?_, trivial⟩⟩, hK4.out⟩, hB1.trans hb2⟩
      · intro y hy
        rcases List.mem_append.1 hy with hy | hy
        · exact HP.out y hy
        · simp at hy; subst hy; exact HE.out
      · rw [hmap, cellsT_snoc, List.length_append]
        exact hr2
    · have heb : (x.e != 0) = true := by simpa using he
      have HE := Lib.hid he
      clear he
      have e0 := c0.cell
      have e1 := c1.cell
      have e2 := c2.cell
      have f0 := c0.frozen
      have f1 := c1.frozen
      have f2 := c2.frozen
      gi_wp2
      gi_region
      all_goals gi_wp2
      all_goals
        exact ⟨(((((KeepsOthers.setCell _ _ _).trans (KeepsOthers.setCell _ _ _)).trans (KeepsOthers.setCell _ _ _)).trans (KeepsOthers.drew _)).from _),
          ⟨pre, x, ⟨rfl, rfl, HP.out, HE.out⟩, ((c0.set (.slice none 0 0)).other (by omega) _).other (by omega) _, ((c1.other (by omega) _).set (.int .i64 x.p)).other (by omega) _, (((c2.other (by omega) _).other (by omega) _).set (.int .i64 x.e))⟩,
          (((hB1.setCell (p := ⟨w.heap.size, 0, none⟩) (Nat.le_refl _) _).setCell (p := ⟨w.heap.size + 1, 0, none⟩) (by simp) _).setCell (p := ⟨w.heap.size + 1 + 1, 0, none⟩) (by simp; omega) _).drew⟩
  case done =>
    rintro D xs W hD rfl ⟨⟨⟨⟨⟨⟨hp, c0⟩, c1⟩, c2⟩, v, c3, hrow, _⟩, c4⟩, hB1⟩ hK
    have hall : allL s.data.toList = ((seqL s.data.toList).map tkA, s.data.toList.length, 0) := by rw [allL_seq, res_ok _ _ hp]
    have HALL := Lib.hid hall
    have HP := Lib.hid hp
    clear hall hp
    obtain ⟨A, nn, cc, rfl⟩ : ∃ A nn cc, v = .slice A nn cc := by
      rcases hrow.2 with ⟨rfl, _⟩ | ⟨g, cap, cur, rfl, _⟩
      · exact ⟨_, _, _, rfl⟩
      · exact ⟨_, _, _, rfl⟩
    have e0 := c0.cell
    have e1 := c1.cell
    have e2 := c2.cell
    have e3 := c3.cell
    have f0 := c0.frozen
    have f1 := c1.frozen
    have f2 := c2.frozen
    have d0 := ((c0.set (.slice A nn cc)).other (B' := w.heap.size + 1) (by omega) (.int .i64 s.size)).other (B' := w.heap.size + 1 + 1) (by omega) (.int .i64 0)
    have d1 := ((c1.other (B' := w.heap.size) (by omega) (.slice A nn cc)).set (.int .i64 s.size)).other (B' := w.heap.size + 1 + 1) (by omega) (.int .i64 0)
    have d2 := ((c2.other (B' := w.heap.size) (by omega) (.slice A nn cc)).other (B' := w.heap.size + 1) (by omega) (.int .i64 s.size)).set (.int .i64 0)
    have hK' := (((KeepsOthers.setCell W ⟨w.heap.size, 0, none⟩ (.slice A nn cc)).trans (KeepsOthers.setCell _ ⟨w.heap.size + 1, 0, none⟩ (.int .i64 s.size))).trans (KeepsOthers.setCell _ ⟨w.heap.size + 1 + 1, 0, none⟩ (.int .i64 0))).same D _ hK rfl
    have hr3 := own_set (own_set (own_set hrow c0 (by decide) (.slice A nn cc)) (c1.other (B' := w.heap.size) (by omega) (.slice A nn cc)) (by decide) (.int .i64 s.size)) ((c2.other (B' := w.heap.size) (by omega) (.slice A nn cc)).other (B' := w.heap.size + 1) (by omega) (.int .i64 s.size)) (by decide) (.int .i64 0)
    have B3 := ((hB1.setCell (p := ⟨w.heap.size, 0, none⟩) (Nat.le_refl _) (.slice A nn cc)).setCell (p := ⟨w.heap.size + 1, 0, none⟩) (by simp) (.int .i64 s.size)).setCell (p := ⟨w.heap.size + 1 + 1, 0, none⟩) (by simp; omega) (.int .i64 0)
    have HD0 := Lib.hid d0
    have HD1 := Lib.hid d1
    have HD2 := Lib.hid d2
    have HKK := Lib.hid hK'
    clear d0 d1 d2 hK'
    gi_wp2
    refine ⟨by simp, .inl ⟨_, _, rfl, run_takeDeferred HKK.out, ?_⟩⟩
    have r0 := cell_kept HD0.out.cell (grownBy_putObj' _ D (.deferred none)) (fun r e => by cases e; exact ⟨_, HKK.out, rfl⟩)
    have r1 := cell_kept HD1.out.cell (grownBy_putObj' _ D (.deferred none)) (fun r e => by cases e; exact ⟨_, HKK.out, rfl⟩)
    have r2 := cell_kept HD2.out.cell (grownBy_putObj' _ D (.deferred none)) (fun r e => by cases e; exact ⟨_, HKK.out, rfl⟩)
    refine ⟨.tuple #[.slice A nn cc, .int .i64 s.size, .int .i64 0], ?_, .slice A nn cc, by rw [HALL.out, Lib.size_eq], ?_, B3.trans (belowK_b (w := w) (Nat.le_refl _) _ D _ _ (by omega) HKK.out rfl rfl)⟩
    · simp [results, Tryd.results6, go_sem, r0, r1, r2]
    · rw [HALL.out]
      simp only [List.length_map]
      exact ownsRow_putObj hr3 _ HKK.out rfl
  case stop =>
    rintro D c pre W hD ⟨rest, hpre⟩ ⟨⟨pre', x, ⟨rfl, rfl, hp, he⟩, c0, c1, c2⟩, hB1⟩ hK
    have HALL : Hid (allL s.data.toList = ([], x.p, x.e)) := by
      show allL s.data.toList = _
      rw [allL_seq, ← hpre, List.append_assoc, List.singleton_append, res_err _ _ _ he _ hp]
    clear hpre hp he
    gi_wp2
    refine ⟨by simp, .inl ⟨_, _, rfl, run_takeDeferred hK, ?_⟩⟩
    have r0 := cell_kept c0.cell (grownBy_putObj' _ D (.deferred none)) (fun r e => by cases e; exact ⟨_, hK, rfl⟩)
    have r1 := cell_kept c1.cell (grownBy_putObj' _ D (.deferred none)) (fun r e => by cases e; exact ⟨_, hK, rfl⟩)
    have r2 := cell_kept c2.cell (grownBy_putObj' _ D (.deferred none)) (fun r e => by cases e; exact ⟨_, hK, rfl⟩)
    refine ⟨.tuple #[.slice none 0 0, .int .i64 x.p, .int .i64 x.e], ?_, .slice none 0 0, by rw [HALL.out], ?_, hB1.trans (belowK_b (w := w) (Nat.le_refl _) W D _ _ (by omega) hK rfl rfl)⟩
    · simp [results, Tryd.results6, go_sem, r0, r1, r2]
    · rw [HALL.out]
      exact World.ownsRow_nil _ _ _ _

theorem all_any (s : ByteArray) (hs : s.size ≤ 1000000) (w : World) : Calls Tryd.prog 6 #[.string s] w (AllOk s.data.toList w) :=
  callsIn_wide.1 (all_in s hs w 6 (Nat.le_refl _))
end Go.Proofs.YthccgpjbchlocaaDoor
