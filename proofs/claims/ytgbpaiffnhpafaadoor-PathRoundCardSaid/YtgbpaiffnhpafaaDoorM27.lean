/- Arguments that are graphs, and rows of edges, as cells. -/
import Derived.Test.YtgbpaiffnhpafaaDoorFields
import Derived.Test.YtgbpaiffnhpafaaDoorM3
import Derived.Test.YtgbpaiffnhpafaaDoorM1
-- holds: YtgbpaiffnhpafaaDoorGz
namespace Go.Proofs.YtgbpaiffnhpafaaDoor
open Go.ChangeShapes Go.WideShapes Go.ChangeAt Go.RowKit Go.Deep

theorem edgeFields : ∃ f0 f1 f2 : Field, Tryd.prog.underlying 53 = some (.struct #[f0, f1, f2]) ∧ Go.Deep.oneCellFields Tryd.prog #[f0, f1, f2] = true ∧ Tryd.prog.cellsOf 53 = 3 ∧
    Tryd.prog.underlying f0.type = some (.int .i64) ∧ Tryd.prog.underlying f1.type = some (.int .i64) ∧ Tryd.prog.underlying f2.type = some (.int .i64) :=
  ⟨_, _, _, Tryd.underlying53, by kernel_rfl, by kernel_rfl, by kernel_rfl, by kernel_rfl, by kernel_rfl⟩

theorem eds_of_cells {P : Nat → Ed → Prop} : ∀ (n : Nat), (∀ i, i < n → ∃ z, P i z) → ∃ zs : List Ed, zs.length = n ∧ ∀ (i : Nat) (z : Ed), zs[i]? = some z → P i z
  | 0, _ => ⟨[], rfl, fun i z h => by simp at h⟩
  | n + 1, h => by
    obtain ⟨zs, hl, hz⟩ := eds_of_cells n fun i hi => h i (by omega)
    obtain ⟨z, hp⟩ := h n (by omega)
    refine ⟨zs ++ [z], by simp [hl], fun i y hy => ?_⟩
    rcases Nat.lt_or_ge i n with hi | hi
    · rw [List.getElem?_append_left (by omega)] at hy
      exact hz i y hy
    · have hin : i = n := by
        have := (List.getElem?_eq_some_iff.1 hy).1
        simp at this
        omega
      subst hin
      rw [List.getElem?_append_right (by omega)] at hy
      simp [hl] at hy
      subst hy
      exact hp

set_option maxRecDepth 100000 in
theorem open_edges_f {H : Type} {enc : TypeId × Value → H} {W : World} {fuel : Nat} {v : Value} {y : DataW H × List MemPlace}
    (hf : DataW.trod enc Tryd.prog W 0 (fun _ => true) true fuel 22 [v] = some y) :
    ∃ (A : Option Addr) (n c : Nat) (zs : List Ed), v = .slice A n c ∧ allE zs ∧ Reads W W.heap.size 3 A n (cellsE zs) ∧ (A = none → c = 0) ∧ n ≤ c ∧ c ≤ 9223372036854775807 := by
  obtain ⟨f0, f1, f2, hst, hone, hC, u0, u1, u2⟩ := edgeFields
  rcases open_slice_fields Tryd.underlying22 hst hone hC hf with ⟨hcs, hx⟩ | ⟨a, len, cap, m, D, Pl, hcs, _, hl, hm, hmm, hx, hi⟩
  · injection hcs with hcs _
    exact ⟨none, 0, 0, [], hcs, fun z hz => by simp at hz, Reads.none_, fun _ => rfl, Nat.le_refl _, by decide⟩
  · injection hcs with hcs _
    have hmc : m = cap := hmm
    subst hmc
    obtain ⟨zs, hzl, hz⟩ := eds_of_cells (P := fun i z => (i64ok z.1 ∧ i64ok z.2.1 ∧ i64ok z.2.2) ∧
        W.cell? (a.add (i * 3)) = some (.int .i64 z.1) ∧ W.cell? (a.add (i * 3 + 1)) = some (.int .i64 z.2.1) ∧ W.cell? (a.add (i * 3 + 2)) = some (.int .i64 z.2.2)) len fun i hi' => by
      obtain ⟨ys, n', _, _, _, hg⟩ := hi i (by omega)
      obtain ⟨v0, y0, c0, _, t0⟩ := hg 0 f0 rfl
      obtain ⟨v1, y1, c1, _, t1⟩ := hg 1 f1 rfl
      obtain ⟨v2, y2, c2, _, t2⟩ := hg 2 f2 rfl
      obtain ⟨z0, e0, _, b0⟩ := DataW.trod_int u0 t0
      obtain ⟨z1, e1, _, b1⟩ := DataW.trod_int u1 t1
      obtain ⟨z2, e2, _, b2⟩ := DataW.trod_int u2 t2
      injection e0 with e0
      injection e1 with e1
      injection e2 with e2
      subst e0; subst e1; subst e2
      exact ⟨(z0, z1, z2), ⟨bounds_i64 b0, bounds_i64 b1, bounds_i64 b2⟩, c0, c1, c2⟩
    refine ⟨some a, len, m, zs, hcs, fun z hzm => ?_, ⟨by rw [cellsE_length, hzl], fun h0 => ⟨a, rfl, ?_, fun j u hu => ?_⟩⟩, (fun h => by cases h), hl, hm⟩
    · obtain ⟨i, hi', rfl⟩ := List.getElem_of_mem hzm
      exact (hz i _ (List.getElem?_eq_getElem hi')).1
    · obtain ⟨z, hz0⟩ : ∃ z, zs[0]? = some z := ⟨zs[0]'(by omega), List.getElem?_eq_getElem _⟩
      have := cell_lt (hz 0 z hz0).2.1
      rwa [block_of_add] at this
    · have hj : j < len * 3 := by
        have := (List.getElem?_eq_some_iff.1 hu).1
        rw [cellsE_length, hzl] at this
        exact this
      obtain ⟨z, hz0⟩ : ∃ z, zs[j / 3]? = some z := ⟨zs[j / 3]'(by omega), List.getElem?_eq_getElem _⟩
      obtain ⟨g0, g1, g2⟩ := cellsE_at hz0
      obtain ⟨_, x0, x1, x2⟩ := hz _ z hz0
      have h3 : j % 3 < 3 := Nat.mod_lt _ (by decide)
      rcases (show j / 3 * 3 = j ∨ j / 3 * 3 + 1 = j ∨ j / 3 * 3 + 2 = j by omega) with e | e | e
      · rw [e] at g0 x0
        rw [g0] at hu
        injection hu with hu
        rw [← hu]; exact x0
      · rw [e] at g1 x1
        rw [g1] at hu
        injection hu with hu
        rw [← hu]; exact x1
      · rw [e] at g2 x2
        rw [g2] at hu
        injection hu with hu
        rw [← hu]; exact x2
set_option maxRecDepth 100000 in
theorem open_edges {H : Type} {enc : TypeId × Value → H} {W : World} {base : Nat} {v : Value} {d : DataW H} {p : List MemPlace}
    (hv : Value.okWide Tryd.prog W .any base 22 v) (h : DataW.Trod enc Tryd.prog W 0 (fun _ => true) true 22 v d p) :
    ∃ (A : Option Addr) (n c : Nat) (zs : List Ed), v = .slice A n c ∧ allE zs ∧ Reads W W.heap.size 3 A n (cellsE zs) ∧ (A = none → c = 0) ∧ n ≤ c ∧ c ≤ 9223372036854775807 := by
  obtain ⟨a0, len, cap, rfl⟩ := okWide_slice Tryd.underlying22 hv
  obtain ⟨fuel, hf⟩ := h
  exact open_edges_f hf

theorem graphFields : ∃ f0 f1 : Field, Tryd.prog.underlying 24 = some (.struct #[f0, f1]) ∧ f0.offset = 0 ∧ f1.offset = 1 ∧ f0.type = 3 ∧ f1.type = 22 ∧ Tryd.prog.cellsOf 24 = 2 ∧ Tryd.prog.cellsOf 3 = 1 ∧ Tryd.prog.cellsOf 22 = 1 :=
  ⟨_, _, Tryd.underlying24, rfl, rfl, rfl, rfl, by kernel_rfl, by kernel_rfl, by kernel_rfl⟩
set_option maxRecDepth 100000 in
theorem open_graph_f {H : Type} {enc : TypeId × Value → H} {W : World} {fuel : Nat} {c0 c1 : Value} {y : DataW H × List MemPlace}
    (hf : DataW.trod enc Tryd.prog W 0 (fun _ => true) true fuel 24 [c0, c1] = some y) :
    ∃ (z : Int) (A : Option Addr) (n c : Nat) (zs : List Ed), c0 = .int .i64 z ∧ c1 = .slice A n c ∧ i64ok z ∧ allE zs ∧ Reads W W.heap.size 3 A n (cellsE zs) ∧ (A = none → c = 0) ∧ n ≤ c ∧ c ≤ 9223372036854775807 := by
  obtain ⟨f0, f1, hst, o0, o1, t0, t1, hC, k0, k1⟩ := graphFields
  obtain ⟨y0, y1, n', _, _, h0, h1⟩ := trod_struct2 hst hf
  rw [o0, t0, k0] at h0
  rw [o1, t1, k1] at h1
  obtain ⟨z, e0, _, b0⟩ := DataW.trod_int Tryd.underlying3 h0
  obtain ⟨A, n, c, zs, e1, r⟩ := open_edges_f (v := c1) h1
  refine ⟨z, A, n, c, zs, ?_, e1, bounds_i64 b0, r⟩
  simpa using e0
set_option maxRecDepth 100000 in
theorem open_graph {H : Type} {enc : TypeId × Value → H} {W : World} {base : Nat} {v : Value} {d : DataW H} {p : List MemPlace}
    (hv : Value.okWide Tryd.prog W .any base 24 v) (h : DataW.Trod enc Tryd.prog W 0 (fun _ => true) true 24 v d p) :
    ∃ (z : Int) (A : Option Addr) (n c : Nat) (zs : List Ed), v = .agg #[.int .i64 z, .slice A n c] ∧ i64ok z ∧ allE zs ∧ Reads W W.heap.size 3 A n (cellsE zs) ∧ (A = none → c = 0) ∧ n ≤ c ∧ c ≤ 9223372036854775807 := by
  obtain ⟨f0, f1, hst, o0, o1, t0, t1, hC, k0, k1⟩ := graphFields
  obtain ⟨cs, rfl, hsz⟩ := okWide_struct hst hv
  obtain ⟨l⟩ := cs
  match l, hsz.trans hC with
  | [c0, c1], _ =>
    obtain ⟨fuel, hf⟩ := h
    obtain ⟨z, A, n, c, zs, e0, e1, r⟩ := open_graph_f (by simpa [Value.cells] using hf)
    subst e0; subst e1
    exact ⟨z, A, n, c, zs, rfl, r⟩
end Go.Proofs.YtgbpaiffnhpafaaDoor
