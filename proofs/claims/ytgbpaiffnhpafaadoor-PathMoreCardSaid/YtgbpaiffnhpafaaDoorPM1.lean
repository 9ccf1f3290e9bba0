/- An argument of one edge, as cells. -/
import Derived.Test.YtgbpaiffnhpafaaDoorU3
-- holds: YtgbpaiffnhpafaaDoorKt
namespace Go.Proofs.YtgbpaiffnhpafaaDoor
open Go.ChangeShapes Go.WideShapes Go.ChangeAt Go.RowKit Go.Deep

theorem edgeFields8 : ∃ f0 f1 f2 : Field, Tryd.prog.underlying 53 = some (.struct #[f0, f1, f2]) ∧ f0.offset = 0 ∧ f1.offset = 1 ∧ f2.offset = 2 ∧ Tryd.prog.cellsOf 53 = 3 ∧
    Tryd.prog.underlying f0.type = some (.int .i64) ∧ Tryd.prog.underlying f1.type = some (.int .i64) ∧ Tryd.prog.underlying f2.type = some (.int .i64) ∧ Tryd.prog.cellsOf f0.type = 1 ∧ Tryd.prog.cellsOf f1.type = 1 ∧ Tryd.prog.cellsOf f2.type = 1 :=
  ⟨_, _, _, Tryd.underlying53, rfl, rfl, rfl, by kernel_rfl, by kernel_rfl, by kernel_rfl, by kernel_rfl, by kernel_rfl, by kernel_rfl, by kernel_rfl⟩
set_option maxRecDepth 100000 in
theorem open_edge8 {H : Type} {enc : TypeId × Value → H} {W : World} {base : Nat} {v : Value} {d : DataW H} {p : List MemPlace}
    (hv : Value.okWide Tryd.prog W .any base 53 v) (h : DataW.Trod enc Tryd.prog W 0 (fun _ => true) true 53 v d p) : ∃ a b c : Int, v = .agg #[.int .i64 a, .int .i64 b, .int .i64 c] ∧ True := by
  obtain ⟨f0, f1, f2, hst, o0, o1, o2, hC, u0, u1, u2, k0, k1, k2⟩ := edgeFields8
  obtain ⟨cs, rfl, hsz⟩ := okWide_struct hst hv
  obtain ⟨l⟩ := cs
  match l, hsz.trans hC with
  | [c0, c1, c2], _ =>
    obtain ⟨fuel, hf⟩ := h
    have hf2 : DataW.trod enc Tryd.prog W 0 (fun _ => true) true fuel 53 [c0, c1, c2] = some (d, p) := by simpa [Value.cells] using hf
    obtain ⟨xs, k, _, _, _, hxl, hx⟩ := DataW.trod_struct hst hf2
    match xs, hxl with
    | [y0, y1, y2], _ =>
      have g0 := hx 0 f0 rfl
      have g1 := hx 1 f1 rfl
      have g2 := hx 2 f2 rfl
      rw [o0, k0] at g0
      rw [o1, k1] at g1
      rw [o2, k2] at g2
      obtain ⟨z0, e0, _, _⟩ := DataW.trod_int (x := y0) u0 (by simpa using g0)
      obtain ⟨z1, e1, _, _⟩ := DataW.trod_int (x := y1) u1 (by simpa using g1)
      obtain ⟨z2, e2, _, _⟩ := DataW.trod_int (x := y2) u2 (by simpa using g2)
      injection e0 with e0
      injection e1 with e1
      injection e2 with e2
      subst e0; subst e1; subst e2
      exact ⟨z0, z1, z2, rfl, trivial⟩
end Go.Proofs.YtgbpaiffnhpafaaDoor
