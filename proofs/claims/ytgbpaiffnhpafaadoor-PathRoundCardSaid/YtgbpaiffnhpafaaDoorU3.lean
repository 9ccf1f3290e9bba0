/- An argument of rows of two numbers, of two numbers, as cells. -/
import Derived.Deep.Slices
import Derived.Test.YtgbpaiffnhpafaaDoorM1
import Derived.Test.YtgbpaiffnhpafaaDoorM27
import Derived.Test.YtgbpaiffnhpafaaDoorM6
-- holds: YtgbpaiffnhpafaaDoorKq
namespace Go.Proofs.YtgbpaiffnhpafaaDoor
open Go.ChangeShapes Go.WideShapes Go.ChangeAt Go.RowKit Go.Deep

/-- Rows of two numbers. -/
def cellsW : List (Int × Int) → List Value
  | [] => []
  | p :: ps => .int .i64 p.1 :: .int .i64 p.2 :: cellsW ps
theorem cellsW_length : ∀ ps : List (Int × Int), (cellsW ps).length = ps.length * 2
  | [] => rfl
  | p :: ps => by rw [cellsW, List.length_cons, List.length_cons, cellsW_length ps, List.length_cons]; omega
theorem cellsW_at : ∀ {ps : List (Int × Int)} {k : Nat} {p : Int × Int}, ps[k]? = some p → (cellsW ps)[k * 2]? = some (.int .i64 p.1) ∧ (cellsW ps)[k * 2 + 1]? = some (.int .i64 p.2)
  | [], k, p, h => by simp at h
  | q :: ps, 0, p, h => by simp at h; subst h; exact ⟨rfl, rfl⟩
  | q :: ps, k + 1, p, h => by
    have := cellsW_at (ps := ps) (k := k) (by simpa using h)
    rw [show (k + 1) * 2 = k * 2 + 2 by omega, show k * 2 + 2 + 1 = k * 2 + 1 + 2 by omega]
    exact this
theorem two_at {w : World} {B n k : Nat} {A : Option Addr} {p : Int × Int} {ps : List (Int × Int)} (h : Reads w B 2 A n (cellsW ps)) (hp : ps[k]? = some p) :
    ∃ b o, A = some ⟨b, o, none⟩ ∧ b < B ∧ w.cell? ⟨b, o + k * 2, none⟩ = some (.int .i64 p.1) ∧ w.cell? ⟨b, o + k * 2 + 1, none⟩ = some (.int .i64 p.2) := by
  have hk := (List.getElem?_eq_some_iff.1 hp).1
  have hl := h.1
  rw [cellsW_length] at hl
  obtain ⟨ad, hA, hb, hc⟩ := h.2 (by omega)
  obtain ⟨h0, h1⟩ := cellsW_at hp
  have g0 := hc _ _ h0
  have g1 := hc _ _ h1
  obtain ⟨b, o, spot⟩ := ad
  have hspot : spot = none := by
    have h00 := hc 0 _ (List.getElem?_eq_getElem (show 0 < (cellsW ps).length by rw [cellsW_length]; omega))
    simpa [Addr.add] using World.cell?_spot h00
  subst hspot
  rw [Go.WideShapes.add_plain] at g0 g1
  exact ⟨b, o, hA, hb, g0, by rw [Nat.add_assoc]; exact g1⟩
theorem twos_of_cells {α : Type} {P : Nat → α → Prop} : ∀ (n : Nat), (∀ i, i < n → ∃ z, P i z) → ∃ zs : List α, zs.length = n ∧ ∀ (i : Nat) (z : α), zs[i]? = some z → P i z
  | 0, _ => ⟨[], rfl, fun i z h => by simp at h⟩
  | n + 1, h => by
    obtain ⟨zs, hl, hz⟩ := twos_of_cells n fun i hi => h i (by omega)
    obtain ⟨z, hp⟩ := h n (by omega)
    refine ⟨zs ++ [z], by simp [hl], fun i y hy => ?_⟩
    rcases Nat.lt_or_ge i n with hi | hi
    · rw [List.getElem?_append_left (by omega)] at hy
      exact hz i y hy
    · have hin : i = n := by
        have := (List.getElem?_eq_some_iff.1 hy).1
        simp at this
        omega
      subst hin
      rw [List.getElem?_append_right (by omega)] at hy
      simp [hl] at hy
      subst hy
      exact hp
set_option maxRecDepth 100000 in
theorem cellsTwo8 : Tryd.prog.cellsOf 29 = 2 := by kernel_rfl
theorem cellsInt8 : Tryd.prog.cellsOf 3 = 1 := by kernel_rfl
set_option maxRecDepth 100000 in
theorem two_cells8 {H : Type} {enc : TypeId × Value → H} {W : World} {fuel : Nat} {cs : List Value} {y : DataW H × List MemPlace} (hc : cs.length = 2)
    (hf : DataW.trod enc Tryd.prog W 0 (fun _ => true) true fuel 29 cs = some y) : ∃ a b : Int, cs = [.int .i64 a, .int .i64 b] := by
  obtain ⟨xs, k, _, _, _, hxl, hx⟩ := DataW.trod_array Tryd.underlying29 hf
  match xs, hxl, cs, hc with
  | [y0, y1], _, [v0, v1], _ =>
    have g0 := hx 0 (by omega)
    have g1 := hx 1 (by omega)
    rw [cellsInt8] at g0 g1
    obtain ⟨z0, e0, _, _⟩ := DataW.trod_int (x := y0) Tryd.underlying3 (by simpa using g0)
    obtain ⟨z1, e1, _, _⟩ := DataW.trod_int (x := y1) Tryd.underlying3 (by simpa using g1)
    injection e0 with e0
    injection e1 with e1
    subst e0; subst e1
    exact ⟨z0, z1, rfl⟩
set_option maxRecDepth 100000 in
theorem open_twos8 {H : Type} {enc : TypeId × Value → H} {W : World} {base : Nat} {v : Value} {d : DataW H} {p : List MemPlace}
    (hv : Value.okWide Tryd.prog W .any base 25 v) (h : DataW.Trod enc Tryd.prog W 0 (fun _ => true) true 25 v d p) :
    ∃ (A : Option Addr) (n c : Nat) (ps : List (Int × Int)), v = .slice A n c ∧ True ∧ Reads W W.heap.size 2 A n (cellsW ps) ∧ n ≤ c ∧ c ≤ 9223372036854775807 := by
  obtain ⟨a0, len, cap, rfl⟩ := okWide_slice Tryd.underlying25 hv
  obtain ⟨fuel, hf⟩ := h
  rcases open_slice Tryd.underlying25 hf with ⟨hcs, hx⟩ | ⟨a, len', cap', m, n, D, Pl, hcs, _, hl, hm, hmm, hx, hi⟩
  · injection hcs with hcs
    injection hcs with h1 h2 h3
    subst h1; subst h2; subst h3
    exact ⟨none, 0, 0, [], rfl, trivial, Reads.none_, Nat.le_refl _, by decide⟩
  · injection hcs with hcs
    injection hcs with h1 h2 h3
    subst h1; subst h2; subst h3
    have hmc : m = cap := hmm
    subst hmc
    obtain ⟨zs, hzl, hz⟩ := twos_of_cells (P := fun i (z : Int × Int) => W.cell? (a.add (i * 2)) = some (.int .i64 z.1) ∧ W.cell? (a.add (i * 2 + 1)) = some (.int .i64 z.2)) len fun i hi' => by
      obtain ⟨cs', h1, h2⟩ := hi i (by omega)
      rw [cellsTwo8] at h1
      obtain ⟨_, hlen, hcell⟩ := World.cells?_some h1
      obtain ⟨z0, z1, rfl⟩ := two_cells8 hlen h2
      have e0 := hcell 0 (by omega)
      have e1 := hcell 1 (by omega)
      rw [add_add] at e0 e1
      exact ⟨(z0, z1), by simpa using e0, by simpa using e1⟩
    refine ⟨some a, len, m, zs, rfl, trivial, ⟨by rw [cellsW_length, hzl], fun h0 => ⟨a, rfl, ?_, fun j u hu => ?_⟩⟩, hl, hm⟩
    · obtain ⟨z, hz0⟩ : ∃ z, zs[0]? = some z := ⟨zs[0]'(by omega), List.getElem?_eq_getElem _⟩
      have := cell_lt (hz 0 z hz0).1
      rwa [block_of_add] at this
    · have hj : j < len * 2 := by
        have := (List.getElem?_eq_some_iff.1 hu).1
        rw [cellsW_length, hzl] at this
        exact this
      obtain ⟨z, hz0⟩ : ∃ z, zs[j / 2]? = some z := ⟨zs[j / 2]'(by omega), List.getElem?_eq_getElem _⟩
      obtain ⟨g0, g1⟩ := cellsW_at hz0
      obtain ⟨x0, x1⟩ := hz _ z hz0
      rcases (show j / 2 * 2 = j ∨ j / 2 * 2 + 1 = j by omega) with e | e
      · rw [e] at g0 x0
        rw [g0] at hu
        injection hu with hu
        rw [← hu]; exact x0
      · rw [e] at g1 x1
        rw [g1] at hu
        injection hu with hu
        rw [← hu]; exact x1
set_option maxRecDepth 100000 in
theorem open_two8 {H : Type} {enc : TypeId × Value → H} {W : World} {base : Nat} {v : Value} {d : DataW H} {p : List MemPlace}
    (hv : Value.okWide Tryd.prog W .any base 29 v) (h : DataW.Trod enc Tryd.prog W 0 (fun _ => true) true 29 v d p) : ∃ a b : Int, v = .agg #[.int .i64 a, .int .i64 b] ∧ True := by
  have ht := Tryd.underlying29
  obtain ⟨cs, rfl, hsz⟩ : ∃ cs, v = .agg cs ∧ cs.size = Tryd.prog.cellsOf 29 := by
    simp only [Value.okWide, ht] at hv
    obtain ⟨cs, h1, h2, _⟩ := hv
    exact ⟨cs, h1, h2⟩
  obtain ⟨l⟩ := cs
  obtain ⟨fuel, hf⟩ := h
  have hl : l.length = 2 := hsz.trans cellsTwo8
  obtain ⟨a, b, rfl⟩ := two_cells8 (cs := l) hl (by simpa [Value.cells] using hf)
  exact ⟨a, b, rfl, trivial⟩
end Go.Proofs.YtgbpaiffnhpafaaDoor
