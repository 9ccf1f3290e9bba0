/- An argument that is a slice of pairs, as cells. -/
import Derived.Test.YtldjffeecbegjaaFields
import Derived.Test.YtldjffeecbegjaaOb
import Derived.Test.YtldjffeecbegjaaMk
namespace Go.Proofs.Ytldjffeecbegjaa
open Go.ChangeShapes Go.WideShapes Go.ChangeAt Go.RowKit

theorem pairFields : ∃ f0 f1 : Field, Try.prog.underlying 27 = some (.struct #[f0, f1]) ∧ Go.Deep.oneCellFields Try.prog #[f0, f1] = true ∧ Try.prog.cellsOf 27 = 2 ∧
    Try.prog.underlying f0.type = some (.int .i64) ∧ Try.prog.underlying f1.type = some (.int .i64) :=
  ⟨_, _, Try.underlying27, by kernel_rfl, by kernel_rfl, by kernel_rfl, by kernel_rfl⟩

theorem pairs_of_cells {P : Nat → Pr → Prop} : ∀ (n : Nat), (∀ i, i < n → ∃ z, P i z) → ∃ zs : List Pr, zs.length = n ∧ ∀ (i : Nat) (z : Pr), zs[i]? = some z → P i z
  | 0, _ => ⟨[], rfl, fun i z h => by simp at h⟩
  | n + 1, h => by
    obtain ⟨zs, hl, hz⟩ := pairs_of_cells n fun i hi => h i (by omega)
    obtain ⟨z, hp⟩ := h n (by omega)
    refine ⟨zs ++ [z], by simp [hl], fun i y hy => ?_⟩
    rcases Nat.lt_or_ge i n with hi | hi
    · rw [List.getElem?_append_left (by omega)] at hy
      exact hz i y hy
    · have hin : i = n := by
        have := (List.getElem?_eq_some_iff.1 hy).1
        simp at this
        omega
      subst hin
      rw [List.getElem?_append_right (by omega)] at hy
      simp [hl] at hy
      subst hy
      exact hp

theorem open_pairs {H : Type} {enc : TypeId × Value → H} {W : World} {base : Nat} {v : Value} {d : DataW H} {p : List MemPlace}
    (hv : Value.okWide Try.prog W .any base 22 v) (h : DataW.Trod enc Try.prog W 0 (fun _ => true) true 22 v d p) :
    ∃ (A : Option Addr) (n c : Nat) (zs : List Pr), v = .slice A n c ∧ allP zs ∧ Reads W W.heap.size 2 A n (cellsP zs) ∧ (A = none → c = 0) ∧ n ≤ c ∧ c ≤ 9223372036854775807 := by
  obtain ⟨a0, len, cap, rfl⟩ := okWide_slice Try.underlying22 hv
  obtain ⟨fuel, hf⟩ := h
  obtain ⟨f0, f1, hst, hone, hC, u0, u1⟩ := pairFields
  rcases open_slice_fields Try.underlying22 hst hone hC hf with ⟨hcs, hx⟩ | ⟨a, len', cap', m, D, Pl, hcs, _, hl, hm, hmm, hx, hi⟩
  · injection hcs with hcs
    injection hcs with h1 h2 h3
    subst h1; subst h2; subst h3
    exact ⟨none, 0, 0, [], rfl, fun z hz => by simp at hz, Reads.none_, fun _ => rfl, Nat.le_refl _, by decide⟩
  · injection hcs with hcs
    injection hcs with h1 h2 h3
    subst h1; subst h2; subst h3
    have hmc : m = cap := hmm
    subst hmc
    obtain ⟨zs, hzl, hz⟩ := pairs_of_cells (P := fun i z => ((-9223372036854775808 ≤ z.1 ∧ z.1 ≤ 9223372036854775807) ∧ (-9223372036854775808 ≤ z.2 ∧ z.2 ≤ 9223372036854775807)) ∧
        W.cell? (a.add (i * 2)) = some (.int .i64 z.1) ∧ W.cell? (a.add (i * 2 + 1)) = some (.int .i64 z.2)) len fun i hi' => by
      obtain ⟨ys, n', _, _, _, hg⟩ := hi i (by omega)
      obtain ⟨v0, y0, c0, _, t0⟩ := hg 0 f0 rfl
      obtain ⟨v1, y1, c1, _, t1⟩ := hg 1 f1 rfl
      obtain ⟨z0, e0, _, b0⟩ := DataW.trod_int u0 t0
      obtain ⟨z1, e1, _, b1⟩ := DataW.trod_int u1 t1
      injection e0 with e0
      injection e1 with e1
      subst e0; subst e1
      exact ⟨(z0, z1), ⟨bounds_i64 b0, bounds_i64 b1⟩, c0, c1⟩
    refine ⟨some a, len, m, zs, rfl, fun z hzm => ?_, ⟨by rw [cellsP_length, hzl], fun h0 => ⟨a, rfl, ?_, fun j u hu => ?_⟩⟩, (fun h => by cases h), hl, hm⟩
    · obtain ⟨i, hi', rfl⟩ := List.getElem_of_mem hzm
      exact (hz i _ (List.getElem?_eq_getElem hi')).1
    · obtain ⟨z, hz0⟩ : ∃ z, zs[0]? = some z := ⟨zs[0]'(by omega), List.getElem?_eq_getElem _⟩
      have := cell_lt (hz 0 z hz0).2.1
      rwa [block_of_add] at this
    · have hj : j < len * 2 := by
        have := (List.getElem?_eq_some_iff.1 hu).1
        rw [cellsP_length, hzl] at this
        exact this
      obtain ⟨z, hz0⟩ : ∃ z, zs[j / 2]? = some z := ⟨zs[j / 2]'(by omega), List.getElem?_eq_getElem _⟩
      obtain ⟨g0, g1⟩ := cellsP_at hz0
      obtain ⟨_, x0, x1⟩ := hz _ z hz0
      rcases Nat.mod_two_eq_zero_or_one j with hm2 | hm2
      · have e : j / 2 * 2 = j := by omega
        rw [e] at g0 x0
        rw [g0] at hu
        injection hu with hu
        rw [← hu]; exact x0
      · have e : j / 2 * 2 + 1 = j := by omega
        rw [e] at g1 x1
        rw [g1] at hu
        injection hu with hu
        rw [← hu]; exact x1
end Go.Proofs.Ytldjffeecbegjaa
