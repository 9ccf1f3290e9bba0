/- An argument that is a slice of tokens, as cells; tokens with cut texts, in a row of the call's own. -/
import Derived.Test.YthccgpjbchlocaaFields
import Derived.Test.YthccgpjbchlocaaLad
import Derived.Test.YthccgpjbchlocaaMk
namespace Go.Proofs.Ythccgpjbchlocaa
open Go.ChangeShapes Go.WideShapes Go.ChangeAt Go.RowKit

theorem tokFields : ∃ f0 f1 f2 f3 : Field, Try.prog.underlying 29 = some (.struct #[f0, f1, f2, f3]) ∧ Go.Deep.oneCellFields Try.prog #[f0, f1, f2, f3] = true ∧ Try.prog.cellsOf 29 = 4 ∧
    Try.prog.underlying f0.type = some (.int .i64) ∧ Try.prog.underlying f1.type = some (.int .i64) ∧ Try.prog.underlying f2.type = some .string ∧ Try.prog.underlying f3.type = some .bool :=
  ⟨_, _, _, _, Try.underlying29, by kernel_rfl, by kernel_rfl, by kernel_rfl, by kernel_rfl, by kernel_rfl, by kernel_rfl⟩

theorem list_of_cells {P : Nat → Tz → Prop} : ∀ (n : Nat), (∀ i, i < n → ∃ z, P i z) → ∃ zs : List Tz, zs.length = n ∧ ∀ (i : Nat) (z : Tz), zs[i]? = some z → P i z
  | 0, _ => ⟨[], rfl, fun i z h => by simp at h⟩
  | n + 1, h => by
    obtain ⟨zs, hl, hz⟩ := list_of_cells n fun i hi => h i (by omega)
    obtain ⟨z, hp⟩ := h n (by omega)
    refine ⟨zs ++ [z], by simp [hl], fun i y hy => ?_⟩
    rcases Nat.lt_or_ge i n with hi | hi
    · rw [List.getElem?_append_left (by omega)] at hy
      exact hz i y hy
    · have hin : i = n := by
        have := (List.getElem?_eq_some_iff.1 hy).1
        simp at this
        omega
      subst hin
      rw [List.getElem?_append_right (by omega)] at hy
      simp [hl] at hy
      subst hy
      exact hp

theorem open_toks {H : Type} {enc : TypeId × Value → H} {W : World} {base : Nat} {v : Value} {d : DataW H} {p : List MemPlace}
    (hv : Value.okWide Try.prog W .any base 34 v) (h : DataW.Trod enc Try.prog W 0 (fun _ => true) true 34 v d p) :
    ∃ (A : Option Addr) (n c : Nat) (zs : List Tz), v = .slice A n c ∧ (∀ z ∈ zs, z.tx.length ≤ 9223372036854775807) ∧ Reads W W.heap.size 4 A n (cellsZ zs) ∧ (A = none → c = 0) ∧ n ≤ c ∧ c ≤ 9223372036854775807 := by
  obtain ⟨a0, len, cap, rfl⟩ := okWide_slice Try.underlying34 hv
  obtain ⟨fuel, hf⟩ := h
  obtain ⟨f0, f1, f2, f3, hst, hone, hC, u0, u1, u2, u3⟩ := tokFields
  rcases open_slice_fields Try.underlying34 hst hone hC hf with ⟨hcs, hx⟩ | ⟨a, len', cap', m, D, Pl, hcs, _, hl, hm, hmm, hx, hi⟩
  · injection hcs with hcs
    injection hcs with h1 h2 h3
    subst h1; subst h2; subst h3
    exact ⟨none, 0, 0, [], rfl, fun z hz => by simp at hz, Reads.none_, fun _ => rfl, Nat.le_refl _, by decide⟩
  · injection hcs with hcs
    injection hcs with h1 h2 h3
    subst h1; subst h2; subst h3
    have hmc : m = cap := hmm
    subst hmc
    obtain ⟨zs, hzl, hz⟩ := list_of_cells (P := fun i z => z.tx.length ≤ 9223372036854775807 ∧ ∀ j u, (tzCells z)[j]? = some u → W.cell? (a.add (i * 4 + j)) = some u) len fun i hi' => by
      obtain ⟨ys, n', _, _, _, hg⟩ := hi i (by omega)
      obtain ⟨v0, y0, c0, _, t0⟩ := hg 0 f0 rfl
      obtain ⟨v1, y1, c1, _, t1⟩ := hg 1 f1 rfl
      obtain ⟨v2, y2, c2, _, t2⟩ := hg 2 f2 rfl
      obtain ⟨v3, y3, c3, _, t3⟩ := hg 3 f3 rfl
      obtain ⟨z0, e0, _, _⟩ := DataW.trod_int u0 t0
      obtain ⟨z1, e1, _, _⟩ := DataW.trod_int u1 t1
      obtain ⟨z2, e2, _, hs⟩ := DataW.trod_string u2 t2
      obtain ⟨z3, e3, _⟩ := DataW.trod_bool u3 t3
      injection e0 with e0
      injection e1 with e1
      injection e2 with e2
      injection e3 with e3
      subst e0; subst e1; subst e2; subst e3
      refine ⟨⟨z0, z1, z2.data.toList, z3⟩, ?_, fun j u hu => ?_⟩
      · rw [← Lib.size_eq]
        exact hs
      · unfold tzCells at hu
        match j, hu with
        | 0, hu => simp at hu; subst hu; exact c0
        | 1, hu => simp at hu; subst hu; exact c1
        | 2, hu => simp at hu; subst hu; exact c2
        | 3, hu => simp at hu; subst hu; exact c3
    refine ⟨some a, len, m, zs, rfl, fun z hzm => ?_, ⟨by rw [cellsZ_length, hzl], fun h0 => ⟨a, rfl, ?_, fun j u hu => ?_⟩⟩, (fun h => by cases h), hl, hm⟩
    · obtain ⟨i, hi', rfl⟩ := List.getElem_of_mem hzm
      exact (hz i _ (List.getElem?_eq_getElem hi')).1
    · obtain ⟨z, hz0⟩ : ∃ z, zs[0]? = some z := ⟨zs[0]'(by omega), List.getElem?_eq_getElem _⟩
      have := cell_lt ((hz 0 z hz0).2 0 _ rfl)
      rwa [block_of_add] at this
    · have hj : j < len * 4 := by
        have := (List.getElem?_eq_some_iff.1 hu).1
        rw [cellsZ_length, hzl] at this
        exact this
      obtain ⟨z, hz0⟩ : ∃ z, zs[j / 4]? = some z := ⟨zs[j / 4]'(by omega), List.getElem?_eq_getElem _⟩
      have hat := cellsZ_at (j % 4) hz0 (by omega)
      rw [show j / 4 * 4 + j % 4 = j by omega] at hat
      have := (hz _ z hz0).2 (j % 4) u (hat ▸ hu)
      rwa [show j / 4 * 4 + j % 4 = j by omega] at this

/-- A token whose text is cut. -/
def cut40 (t : Tz) : Tz := { t with tx := t.tx.take 40 }
/-- The tokens ahead of the place k with their texts cut, the others as they are. -/
def cutT (zs : List Tz) (k : Nat) : List Tz := (zs.take k).map cut40 ++ zs.drop k
theorem cutT_length (zs : List Tz) (k : Nat) : (cutT zs k).length = zs.length := by unfold cutT; simp; omega
theorem cutT_zero (zs : List Tz) : cutT zs 0 = zs := rfl
theorem cutT_at {zs : List Tz} {k : Nat} {t : Tz} (h : zs[k]? = some t) : (cutT zs k)[k]? = some t := by
  have hk := (List.getElem?_eq_some_iff.1 h).1
  unfold cutT
  rw [List.getElem?_append_right (by simp; omega)]
  simp [Nat.min_eq_left (Nat.le_of_lt hk)]
  exact h
theorem cutT_succ {zs : List Tz} {k : Nat} {t : Tz} (h : zs[k]? = some t) : cutT zs (k + 1) = (cutT zs k).set k (cut40 t) := by
  obtain ⟨hk, rfl⟩ := List.getElem?_eq_some_iff.1 h
  unfold cutT
  have hl : ((zs.take k).map cut40).length = k := by simp; omega
  rw [List.set_append_right _ _ (by rw [hl]; exact Nat.le_refl _), hl, Nat.sub_self, List.take_succ_eq_append_getElem hk, List.map_append, List.append_assoc, List.drop_eq_getElem_cons hk]
  rfl
theorem cellsZ_set : ∀ {xs : List Tz} {k : Nat} {t : Tz}, xs[k]? = some t → cellsZ (xs.set k (cut40 t)) = (cellsZ xs).set (k * 4 + 2) (.string ⟨(t.tx.take 40).toArray⟩)
  | [], k, t, h => by simp at h
  | x :: xs, 0, t, h => by
    simp at h
    subst h
    rfl
  | x :: xs, k + 1, t, h => by
    simp only [List.getElem?_cons_succ] at h
    show tzCells x ++ cellsZ (xs.set k (cut40 t)) = (tzCells x ++ cellsZ xs).set ((k + 1) * 4 + 2) _
    rw [cellsZ_set h, List.set_append_right _ _ (by unfold tzCells; simp; omega)]
    congr 2
    unfold tzCells
    simp
    omega
theorem spell_cut : ∀ (zs : List Tz) (ah : Int), (∀ t ∈ zs, t.tx.length ≤ 40) → (spellZF ah zs).length ≤ 41 * zs.length
  | [], _, _ => Nat.zero_le _
  | t :: zs, ah, h => by
    have h1 := h t (by simp)
    have h2 := spell_cut zs t.k fun u hu => h u (by simp [hu])
    rw [spellZF, List.length_append, List.length_append, List.length_cons]
    have : (if (!t.gl && t.k != 4 && ah != 4) = true then [32] else ([] : List UInt8)).length ≤ 1 := by split <;> simp
    omega
theorem cut_all (zs : List Tz) (n : Nat) (h : zs.length ≤ n) : ∀ t ∈ cutT zs n, t.tx.length ≤ 40 := by
  intro t ht
  unfold cutT at ht
  rw [List.take_of_length_le h, List.drop_of_length_le h, List.append_nil] at ht
  obtain ⟨u, _, rfl⟩ := List.mem_map.1 ht
  unfold cut40
  simp
  omega
end Go.Proofs.Ythccgpjbchlocaa
