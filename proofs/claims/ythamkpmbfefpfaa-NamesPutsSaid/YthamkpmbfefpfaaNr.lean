/- The laws of layer names, their arguments: a table, a row of rows of texts. -/
import Derived.Test.YthamkpmbfefpfaaNp
import Derived.Test.YthamkpmbfefpfaaMk
import Derived.Deep.Matrix
import Derived.Deep.Fields
namespace Go.Proofs.Ythamkpmbfefpfaa
open Go.ChangeShapes Go.WideShapes Go.ChangeAt Go.RowKit Go.Deep

/-- A row of texts that is read, at any depth. -/
theorem open_strs_cell {H : Type} {enc : TypeId × Value → H} {W : World} {fuel : Nat} {v : Value} {y : DataW H × List MemPlace}
    (h : DataW.trod enc Try.prog W 0 (fun _ => true) true fuel 22 [v] = some y) :
    ∃ (A : Option Addr) (n c : Nat) (ss : List ByteArray), v = .slice A n c ∧ Reads W W.heap.size 1 A n (strs ss) ∧ n ≤ c ∧ c ≤ 9223372036854775807 ∧ ∀ s ∈ ss, s.size ≤ 9223372036854775807 := by
  rcases open_strings Try.underlying22 Try.underlying9 cellsStr h with ⟨hcs, hx⟩ | ⟨a, len, cap, ss, hcs, _, hl, hm, hz, hx, hcell, hws⟩
  · injection hcs with hcs _
    exact ⟨none, 0, 0, [], hcs, Reads.none_, Nat.le_refl _, by decide, fun s hs => by simp at hs⟩
  · injection hcs with hcs _
    have hz' : ss.length = cap := by rw [hz]; rfl
    refine ⟨some a, len, cap, ss.take len, hcs, ⟨by rw [strs_length, List.length_take]; omega, fun h0 => ⟨a, rfl, ?_, fun j u hu => ?_⟩⟩, hl, hm, fun s hs => hws s (List.mem_of_mem_take hs)⟩
    · have := cell_lt (hcell 0 (by omega))
      rwa [block_of_add] at this
    · have hj : j < len := by
        have := (List.getElem?_eq_some_iff.1 hu).1
        rw [strs_length, List.length_take] at this
        omega
      rw [hcell j (by omega), ← hu]
      simp [strs, hj, List.getElem?_eq_getElem (show j < ss.length by omega)]
theorem open_agg1 {H : Type} {enc : TypeId × Value → H} {P : Program} {W : World} {r : Reach} {b0 base : Nat} {spare : Nat → Bool} {held : Bool} {t : TypeId} {f0 : Field} {v : Value} {d : DataW H} {p : List MemPlace} (hs : P.underlying t = some (.struct #[f0])) (hone : oneCellFields P #[f0] = true) (hC : P.cellsOf t = 1)
    (hv : Value.okWide P W r b0 t v) (h : DataW.Trod enc P W base spare held t v d p) :
    ∃ (v0 : Value) (y0 : DataW H × List MemPlace) (n : Nat), v = .agg #[v0] ∧ DataW.trod enc P W base spare held n f0.type [v0] = some y0 := by
  obtain ⟨cs, rfl, hsz⟩ := okWide_struct hs hv
  obtain ⟨l⟩ := cs
  match l, hsz.trans hC with
  | [c0], _ =>
    obtain ⟨fuel, hf⟩ := h
    obtain ⟨xs, n, _, hx, _, hlen, hg⟩ := DataW.trod_struct hs hf
    obtain ⟨o0, k0⟩ := hone_of hone 0 f0 rfl
    match xs, hlen with
    | [y0], _ => exact ⟨c0, y0, n, rfl, by simpa [Value.cells, o0, k0] using hg 0 f0 rfl⟩
theorem open_table {H : Type} {enc : TypeId × Value → H} {W : World} {base : Nat} {v : Value} {d : DataW H} {p : List MemPlace}
    (hv : Value.okWide Try.prog W .any base 24 v) (h : DataW.Trod enc Try.prog W 0 (fun _ => true) true 24 v d p) :
    ∃ (A : Option Addr) (n c : Nat) (ss : List ByteArray), v = .agg #[.slice A n c] ∧ (∀ s ∈ ss, s.size ≤ 9223372036854775807) ∧ Reads W W.heap.size 1 A n (strs ss) ∧ n ≤ c ∧ c ≤ 9223372036854775807 := by
  obtain ⟨v0, y0, n, rfl, h0⟩ := open_agg1 Try.underlying24 (by kernel_rfl) (by kernel_rfl) hv h
  obtain ⟨A, n, c, ss, rfl, r, q1, q2, s⟩ := open_strs_cell h0
  exact ⟨A, n, c, ss, rfl, s, r, q1, q2⟩
theorem cellsRowS : Try.prog.cellsOf 22 = 1 := by kernel_rfl
instance : Inhabited RS := ⟨⟨none, 0, 0, []⟩⟩
theorem open_srows {H : Type} {enc : TypeId × Value → H} {W : World} {base : Nat} {v : Value} {d : DataW H} {p : List MemPlace}
    (hv : Value.okWide Try.prog W .any base 48 v) (h : DataW.Trod enc Try.prog W 0 (fun _ => true) true 48 v d p) :
    ∃ (A : Option Addr) (n c : Nat) (rs : List RS), v = .slice A n c ∧ True ∧ RowsS W W.heap.size A n rs ∧ n ≤ c ∧ c ≤ 9223372036854775807 := by
  obtain ⟨a0, len, cap, rfl⟩ := okWide_slice Try.underlying48 hv
  obtain ⟨fuel, hf⟩ := h
  rcases open_slice1 Try.underlying48 cellsRowS hf with ⟨hcs, hx⟩ | ⟨a, len', cap', m, n, V, D, Pl, hcs, _, hl, hm, hmm, hx, hrows⟩
  · injection hcs with hcs
    injection hcs with h1 h2 h3
    subst h1; subst h2; subst h3
    exact ⟨none, 0, 0, [], rfl, trivial, ⟨Reads.none_, fun r hr => by simp at hr⟩, Nat.le_refl _, by decide⟩
  · injection hcs with hcs
    injection hcs with h1 h2 h3
    subst h1; subst h2; subst h3
    simp only [if_true] at hmm
    subst hmm
    have each : ∀ i, i < m → ∃ r : RS, V i = .slice r.A r.n r.c ∧ Reads W W.heap.size 1 r.A r.n (strs r.l) ∧ r.n ≤ r.c ∧ r.c ≤ 9223372036854775807 ∧ ∀ s ∈ r.l, s.size ≤ 9223372036854775807 := by
      intro i hi
      obtain ⟨A, n, c, ss, e, r, q1, q2, s⟩ := open_strs_cell (hrows i hi).2
      exact ⟨⟨A, n, c, ss⟩, e, r, q1, q2, s⟩
    obtain ⟨R, hR⟩ := choose_lt each
    refine ⟨some a, len, m, (List.range len).map R, rfl, trivial, ⟨⟨by unfold rsCells; simp, fun h0 => ⟨a, rfl, ?_, fun j u hu => ?_⟩⟩, fun r hr => ?_⟩, hl, hm⟩
    · have := cell_lt (hrows 0 (by omega)).1
      rwa [block_of_add] at this
    · have hj : j < len := by
        have := (List.getElem?_eq_some_iff.1 hu).1
        unfold rsCells at this
        simpa using this
      rw [(hrows j (by omega)).1, ← hu, (hR j (by omega)).1]
      unfold rsCells
      rw [List.map_map, List.getElem?_map, List.getElem?_range hj]
      rfl
    · obtain ⟨q, hq, rfl⟩ := List.mem_map.1 hr
      have hq' : q < len := by simpa using hq
      exact (hR q (by omega)).2
end Go.Proofs.Ythamkpmbfefpfaa
