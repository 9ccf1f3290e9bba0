/- GraphTells: what the calls tell of a graph and of nodes; a row of the call's own that is gone over; a cut row of numbers. -/
import Derived.Test.YticbgikbpafeoaaHd
namespace Go.Proofs.Yticbgikbpafeoaa
open Go.RowKit

theorem it_elem_size (W : World) : (sizeOf (Try.prog.elem 41)).run Try.prog W = .ok 1 W := by kernel_rfl
theorem it_slice_h (A : Option Addr) (len cap h : Nat) (hh : h ≤ cap) (W : World) :
    (Instr.slice 41 (.slice A len cap) none (some (.int .i64 (h : Int))) none).run Try.prog W = .ok (.slice A h cap) W := by
  have e0 : Value.slice (if cap = 0 then A else A.map (·.add (0 * 1))) (h - 0) (cap - 0) = .slice A h cap := by
    have : (if cap = 0 then A else A.map (·.add (0 * 1))) = A := by
      split
      · rfl
      · cases A <;> simp [Addr.add]
    rw [this, Nat.sub_zero, Nat.sub_zero]
  rw [run_slice_h W 41 A len cap (show Try.prog.underlying 41 = some (.slice (Try.prog.elem 41)) by kernel_rfl) .i64 h (by omega) (by omega), it_elem_size]
  exact congrArg (fun v => Result.ok v W) e0
/-- Where the numbers of a row stand, in every later memory. -/
theorem nodes_at {w : World} {A : Option Addr} {n : Nat} {vs : List Int} (h : Reads w w.heap.size 1 A n (ints vs)) (hn : 0 < n) :
    ∃ b o, A = some ⟨b, o, none⟩ ∧ ∀ W, Below w.heap.size w W → ∀ j, j < n → ∃ v, W.cell? ⟨b, o + j, none⟩ = some (.int .i64 v) := by
  have hl := ints_len h
  obtain ⟨b, o, hA, _, _⟩ := int_at h (List.getElem?_eq_getElem (show 0 < vs.length by omega))
  refine ⟨b, o, hA, fun W hW j hj => ?_⟩
  obtain ⟨b', o', e, _, hc⟩ := int_at (h.below hW) (List.getElem?_eq_getElem (show j < vs.length by omega))
  rw [hA] at e
  injection e with e
  injection e with e1 e2
  subst e1; subst e2
  exact ⟨_, hc⟩
theorem Ints.on {W W' : World} {n : Nat} {A : Option Addr} {xs : List Int} (h : Reads W W.heap.size 1 A n (ints xs)) (hb : Below W.heap.size W W') : Reads W' W'.heap.size 1 A n (ints xs) := (h.below hb).more hb.size

theorem starts_both (z : Int) (zs : List Ed) : ∃ (sv : List Int) (k : Int),
    (∀ A n c W, n ≤ 80 → Reads W W.heap.size 3 A n (cellsE zs) → Calls Try.prog 20 #[.agg #[.int .i64 z, .slice A n c]] W (IErr sv k W)) ∧
    (rightG z zs = false → sv.length = 0 ∧ k = 150) ∧ (rightG z zs = true → sv = startsE zs (z.toNat + 1) ∧ k = 0 ∧ (0 ≤ z ∧ z ≤ 300) ∧ sv.length ≤ 301) := by
  cases h : rightG z zs
  · exact ⟨[], 150, fun A n c W hl hR => starts_no z A n c zs h (by omega) W hR, fun _ => ⟨rfl, rfl⟩, fun e => (by cases e)⟩
  · have hg := rightG_iff.1 h
    have hz := hg.nodes
    refine ⟨startsE zs (z.toNat + 1), 0, fun A n c W hl hR => starts_ok z A n c zs hg (by omega) W hR, fun e => (by cases e), fun _ => ⟨rfl, rfl, hz, ?_⟩⟩
    rw [startsE_len]; omega
theorem nodeB_iff (z v : Int) : nodeB z v = decide (0 ≤ v ∧ v < z) := rfl
theorem node_both (z v : Int) (zs : List Ed) (hn : zs.length ≤ 80) : ∃ (ov iv : List Ed) (k : Int),
    (∀ A n c W, n ≤ 80 → n ≤ c → Reads W W.heap.size 3 A n (cellsE zs) → Calls Try.prog 23 #[.agg #[.int .i64 z, .slice A n c], .int .i64 v] W (RErr ov k W)) ∧
    (∀ A n c W, n ≤ 80 → Reads W W.heap.size 3 A n (cellsE zs) → Calls Try.prog 24 #[.agg #[.int .i64 z, .slice A n c], .int .i64 v] W (RErr iv k W)) ∧
    (ov.length ≤ 80 ∧ iv.length ≤ 80) ∧
    (rightG z zs = false → ov = [] ∧ iv = [] ∧ k = 150) ∧ (rightG z zs = true → ¬ (0 ≤ v ∧ v < z) → ov = [] ∧ iv = [] ∧ k = 2) ∧ (rightG z zs = true → (0 ≤ v ∧ v < z) → ov = outE zs v ∧ iv = inE zs v ∧ k = 0) := by
  cases h : rightG z zs
  · refine ⟨[], [], 150, fun A n c W hl _ hR => out_no z v 150 A n c zs (ask_graph h) rfl (by omega) W hR, fun A n c W hl hR => in_no z v 150 A n c zs (ask_graph h) rfl (by omega) W hR, ⟨by decide, by decide⟩, fun _ => ⟨rfl, rfl, rfl⟩, fun e => (by cases e), fun e => (by cases e)⟩
  · by_cases hv : 0 ≤ v ∧ v < z
    · have hg := rightG_iff.1 h
      refine ⟨outE zs v, inE zs v, 0, fun A n c W hl hc hR => out_ok z v A n c zs hg hv (by omega) hc W hR, fun A n c W hl hR => in_ok z v A n c zs hg hv (by omega) W hR, ⟨?_, ?_⟩, fun e => (by cases e), fun _ e => absurd hv e, fun _ _ => ⟨rfl, rfl, rfl⟩⟩
      · unfold outE; exact Nat.le_trans (List.length_filter_le _ _) hn
      · unfold inE; exact Nat.le_trans (List.length_filter_le _ _) hn
    · have ha : askE z zs [v] = 2 := ask_arg h (by simp [nodeB_iff, hv])
      exact ⟨[], [], 2, fun A n c W hl _ hR => out_no z v 2 A n c zs ha rfl (by omega) W hR, fun A n c W hl hR => in_no z v 2 A n c zs ha rfl (by omega) W hR, ⟨by decide, by decide⟩, fun e => (by cases e), fun _ _ => ⟨rfl, rfl, rfl⟩, fun _ e => absurd e hv⟩
theorem pair_both (z v u : Int) (zs : List Ed) (hn : zs.length ≤ 80) : ∃ (kv : List Int) (k : Int),
    (∀ A n c W, n ≤ 80 → n ≤ c → Reads W W.heap.size 3 A n (cellsE zs) → Calls Try.prog 27 #[.agg #[.int .i64 z, .slice A n c], .int .i64 v, .int .i64 u] W (IErr kv k W)) ∧
    kv.length ≤ 80 ∧
    (rightG z zs = false → kv = [] ∧ k = 150) ∧ (rightG z zs = true → ¬ ((0 ≤ v ∧ v < z) ∧ (0 ≤ u ∧ u < z)) → kv = [] ∧ k = 2) ∧ (rightG z zs = true → (0 ≤ v ∧ v < z) → (0 ≤ u ∧ u < z) → kv = kindsE zs v u ∧ k = 0) := by
  cases h : rightG z zs
  · exact ⟨[], 150, fun A n c W hl _ hR => kinds_no z v u 150 A n c zs (ask_graph h) rfl (by omega) W hR, by decide, fun _ => ⟨rfl, rfl⟩, fun e => (by cases e), fun e => (by cases e)⟩
  · by_cases hv : (0 ≤ v ∧ v < z) ∧ (0 ≤ u ∧ u < z)
    · have hg := rightG_iff.1 h
      refine ⟨kindsE zs v u, 0, fun A n c W hl hc hR => kinds_ok z v u A n c zs hg hv.1 hv.2 (by omega) hc W hR, ?_, fun e => (by cases e), fun _ e => absurd hv e, fun _ _ _ => ⟨rfl, rfl⟩⟩
      rw [← kinds_filter, List.length_map]
      refine Nat.le_trans (List.length_filter_le _ _) ?_
      unfold outE; exact Nat.le_trans (List.length_filter_le _ _) hn
    · have ha : askE z zs [v, u] = 2 := ask_arg h (by
        simp only [List.all_cons, List.all_nil, Bool.and_true, nodeB_iff]
        rw [← Bool.decide_and]
        exact decide_eq_false hv)
      exact ⟨[], 2, fun A n c W hl _ hR => kinds_no z v u 2 A n c zs ha rfl (by omega) W hR, by decide, fun e => (by cases e), fun _ _ => ⟨rfl, rfl⟩, fun _ h1 h2 => absurd ⟨h1, h2⟩ hv⟩

/-- A row of edges that the call has made, whose cells can be written. -/
def Gone (W : World) (base : Nat) (A : Option Addr) (n : Nat) : Prop :=
  n = 0 ∨ ∃ (g o : Nat) (cur : Array Value), A = some ⟨g, o, none⟩ ∧ base ≤ g ∧ Blk W g 35 cur ∧ ∀ j, j < n → ∃ x : Int, cur[o + j * 3 + 2]? = some (.int .i64 x)
theorem Gone.on {W W' : World} {base n : Nat} {A : Option Addr} (h : Gone W base A n) (hb : Below W.heap.size W W') : Gone W' base A n := by
  rcases h with h | ⟨g, o, cur, h1, h2, h3, h4⟩
  · exact .inl h
  · exact .inr ⟨g, o, cur, h1, h2, h3.below hb h3.lt, h4⟩
theorem own_gone {W : World} {base n c : Nat} {A : Option Addr} {es : List Ed} (h : W.ownsRow base 35 3 (.slice A n c) n (cellsE es)) : Gone W base A n := by
  rcases Nat.eq_zero_or_pos n with h0 | h0
  · exact .inl h0
  · have hl := reads_len (reads_own h)
    rcases h.2 with ⟨e, _⟩ | ⟨g, cap, cur, e, hb, hk, _⟩
    · exfalso
      injection e with _ e2 _
      omega
    · injection e with e1 e2 e3
      subst e1
      refine .inr ⟨g, 0, cur, rfl, hb, hk, fun j hj => ?_⟩
      obtain ⟨p, hp⟩ : ∃ p, es[j]? = some p := ⟨es[j]'(by omega), List.getElem?_eq_getElem _⟩
      obtain ⟨b', o', e, _, _, _, h2⟩ := ed_at (reads_own h) hp
      injection e with e
      injection e with e1 e2
      subst e1; subst e2
      rw [Blk.cell hk] at h2
      exact ⟨_, h2⟩
theorem Gone.set {W : World} {base n g o j : Nat} {cur : Array Value} (hg : base ≤ g) (hk : Blk W g 35 cur) (hx : ∀ j, j < n → ∃ x : Int, cur[o + j * 3 + 2]? = some (.int .i64 x)) (y : Int) :
    Gone (W.setCell ⟨g, o + j * 3 + 2, none⟩ (.int .i64 y)) base (some ⟨g, o, none⟩) n := by
  refine .inr ⟨g, o, _, rfl, hg, hk.set_ _ _, fun i hi => ?_⟩
  rw [Array.getElem?_setIfInBounds]
  split
  · rename_i he
    split
    · exact ⟨y, rfl⟩
    · exfalso
      obtain ⟨x, hx⟩ := hx i hi
      rw [← he] at hx
      have := (Array.getElem?_eq_some_iff.1 hx).1
      omega
  · exact hx i hi
end Go.Proofs.Yticbgikbpafeoaa
