/- Layer graph: edges as cells; a slice that reads as a list apart from one block; copy of elements of any size; the contracts of place and of the comparison that sorted hands on. -/
import Derived.WalkKit
import Derived.Lib.Hide
import Derived.Laws.CopyOwn
import Derived.BigQuiet
import Derived.Deep.QuietTactic
import Derived.Laws.StructEq
import Derived.Test.YtgbpaiffnhpafaaDoorM1
import Derived.Test.YtgbpaiffnhpafaaDoorM2
-- holds: YtgbpaiffnhpafaaDoorGb
namespace Go.Proofs.YtgbpaiffnhpafaaDoor
open Go.RowKit

/-- Edges: From, To, Kind. -/
abbrev Ed := Int × Int × Int
def edCells (p : Ed) : List Value := [.int .i64 p.1, .int .i64 p.2.1, .int .i64 p.2.2]
def cellsE (ps : List Ed) : List Value := ps.flatMap edCells
theorem cellsE_nil : cellsE [] = [] := rfl
theorem cellsE_cons (p : Ed) (ps : List Ed) : cellsE (p :: ps) = .int .i64 p.1 :: .int .i64 p.2.1 :: .int .i64 p.2.2 :: cellsE ps := rfl
theorem cellsE_length (ps : List Ed) : (cellsE ps).length = ps.length * 3 := by
  induction ps with
  | nil => rfl
  | cons p ps ih => rw [cellsE_cons]; simp only [List.length_cons, ih]; omega
theorem cellsE_append (a b : List Ed) : cellsE (a ++ b) = cellsE a ++ cellsE b := by unfold cellsE; rw [List.flatMap_append]
theorem mul3 (k : Nat) : (k + 1) * 3 = k * 3 + 1 + 1 + 1 := by omega
theorem cellsE_drop (ps : List Ed) (k : Nat) : cellsE (ps.drop k) = (cellsE ps).drop (k * 3) := by
  induction k generalizing ps with
  | zero => simp
  | succ k ih =>
    cases ps with
    | nil => simp [cellsE]
    | cons p ps => rw [List.drop_succ_cons, ih, cellsE_cons, mul3, List.drop_succ_cons, List.drop_succ_cons, List.drop_succ_cons]
theorem cellsE_take (ps : List Ed) (k : Nat) : cellsE (ps.take k) = (cellsE ps).take (k * 3) := by
  induction k generalizing ps with
  | zero => simp [cellsE]
  | succ k ih =>
    cases ps with
    | nil => simp [cellsE]
    | cons p ps => rw [List.take_succ_cons, cellsE_cons, ih, cellsE_cons, mul3, List.take_succ_cons, List.take_succ_cons, List.take_succ_cons]
theorem cellsE_set : ∀ (ps : List Ed) (k : Nat) (p : Ed), (((cellsE ps).set (k * 3) (.int .i64 p.1)).set (k * 3 + 1) (.int .i64 p.2.1)).set (k * 3 + 2) (.int .i64 p.2.2) = cellsE (ps.set k p)
  | [], k, p => by simp [cellsE]
  | q :: ps, 0, p => by rw [cellsE_cons]; rfl
  | q :: ps, k + 1, p => by
    rw [List.set_cons_succ, cellsE_cons, cellsE_cons, ← cellsE_set ps k p, mul3]
    rfl
theorem cellsE_at {p : Ed} : ∀ {ps : List Ed} {k : Nat}, ps[k]? = some p → (cellsE ps)[k * 3]? = some (.int .i64 p.1) ∧ (cellsE ps)[k * 3 + 1]? = some (.int .i64 p.2.1) ∧ (cellsE ps)[k * 3 + 2]? = some (.int .i64 p.2.2)
  | [], k, h => by simp at h
  | q :: ps, 0, h => by
    simp at h
    subst h
    exact ⟨rfl, rfl, rfl⟩
  | q :: ps, k + 1, h => by
    simp only [List.getElem?_cons_succ] at h
    have := cellsE_at h
    rw [cellsE_cons, mul3]
    exact this
theorem cellsE_one (ps : List Ed) : ∀ u ∈ cellsE ps, u.oneCell' = true := by
  intro u hu
  unfold cellsE at hu
  obtain ⟨x, _, hx⟩ := List.mem_flatMap.1 hu
  unfold edCells at hx
  simp at hx
  rcases hx with rfl | rfl | rfl <;> rfl
def i64ok (z : Int) : Prop := -9223372036854775808 ≤ z ∧ z ≤ 9223372036854775807
def allE (ps : List Ed) : Prop := ∀ p ∈ ps, i64ok p.1 ∧ i64ok p.2.1 ∧ i64ok p.2.2

/-- An edge that a graph may have, whatever its nodes; the number by which it stands in order. -/
def okE (p : Ed) : Prop := (0 ≤ p.1 ∧ p.1 < 300) ∧ (0 ≤ p.2.1 ∧ p.2.1 < 300) ∧ 0 ≤ p.2.2 ∧ p.2.2 ≤ 9
def plE (p : Ed) : Int := (p.1 * 300 + p.2.1) * 10 + p.2.2
def ltE (p q : Ed) : Bool := decide (plE p < plE q)
theorem ltE_ahead : Ahead ltE := ⟨fun h => by unfold ltE at *; simp at *; omega, fun h1 h2 => by unfold ltE at *; simp at *; omega⟩
theorem plE_bounds {p : Ed} (h : okE p) : 0 ≤ plE p ∧ plE p < 1000000 := by unfold okE at h; unfold plE; omega
theorem plE_inj {p q : Ed} (hp : okE p) (hq : okE q) (h : plE p = plE q) : p = q := by
  obtain ⟨a, b, c⟩ := p
  obtain ⟨d, e, f⟩ := q
  unfold okE at hp hq
  unfold plE at h
  simp only at hp hq h
  have h1 : a = d := by omega
  have h2 : b = e := by omega
  have h3 : c = f := by omega
  rw [h1, h2, h3]

set_option maxHeartbeats 1000000 in
theorem place_any (p : Ed) (hp : okE p) (w : World) : Calls Tryd.prog 60 #[.agg #[.int .i64 p.1, .int .i64 p.2.1, .int .i64 p.2.2]] w fun e w' => e = .returned (.int .i64 (plE p)) ∧ Below w.heap.size w w' := by
  obtain ⟨⟨h1, h2⟩, ⟨h3, h4⟩, h5, h6⟩ := hp
  have e1 : IntKind.i64.wrap (p.1 * 300) = p.1 * 300 := by rw [IntKind.wrap_i64]; omega
  have e2 : IntKind.i64.wrap (p.1 * 300 + p.2.1) = p.1 * 300 + p.2.1 := by rw [IntKind.wrap_i64]; omega
  have e3 : IntKind.i64.wrap ((p.1 * 300 + p.2.1) * 10) = (p.1 * 300 + p.2.1) * 10 := by rw [IntKind.wrap_i64]; omega
  have e4 : IntKind.i64.wrap ((p.1 * 300 + p.2.1) * 10 + p.2.2) = (p.1 * 300 + p.2.1) * 10 + p.2.2 := by rw [IntKind.wrap_i64]; omega
  go_enter Tryd.func60, Tryd.ntmps60
  go_wp2_with fail
  go_ret
  exact ⟨rfl, (Below.refl _ _).alloc (Nat.le_refl _) _⟩

/-- A slice that reads as cells, apart from the block g. -/
def Src (w : World) (g size : Nat) (A : Option Addr) (n : Nat) (xs : List Value) : Prop :=
  xs.length = n * size ∧ (0 < n → ∃ b o, A = some ⟨b, o, none⟩ ∧ b < w.heap.size ∧ b ≠ g ∧ ∀ j u, xs[j]? = some u → w.cell? ⟨b, o + j, none⟩ = some u)
section
variable {w w' : World} {g size n : Nat} {A : Option Addr} {xs : List Value}
theorem Src.kept (h : Src w g size A n xs) (hg : w.grownBy w' (some g)) : Src w' g size A n xs :=
  ⟨h.1, fun hn => by
    obtain ⟨b, o, hA, hb, hne, hc⟩ := h.2 hn
    exact ⟨b, o, hA, Nat.lt_of_lt_of_le hb hg.size, hne, fun j u hu => (hg.cell_far ⟨b, o + j, none⟩ hb (fun e => hne (by injection e))).trans (hc j u hu)⟩⟩
theorem Src.drop (h : Src w g size A n xs) {k cap : Nat} (hk : k ≤ n) (hc : n ≤ cap) :
    Src w g size (if cap = k then A else A.map (·.add (k * size))) (n - k) (xs.drop (k * size)) := by
  refine ⟨by rw [List.length_drop, h.1, Nat.sub_mul], fun hn => ?_⟩
  obtain ⟨b, o, rfl, hb, hne, hcell⟩ := h.2 (by omega)
  rw [if_neg (by omega)]
  refine ⟨b, o + k * size, by simp [Go.WideShapes.add_plain], hb, hne, fun j u hu => ?_⟩
  rw [Nat.add_assoc]
  exact hcell _ u (by rw [← hu, List.getElem?_drop])
theorem Src.of_reads {B : Nat} (h : Reads w B size A n xs) (hs : 0 < size) (hB : B ≤ w.heap.size) (hg : B ≤ g) : Src w g size A n xs :=
  ⟨h.1, fun hn => by
    obtain ⟨ad, hA, hb, hc⟩ := h.2 hn
    have hl : 0 < xs.length := by rw [h.1]; exact Nat.mul_pos hn hs
    have h0 := hc 0 xs[0] (List.getElem?_eq_getElem hl)
    obtain ⟨b, off, spot⟩ := ad
    have hspot : spot = none := by simpa [Addr.add] using World.cell?_spot h0
    subst hspot
    exact ⟨b, off, hA, Nat.lt_of_lt_of_le hb hB, fun e => by subst e; exact absurd hb (by show ¬ b < B; omega), fun j u hu => by rw [← Go.WideShapes.add_plain]; exact hc j u hu⟩⟩
theorem Src.take (h : Src w g size A n xs) {k : Nat} (hk : k ≤ n) : Src w g size A k (xs.take (k * size)) :=
  ⟨by rw [List.length_take, h.1]; exact Nat.min_eq_left (Nat.mul_le_mul_right _ hk), fun hn => by
    obtain ⟨b, o, hA, hb, hne, hc⟩ := h.2 (by omega)
    exact ⟨b, o, hA, hb, hne, fun j u hu => hc j u (by
      rw [List.getElem?_take] at hu
      split at hu
      · exact hu
      · cases hu)⟩⟩
end

/-- An edge of a slice, cell by cell. -/
theorem src_ed {w : World} {g n : Nat} {A : Option Addr} {p : Ed} {ps : List Ed} {k : Nat} (h : Src w g 3 A n (cellsE ps)) (hp : ps[k]? = some p) :
    ∃ b o, A = some ⟨b, o, none⟩ ∧ b < w.heap.size ∧ b ≠ g ∧ w.cell? ⟨b, o + k * 3, none⟩ = some (.int .i64 p.1) ∧ w.cell? ⟨b, o + k * 3 + 1, none⟩ = some (.int .i64 p.2.1) ∧ w.cell? ⟨b, o + k * 3 + 2, none⟩ = some (.int .i64 p.2.2) := by
  have hk := (List.getElem?_eq_some_iff.1 hp).1
  have hl := h.1
  rw [cellsE_length] at hl
  obtain ⟨b, o, hA, hb, hne, hc⟩ := h.2 (by omega)
  obtain ⟨h0, h1, h2⟩ := cellsE_at hp
  exact ⟨b, o, hA, hb, hne, hc _ _ h0, by rw [Nat.add_assoc]; exact hc _ _ h1, by rw [Nat.add_assoc]; exact hc _ _ h2⟩

/-- copy into a block of the call's own, elements of any size. -/
theorem run_copy_src {P : Program} (w : World) (dT sT ty elem : TypeId) (g o dLen dCap size : Nat) (A : Option Addr) (n c : Nat) (cur : Array Value) (t : TypeId) (cs : List Value)
    (hu : P.underlying dT = some (.slice elem)) (hs : (P.info? elem).map (·.size) = some size) (hg : Blk w g t cur) (hsrc : Src w g size A n cs) (hn : n ≤ dLen)
    (hfit : o + cs.length ≤ cur.size) (h1 : ∀ v ∈ cs, v.oneCell' = true) :
    (Builtin.copy_ #[dT, sT] ty #[.slice (some ⟨g, o, none⟩) dLen dCap, .slice A n c]).run P w = .ok (goInt n) (w.setRow g (cur.toList.take o ++ cs ++ cur.toList.drop (o + cs.length)).toArray) := by
  unfold Blk at hg
  have hmin : Nat.min n dLen = n := Nat.min_eq_left hn
  have hst := run_storeCells_at P g o t cs 0 cur w hg (by simpa using hfit) h1
  simp only [Nat.add_zero] at hst
  cases hq : P.info? elem with
  | none => simp [hq] at hs
  | some i =>
    have hi : i.size = size := by simpa [hq] using hs
    rcases Nat.eq_zero_or_pos n with h0 | h0
    · subst h0
      obtain rfl : cs = [] := List.eq_nil_of_length_eq_zero (by simpa using hsrc.1)
      have hz : Nat.min 0 dLen = 0 := Nat.min_eq_left (Nat.zero_le _)
      cases A with
      | none => simp [Builtin.copy_, run_underlying hu, Builtin.lenOf, Builtin.firstCells, sizeOf, typeInfo, hq, hz] at hst ⊢; rw [hst]; rfl
      | some ad =>
        have hf := run_firstCells_some (P := P) w size 0 ad 0 c [] (by simp) (fun j u hu => by simp at hu)
        simp [Builtin.copy_, run_underlying hu, Builtin.lenOf, sizeOf, typeInfo, hq, hi, hz, hf] at hst ⊢; rw [hst]; rfl
    · obtain ⟨b, o', rfl, _, _, hc⟩ := hsrc.2 h0
      have hf := run_firstCells_some (P := P) w size n ⟨b, o', none⟩ n c cs hsrc.1 (fun j u hu => by rw [Go.WideShapes.add_plain]; exact hc j u hu)
      simp [Builtin.copy_, run_underlying hu, Builtin.lenOf, sizeOf, typeInfo, hq, hi, hmin, hf, hst]
theorem wpList_copy_at {P : Program} (w : World) {ops : Array Oper} {rest : List Oper} {o : Oper} {a : Act} {Q : Exit → Act → World → Prop} (hgd : o.guard = none) (d s : Operand) (t t' : TypeId)
    (ho : o.op = .call { callee := .builtin .copy, args := #[d, s], argTypes := #[t, t'] }) (v u : Value) (hd : a.eval d = v) (hs : a.eval s = u) {v' : Value} {w' : World}
    (hr : (Builtin.copy_ #[t, t'] o.type #[v, u]).run P w = .ok v' w') (h : wpList P ops Q rest (a.put o.dst v') w') : wpList P ops Q (o :: rest) a w :=
  wpList_plain hgd fun _ hK => by
    unfold Oper.wp execOp
    simp only [ho, resolve, invoke, builtin, Sem.run_bind, Sem.run_pure, Result.andThen_ok, List.map_toArray, List.map_cons, List.map_nil, hd, hs, hr]
    exact hK _ _ h
theorem setRow_grown {w : World} {g : Nat} {t : TypeId} {cur : Array Value} (h : Blk w g t cur) (cs : Array Value) : w.grownBy (w.setRow g cs) (some g) ∧ Blk (w.setRow g cs) g t cs := by
  unfold Blk at *
  refine ⟨⟨rfl, rfl, rfl, by simp [World.setRow], fun i hi hne => ?_⟩, setRow_heap w g cur cs t (0, 0) h⟩
  simp only [World.setRow, Array.getElem?_modify]
  rw [if_neg (fun e => hne (by rw [e]))]
end Go.Proofs.YtgbpaiffnhpafaaDoor
