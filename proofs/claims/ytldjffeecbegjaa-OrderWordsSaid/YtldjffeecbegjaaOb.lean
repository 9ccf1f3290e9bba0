/- Layer order: pairs as cells; a slice that reads as a list apart from one block; copy of elements of any size; the contracts of cmp.Compare and Keys. -/
import Derived.Test.YtldjffeecbegjaaMk
import Derived.Test.YtldjffeecbegjaaOa
import Derived.WalkKit
import Derived.Lib.Hide
import Derived.Laws.CopyOwn
import Derived.BigQuiet
import Derived.Deep.QuietTactic
import Derived.Laws.StructEq
namespace Go.Proofs.Ytldjffeecbegjaa
open Go.RowKit

/-- Pairs of a key and a place. -/
abbrev Pr := Int × Int
def prCells (p : Pr) : List Value := [.int .i64 p.1, .int .i64 p.2]
def cellsP (ps : List Pr) : List Value := ps.flatMap prCells
theorem cellsP_nil : cellsP [] = [] := rfl
theorem cellsP_cons (p : Pr) (ps : List Pr) : cellsP (p :: ps) = .int .i64 p.1 :: .int .i64 p.2 :: cellsP ps := rfl
theorem cellsP_length (ps : List Pr) : (cellsP ps).length = ps.length * 2 := by
  induction ps with
  | nil => rfl
  | cons p ps ih => rw [cellsP_cons]; simp only [List.length_cons, ih]; omega
theorem cellsP_append (a b : List Pr) : cellsP (a ++ b) = cellsP a ++ cellsP b := by unfold cellsP; rw [List.flatMap_append]
theorem cellsP_drop (ps : List Pr) (k : Nat) : cellsP (ps.drop k) = (cellsP ps).drop (k * 2) := by
  induction k generalizing ps with
  | zero => simp
  | succ k ih =>
    cases ps with
    | nil => simp [cellsP]
    | cons p ps => rw [List.drop_succ_cons, ih, cellsP_cons, Nat.succ_mul, show k * 2 + 2 = k * 2 + 1 + 1 from rfl, List.drop_succ_cons, List.drop_succ_cons]
theorem cellsP_take (ps : List Pr) (k : Nat) : cellsP (ps.take k) = (cellsP ps).take (k * 2) := by
  induction k generalizing ps with
  | zero => simp [cellsP]
  | succ k ih =>
    cases ps with
    | nil => simp [cellsP]
    | cons p ps => rw [List.take_succ_cons, cellsP_cons, ih, cellsP_cons, Nat.succ_mul, show k * 2 + 2 = k * 2 + 1 + 1 from rfl, List.take_succ_cons, List.take_succ_cons]
theorem cellsP_set : ∀ (ps : List Pr) (k : Nat) (p : Pr), ((cellsP ps).set (k * 2) (.int .i64 p.1)).set (k * 2 + 1) (.int .i64 p.2) = cellsP (ps.set k p)
  | [], k, p => by simp [cellsP]
  | q :: ps, 0, p => by rw [cellsP_cons]; rfl
  | q :: ps, k + 1, p => by
    rw [List.set_cons_succ, cellsP_cons, cellsP_cons, ← cellsP_set ps k p, Nat.succ_mul, show k * 2 + 2 + 1 = k * 2 + 1 + 1 + 1 from rfl, show k * 2 + 2 = k * 2 + 1 + 1 from rfl]
    rfl
theorem cellsP_at {p : Pr} : ∀ {ps : List Pr} {k : Nat}, ps[k]? = some p → (cellsP ps)[k * 2]? = some (.int .i64 p.1) ∧ (cellsP ps)[k * 2 + 1]? = some (.int .i64 p.2)
  | [], k, h => by simp at h
  | q :: ps, 0, h => by
    simp at h
    subst h
    exact ⟨rfl, rfl⟩
  | q :: ps, k + 1, h => by
    simp only [List.getElem?_cons_succ] at h
    have := cellsP_at h
    rw [cellsP_cons, Nat.succ_mul, show k * 2 + 2 + 1 = k * 2 + 1 + 1 + 1 from rfl, show k * 2 + 2 = k * 2 + 1 + 1 from rfl]
    exact this
theorem cellsP_one (ps : List Pr) : ∀ u ∈ cellsP ps, u.oneCell' = true := by
  intro u hu
  unfold cellsP at hu
  obtain ⟨x, _, hx⟩ := List.mem_flatMap.1 hu
  unfold prCells at hx
  simp at hx
  rcases hx with rfl | rfl <;> rfl
def allP (ps : List Pr) : Prop := ∀ p ∈ ps, (-9223372036854775808 ≤ p.1 ∧ p.1 ≤ 9223372036854775807) ∧ (-9223372036854775808 ≤ p.2 ∧ p.2 ≤ 9223372036854775807)

/-- By the key alone. -/
def ltP (p q : Pr) : Bool := decide (p.1 < q.1)
theorem ltP_ahead : Ahead ltP := ⟨fun h => by unfold ltP at *; simp at *; omega, fun h1 h2 => by unfold ltP at *; simp at *; omega⟩

/-- How two numbers stand. -/
def cmpN (a b : Int) : Int := if a < b then -1 else if b < a then 1 else 0
theorem cmpN_neg (a b : Int) : (cmpN a b < 0) = (a < b) := by unfold cmpN; split <;> simp_all; split <;> simp_all

set_option maxHeartbeats 400000 in
theorem compare_int (a b : Int) (w : World) : Calls Try.prog 39 #[.int .i64 a, .int .i64 b] w fun e w' => e = .returned (.int .i64 (cmpN a b)) ∧ w = w' := by
  have hn : ∀ (x : Int) (w : World), Calls Try.prog 48 #[.int .i64 x] w fun e w' => e = .returned (.bool false) ∧ w = w' := by
    intro x w
    go_enter Try.func48, Try.ntmps48
    go_wp2_with fail
    go_ret
    exact ⟨by simp, rfl⟩
  have H := Lib.hid hn
  clear hn
  rcases Int.lt_trichotomy a b with h | h | h
  · have hb : ¬ b < a := by omega
    have HR : Hid (cmpN a b = -1) := by unfold cmpN; rw [if_pos h]; exact rfl
    go_enter Try.func39, Try.ntmps39
    go_wp2_with fail
    refine (H.out _ _).mono ?_
    rintro e w1 ⟨rfl, rfl⟩
    go_wp2_with fail
    refine (H.out _ _).mono ?_
    rintro e w1 ⟨rfl, rfl⟩
    go_wp2_with fail
    go_ret
    exact ⟨by rw [HR.out]; rfl, rfl⟩
  · subst h
    have hb : ¬ a < a := by omega
    have HR : Hid (cmpN a a = 0) := by unfold cmpN; rw [if_neg hb, if_neg hb]; exact rfl
    go_enter Try.func39, Try.ntmps39
    go_wp2_with fail
    refine (H.out _ _).mono ?_
    rintro e w1 ⟨rfl, rfl⟩
    go_wp2_with fail
    refine (H.out _ _).mono ?_
    rintro e w1 ⟨rfl, rfl⟩
    go_wp2_with fail
    go_ret
    exact ⟨by rw [HR.out]; rfl, rfl⟩
  · have hb : ¬ a < b := by omega
    have HR : Hid (cmpN a b = 1) := by unfold cmpN; rw [if_neg hb, if_pos h]; exact rfl
    go_enter Try.func39, Try.ntmps39
    go_wp2_with fail
    refine (H.out _ _).mono ?_
    rintro e w1 ⟨rfl, rfl⟩
    go_wp2_with fail
    refine (H.out _ _).mono ?_
    rintro e w1 ⟨rfl, rfl⟩
    go_wp2_with fail
    go_ret
    exact ⟨by rw [HR.out]; rfl, rfl⟩

set_option maxHeartbeats 400000 in
theorem keys_any (p q : Pr) (w : World) : Calls Try.prog 11 #[.agg #[.int .i64 p.1, .int .i64 p.2], .agg #[.int .i64 q.1, .int .i64 q.2]] w fun e w' => e = .returned (.int .i64 (cmpN p.1 q.1)) ∧ Below w.heap.size w w' := by
  go_enter Try.func11, Try.ntmps11
  go_wp2_with fail
  refine (compare_int _ _ _).mono ?_
  rintro e w1 ⟨rfl, rfl⟩
  go_wp2_with fail
  go_ret
  exact ⟨rfl, ((Below.refl _ _).alloc (Nat.le_refl _) _).alloc (by simp) _⟩

/-- A slice that reads as cells, apart from the block g. -/
def Src (w : World) (g size : Nat) (A : Option Addr) (n : Nat) (xs : List Value) : Prop :=
  xs.length = n * size ∧ (0 < n → ∃ b o, A = some ⟨b, o, none⟩ ∧ b < w.heap.size ∧ b ≠ g ∧ ∀ j u, xs[j]? = some u → w.cell? ⟨b, o + j, none⟩ = some u)
section
variable {w w' : World} {g size n : Nat} {A : Option Addr} {xs : List Value}
theorem Src.kept (h : Src w g size A n xs) (hg : w.grownBy w' (some g)) : Src w' g size A n xs :=
  ⟨h.1, fun hn => by
    obtain ⟨b, o, hA, hb, hne, hc⟩ := h.2 hn
    exact ⟨b, o, hA, Nat.lt_of_lt_of_le hb hg.size, hne, fun j u hu => (hg.cell_far ⟨b, o + j, none⟩ hb (fun e => hne (by injection e))).trans (hc j u hu)⟩⟩
theorem Src.drop (h : Src w g size A n xs) {k cap : Nat} (hk : k ≤ n) (hc : n ≤ cap) :
    Src w g size (if cap = k then A else A.map (·.add (k * size))) (n - k) (xs.drop (k * size)) := by
  refine ⟨by rw [List.length_drop, h.1, Nat.sub_mul], fun hn => ?_⟩
  obtain ⟨b, o, rfl, hb, hne, hcell⟩ := h.2 (by omega)
  rw [if_neg (by omega)]
  refine ⟨b, o + k * size, by simp [Go.WideShapes.add_plain], hb, hne, fun j u hu => ?_⟩
  rw [Nat.add_assoc]
  exact hcell _ u (by rw [← hu, List.getElem?_drop])
theorem Src.of_reads {B : Nat} (h : Reads w B size A n xs) (hs : 0 < size) (hB : B ≤ w.heap.size) (hg : B ≤ g) : Src w g size A n xs :=
  ⟨h.1, fun hn => by
    obtain ⟨ad, hA, hb, hc⟩ := h.2 hn
    have hl : 0 < xs.length := by rw [h.1]; exact Nat.mul_pos hn hs
    have h0 := hc 0 xs[0] (List.getElem?_eq_getElem hl)
    obtain ⟨b, off, spot⟩ := ad
    have hspot : spot = none := by simpa [Addr.add] using World.cell?_spot h0
    subst hspot
    exact ⟨b, off, hA, Nat.lt_of_lt_of_le hb hB, fun e => by subst e; exact absurd hb (by show ¬ b < B; omega), fun j u hu => by rw [← Go.WideShapes.add_plain]; exact hc j u hu⟩⟩
theorem Src.take (h : Src w g size A n xs) {k : Nat} (hk : k ≤ n) : Src w g size A k (xs.take (k * size)) :=
  ⟨by rw [List.length_take, h.1]; exact Nat.min_eq_left (Nat.mul_le_mul_right _ hk), fun hn => by
    obtain ⟨b, o, hA, hb, hne, hc⟩ := h.2 (by omega)
    exact ⟨b, o, hA, hb, hne, fun j u hu => hc j u (by
      rw [List.getElem?_take] at hu
      split at hu
      · exact hu
      · cases hu)⟩⟩
end

/-- The first pair of a slice, cell by cell. -/
theorem src_pair {w : World} {g n : Nat} {A : Option Addr} {p : Pr} {ps : List Pr} {k : Nat} (h : Src w g 2 A n (cellsP ps)) (hp : ps[k]? = some p) :
    ∃ b o, A = some ⟨b, o, none⟩ ∧ b < w.heap.size ∧ b ≠ g ∧ w.cell? ⟨b, o + k * 2, none⟩ = some (.int .i64 p.1) ∧ w.cell? ⟨b, o + k * 2 + 1, none⟩ = some (.int .i64 p.2) := by
  have hk := (List.getElem?_eq_some_iff.1 hp).1
  have hl := h.1
  rw [cellsP_length] at hl
  obtain ⟨b, o, hA, hb, hne, hc⟩ := h.2 (by omega)
  obtain ⟨h0, h1⟩ := cellsP_at hp
  exact ⟨b, o, hA, hb, hne, hc _ _ h0, by rw [Nat.add_assoc]; exact hc _ _ h1⟩

/-- copy into a block of the call's own, elements of any size. -/
theorem run_copy_src {P : Program} (w : World) (dT sT ty elem : TypeId) (g o dLen dCap size : Nat) (A : Option Addr) (n c : Nat) (cur : Array Value) (t : TypeId) (cs : List Value)
    (hu : P.underlying dT = some (.slice elem)) (hs : (P.info? elem).map (·.size) = some size) (hg : Blk w g t cur) (hsrc : Src w g size A n cs) (hn : n ≤ dLen)
    (hfit : o + cs.length ≤ cur.size) (h1 : ∀ v ∈ cs, v.oneCell' = true) :
    (Builtin.copy_ #[dT, sT] ty #[.slice (some ⟨g, o, none⟩) dLen dCap, .slice A n c]).run P w = .ok (goInt n) (w.setRow g (cur.toList.take o ++ cs ++ cur.toList.drop (o + cs.length)).toArray) := by
  unfold Blk at hg
  have hmin : Nat.min n dLen = n := Nat.min_eq_left hn
  have hst := run_storeCells_at P g o t cs 0 cur w hg (by simpa using hfit) h1
  simp only [Nat.add_zero] at hst
  cases hq : P.info? elem with
  | none => simp [hq] at hs
  | some i =>
    have hi : i.size = size := by simpa [hq] using hs
    rcases Nat.eq_zero_or_pos n with h0 | h0
    · subst h0
      obtain rfl : cs = [] := List.eq_nil_of_length_eq_zero (by simpa using hsrc.1)
      have hz : Nat.min 0 dLen = 0 := Nat.min_eq_left (Nat.zero_le _)
      cases A with
      | none => simp [Builtin.copy_, run_underlying hu, Builtin.lenOf, Builtin.firstCells, sizeOf, typeInfo, hq, hz] at hst ⊢; rw [hst]; rfl
      | some ad =>
        have hf := run_firstCells_some (P := P) w size 0 ad 0 c [] (by simp) (fun j u hu => by simp at hu)
        simp [Builtin.copy_, run_underlying hu, Builtin.lenOf, sizeOf, typeInfo, hq, hi, hz, hf] at hst ⊢; rw [hst]; rfl
    · obtain ⟨b, o', rfl, _, _, hc⟩ := hsrc.2 h0
      have hf := run_firstCells_some (P := P) w size n ⟨b, o', none⟩ n c cs hsrc.1 (fun j u hu => by rw [Go.WideShapes.add_plain]; exact hc j u hu)
      simp [Builtin.copy_, run_underlying hu, Builtin.lenOf, sizeOf, typeInfo, hq, hi, hmin, hf, hst]
theorem wpList_copy_at {P : Program} (w : World) {ops : Array Oper} {rest : List Oper} {o : Oper} {a : Act} {Q : Exit → Act → World → Prop} (hgd : o.guard = none) (d s : Operand) (t t' : TypeId)
    (ho : o.op = .call { callee := .builtin .copy, args := #[d, s], argTypes := #[t, t'] }) (v u : Value) (hd : a.eval d = v) (hs : a.eval s = u) {v' : Value} {w' : World}
    (hr : (Builtin.copy_ #[t, t'] o.type #[v, u]).run P w = .ok v' w') (h : wpList P ops Q rest (a.put o.dst v') w') : wpList P ops Q (o :: rest) a w :=
  wpList_plain hgd fun _ hK => by
    unfold Oper.wp execOp
    simp only [ho, resolve, invoke, builtin, Sem.run_bind, Sem.run_pure, Result.andThen_ok, List.map_toArray, List.map_cons, List.map_nil, hd, hs, hr]
    exact hK _ _ h
theorem setRow_grown {w : World} {g : Nat} {t : TypeId} {cur : Array Value} (h : Blk w g t cur) (cs : Array Value) : w.grownBy (w.setRow g cs) (some g) ∧ Blk (w.setRow g cs) g t cs := by
  unfold Blk at *
  refine ⟨⟨rfl, rfl, rfl, by simp [World.setRow], fun i hi hne => ?_⟩, setRow_heap w g cur cs t (0, 0) h⟩
  simp only [World.setRow, Array.getElem?_modify]
  rw [if_neg (fun e => hne (by rw [e]))]
end Go.Proofs.Ytldjffeecbegjaa
