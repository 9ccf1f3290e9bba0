/- The document's answers of layer digit (package yardarmref01): numbers in five parts held against each other. -/
import Derived.Test.YtfbbjfjckaojeaaDoorDw
namespace Go.Proofs.YtfbbjfjckaojeaaDoor
open Go.RowKit

theorem run_eq5 (d : Nat) (a0 a1 a2 a3 a4 b0 b1 b2 b3 b4 : Int) (w : World) :
    (Op.equalIn (d + 2) 38 (.agg #[.int .u64 a0, .int .u64 a1, .int .u64 a2, .int .u64 a3, .int .u64 a4]) (.agg #[.int .u64 b0, .int .u64 b1, .int .u64 b2, .int .u64 b3, .int .u64 b4])).run Tryd.prog w =
      .ok (a0 == b0 && (a1 == b1 && (a2 == b2 && (a3 == b3 && a4 == b4)))) w := by
  rw [Op.equalIn]
  simp only [Sem.run_bind, run_underlying Tryd.underlying38, Result.andThen_ok]
  simp only [Std.Legacy.Range.forIn_eq_forIn_range', Std.Legacy.Range.size]
  simp only [show (5 - 0 + 1 - 1) / 1 = 5 from rfl, List.range', List.forIn_cons, List.forIn_nil]
  have hsz : (sizeOf 36).run Tryd.prog w = .ok 1 w := by go_simp
  simp only [hsz, Result.andThen_ok, Nat.mul_one]
  have hp : ∀ (cs : Array Value) (i : Nat) (v : Value) (h : cs[i]? = some v), (part 36 cs i).run Tryd.prog w = .ok v w := by
    intro cs i v h
    go_simp
  have he : ∀ (a b : Int), (Op.equalIn (d + 1) 36 (.int .u64 a) (.int .u64 b)).run Tryd.prog w = .ok (a == b) w := fun a b => run_equalIn_int w d 36 .u64 .u64 a b Tryd.underlying36
  have hpa : ∀ (c0 c1 c2 c3 c4 : Value), (part 36 #[c0, c1, c2, c3, c4] 0).run Tryd.prog w = .ok c0 w ∧ (part 36 #[c0, c1, c2, c3, c4] (0 + 1)).run Tryd.prog w = .ok c1 w ∧ (part 36 #[c0, c1, c2, c3, c4] (0 + 1 + 1)).run Tryd.prog w = .ok c2 w ∧ (part 36 #[c0, c1, c2, c3, c4] (0 + 1 + 1 + 1)).run Tryd.prog w = .ok c3 w ∧ (part 36 #[c0, c1, c2, c3, c4] (0 + 1 + 1 + 1 + 1)).run Tryd.prog w = .ok c4 w :=
    fun c0 c1 c2 c3 c4 => ⟨hp _ _ _ rfl, hp _ _ _ rfl, hp _ _ _ rfl, hp _ _ _ rfl, hp _ _ _ rfl⟩
  cases h0 : (a0 == b0) <;> cases h1 : (a1 == b1) <;> cases h2 : (a2 == b2) <;> cases h3 : (a3 == b3) <;> cases h4 : (a4 == b4) <;>
    simp only [Sem.run_bind, hpa, he, h0, h1, h2, h3, h4, Result.andThen_ok, Sem.run_pure, Bool.not_true, Bool.not_false, if_true, Bool.false_eq_true, if_false, Bool.and_true, Bool.and_false, Bool.and_self, Sem.run_ite]

/-- A block of five numbers, each as f has it, none frozen. -/
def Arr (w : World) (b : Nat) (f : Nat → Int) : Prop := b < w.heap.size ∧ ∀ j, j < 5 → w.cell? ⟨b, j, none⟩ = some (.int .u64 (f j)) ∧ w.frozen? ⟨b, j, none⟩ = false
def upd (f : Nat → Int) (k : Nat) (v : Int) : Nat → Int := fun j => if j = k then v else f j
theorem upd_at (f : Nat → Int) (k : Nat) (v : Int) : upd f k v k = v := by unfold upd; rw [if_pos rfl]
theorem upd_ne (f : Nat → Int) {k j : Nat} (v : Int) (h : j ≠ k) : upd f k v j = f j := by unfold upd; rw [if_neg h]
theorem Arr.set {w : World} {b k : Nat} {f : Nat → Int} (h : Arr w b f) (hk : k < 5) (v : Int) : Arr (w.setCell ⟨b, k, none⟩ (.int .u64 v)) b (upd f k v) := by
  refine ⟨by rw [World.size_setCell]; exact h.1, fun j hj => ⟨?_, by rw [World.frozen?_setCell]; exact (h.2 j hj).2⟩⟩
  by_cases e : j = k
  · subst e
    rw [upd_at]
    exact World.cell?_setCell_same _ _ _ (h.2 j hj).1
  · rw [upd_ne f v e, World.cell?_setCell_other _ _ _ _ (fun e' => e (by injection e' with _ e' _; exact e'.symm))]
    exact (h.2 j hj).1
theorem Arr.far {w : World} {b : Nat} {f : Nat → Int} (h : Arr w b f) {p : Addr} (hp : p.block ≠ b) (v : Value) : Arr (w.setCell p v) b f :=
  ⟨by rw [World.size_setCell]; exact h.1, fun j hj => ⟨by rw [World.cell?_setCell_other _ _ _ _ (fun e' => hp (by rw [e']))]; exact (h.2 j hj).1, by rw [World.frozen?_setCell]; exact (h.2 j hj).2⟩⟩
theorem Arr.below {w w' : World} {b : Nat} {f : Nat → Int} (h : Arr w b f) (hb : Below w.heap.size w w') : Arr w' b f :=
  ⟨Nat.lt_of_lt_of_le h.1 hb.size, fun j hj => ⟨(hb.cell (p := ⟨b, j, none⟩) h.1).trans (h.2 j hj).1, (hb.frozen (p := ⟨b, j, none⟩) h.1).trans (h.2 j hj).2⟩⟩
theorem Arr.alloc {w : World} {b : Nat} {f : Nat → Int} (h : Arr w b f) (o : Obj) : Arr (w.alloc o) b f := h.below ((Below.refl _ _).alloc (Nat.le_refl _) _)
theorem Arr.drewN {w : World} {b : Nat} {f : Nat → Int} (h : Arr w b f) (n : Nat) : Arr (w.drewN n) b f := h
theorem Arr.ext {w : World} {b : Nat} {f g : Nat → Int} (h : Arr w b f) (e : ∀ j, j < 5 → f j = g j) : Arr w b g := ⟨h.1, fun j hj => by rw [← e j hj]; exact h.2 j hj⟩
theorem Arr.new (w : World) (a0 a1 a2 a3 a4 : Int) (t : TypeId) : Arr (w.alloc (.cells #[.int .u64 a0, .int .u64 a1, .int .u64 a2, .int .u64 a3, .int .u64 a4] t)) w.heap.size (fun j => [a0, a1, a2, a3, a4].getD j 0) := by
  refine ⟨by simp, fun j hj => ⟨?_, ?_⟩⟩
  · rw [World.cell?_alloc_new]
    match j, hj with
    | 0, _ => rfl
    | 1, _ => rfl
    | 2, _ => rfl
    | 3, _ => rfl
    | 4, _ => rfl
  · simp
/-- The five cells, one by one. -/
theorem Arr.five {w : World} {b : Nat} {f : Nat → Int} (h : Arr w b f) : (w.cell? ⟨b, 0, none⟩ = some (.int .u64 (f 0)) ∧ w.cell? ⟨b, 1, none⟩ = some (.int .u64 (f 1)) ∧ w.cell? ⟨b, 2, none⟩ = some (.int .u64 (f 2)) ∧ w.cell? ⟨b, 3, none⟩ = some (.int .u64 (f 3)) ∧ w.cell? ⟨b, 4, none⟩ = some (.int .u64 (f 4))) ∧
    w.frozen? ⟨b, 0, none⟩ = false ∧ w.frozen? ⟨b, 1, none⟩ = false ∧ w.frozen? ⟨b, 2, none⟩ = false ∧ w.frozen? ⟨b, 3, none⟩ = false ∧ w.frozen? ⟨b, 4, none⟩ = false :=
  ⟨⟨(h.2 0 (by decide)).1, (h.2 1 (by decide)).1, (h.2 2 (by decide)).1, (h.2 3 (by decide)).1, (h.2 4 (by decide)).1⟩, (h.2 0 (by decide)).2, (h.2 1 (by decide)).2, (h.2 2 (by decide)).2, (h.2 3 (by decide)).2, (h.2 4 (by decide)).2⟩
end Go.Proofs.YtfbbjfjckaojeaaDoor
