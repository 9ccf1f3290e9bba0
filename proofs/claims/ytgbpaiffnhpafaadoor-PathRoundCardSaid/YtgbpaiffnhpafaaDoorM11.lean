/- The laws of layer graph: slices.Grow, Concat of edges: contracts. -/
import Derived.Shelf.Spec.SlicesGrow
import Derived.Laws.AppendOwnNone
import Derived.Maps.AppendAt
import Derived.Test.YtgbpaiffnhpafaaDoorM6
-- holds: YtgbpaiffnhpafaaDoorHa
namespace Go.Proofs
open Go.Shelf
namespace YtgbpaiffnhpafaaDoor
open Go.RowKit Go.Shelf
attribute [local go_sem] Oper.semAt_some

theorem below_drew' {B : Nat} {a w : World} (h : Below B a w) : Below B a w.drew := h.drew
/-- A row of rows of edges. -/
structure ERow where
  A : Option Addr
  n : Nat
  c : Nat
  l : List Ed
def erowCells (rs : List ERow) : List Value := rs.map fun r => .slice r.A r.n r.c
def ERows (w : World) (B : Nat) (A : Option Addr) (n : Nat) (rs : List ERow) : Prop :=
  Reads w B 1 A n (erowCells rs) ∧ ∀ r ∈ rs, Reads w B 3 r.A r.n (cellsE r.l)
theorem ERows.below {w w' : World} {B n : Nat} {A : Option Addr} {rs : List ERow} (h : ERows w B A n rs) (hb : Below B w w') : ERows w' B A n rs :=
  ⟨Reads.below h.1 hb, fun r hr => (h.2 r hr).below hb⟩
theorem ERows.len {w : World} {B n : Nat} {A : Option Addr} {rs : List ERow} (h : ERows w B A n rs) : rs.length = n := by
  have := h.1.1
  unfold erowCells at this
  simp at this; omega

def catL (rs : List ERow) : List Ed := rs.flatMap (·.l)
theorem cat_snoc {rs : List ERow} {j : Nat} {r : ERow} (h : rs[j]? = some r) : catL (rs.take (j + 1)) = catL (rs.take j) ++ r.l := by
  have hj := (List.getElem?_eq_some_iff.1 h).1
  unfold catL
  rw [List.take_add_one, h]; simp
theorem ERows.at2 {w : World} {B n k : Nat} {A : Option Addr} {rs : List ERow} (h : ERows w B A n rs) (hk : k < n) :
    ∃ (b o : Nat) (r : ERow), A = some ⟨b, o, none⟩ ∧ b < B ∧ rs[k]? = some r ∧ w.cell? ⟨b, o + k, none⟩ = some (.slice r.A r.n r.c) ∧ Reads w B 3 r.A r.n (cellsE r.l) := by
  have hl := h.len
  obtain ⟨ad, hA, hlt, hc⟩ := h.1.2 (by omega)
  obtain ⟨r, hr⟩ : ∃ r, rs[k]? = some r := ⟨_, List.getElem?_eq_getElem (by omega)⟩
  have hcell := hc k (.slice r.A r.n r.c) (by unfold erowCells; rw [List.getElem?_map, hr]; rfl)
  obtain ⟨r0, hr0⟩ : ∃ r, rs[0]? = some r := ⟨_, List.getElem?_eq_getElem (show 0 < rs.length by omega)⟩
  have h00 := hc 0 (.slice r0.A r0.n r0.c) (by unfold erowCells; rw [List.getElem?_map, hr0]; rfl)
  obtain ⟨b, o, spot⟩ := ad
  have hspot : spot = none := by simpa [Addr.add] using World.cell?_spot h00
  subst hspot
  rw [Go.WideShapes.add_plain] at hcell
  exact ⟨b, o, r, hA, hlt, hr, hcell, h.2 r (List.mem_of_getElem? hr)⟩
/-- Rows that are put together. -/
structure CatIs (w : World) (L : List Ed) (n : Nat) (v : Value) (wr : World) : Prop where
  own : wr.ownsRow w.heap.size 53 3 v n (cellsE L)
  below : Below w.heap.size w wr

end YtgbpaiffnhpafaaDoor
end Go.Proofs
