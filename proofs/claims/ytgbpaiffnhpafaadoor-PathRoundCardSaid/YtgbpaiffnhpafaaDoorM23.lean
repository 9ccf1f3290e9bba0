/- Layer bits: Same, Meet, Minus, Within: contracts. -/
import Derived.Deep.RegionHeld3
import Derived.Deep.Draws
import Derived.Test.YtgbpaiffnhpafaaDoorM20
-- holds: YtgbpaiffnhpafaaDoorEj
namespace Go.Proofs.YtgbpaiffnhpafaaDoor.Bit
open Go.RowKit

theorem below_drew' {B : Nat} {a w : World} (h : Below B a w) : Below B a w.drew := ⟨h.os, h.tape, h.output, h.size, h.block⟩
theorem RW.drew {w : World} {B n : Nat} {A : Option Addr} {ws : List Nat} (h : RW w B A n ws) : RW w.drew B A n ws := Reads.drew h
theorem two_boxes (w : World) (u v : Value) (t t' : TypeId) :
    ((w.alloc (.cells #[u] t)).alloc (.cells #[v] t')).cell? ⟨w.heap.size, 0, none⟩ = some u ∧ ((w.alloc (.cells #[u] t)).alloc (.cells #[v] t')).cell? ⟨w.heap.size + 1, 0, none⟩ = some v ∧
    ((w.alloc (.cells #[u] t)).alloc (.cells #[v] t')).heap.size = w.heap.size + 1 + 1 ∧ Below w.heap.size w ((w.alloc (.cells #[u] t)).alloc (.cells #[v] t')) := by
  have b0 := (Blk.new w t #[u]).alloc (.cells #[v] t')
  have b1 := Blk.new (w.alloc (.cells #[u] t)) t' #[v]
  rw [World.size_alloc] at b1
  exact ⟨b0.cell 0, b1.cell 0, by simp, ((Below.refl _ _).alloc (Nat.le_refl _) _).alloc (by simp) _⟩
theorem cell_on {w w' : World} {p : Addr} {v : Value} (hb : Below w.heap.size w w') (h : w.cell? p = some v) (hp : p.block < w.heap.size) : w'.cell? p = some v := (hb.cell hp).trans h

/-- Have two sets the same numbers? -/
def sameF (f g : Nat → Bool) : Bool := (List.range 10048).all fun n => f n == g n
theorem sameF_iff {f g : Nat → Bool} : sameF f g = true ↔ ∀ n, n < 10048 → f n = g n := by
  unfold sameF
  rw [List.all_eq_true]
  exact ⟨fun h n hn => by simpa using h n (by simpa using hn), fun h n hn => by simpa using h n (by simpa using hn)⟩
theorem eff_eq {xs ys : List Nat} (hx : W64 xs) (hy : W64 ys) : decide (effW xs = effW ys) = sameF (inW xs) (inW ys) := by
  rw [Bool.eq_iff_iff, decide_eq_true_iff, sameF_iff]
  refine ⟨fun h n _ => by unfold inW; rw [h], fun h => ?_⟩
  rw [eff_set hx, eff_set hy]
  exact set_congr h

theorem three_boxes (w : World) (u v x : Value) (t t' t'' : TypeId) :
    (((w.alloc (.cells #[u] t)).alloc (.cells #[v] t')).alloc (.cells #[x] t'')).cell? ⟨w.heap.size, 0, none⟩ = some u ∧ (((w.alloc (.cells #[u] t)).alloc (.cells #[v] t')).alloc (.cells #[x] t'')).cell? ⟨w.heap.size + 1, 0, none⟩ = some v ∧
    (((w.alloc (.cells #[u] t)).alloc (.cells #[v] t')).alloc (.cells #[x] t'')).cell? ⟨w.heap.size + 1 + 1, 0, none⟩ = some x ∧ Blk (((w.alloc (.cells #[u] t)).alloc (.cells #[v] t')).alloc (.cells #[x] t'')) (w.heap.size + 1 + 1) t'' #[x] ∧
    (((w.alloc (.cells #[u] t)).alloc (.cells #[v] t')).alloc (.cells #[x] t'')).heap.size = w.heap.size + 1 + 1 + 1 ∧ Below w.heap.size w (((w.alloc (.cells #[u] t)).alloc (.cells #[v] t')).alloc (.cells #[x] t'')) := by
  have b0 := ((Blk.new w t #[u]).alloc (.cells #[v] t')).alloc (.cells #[x] t'')
  have b1 := (Blk.new (w.alloc (.cells #[u] t)) t' #[v]).alloc (.cells #[x] t'')
  have b2 := Blk.new ((w.alloc (.cells #[u] t)).alloc (.cells #[v] t')) t'' #[x]
  rw [World.size_alloc] at b1
  rw [World.size_alloc, World.size_alloc] at b2
  exact ⟨b0.cell 0, b1.cell 0, b2.cell 0, b2, by simp, (((Below.refl _ _).alloc (Nat.le_refl _) _).alloc (by simp) _).alloc (by simp; omega) _⟩

theorem OW.set_box {base n : Nat} {w : World} {A : Option Addr} {ws : List Nat} (h : OW base w A n ws) {b : Nat} {t : TypeId} {cs : Array Value} (hb : Blk w b t cs) (ht : 104 ≠ t) (u : Value) : OW base (w.setCell ⟨b, 0, none⟩ u) A n ws :=
  ⟨h.1, fun hn => by
    obtain ⟨g, ds, hA, hg, hk, hc⟩ := h.2 hn
    exact ⟨g, ds, hA, hg, hk.far (p := ⟨b, 0, none⟩) (Blk.ne_ hk hb ht) u, hc⟩⟩
theorem set_end {w w4 : World} {ws ws' : List Nat} {A : Option Addr} {n c b : Nat} {u : Array Value} (h : OW w.heap.size w4 A n ws) (hb : Blk w4 b 84 u) (hB : Below w.heap.size w w4) (hle : w.heap.size ≤ b) (hw : ws = ws') :
    SetOk ws' w (.returned (.agg #[.slice A n c])) (w4.setCell ⟨b, 0, none⟩ (.slice A n c)) := by
  subst hw
  exact ⟨A, n, c, rfl, h.set_box hb (by decide) _, hB.setCell (p := ⟨b, 0, none⟩) hle _⟩

/-- What Meet has. -/
theorem set_meet {xs ys : List Nat} (hx : W64 xs) (hy : W64 ys) (m : Nat) (hm : m = (effW ys).length) : trimW (joinW (fun x y => x &&& y) (padW (effW xs) m) (effW ys)) = setW (fun n => inW xs n && inW ys n) := by
  have h1 := eff_64 hx
  have h2 := eff_64 hy
  refine trim_set (join_64 (fun x y => and_lt x y) (pad_64 h1 m) h2) fun n => ?_
  rw [has_join (J := fun x y => x &&& y) (op := fun a b => a && b) rfl (fun x y => and_bit x y) (pad_64 h1 m) h2 (by rw [pad_length, hm]; omega), has_pad]
  show (hasW (effW xs) n && hasW (effW ys) n) = _
  rcases Nat.lt_or_ge n 10048 with h | h
  · simp [h, inW]
  · have e1 : hasW (effW xs) n = false := in_ge (ws := xs) (by omega)
    rw [e1]; simp [show ¬ n < 10048 by omega]
/-- What Minus has. -/
theorem set_minus {xs ys : List Nat} (hx : W64 xs) (hy : W64 ys) (m : Nat) (hm : m = (effW ys).length) : trimW (joinW (fun x y => x &&& (18446744073709551615 - y)) (padW (effW xs) m) (effW ys)) = setW (fun n => inW xs n && !inW ys n) := by
  have h1 := eff_64 hx
  have h2 := eff_64 hy
  refine trim_set (join_64 (fun x y => andnot_lt x y) (pad_64 h1 m) h2) fun n => ?_
  rw [has_join (J := fun x y => x &&& (18446744073709551615 - y)) (op := fun a b => a && !b) rfl (fun x y => andnot_bit x y) (pad_64 h1 m) h2 (by rw [pad_length, hm]; omega), has_pad]
  show (hasW (effW xs) n && !hasW (effW ys) n) = _
  rcases Nat.lt_or_ge n 10048 with h | h
  · simp [h, inW]
  · have e1 : hasW (effW xs) n = false := in_ge (ws := xs) (by omega)
    rw [e1]; simp [show ¬ n < 10048 by omega]
/-- Is all of the one in the other one? -/
def withinF (f g : Nat → Bool) : Bool := (List.range 10048).all fun n => !(f n && !g n)
theorem withinF_iff {f g : Nat → Bool} : withinF f g = true ↔ ∀ n, n < 10048 → f n = true → g n = true := by
  unfold withinF
  rw [List.all_eq_true]
  refine ⟨fun h n hn hf => ?_, fun h n hn => ?_⟩
  · have := h n (by simpa using hn)
    rw [hf] at this
    simpa using this
  · have := h n (by simpa using hn)
    cases hf : f n with
    | false => simp
    | true => rw [this hf]; rfl
theorem within_len (f g : Nat → Bool) : withinF f g = decide ((setW fun n => f n && !g n).length = 0) := by
  rw [Bool.eq_iff_iff, decide_eq_true_iff, withinF_iff]
  constructor
  · intro h
    rw [set_none (f := fun n => f n && !g n) fun n hn => ?_]; rfl
    cases hf : f n with
    | false => rfl
    | true => rw [h n hn hf]; rfl
  · intro h n hn hf
    have := set_empty (List.eq_nil_of_length_eq_zero h) hn
    rw [hf] at this
    simpa using this

end Go.Proofs.YtgbpaiffnhpafaaDoor.Bit
