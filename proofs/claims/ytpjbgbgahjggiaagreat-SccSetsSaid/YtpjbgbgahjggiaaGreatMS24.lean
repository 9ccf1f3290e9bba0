/- Layer bits: List and Next: contracts. -/
import Derived.Test.YtpjbgbgahjggiaaGreatMS23
import Derived.Test.YtpjbgbgahjggiaaGreatMS19
import Derived.Test.YtpjbgbgahjggiaaGreatMS16
-- holds: YtpjbgbgahjggiaaGreatEq
namespace Go.Proofs.YtpjbgbgahjggiaaGreat.Bit
open Go.RowKit Go.Shelf
attribute [local go_sem] Oper.semAt_some

theorem rem_nums (xs : List Nat) : remS (effW xs) 0 = numsF (inW xs) := by
  rw [rem_all]
  exact nums_range (f := hasW (effW xs)) (by have := eff_len xs; omega) fun n hn => has_lt hn
theorem rem_from (xs : List Nat) (f : Nat) : remS (effW xs) f = (numsF (inW xs)).filter fun n => decide (f ≤ n) := by
  rw [← rem_nums, rem_all]
  unfold remS
  rw [List.filter_filter]
theorem own_below {w w' : World} {base : Nat} {e : TypeId} {size : Nat} {v : Value} {n : Nat} {xs : List Value} (h : w.ownsRow base e size v n xs) (hb : Below w.heap.size w w') : w'.ownsRow base e size v n xs := by
  refine ⟨h.1, h.2.imp id ?_⟩
  rintro ⟨g, cap, cur, rfl, h1, hh, hr⟩
  exact ⟨g, cap, cur, rfl, h1, (hb.block g (block_lt' hh)).trans hh, hr⟩
theorem own_low {w : World} {base base' : Nat} {e : TypeId} {size : Nat} {v : Value} {n : Nat} {xs : List Value} (h : w.ownsRow base e size v n xs) (hb : base' ≤ base) : w.ownsRow base' e size v n xs := by
  obtain ⟨hl, h0 | ⟨g, cap, cur, hv, hg, r⟩⟩ := h
  · exact ⟨hl, .inl h0⟩
  · exact ⟨hl, .inr ⟨g, cap, cur, hv, Nat.le_trans hb hg, r⟩⟩

/-- The first one of what comes, if anything comes. -/
def firstN (l : List Nat) : Nat := l.headD 0
def someN (l : List Nat) : Bool := !l.isEmpty
def NextOk (l : List Nat) (w : World) (e : Ending) (w' : World) : Prop :=
  e = .returned (.tuple #[.int .i64 (firstN l : Int), .bool (someN l)]) ∧ Below w.heap.size w w'

end Go.Proofs.YtpjbgbgahjggiaaGreat.Bit
