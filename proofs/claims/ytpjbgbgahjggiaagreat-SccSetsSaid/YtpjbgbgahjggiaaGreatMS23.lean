/- Layer bits: what List gives, by slices.Collect over the iterator: contracts. -/
import Derived.RangeFuncNested
import Derived.RangeFuncBound
import Derived.RangeFuncCalls
import Derived.RangeFuncLeaves
import Derived.Shelf.Abstract
import Derived.Shelf.RegionOpen
import Derived.WalkKit
import Derived.OwnWalkIn
import Derived.TacticsInMore
import Derived.LoopNIn
import Derived.LoopIn
import Derived.Outline
import Derived.Test.YtpjbgbgahjggiaaGreatMS18
import Derived.Test.YtpjbgbgahjggiaaGreatMS22
import Derived.RangeFuncBox
import Derived.RangeFuncFrom
import Derived.Maps.AppendAt
-- holds: YtpjbgbgahjggiaaGreatEo YtpjbgbgahjggiaaGreatEp
namespace Go.Proofs.YtpjbgbgahjggiaaGreat.Bit
open Go.RowKit Go.Shelf
attribute [local go_sem] Oper.semAt_some

def encN (x : Nat) : Array Value := #[.int .i64 (x : Int)]
theorem block_lt' {W : World} {B : Nat} {o : Obj} (h : W.heap[B]? = some o) : B < W.heap.size := (Array.getElem?_eq_some_iff.1 h).1
theorem grown_none {W W' : World} (h : Below W.heap.size W W') : W.grownBy W' none := ⟨h.os, h.tape, h.output, h.size, fun k hk _ => h.block k hk⟩

theorem andnot_lt' (x a : Nat) (hx : x < 18446744073709551616) : x &&& (18446744073709551615 - a) < 18446744073709551616 := Nat.lt_of_le_of_lt Nat.and_le_left hx

end Go.Proofs.YtpjbgbgahjggiaaGreat.Bit
namespace Go.Proofs.YtpjbgbgahjggiaaGreat.Bit
open Go.RowKit Go.Shelf
attribute [local go_sem] Oper.semAt_some

/-- Numbers from nought on, as numbers. -/
def intsN (l : List Nat) : List Int := l.map fun x : Nat => (x : Int)
theorem intsN_snoc (l : List Nat) (x : Nat) : ints (intsN (l ++ [x])) = ints (intsN l) ++ [.int .i64 (x : Int)] := by unfold ints intsN; simp
theorem intsN_length (l : List Nat) : (ints (intsN l)).length = l.length := by unfold ints intsN; simp
/-- A list of numbers, handed back: it lies in memory of the call's own. -/
def ListOk (l : List Nat) (w : World) (e : Ending) (w' : World) : Prop :=
  ∃ v, e = .returned v ∧ w'.ownsRow w.heap.size 3 1 v l.length (ints (intsN l)) ∧ Below w.heap.size w w'

end Go.Proofs.YtpjbgbgahjggiaaGreat.Bit
