/- Layer digit: what signed and its closure give, as contracts of the translated calls. -/
import Derived.Test.YthccgpjbchlocaaDoorDc
namespace Go.Proofs.YthccgpjbchlocaaDoor
open Go.RowKit

/-- Whether a text begins with a minus, and what is behind it. -/
def negS (s : ByteArray) : Bool := Lib.hasPrefix s.data.toList [45]
def tlS (s : ByteArray) : List UInt8 := Lib.trimPrefix s.data.toList [45]

theorem cut_any (s : ByteArray) (w : World) :
    Calls Tryd.prog 68 #[.string s, .string ⟨#[45]⟩] w fun e w' => e = .returned (.tuple #[.string ⟨(tlS s).toArray⟩, .bool (negS s)]) ∧ w = w' := by
  refine (Tryd.strings_CutPrefix s ⟨#[45]⟩ w).mono fun e w' hp => ⟨hp.1, hp.2.symm⟩

/-- The closure that signed answers: it holds the block of its one variable. -/
def cloV (b : Nat) : Value := .func (Fn.func 69) #[] #[.pointer (some ⟨b, 0, none⟩)]

set_option maxHeartbeats 400000 in
theorem signed_any (s : ByteArray) (w : World) :
    Calls Tryd.prog 63 #[.string s] w fun e w' => e = .returned (.tuple #[.string ⟨(tlS s).toArray⟩, .func (Fn.func 69) #[] #[.pointer (some ⟨w.heap.size, 0, none⟩)]]) ∧ w' = w.alloc (.cells #[.bool (negS s)] 4) := by
  go_enter Tryd.func63, Tryd.ntmps63
  go_wp2_with (go_at_call 68; refine (cut_any _ _).mono ?_; rintro e w1 ⟨rfl, rfl⟩)
  go_ret2
  exact ⟨rfl, rfl⟩

set_option maxHeartbeats 400000 in
theorem sign_neg (n : Int) (h0 : -1000 ≤ n) (h1 : n ≤ 1000) (b : Nat) (w : World) (hc : w.cell? ⟨b, 0, none⟩ = some (.bool true)) :
    Calls Tryd.prog 69 #[.int .i64 n, .pointer (some ⟨b, 0, none⟩)] w fun e w' => e = .returned (.int .i64 (-n)) ∧ w = w' := by
  have hw : wrap64 (-n) = -n := by unfold wrap64; omega
  have H := Lib.hid hw
  clear hw h0 h1
  go_enter Tryd.func69, Tryd.ntmps69
  go_wp2
  rw [H.out]
  go_ret
  exact ⟨rfl, rfl⟩

set_option maxHeartbeats 400000 in
theorem sign_pos (n : Int) (b : Nat) (w : World) (hc : w.cell? ⟨b, 0, none⟩ = some (.bool false)) :
    Calls Tryd.prog 69 #[.int .i64 n, .pointer (some ⟨b, 0, none⟩)] w fun e w' => e = .returned (.int .i64 n) ∧ w = w' := by
  go_enter Tryd.func69, Tryd.ntmps69
  go_wp2
  go_ret
  exact ⟨rfl, rfl⟩

end Go.Proofs.YthccgpjbchlocaaDoor
