/- Layer digit: what Text, signed and its closure give, as contracts of the translated calls. -/
import Derived.Test.YtfbbjfjckaojeaaDoorDc
namespace Go.Proofs.YtfbbjfjckaojeaaDoor
open Go.RowKit

/-- Whether a text begins with a minus, and what is behind it. -/
def negS (s : ByteArray) : Bool := Lib.hasPrefix s.data.toList [45]
def tlS (s : ByteArray) : List UInt8 := Lib.trimPrefix s.data.toList [45]

theorem cut_any (s : ByteArray) (w : World) :
    Calls Tryd.prog 37 #[.string s, .string ⟨#[45]⟩] w fun e w' => e = .returned (.tuple #[.string ⟨(tlS s).toArray⟩, .bool (negS s)]) ∧ w = w' := by
  refine (Tryd.strings_CutPrefix s ⟨#[45]⟩ w).mono fun e w' hp => ⟨hp.1, hp.2.symm⟩

/-- The closure that signed answers: it holds the block of its one variable. -/
def cloV (b : Nat) : Value := .func (Fn.func 38) #[] #[.pointer (some ⟨b, 0, none⟩)]

set_option maxHeartbeats 400000 in
theorem signed_any (s : ByteArray) (w : World) :
    Calls Tryd.prog 27 #[.string s] w fun e w' => e = .returned (.tuple #[.string ⟨(tlS s).toArray⟩, .func (Fn.func 38) #[] #[.pointer (some ⟨w.heap.size, 0, none⟩)]]) ∧ w' = w.alloc (.cells #[.bool (negS s)] 4) := by
  go_enter Tryd.func27, Tryd.ntmps27
  go_wp2_with (go_at_call 37; refine (cut_any _ _).mono ?_; rintro e w1 ⟨rfl, rfl⟩)
  go_ret2
  exact ⟨rfl, rfl⟩

set_option maxHeartbeats 400000 in
theorem sign_neg (n : Int) (h0 : -1000 ≤ n) (h1 : n ≤ 1000) (b : Nat) (w : World) (hc : w.cell? ⟨b, 0, none⟩ = some (.bool true)) :
    Calls Tryd.prog 38 #[.int .i64 n, .pointer (some ⟨b, 0, none⟩)] w fun e w' => e = .returned (.int .i64 (-n)) ∧ w = w' := by
  have hw : wrap64 (-n) = -n := by unfold wrap64; omega
  have H := Lib.hid hw
  clear hw h0 h1
  go_enter Tryd.func38, Tryd.ntmps38
  go_wp2
  rw [H.out]
  go_ret
  exact ⟨rfl, rfl⟩

set_option maxHeartbeats 400000 in
theorem sign_pos (n : Int) (b : Nat) (w : World) (hc : w.cell? ⟨b, 0, none⟩ = some (.bool false)) :
    Calls Tryd.prog 38 #[.int .i64 n, .pointer (some ⟨b, 0, none⟩)] w fun e w' => e = .returned (.int .i64 n) ∧ w = w' := by
  go_enter Tryd.func38, Tryd.ntmps38
  go_wp2
  go_ret
  exact ⟨rfl, rfl⟩

theorem below_grow (w : World) (k : Nat) (os : Array Obj) : Below w.heap.size w (Sort.grow (w.drewN k) os) :=
  ⟨rfl, rfl, rfl, by rw [Sort.size_grow]; exact Nat.le_add_right _ _, fun i hi => by
    show (w.heap ++ os)[i]? = _
    rw [Array.getElem?_append_left hi]⟩

set_option maxHeartbeats 400000 in
theorem text_any (n : Int) (h0 : -9223372036854775808 ≤ n) (h1 : n ≤ 9223372036854775807) (w : World) (htab : Lib.TabIs Tryd.prog w "internal/strconv.uint64pow10" .u64 Lib.pow10Tab) :
    Calls Tryd.prog 9 #[.int .i64 n] w fun e w' => e = .returned (.string ⟨(Lib.itoa n).toArray⟩) ∧ Below w.heap.size w w' := by
  have H1 := Lib.hid (Tryd.strconv_FormatInt_10 n h0 h1 w htab)
  clear h0 h1 htab
  go_enter Tryd.func9, Tryd.ntmps9
  go_wp2_with fail
  refine H1.out.mono ?_
  rintro e w1 ⟨rfl, k, os, rfl⟩
  go_wp2_with fail
  go_ret
  exact ⟨rfl, below_grow _ _ _⟩
end Go.Proofs.YtfbbjfjckaojeaaDoor
