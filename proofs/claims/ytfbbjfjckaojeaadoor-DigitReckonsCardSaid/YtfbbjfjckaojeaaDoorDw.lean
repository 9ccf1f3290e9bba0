/- Layer digit: what wakes gives, as a contract of the translated call. -/
import Derived.Test.YtfbbjfjckaojeaaDoorDg
import Derived.Lib.AppendIntMem
namespace Go.Proofs.YtfbbjfjckaojeaaDoor
open Go.RowKit

theorem e1n : readN ⟨#[45, 49, 50, 48]⟩ = -120 := by decide +kernel
theorem e1e : readE ⟨#[45, 49, 50, 48]⟩ = 0 := by decide +kernel
theorem e2n : readN ⟨#[57, 50, 50, 51, 51, 55, 50, 48, 51, 54, 56, 53, 52, 55, 55, 53, 56, 48, 56]⟩ = 0 := by decide +kernel
theorem e2e : readE ⟨#[57, 50, 50, 51, 51, 55, 50, 48, 51, 54, 56, 53, 52, 55, 55, 53, 56, 48, 56]⟩ = 111 := by decide +kernel
theorem e3 : headN ⟨#[45, 49, 50, 97, 98]⟩ = 3 := by decide +kernel
theorem e3a : (⟨#[45, 49, 50, 97, 98]⟩ : ByteArray).extract 0 3 = ⟨#[45, 49, 50]⟩ := by decide +kernel
theorem e3b : (⟨#[45, 49, 50, 97, 98]⟩ : ByteArray).extract 3 5 = ⟨#[97, 98]⟩ := by decide +kernel
theorem e4 : Lib.itoa (-120) = [45, 49, 50, 48] := by
  simp [Lib.itoa, Lib.decDigits]

theorem r1 (w : World) : Calls Tryd.prog 12 #[.string ⟨#[45, 49, 50, 48]⟩] w fun e w' => e = .returned (.tuple #[.int .i64 (-120), .int .i64 0]) ∧ Below w.heap.size w w' := by
  have := read_any ⟨#[45, 49, 50, 48]⟩ w
  rw [e1n, e1e] at this
  exact this
theorem r2 (w : World) : Calls Tryd.prog 12 #[.string ⟨#[57, 50, 50, 51, 51, 55, 50, 48, 51, 54, 56, 53, 52, 55, 55, 53, 56, 48, 56]⟩] w fun e w' => e = .returned (.tuple #[.int .i64 0, .int .i64 111]) ∧ Below w.heap.size w w' := by
  have := read_any ⟨#[57, 50, 50, 51, 51, 55, 50, 48, 51, 54, 56, 53, 52, 55, 55, 53, 56, 48, 56]⟩ w
  rw [e2n, e2e] at this
  exact this
theorem r3 (w : World) : Calls Tryd.prog 15 #[.string ⟨#[45, 49, 50, 97, 98]⟩] w fun e w' => e = .returned (.tuple #[.string ⟨#[45, 49, 50]⟩, .string ⟨#[97, 98]⟩]) ∧ Below w.heap.size w w' := by
  have := head_any ⟨#[45, 49, 50, 97, 98]⟩ (by decide) w
  rw [e3, e3a, show (⟨#[45, 49, 50, 97, 98]⟩ : ByteArray).size = 5 from rfl, e3b] at this
  exact this
theorem r4 (w : World) : Calls Tryd.prog 21 #[.int .i64 (-3), .int .i64 5] w fun e w' => e = .returned (.tuple #[.int .i64 (-15), .bool true]) ∧ Below w.heap.size w w' :=
  mul_any (-3) 5 (by decide) (by decide) (by decide) (by decide) w
theorem r5 (w : World) (htab : Lib.TabIs Tryd.prog w "internal/strconv.uint64pow10" .u64 Lib.pow10Tab) : Calls Tryd.prog 9 #[.int .i64 (-120)] w fun e w' => e = .returned (.string ⟨#[45, 49, 50, 48]⟩) ∧ Below w.heap.size w w' := by
  have := text_any (-120) (by decide) (by decide) w htab
  rw [e4] at this
  exact this

/-- The table that the numbers' texts read, in every world behind this one. -/
def Tab (w : World) : Prop := Lib.TabBelow Tryd.prog w.heap.size w "internal/strconv.uint64pow10" .u64 Lib.pow10Tab
theorem Tab.on {w w' : World} (h : Tab w) (hb : Below w.heap.size w w') : Lib.TabIs Tryd.prog w' "internal/strconv.uint64pow10" .u64 Lib.pow10Tab := h w' hb

set_option maxHeartbeats 800000 in
theorem wakes_any (w : World) (htab : Tab w) :
    Calls Tryd.prog 8 #[] w fun e w' => e = .returned (.bool true) ∧ Below w.heap.size w w' := by
  have HT := Lib.hid htab
  clear htab
  go_enter Tryd.func8, Tryd.ntmps8
  go_wp2_with fail
  refine (r1 _).mono ?_
  rintro e w1 ⟨rfl, b1⟩
  go_wp2_with fail
  refine (r2 _).mono ?_
  rintro e w2 ⟨rfl, b2⟩
  have b2 := b1.trans (b2.mono b1.size)
  go_wp2_with fail
  refine (r3 _).mono ?_
  rintro e w3 ⟨rfl, b3⟩
  have b3 := b2.trans (b3.mono b2.size)
  go_wp2_with fail
  refine (r4 _).mono ?_
  rintro e w4 ⟨rfl, b4⟩
  have b4 := b3.trans (b4.mono b3.size)
  clear b1 b2 b3
  go_wp2_with fail
  refine (r5 _ (HT.out.on b4)).mono ?_
  rintro e w5 ⟨rfl, b5⟩
  have b5 := b4.trans (b5.mono b4.size)
  clear b4
  go_wp2_with fail
  go_ret
  exact ⟨rfl, b5⟩
end Go.Proofs.YtfbbjfjckaojeaaDoor
