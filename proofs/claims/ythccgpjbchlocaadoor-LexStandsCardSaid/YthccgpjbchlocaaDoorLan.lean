/- Law LexStands: what the library's functions give at it. -/
import Derived.Test.YthccgpjbchlocaaDoorLl
import Derived.Test.YthccgpjbchlocaaDoorLam
import Derived.Shelf.Strings.SlTrimAscii
namespace Go.Proofs.YthccgpjbchlocaaDoor
open Go.RowKit Go.Shelf

def bl2B : ByteArray := ⟨#[32, 9]⟩
theorem trim_any (s : ByteArray) (hs : s.size ≤ 9223372036854775807) (w : World) :
    Calls Tryd.prog 7 #[.string s, .string ⟨#[32, 9]⟩] w fun e w' => e = .returned (.string ⟨(Lib.trimS s.data.toList bl2).toArray⟩) ∧ Below w.heap.size w w' := by
  have hcon := Any.strings_Trim_laid Tryd.lays160 (by kernel_rfl) s ⟨#[32, 9]⟩ w hs (by decide) (ascii_of_all (by decide))
  exact hcon
theorem trimLeft_any (s : ByteArray) (w : World) :
    Calls Tryd.prog 9 #[.string s, .string ⟨#[32, 9]⟩] w fun e w' => e = .returned (.string ⟨(Lib.trimLeftS s.data.toList bl2).toArray⟩) ∧ Below w.heap.size w w' := by
  have hcon := Any.strings_TrimLeft_laid Tryd.lays161 (by kernel_rfl) s ⟨#[32, 9]⟩ w (by decide) (ascii_of_all (by decide))
  exact hcon
theorem sharp_any (m : List UInt8) (w : World) :
    Calls Tryd.prog 8 #[.string ⟨(35 :: m).toArray⟩, .string ⟨#[35]⟩] w fun e w' => e = .returned (.bool true) ∧ w = w' := by
  refine (Tryd.strings_HasPrefix ⟨(35 :: m).toArray⟩ ⟨#[35]⟩ w).mono ?_
  rintro e w' ⟨he, hw⟩
  refine ⟨he.trans ?_, hw.symm⟩
  simp [Lib.hasPrefix, List.isPrefixOf]
end Go.Proofs.YthccgpjbchlocaaDoor
