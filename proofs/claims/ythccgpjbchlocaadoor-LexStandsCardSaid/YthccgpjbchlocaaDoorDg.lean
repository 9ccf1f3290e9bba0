/- Layer digit: what Head gives, as a contract of the translated call. -/
import Derived.Test.YthccgpjbchlocaaDoorDf
namespace Go.Proofs.YthccgpjbchlocaaDoor
open Go.RowKit

theorem signed_tl (s : ByteArray) (w : World) :
    Calls Tryd.prog 63 #[.string s] w fun e w' => e = .returned (.tuple #[.string (tlB s), .func (Fn.func 69) #[] #[.pointer (some ⟨w.heap.size, 0, none⟩)]]) ∧ w' = w.alloc (.cells #[.bool (negS s)] 4) := signed_any s w

theorem drewN_below {B : Nat} {a w : World} (h : Below B a w) (n : Nat) : Below B a (w.drewN n) := ⟨h.os, h.tape, h.output, h.size, h.block⟩

set_option maxHeartbeats 400000 in
theorem head_core (s t : ByteArray) (b : Bool) (r : Nat) (hr : 0 < r) (hrt : r ≤ t.size) (hts : t.size ≤ s.size) (hs : s.size ≤ 9223372036854775807)
    (H1 : Hid (∀ w : World, Calls Tryd.prog 63 #[.string s] w fun e w' => e = .returned (.tuple #[.string t, .func (Fn.func 69) #[] #[.pointer (some ⟨w.heap.size, 0, none⟩)]]) ∧ w' = w.alloc (.cells #[.bool b] 4)))
    (H2 : Hid (∀ w : World, Calls Tryd.prog 64 #[.string t] w fun e w' => e = .returned (.int .i64 r) ∧ Below w.heap.size w w')) (w : World) :
    Calls Tryd.prog 61 #[.string s] w fun e w' => e = .returned (.tuple #[.string (s.extract 0 (s.size - t.size + r)), .string (s.extract (s.size - t.size + r) s.size)]) ∧ Below w.heap.size w w' := by
  have hn0 : ((r : Int) == 0) = false := by simp; omega
  go_enter Tryd.func61, Tryd.ntmps61
  go_wp2_with fail
  refine (H1.out _).mono ?_
  rintro e w1 ⟨rfl, rfl⟩
  go_wp2_with fail
  refine (H2.out _).mono ?_
  rintro e w3 ⟨rfl, b3⟩
  go_wp2_with fail
  have hB : Below w.heap.size w w3 := ((Below.refl _ _).alloc (Nat.le_refl _) _).trans (b3.mono (by simp))
  clear b3
  go_quiet (fail)
  go_wp2_with fail
  go_ret2
  exact ⟨rfl, drewN_below hB _⟩

set_option maxHeartbeats 400000 in
theorem head_none (s t : ByteArray) (b : Bool)
    (H1 : Hid (∀ w : World, Calls Tryd.prog 63 #[.string s] w fun e w' => e = .returned (.tuple #[.string t, .func (Fn.func 69) #[] #[.pointer (some ⟨w.heap.size, 0, none⟩)]]) ∧ w' = w.alloc (.cells #[.bool b] 4)))
    (H2 : Hid (∀ w : World, Calls Tryd.prog 64 #[.string t] w fun e w' => e = .returned (.int .i64 0) ∧ Below w.heap.size w w')) (w : World) :
    Calls Tryd.prog 61 #[.string s] w fun e w' => e = .returned (.tuple #[.string ⟨#[]⟩, .string s]) ∧ Below w.heap.size w w' := by
  go_enter Tryd.func61, Tryd.ntmps61
  go_wp2_with fail
  refine (H1.out _).mono ?_
  rintro e w1 ⟨rfl, rfl⟩
  go_wp2_with fail
  refine (H2.out _).mono ?_
  rintro e w3 ⟨rfl, b3⟩
  go_wp2_with fail
  go_ret2
  exact ⟨rfl, ((Below.refl _ _).alloc (Nat.le_refl _) _).trans (b3.mono (by simp))⟩

theorem tlS_le (s : ByteArray) : (tlS s).length ≤ s.data.toList.length := by
  unfold tlS Lib.trimPrefix
  split
  · simp
  · exact Nat.le_refl _
theorem runL_le (l : List UInt8) : runL l ≤ l.length := by unfold runL; exact List.Sublist.length_le (List.takeWhile_sublist _)
/-- With how many bytes a text begins that are a minus and digits. -/
def headN (s : ByteArray) : Nat := if runL (tlS s) = 0 then 0 else s.data.toList.length - (tlS s).length + runL (tlS s)

theorem extract_none (s : ByteArray) : s.extract 0 0 = ⟨#[]⟩ := by
  apply ByteArray.ext
  simp
theorem extract_whole (s : ByteArray) : s.extract 0 s.size = s := by
  apply ByteArray.ext
  simp

theorem head_any (s : ByteArray) (hs : s.size ≤ 9223372036854775807) (w : World) :
    Calls Tryd.prog 61 #[.string s] w fun e w' => e = .returned (.tuple #[.string (s.extract 0 (headN s)), .string (s.extract (headN s) s.size)]) ∧ Below w.heap.size w w' := by
  have H1 := Lib.hid fun W => signed_tl s W
  have H2 := Lib.hid fun W => run_any (tlB s) W
  rw [tlB_list] at H2
  have hsz : (tlB s).size = (tlS s).length := by rw [Lib.size_eq, tlB_list]
  by_cases h : runL (tlS s) = 0
  · rw [h] at H2
    have := head_none s (tlB s) (negS s) H1 H2 w
    unfold headN
    rw [if_pos h, extract_none, extract_whole]
    exact this
  · have := head_core s (tlB s) (negS s) (runL (tlS s)) (by omega) (by rw [hsz]; exact runL_le _) (by rw [hsz, Lib.size_eq s]; exact tlS_le s) hs H1 H2 w
    unfold headN
    rw [if_neg h]
    rw [hsz, Lib.size_eq s] at this
    rw [Lib.size_eq s]
    exact this
end Go.Proofs.YthccgpjbchlocaaDoor
