/- The document's answers of layer lex (package yardarmref02): first, as a contract of the translated call. -/
import Derived.Laws.Runes
import Derived.Test.YtlnbmmaminflcaaGreatDoorM3
import Derived.Test.YtlnbmmaminflcaaGreatDoorM5
-- holds: YtlnbmmaminflcaaGreatDoorVLm
namespace Go.Proofs.YtlnbmmaminflcaaGreatDoor
open Go.RowKit

def firstC (l : List UInt8) : Int := if l = [] then -1 else clsL l
def firstN (l : List UInt8) : Nat := if l = [] then 0 else (decL l).2

theorem pref3 (l : List UInt8) : Lib.hasPrefix l [239, 191, 189] = (decide (3 ≤ l.length) && (l.take 3 == [239, 191, 189])) := by
 unfold Lib.hasPrefix
 rw [Bool.eq_iff_iff, List.isPrefixOf_iff_prefix, Bool.and_eq_true, decide_eq_true_eq, beq_iff_eq]
 constructor
 ·rintro ⟨t, rfl⟩
  simp
 ·rintro ⟨_, h⟩
  exact ⟨l.drop 3, by rw [← h]; exact List.take_append_drop 3 l⟩
theorem extract3 (s : ByteArray) : (s.extract 0 3).toList = s.data.toList.take 3 := by
 rw [ByteArray.toList_eq]
 simp only [ByteArray.data_extract, Array.toList_extract]
 rw [List.extract_eq_take_drop, List.drop_zero]

set_option maxHeartbeats 800000 in
theorem first_nil (w : World) :
 Calls Tryz.prog 107 #[.string ⟨#[]⟩] w fun e w' => e = .returned (.tuple #[.int .i32 (-1), .int .i64 0]) ∧ Below w.heap.size w w' := by
 have hB0 : Below w.heap.size w (w.iter ⟨#[]⟩ 0) := (Below.refl _ _).alloc (Nat.le_refl _) _
 have HB := Lib.hid hB0
 clear hB0
 go_enter Tryz.func107, Tryz.ntmps107
 go_wp2_with fail
 go_loopw [] (fun wr => wr = w.iter ⟨#[]⟩ 0) (fun _ => 0)
 case atStart => rfl
 case round =>
  obtain rfl := hrel
  have hnx : ∀ ty, (Instr.next (.pointer (some ⟨w.heap.size, 0, none⟩)) true ty).run Tryz.prog (w.iter ⟨#[]⟩ 0) = _ := fun ty => run_next_end w ⟨#[]⟩ 0 ty (by decide)
  go_wp2_with fail
  go_ret2
  exact ⟨rfl, HB.out⟩

set_option maxHeartbeats 1600000 in
theorem first_core (s : ByteArray) (h0 : 0 < s.size) (hs : s.size ≤ 1000000) (r : Nat) (d : Nat) (hdec : Utf8.decode s 0 = (r, d)) (v n : Int)
 (hv : ((r : Int) == 65533) = true ∧ (decide ((s.size : Int) < 3) = true ∨ (decide ((s.size : Int) < 3) = false ∧ 3 ≤ s.size ∧ ((s.extract 0 3).toList == [239, 191, 189]) = false)) ∧ v = -1 ∧ n = 1 ∨
  ((r : Int) == 65533) = true ∧ (decide ((s.size : Int) < 3) = false ∧ 3 ≤ s.size) ∧ ((s.extract 0 3).toList == [239, 191, 189]) = true ∧ v = r ∧ n = (Utf8.encode (r : Int)).size ∨
  ((r : Int) == 65533) = false ∧ v = r ∧ n = (Utf8.encode (r : Int)).size) (w : World) :
 Calls Tryz.prog 107 #[.string s] w fun e w' => e = .returned (.tuple #[.int .i32 v, .int .i64 n]) ∧ Below w.heap.size w w' := by
 have hB0 : ∀ p, Below w.heap.size w (w.iter s p) := fun p => (Below.refl _ _).alloc (Nat.le_refl _) _
 have HB := Lib.hid hB0
 have hcv : ∀ w : World, (convert 21 9 (.int .i32 (r : Int))).run Tryz.prog w = .ok (.string (Utf8.encode (r : Int))) w := fun w => run_convert_int_string w 21 9 .i32 (r : Int) (by rw [Tryz.underlying21]; rfl) Tryz.underlying9
 have hnx : ∀ ty, (Instr.next (.pointer (some ⟨w.heap.size, 0, none⟩)) true ty).run Tryz.prog (w.iter s 0) = .ok (.tuple #[.bool true, .int .i64 (0 : Nat), .int .i32 (r : Nat)]) (w.iter s (0 + d)) := fun ty => by rw [run_next_any w s 0 ty h0, hdec]
 generalize Utf8.encode (r : Int) = t at *
 clear hB0 hdec
 rcases hv with ⟨h1, h2, rfl, rfl⟩ | ⟨h1, ⟨h2, h4⟩, h3, rfl, rfl⟩ | ⟨h1, rfl, rfl⟩
 ·rcases h2 with h2 | ⟨h2, h4, h3⟩
  ·go_enter Tryz.func107, Tryz.ntmps107
   go_wp2_with fail
   go_loopw [] (fun wr => wr = w.iter s 0) (fun _ => 0)
   case atStart => rfl
   case round =>
    obtain rfl := hrel
    go_wp2_with fail
    go_ret2
    exact ⟨rfl, HB.out _⟩
  ·go_enter Tryz.func107, Tryz.ntmps107
   go_wp2_with fail
   go_loopw [] (fun wr => wr = w.iter s 0) (fun _ => 0)
   case atStart => rfl
   case round =>
    obtain rfl := hrel
    go_wp2_with fail
    go_ret2
    exact ⟨rfl, HB.out _⟩
 ·go_enter Tryz.func107, Tryz.ntmps107
  go_wp2_with fail
  go_loopw [] (fun wr => wr = w.iter s 0) (fun _ => 0)
  case atStart => rfl
  case round =>
   obtain rfl := hrel
   go_wp2_with fail
   go_ret2
   exact ⟨rfl, HB.out _⟩
 ·go_enter Tryz.func107, Tryz.ntmps107
  go_wp2_with fail
  go_loopw [] (fun wr => wr = w.iter s 0) (fun _ => 0)
  case atStart => rfl
  case round =>
   obtain rfl := hrel
   go_wp2_with fail
   go_ret2
   exact ⟨rfl, HB.out _⟩

theorem first_any (s : ByteArray) (hs : s.size ≤ 1000000) (w : World) :
 Calls Tryz.prog 107 #[.string s] w fun e w' => e = .returned (.tuple #[.int .i32 (firstC s.data.toList), .int .i64 (firstN s.data.toList)]) ∧ Below w.heap.size w w' := by
 by_cases h0 : s.data.toList = []
 ·unfold firstC firstN
  rw [if_pos h0, if_pos h0]
  have : s = ⟨#[]⟩ := by
   apply ByteArray.ext
   exact Array.toList_eq_nil_iff.1 h0
  rw [this]
  exact first_nil w
 ·have hsz : 0 < s.size := by
   rw [Lib.size_eq]
   cases h : s.data.toList with
   | nil => exact absurd h h0
   | cons => simp
  unfold firstC firstN
  rw [if_neg h0, if_neg h0]
  have hdec := decode_drop s 0
  rw [List.drop_zero] at hdec
  have hw := wrong_pref s.data.toList
  rw [pref3, ← extract3, ← Lib.size_eq] at hw
  refine first_core s hsz hs (decL s.data.toList).1 (decL s.data.toList).2 hdec _ _ ?_ w
  cases hb : bad s.data.toList
  ·rw [cls_good hb, ← encode_dec hb]
   rw [hb] at hw
   by_cases hr : (decL s.data.toList).1 = 65533
   ·rw [decide_eq_true hr, Bool.true_and, Bool.not_eq_false', Bool.and_eq_true, decide_eq_true_eq] at hw
    exact .inr (.inl ⟨by simp; omega, ⟨by simp; omega, hw.1⟩, hw.2, rfl, rfl⟩)
   ·exact .inr (.inr ⟨by simp; omega, rfl, rfl⟩)
  ·have hdl : decL s.data.toList = (65533, 1) := by unfold bad at hb; simpa using hb
   rw [cls_bad hb, hdl]
   rw [hb, hdl, decide_eq_true rfl, Bool.true_and, Bool.not_eq_true', Bool.and_eq_false_iff, decide_eq_false_iff_not] at hw
   refine .inl ⟨rfl, ?_, rfl, rfl⟩
   by_cases h3 : s.size < 3
   ·exact .inl (by simp; omega)
   ·rcases hw with hw | hw
    ·omega
    ·exact .inr ⟨by simp; omega, by omega, hw⟩
end Go.Proofs.YtlnbmmaminflcaaGreatDoor
