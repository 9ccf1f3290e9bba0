/- The document's answers of layer digit (package yardarmref01): digits, Text, above, as contracts of the translated calls. -/
import Derived.Test.YtfbbjfjckaojeaaDoorDv
import Derived.Test.YtfbbjfjckaojeaaDoorDq
namespace Go.Proofs.YtfbbjfjckaojeaaDoor
open Go.RowKit

theorem chD_run (u : Nat) (w : World) : (convert 62 9 (.slice (some ⟨w.heap.size, 0, none⟩) 1 1)).run Tryd.prog (w.alloc (.cells #[.int .u8 (48 + (u : Int) % 10)] 5)) =
    .ok (.string (ofL [chD (u % 10)])) (w.alloc (.cells #[.int .u8 (48 + (u : Int) % 10)] 5)) := by
  refine run_convert_bytes_back (P := Tryd.prog) (w.alloc (.cells #[.int .u8 (48 + (u : Int) % 10)] 5)) 62 9 5 ⟨w.heap.size, 0, none⟩ 1 [chD (u % 10)] Tryd.underlying62 Tryd.underlying5 Tryd.underlying9 ?_
  intro j hj
  have hj0 : j = 0 := by simpa using hj
  subst hj0
  rw [Go.WideShapes.add_plain]
  simp
  rw [ofNat_toNat (by omega)]
  omega

set_option maxHeartbeats 400000 in
theorem rdigits_small (u : Nat) (h : u < 10) (w : World) :
    Calls Tryd.prog 26 #[.int .u64 u] w fun e w' => e = .returned (.string (ofL (Lib.decDigits u))) ∧ Below w.heap.size w w' := by
  have hcv := chD_run u
  have he : ofL (Lib.decDigits u) = ofL [chD (u % 10)] := by rw [dec_lt h, Nat.mod_eq_of_lt h]
  rw [he]
  clear he
  go_enter Tryd.func26, Tryd.ntmps26
  go_wp2_with fail
  go_ret
  exact ⟨rfl, (Below.refl _ _).alloc (Nat.le_refl _) _⟩

theorem ofL_append (l m : List UInt8) : ofL l ++ ofL m = ofL (l ++ m) := by
  apply ByteArray.ext
  apply Array.ext'
  simp [ofL]

set_option maxHeartbeats 400000 in
theorem rdigits_big (u : Nat) (h : 10 ≤ u) (hu : u ≤ 18446744073709551615) (hs : (ofL (Lib.decDigits (u / 10))).size ≤ 1000) (H : Hid (∀ w : World, Calls Tryd.prog 26 #[.int .u64 ((u : Int) / 10)] w fun e w' => e = .returned (.string (ofL (Lib.decDigits (u / 10)))) ∧ Below w.heap.size w w')) (w : World) :
    Calls Tryd.prog 26 #[.int .u64 u] w fun e w' => e = .returned (.string (ofL (Lib.decDigits u))) ∧ Below w.heap.size w w' := by
  have hcv := chD_run u
  have he : ofL (Lib.decDigits u) = ofL (Lib.decDigits (u / 10)) ++ ofL [chD (u % 10)] := by rw [dec_ge h, ofL_append]
  rw [he]
  have h1 : (ofL [chD (u % 10)]).size ≤ 1 := by rw [Lib.size_eq, ofL_list]; exact Nat.le_refl _
  generalize ofL [chD (u % 10)] = d at *
  generalize ofL (Lib.decDigits (u / 10)) = t at *
  clear he
  go_enter Tryd.func26, Tryd.ntmps26
  go_wp2_with fail
  refine (H.out _).mono ?_
  rintro e w1 ⟨rfl, b1⟩
  have B1 : Below w.heap.size w w1 := ((Below.refl _ _).alloc (Nat.le_refl _) _).trans (b1.mono (by simp))
  clear b1
  go_wp2_with fail
  go_ret
  exact ⟨rfl, B1⟩

theorem rdigits_any : ∀ (k u : Nat), u < k → u ≤ 18446744073709551615 → ∀ w : World,
    Calls Tryd.prog 26 #[.int .u64 u] w fun e w' => e = .returned (.string (ofL (Lib.decDigits u))) ∧ Below w.heap.size w w' := by
  intro k
  induction k with
  | zero => intro u h; omega
  | succ k ih =>
    intro u h hu w
    by_cases h10 : u < 10
    · exact rdigits_small u h10 w
    · refine rdigits_big u (by omega) hu ?_ (fun w => by have := ih (u / 10) (by omega) (by omega) w; rw [Int.natCast_ediv] at this; exact this) w
      rw [Lib.size_eq, ofL_list]
      have := dec_len 19 (u / 10) (by omega)
      omega

set_option maxHeartbeats 400000 in
theorem rtext_pos (n : Int) (h0 : 0 ≤ n) (h1 : n ≤ 9223372036854775807) (w : World) :
    Calls Tryd.prog 10 #[.int .i64 n] w fun e w' => e = .returned (.string (ofL (Lib.itoa n))) ∧ Below w.heap.size w w' := by
  have hd := fun w => rdigits_any (n.toNat + 1) n.toNat (by omega) (by omega) w
  rw [← itoa_pos h0, Int.toNat_of_nonneg h0] at hd
  have H := Lib.hid hd
  clear hd
  go_enter Tryd.func10, Tryd.ntmps10
  go_wp2_with fail
  refine (H.out _).mono ?_
  rintro e w1 ⟨rfl, b1⟩
  go_wp2_with fail
  go_ret
  exact ⟨rfl, b1⟩

set_option maxHeartbeats 400000 in
theorem rtext_neg (n : Int) (h0 : n < 0) (h1 : -9223372036854775808 ≤ n) (w : World) :
    Calls Tryd.prog 10 #[.int .i64 n] w fun e w' => e = .returned (.string (ofL (Lib.itoa n))) ∧ Below w.heap.size w w' := by
  have hd := fun w => rdigits_any (n.natAbs + 1) n.natAbs (by omega) (by omega) w
  rw [show ((n.natAbs : Nat) : Int) = -(n + 1) + 1 by omega] at hd
  have he : ofL (Lib.itoa n) = ⟨#[45]⟩ ++ ofL (Lib.decDigits n.natAbs) := by rw [itoa_neg h0]; exact (ofL_append [45] _).symm
  rw [he]
  have hs : (ofL (Lib.decDigits n.natAbs)).size ≤ 1000 := by
    rw [Lib.size_eq, ofL_list]
    have := dec_len 19 n.natAbs (by omega)
    omega
  generalize ofL (Lib.decDigits n.natAbs) = t at *
  have H := Lib.hid hd
  clear hd he
  go_enter Tryd.func10, Tryd.ntmps10
  go_wp2_with fail
  refine (H.out _).mono ?_
  rintro e w1 ⟨rfl, b1⟩
  go_wp2_with fail
  go_ret
  exact ⟨rfl, b1⟩

set_option maxHeartbeats 400000 in
theorem above_any (a b : ByteArray) (w : World) :
    Calls Tryd.prog 29 #[.string a, .string b] w fun e w' => e = .returned (.bool (aboveB a b)) ∧ w = w' := by
  unfold aboveB
  by_cases h1 : b.size < a.size
  · rw [decide_eq_true h1, Bool.true_or]
    go_enter Tryd.func29, Tryd.ntmps29
    go_wp2_with fail
    go_ret
    exact ⟨rfl, rfl⟩
  · rw [decide_eq_false h1, Bool.false_or]
    by_cases h2 : a.size = b.size
    · rw [decide_eq_true h2, Bool.true_and]
      have h2b : ((a.size : Int) == (b.size : Int)) = true := by rw [h2]; simp
      have H2 := Lib.hid h2
      clear h2
      go_enter Tryd.func29, Tryd.ntmps29
      go_wp2_with fail
      go_ret
      exact ⟨by rw [Bool.not_or]; rfl, rfl⟩
    · rw [decide_eq_false h2, Bool.false_and]
      have h2b : ((a.size : Int) == (b.size : Int)) = false := beq_eq_false_iff_ne.2 (by omega)
      go_enter Tryd.func29, Tryd.ntmps29
      go_wp2_with fail
      go_ret
      exact ⟨rfl, rfl⟩

theorem rtext_any (n : Int) (h : fitB n = true) (w : World) :
    Calls Tryd.prog 10 #[.int .i64 n] w fun e w' => e = .returned (.string (ofL (Lib.itoa n))) ∧ Below w.heap.size w w' := by
  have hf := (fitB_iff n).1 h
  by_cases h0 : 0 ≤ n
  · exact rtext_pos n h0 hf.2 w
  · exact rtext_neg n (by omega) hf.1 w
end Go.Proofs.YtfbbjfjckaojeaaDoor
