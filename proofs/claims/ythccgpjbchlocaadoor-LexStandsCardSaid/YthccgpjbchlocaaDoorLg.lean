/- Layer lex: what Next gives, as a contract of the translated call. -/
import Derived.Test.YthccgpjbchlocaaDoorLf
namespace Go.Proofs.YthccgpjbchlocaaDoor
open Go.RowKit

def ansV (a : Ans) : Value := .tuple #[.agg #[.int .i64 a.k, .int .i64 a.a, .string ⟨a.tx.toArray⟩, .bool a.gl], .int .i64 a.p, .int .i64 a.e]

theorem extract_take (s : ByteArray) (p : Nat) : (s.extract 0 p).data.toList = s.data.toList.take p := by
  simp only [ByteArray.data_extract, Array.toList_extract]
  rw [List.extract_eq_take_drop, List.drop_zero, Nat.sub_zero]
theorem extract_mid (s : ByteArray) (q m : Nat) : s.extract q (q + m) = ⟨((s.data.toList.drop q).take m).toArray⟩ := by
  apply ByteArray.ext
  apply Array.ext'
  simp only [ByteArray.data_extract, Array.toList_extract]
  rw [List.extract_eq_take_drop, Nat.add_sub_cancel_left]
theorem size_extract_le (s : ByteArray) (p q : Nat) (h : q ≤ s.size) : (s.extract p q).size ≤ s.size := by
  simp only [ByteArray.size_extract]
  omega

theorem next_any (s : ByteArray) (p : Nat) (hp : p ≤ s.size) (hs : s.size ≤ 1000000) (w : World) :
    Calls Tryd.prog 28 #[.string s, .int .i64 p] w fun e w' => e = .returned (ansV (nextL s.data.toList p).ans) ∧ Below w.heap.size w w' := by
  rw [nextL_ans]
  have hsz := Lib.size_eq s
  have hG := fun w => gap_any (s.extract p s.size) w
  rw [extract_list] at hG
  have hgl := (gap_rest (s.data.toList.drop p)).2
  rw [List.length_drop, ← hsz] at hgl
  cases hb : gapB (s.data.toList.drop p)
  · rw [gapE_no hb] at hG
    simp only [Bool.false_eq_true, if_false]
    generalize gapN (s.data.toList.drop p) = n at *
    have hM := fun w => measure_any (s.extract (p + n) s.size) (by have := size_extract_le s (p + n) s.size (Nat.le_refl _); omega) w
    rw [extract_list] at hM
    have hml := measN_le (s.data.toList.drop (p + n))
    rw [List.length_drop, ← hsz] at hml
    unfold measA
    by_cases hE : measE (s.data.toList.drop (p + n)) = 0
    · rw [hE] at hM
      rw [if_pos hE]
      generalize measN (s.data.toList.drop (p + n)) = m at *
      generalize measK (s.data.toList.drop (p + n)) = k at *
      have hC := fun w => clone_any (s.extract (p + n) (p + n + m)) (by have := size_extract_le s (p + n) (p + n + m) (by omega); omega) w
      have htx := extract_mid s (p + n) m
      unfold ansV
      simp only
      rw [← htx]
      by_cases hk : k < 4
      · rw [decide_eq_true hk, Bool.true_and]
        by_cases h0 : n = 0
        · rw [decide_eq_true h0, Bool.and_true, ← extract_take]
          exact next_touch s _ _ _ p n m k hp hs (by omega) rfl rfl rfl hG hM hC (s.extract 0 p) _ rfl h0 (decide_eq_true hk) (fun w => touched_any _ (by have := size_extract_le s 0 p hp; omega) w) w
        · rw [decide_eq_false h0, Bool.and_false]
          exact next_apart s _ _ _ p n m k hp hs (by omega) rfl rfl rfl hG hM hC h0 (decide_eq_true hk) w
      · rw [decide_eq_false hk, Bool.false_and]
        exact next_end s _ _ _ p n m k hp hs (by omega) rfl rfl rfl hG hM hC (decide_eq_false hk) w
    · rw [if_neg hE]
      exact next_meas s _ _ p n _ _ _ hp hs (by omega) (by omega) rfl rfl (by simpa using hE) hG hM w
  · rw [gapE_yes hb] at hG
    rw [if_pos rfl]
    exact next_gap s _ p _ hp hs (by omega) rfl hG w
end Go.Proofs.YthccgpjbchlocaaDoor
