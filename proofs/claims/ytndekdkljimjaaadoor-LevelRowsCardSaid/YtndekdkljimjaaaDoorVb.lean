/- Layer level: Check, Text, Read, and the document's Right, Text, Read: contracts. -/
import Derived.Test.YtndekdkljimjaaaDoorVa
namespace Go.Proofs.YtndekdkljimjaaaDoor
open Go.RowKit

theorem check_any (l : Int) (w : World) : Calls Tryd.prog 11 #[.int .i64 l] w fun e w' => e = .returned (.int .i64 (levE l)) ∧ w = w' := by
  cases h : levB l
  · have HE := Lib.hid (levE_no h)
    have h1 : l < 1 ∨ 4 < l := by unfold levB at h; simp at h; omega
    clear h
    by_cases h2 : l < 1
    · clear h1
      go_enter Tryd.func11, Tryd.ntmps11
      go_wp2_with fail
      go_ret
      exact ⟨by rw [HE.out]; rfl, rfl⟩
    · have h3 : l > 4 := by omega
      clear h1
      go_enter Tryd.func11, Tryd.ntmps11
      go_wp2_with fail
      go_ret
      exact ⟨by rw [HE.out]; rfl, rfl⟩
  · have HE := Lib.hid (levE_ok h)
    have h1 : ¬ l < 1 := by have := levB_iff.1 h; omega
    have h2 : ¬ l > 4 := by have := levB_iff.1 h; omega
    clear h
    go_enter Tryd.func11, Tryd.ntmps11
    go_wp2_with fail
    go_ret
    exact ⟨by rw [HE.out]; rfl, rfl⟩

theorem text_any (l : Int) (w : World) (hT : Tabs w) : Calls Tryd.prog 9 #[.int .i64 l] w fun e w' => e = .returned (.tuple #[.string (levT l), .int .i64 (levE l)]) ∧ w = w' := by
  have HC := Lib.hid (check_any l w)
  cases h : levB l
  · have HE := Lib.hid (levE_no h)
    have HX := Lib.hid (levT_no h)
    rw [levE_no h] at HC
    clear h
    go_enter Tryd.func9, Tryd.ntmps9
    go_wp2_with fail
    refine HC.out.mono ?_
    rintro e w1 ⟨rfl, rfl⟩
    go_wp2_with fail
    go_ret2
    exact ⟨by rw [HE.out, HX.out]; rfl, rfl⟩
  · have HE := Lib.hid (levE_ok h)
    have HX := Lib.hid (levT_ok h)
    rw [levE_ok h] at HC
    have h1 : l = 1 ∨ l = 2 ∨ l = 3 ∨ l = 4 := by have := levB_iff.1 h; omega
    have z0 := hT.t0
    have z1 := hT.t1
    have z2 := hT.t2
    have z3 := hT.t3
    clear h
    rcases h1 with rfl | rfl | rfl | rfl
    all_goals
      go_enter Tryd.func9, Tryd.ntmps9
      go_wp2_with fail
      refine HC.out.mono ?_
      rintro e w1 ⟨rfl, rfl⟩
      go_wp2_with fail
      go_ret2
      exact ⟨by rw [HE.out, HX.out]; rfl, rfl⟩

theorem rright_any (l : Int) (w : World) : Calls Tryd.prog 10 #[.int .i64 l] w fun e w' => e = .returned (.bool (levB l)) ∧ w = w' := by
  cases h : levB l
  · have h1 : l < 1 ∨ 4 < l := by unfold levB at h; simp at h; omega
    clear h
    by_cases h2 : l ≥ 1
    · have h3 : ¬ l ≤ 4 := by omega
      clear h1
      go_enter Tryd.func10, Tryd.ntmps10
      go_wp2_with fail
      go_ret
      exact ⟨rfl, rfl⟩
    · clear h1
      go_enter Tryd.func10, Tryd.ntmps10
      go_wp2_with fail
      go_ret
      exact ⟨rfl, rfl⟩
  · have h1 : l ≥ 1 := by have := levB_iff.1 h; omega
    have h2 : l ≤ 4 := by have := levB_iff.1 h; omega
    clear h
    go_enter Tryd.func10, Tryd.ntmps10
    go_wp2_with fail
    go_ret
    exact ⟨rfl, rfl⟩

theorem five_at1 (a b c d e : ByteArray) (W : World) : (Instr.index 51 (.agg #[.string a, .string b, .string c, .string d, .string e]) (.int .i64 1)).run Tryd.prog W = .ok (.string b) W := by kernel_rfl
theorem five_at2 (a b c d e : ByteArray) (W : World) : (Instr.index 51 (.agg #[.string a, .string b, .string c, .string d, .string e]) (.int .i64 2)).run Tryd.prog W = .ok (.string c) W := by kernel_rfl
theorem five_at3 (a b c d e : ByteArray) (W : World) : (Instr.index 51 (.agg #[.string a, .string b, .string c, .string d, .string e]) (.int .i64 3)).run Tryd.prog W = .ok (.string d) W := by kernel_rfl
theorem five_at4 (a b c d e : ByteArray) (W : World) : (Instr.index 51 (.agg #[.string a, .string b, .string c, .string d, .string e]) (.int .i64 4)).run Tryd.prog W = .ok (.string e) W := by kernel_rfl
theorem four_sat0 (a b c d : ByteArray) (W : World) : (Instr.index 50 (.agg #[.string a, .string b, .string c, .string d]) (.int .i64 0)).run Tryd.prog W = .ok (.string a) W := by kernel_rfl
theorem four_sat1 (a b c d : ByteArray) (W : World) : (Instr.index 50 (.agg #[.string a, .string b, .string c, .string d]) (.int .i64 1)).run Tryd.prog W = .ok (.string b) W := by kernel_rfl
theorem four_sat2 (a b c d : ByteArray) (W : World) : (Instr.index 50 (.agg #[.string a, .string b, .string c, .string d]) (.int .i64 2)).run Tryd.prog W = .ok (.string c) W := by kernel_rfl
theorem four_sat3 (a b c d : ByteArray) (W : World) : (Instr.index 50 (.agg #[.string a, .string b, .string c, .string d]) (.int .i64 3)).run Tryd.prog W = .ok (.string d) W := by kernel_rfl

theorem rtext_any (l : Nat) (hl : 1 ≤ l ∧ l ≤ 4) (w : World) : Calls Tryd.prog 12 #[.int .i64 (l : Int)] w fun e w' => e = .returned (.string (lvT l)) ∧ w = w' := by
  have h1 : l = 1 ∨ l = 2 ∨ l = 3 ∨ l = 4 := by omega
  have e1 := five_at1
  have e2 := five_at2
  have e3 := five_at3
  have e4 := five_at4
  clear hl
  rcases h1 with rfl | rfl | rfl | rfl
  all_goals
    try simp only [Int.cast_ofNat_Int]
    go_enter Tryd.func12, Tryd.ntmps12
    go_wp2_with fail
    go_ret
    exact ⟨rfl, rfl⟩
end Go.Proofs.YtndekdkljimjaaaDoor
