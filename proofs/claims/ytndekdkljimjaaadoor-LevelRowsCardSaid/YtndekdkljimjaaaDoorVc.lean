/- Layer level: Read, and the document's Read: contracts. -/
import Derived.Test.YtndekdkljimjaaaDoorVb
namespace Go.Proofs.YtndekdkljimjaaaDoor
open Go.RowKit

/-- None of the first k levels' texts is it. -/
def NoneTo (s : ByteArray) (k : Nat) : Prop := ∀ j, 1 ≤ j → j ≤ k → lvT j ≠ s
theorem NoneTo.step {s : ByteArray} {k : Nat} (h : NoneTo s k) (hk : lvT (k + 1) ≠ s) : NoneTo s (k + 1) := fun j h1 h2 => by
  rcases Nat.lt_or_ge j (k + 1) with h3 | h3
  · exact h j h1 (by omega)
  · obtain rfl : j = k + 1 := by omega
    exact hk
def ReadIs (s : ByteArray) (w : World) (e : Ending) (w' : World) : Prop := e = .returned (.tuple #[.int .i64 (readI s : Int), .int .i64 (readE s)]) ∧ w = w'
theorem ReadIs.got {s : ByteArray} {w : World} {k : Nat} (hk : k < 4) (h : lvT (k + 1) = s) : ReadIs s w (.returned (.tuple #[.int .i64 ((k + 1 : Nat) : Int), .int .i64 0])) w := by
  have h1 := readI_at (k := k + 1) ⟨by omega, by omega⟩ h
  refine ⟨?_, rfl⟩
  unfold readE
  rw [h1, if_neg (by omega)]
theorem ReadIs.none_ {s : ByteArray} {w : World} (h : NoneTo s 4) : ReadIs s w (.returned (.tuple #[.int .i64 0, .int .i64 190])) w := by
  have h1 := readI_no h
  refine ⟨?_, rfl⟩
  unfold readE
  rw [h1, if_pos rfl]
  rfl

set_option maxHeartbeats 2000000 in
theorem read_any (s : ByteArray) (w : World) (hT : Tabs w) : Calls Tryd.prog 15 #[.string s] w (ReadIs s w) := by
  have z0 := hT.t0
  have z1 := hT.t1
  have z2 := hT.t2
  have z3 := hT.t3
  have e0 := four_sat0
  have e1 := four_sat1
  have e2 := four_sat2
  have e3 := four_sat3
  have HN : Hid (NoneTo s 0) := fun j h1 h2 => by omega
  clear hT
  go_enter Tryd.func15, Tryd.ntmps15
  go_wp2_with fail
  go_loop [7] (fun i => ∃ k : Nat, k ≤ 4 ∧ i = .int .i64 k ∧ Hid (NoneTo s k)) (fun i => 4 - (intOf i).toNat)
  case atStart => exact ⟨0, by omega, rfl, HN⟩
  case round =>
    clear HN
    obtain ⟨k, hk, rfl, HN⟩ := hrel
    have h1 : k = 0 ∨ k = 1 ∨ k = 2 ∨ k = 3 ∨ k = 4 := by omega
    clear hk
    rcases h1 with rfl | rfl | rfl | rfl | rfl
    · by_cases h : lvT 1 = s
      · have hb : ([49] == s.toList) = true := by have := str_yes h; unfold lvT at this; rwa [str_list] at this
        have HR := Lib.hid (ReadIs.got (w := w) (by omega) h)
        clear h
        go_wp2_with fail
        go_ret2
        exact HR.out
      · have hb : ([49] == s.toList) = false := by have := str_no h; unfold lvT at this; rwa [str_list] at this
        have HS := Lib.hid (HN.out.step h)
        clear h
        go_wp2_with fail
        go_round
        case rel => exact ⟨1, by omega, by go_num, HS⟩
        case measure => simp [intOf]
    · by_cases h : lvT 2 = s
      · have hb : ([50] == s.toList) = true := by have := str_yes h; unfold lvT at this; rwa [str_list] at this
        have HR := Lib.hid (ReadIs.got (w := w) (by omega) h)
        clear h
        go_wp2_with fail
        go_ret2
        exact HR.out
      · have hb : ([50] == s.toList) = false := by have := str_no h; unfold lvT at this; rwa [str_list] at this
        have HS := Lib.hid (HN.out.step h)
        clear h
        go_wp2_with fail
        go_round
        case rel => exact ⟨2, by omega, by go_num, HS⟩
        case measure => simp [intOf]
    · by_cases h : lvT 3 = s
      · have hb : ([50, 46, 57, 57] == s.toList) = true := by have := str_yes h; unfold lvT at this; rwa [str_list] at this
        have HR := Lib.hid (ReadIs.got (w := w) (by omega) h)
        clear h
        go_wp2_with fail
        go_ret2
        exact HR.out
      · have hb : ([50, 46, 57, 57] == s.toList) = false := by have := str_no h; unfold lvT at this; rwa [str_list] at this
        have HS := Lib.hid (HN.out.step h)
        clear h
        go_wp2_with fail
        go_round
        case rel => exact ⟨3, by omega, by go_num, HS⟩
        case measure => simp [intOf]
    · by_cases h : lvT 4 = s
      · have hb : ([51] == s.toList) = true := by have := str_yes h; unfold lvT at this; rwa [str_list] at this
        have HR := Lib.hid (ReadIs.got (w := w) (by omega) h)
        clear h
        go_wp2_with fail
        go_ret2
        exact HR.out
      · have hb : ([51] == s.toList) = false := by have := str_no h; unfold lvT at this; rwa [str_list] at this
        have HS := Lib.hid (HN.out.step h)
        clear h
        go_wp2_with fail
        go_round
        case rel => exact ⟨4, by omega, by go_num, HS⟩
        case measure => simp [intOf]
    · have HR := Lib.hid (ReadIs.none_ (w := w) HN.out)
      go_wp2_with fail
      go_ret2
      exact HR.out

set_option maxHeartbeats 2000000 in
theorem rread_any (s : ByteArray) (w : World) : Calls Tryd.prog 17 #[.string s] w fun e w' => e = .returned (.int .i64 (readI s : Int)) ∧ w = w' := by
  have HN : Hid (NoneTo s 0) := fun j h1 h2 => by omega
  go_enter Tryd.func17, Tryd.ntmps17
  go_wp2_with fail
  go_loop [3] (fun i => ∃ k : Nat, k ≤ 4 ∧ i = .int .i64 ((k + 1 : Nat) : Int) ∧ Hid (NoneTo s k)) (fun i => 5 - (intOf i).toNat)
  case atStart => exact ⟨0, by omega, rfl, HN⟩
  case round =>
    clear HN
    obtain ⟨k, hk, rfl, HN⟩ := hrel
    obtain ⟨p, hp⟩ : ∃ p, k + 1 = p := ⟨_, rfl⟩
    rw [hp]
    by_cases h4 : k < 4
    · have hp4 : (p : Int) ≤ 4 := by omega
      have HT := Lib.hid (rtext_any p (by omega) w)
      have HP := Lib.hid hp
      by_cases h : lvT p = s
      · have hb := str_yes h
        have HR := Lib.hid (readI_at (k := p) (by omega) h)
        clear h hp
        generalize lvT p = t at *
        go_wp2_with fail
        refine HT.out.mono ?_
        rintro e w1 ⟨rfl, rfl⟩
        go_wp2_with fail
        go_ret
        exact ⟨by rw [HR.out]; rfl, rfl⟩
      · have hb := str_no h
        have HS : Hid (NoneTo s (k + 1)) := HN.out.step (by rw [hp]; exact h)
        have hw : IntKind.i64.wrap ((p : Int) + 1) = ((k + 1 + 1 : Nat) : Int) := by rw [IntKind.wrap_i64]; omega
        clear h hp
        generalize lvT p = t at *
        go_wp2_with fail
        refine HT.out.mono ?_
        rintro e w1 ⟨rfl, rfl⟩
        go_wp2_with fail
        have h5 := HP.out
        go_round
        case rel => exact ⟨k + 1, by omega, by go_num, HS⟩
        case measure => simp [intOf]; omega
    · have hp4 : ¬ (p : Int) ≤ 4 := by omega
      obtain rfl : k = 4 := by omega
      have HR := Lib.hid (readI_no HN.out)
      clear hp
      go_wp2_with fail
      go_ret
      exact ⟨by rw [HR.out]; rfl, rfl⟩
end Go.Proofs.YtndekdkljimjaaaDoor
