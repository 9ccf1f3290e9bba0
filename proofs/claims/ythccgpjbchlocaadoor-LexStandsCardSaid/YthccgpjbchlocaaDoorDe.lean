/- Layer digit: what isDigit, run and looks give, as contracts of the translated calls. -/
import Derived.Test.YthccgpjbchlocaaDoorDc
import Derived.Test.YthccgpjbchlocaaDoorDs
namespace Go.Proofs.YthccgpjbchlocaaDoor
open Go.RowKit

set_option maxHeartbeats 400000 in
theorem isDigit_yes (r : Int) (h0 : 48 ≤ r) (h1 : r ≤ 57) (w : World) :
    Calls Tryd.prog 70 #[.int .i32 r] w fun e w' => e = .returned (.bool true) ∧ w = w' := by
  have g0 : decide (48 ≤ r) = true := by simpa using h0
  have g1 : decide (r ≤ 57) = true := by simpa using h1
  go_enter Tryd.func70, Tryd.ntmps70
  go_wp2
  go_ret
  exact ⟨rfl, rfl⟩

set_option maxHeartbeats 400000 in
theorem isDigit_no (r : Int) (h0 : ¬ (48 ≤ r ∧ r ≤ 57)) (w : World) :
    Calls Tryd.prog 70 #[.int .i32 r] w fun e w' => e = .returned (.bool false) ∧ w = w' := by
  by_cases h : 48 ≤ r
  · have g0 : decide (48 ≤ r) = true := by simpa using h
    have g1 : decide (r ≤ 57) = false := by simp; omega
    clear h0
    go_enter Tryd.func70, Tryd.ntmps70
    go_wp2
    go_ret
    exact ⟨rfl, rfl⟩
  · have g0 : decide (48 ≤ r) = false := by simpa using h
    clear h0
    go_enter Tryd.func70, Tryd.ntmps70
    go_wp2
    go_ret
    exact ⟨rfl, rfl⟩

theorem at_data (t : ByteArray) (p : Nat) (h : p < t.size) : t[p]'h = t.data.toList[p]'(by rw [← Lib.size_eq]; exact h) := rfl

/-- What the next rune is: a digit's, or none. -/
theorem next_digit (t : ByteArray) (p : Nat) (h : p < t.size) (hd : isD (t[p]'h) = true) : Utf8.decode t p = ((t[p]'h).toNat, 1) := by
  rw [isD_iff] at hd
  exact decode_ascii t p h (by omega)
theorem next_other (t : ByteArray) (p : Nat) (h : p < t.size) (hd : isD (t[p]'h) = false) : ¬ (48 ≤ ((Utf8.decode t p).1 : Int) ∧ ((Utf8.decode t p).1 : Int) ≤ 57) := by
  have h' : ¬ (48 ≤ (t[p]'h).toNat ∧ (t[p]'h).toNat ≤ 57) := by rw [← isD_iff]; simp [hd]
  by_cases ha : (t[p]'h).toNat < 128
  · rw [decode_ascii t p h ha]
    show ¬ (48 ≤ (((t[p]'h).toNat : Nat) : Int) ∧ (((t[p]'h).toNat : Nat) : Int) ≤ 57)
    omega
  · have := (decode_high t p h (by omega)).1
    omega

set_option maxHeartbeats 400000 in
theorem run_any (t : ByteArray) (w : World) :
    Calls Tryd.prog 64 #[.string t] w fun e w' => e = .returned (.int .i64 (runL t.data.toList)) ∧ Below w.heap.size w w' := by
  have hB0 : ∀ p, Below w.heap.size w (w.iter t p) := fun p => (Below.refl _ _).alloc (Nat.le_refl _) _
  have HB := Lib.hid hB0
  clear hB0
  go_enter Tryd.func64, Tryd.ntmps64
  go_wp2_with fail
  go_loopw [] (fun wr => ∃ p : Nat, p ≤ t.size ∧ wr = w.iter t p ∧ Hid ((t.data.toList.take p).all isD = true)) (fun wr => t.size - wr.iterPos w.heap.size)
  case atStart => exact ⟨0, Nat.zero_le _, rfl, rfl⟩
  case round =>
    obtain ⟨p, hp, rfl, hall⟩ := hrel
    by_cases hlt : p < t.size
    · cases hd : isD (t[p]'hlt)
      · have hr := next_other t p hlt hd
        have hnx : ∀ ty, (Instr.next (.pointer (some ⟨w.heap.size, 0, none⟩)) true ty).run Tryd.prog (w.iter t p) = _ := fun ty => run_next_any w t p ty hlt
        have hrun : runL t.data.toList = p := runL_at hall.out (by rw [← Lib.size_eq]; exact hlt) (by rw [← at_data t p hlt]; exact hd)
        have HR := Lib.hid hrun
        generalize Utf8.decode t p = r at *
        clear hd hrun
        have HI := Lib.hid (isDigit_no (r.1 : Int) hr)
        clear hr
        go_wp2_with (go_at_call 70; refine (HI.out _).mono ?_; rintro e w' ⟨rfl, rfl⟩)
        go_ret
        exact ⟨by rw [HR.out]; rfl, HB.out _⟩
      · have hdec := next_digit t p hlt hd
        have hnx : ∀ ty, (Instr.next (.pointer (some ⟨w.heap.size, 0, none⟩)) true ty).run Tryd.prog (w.iter t p) = .ok (.tuple #[.bool true, .int .i64 p, .int .i32 ((t[p]'hlt).toNat : Nat)]) (w.iter t (p + 1)) := fun ty => by rw [run_next_any w t p ty hlt, hdec]
        have hall2 := Lib.hid (all_step hall.out (by rw [← Lib.size_eq]; exact hlt) (by rw [← at_data t p hlt]; exact hd))
        have hd' := (isD_iff _).1 hd
        generalize (t[p]'hlt).toNat = r at *
        clear hd hdec
        have HI := Lib.hid (isDigit_yes (r : Int) (by omega) (by omega))
        go_wp2_with (go_at_call 70; refine (HI.out _).mono ?_; rintro e w' ⟨rfl, rfl⟩)
        go_roundw
        case rel => exact ⟨p + 1, by omega, rfl, hall2⟩
        case measure => simp; omega
    · obtain rfl : p = t.size := by omega
      have hnx : ∀ ty, (Instr.next (.pointer (some ⟨w.heap.size, 0, none⟩)) true ty).run Tryd.prog (w.iter t t.size) = _ := fun ty => run_next_end w t t.size ty hlt
      have hrun : runL t.data.toList = t.size := by
        have h := hall.out
        rw [Lib.size_eq, List.take_length] at h
        rw [runL_all h, Lib.size_eq]
      have HR := Lib.hid hrun
      clear hrun
      go_wp2_with fail
      go_ret
      exact ⟨by rw [HR.out]; rfl, HB.out _⟩

set_option maxHeartbeats 800000 in
theorem looks_any (t : ByteArray) (below : Bool) (w : World) :
    Calls Tryd.prog 65 #[.string t, .bool below] w fun e w' => e = .returned (.bool (looksL t.data.toList below)) ∧ Below w.heap.size w w' := by
  have hB0 : ∀ p, Below w.heap.size w (w.iter t p) := fun p => (Below.refl _ _).alloc (Nat.le_refl _) _
  have HB := Lib.hid hB0
  clear hB0
  go_enter Tryd.func65, Tryd.ntmps65
  go_wp2_with fail
  go_step3
  go_wp2_with fail
  go_step3
  go_wp2_with fail
  go_loopw [5] (fun f wr => ∃ (p : Nat) (b : Bool), f = .bool b ∧ p ≤ t.size ∧ wr = w.iter t p ∧ Hid (b = decide (0 < p) ∧ (t.data.toList.take p).all isD = true ∧ (p = 0 ∨ leadL t.data.toList below = false))) (fun _ wr => t.size - wr.iterPos w.heap.size)
  case atStart => exact ⟨0, false, rfl, Nat.zero_le _, rfl, rfl, rfl, Or.inl rfl⟩
  case round =>
    obtain ⟨p, b, rfl, hp, rfl, hall⟩ := hrel
    by_cases hlt : p < t.size
    · cases hd : isD (t[p]'hlt)
      · have hr := next_other t p hlt hd
        have hnx : ∀ ty, (Instr.next (.pointer (some ⟨w.heap.size, 0, none⟩)) true ty).run Tryd.prog (w.iter t p) = _ := fun ty => run_next_any w t p ty hlt
        have HR : Hid (looksL t.data.toList below = false) := looksL_not (p := p) (by rw [← Lib.size_eq]; exact hlt) (by rw [← at_data t p hlt]; exact hd)
        generalize Utf8.decode t p = r at *
        clear hd
        have HI := Lib.hid (isDigit_no (r.1 : Int) hr)
        clear hr
        go_wp2_with (go_at_call 70; refine (HI.out _).mono ?_; rintro e w' ⟨rfl, rfl⟩)
        rw [Exit.noGoto_ret]
        go_ret
        exact ⟨by rw [HR.out]; rfl, HB.out _⟩
      · have hdec := next_digit t p hlt hd
        have hnx : ∀ ty, (Instr.next (.pointer (some ⟨w.heap.size, 0, none⟩)) true ty).run Tryd.prog (w.iter t p) = .ok (.tuple #[.bool true, .int .i64 p, .int .i32 ((t[p]'hlt).toNat : Nat)]) (w.iter t (p + 1)) := fun ty => by rw [run_next_any w t p ty hlt, hdec]
        have hall2 := Lib.hid (all_step hall.out.2.1 (by rw [← Lib.size_eq]; exact hlt) (by rw [← at_data t p hlt]; exact hd))
        have hd' := (isD_iff _).1 hd
        have hsz := Lib.size_eq t
        by_cases hp0 : 0 < p
        · have hpb : ((p : Int) == 0) = false := by simp; omega
          have HL : Hid (leadL t.data.toList below = false) := by rcases hall.out.2.2 with h | h; omega; exact h
          generalize (t[p]'hlt).toNat = r at *
          clear hd hdec hsz
          have HI := Lib.hid (isDigit_yes (r : Int) (by omega) (by omega))
          go_wp2_with (go_at_call 70; refine (HI.out _).mono ?_; rintro e w' ⟨rfl, rfl⟩)
          go_roundw
          case rel => exact ⟨p + 1, true, rfl, by omega, rfl, by simp, hall2.out, Or.inr HL.out⟩
          case measure => simp; omega
        · obtain rfl : p = 0 := by omega
          have hp1 : 0 < t.data.toList.length := by rw [← hsz]; exact hlt
          cases hl : leadL t.data.toList below
          · have hno := leadL_no hp1 hl
            rw [← at_data t 0 hlt] at hno
            have HL := Lib.hid hl
            rcases hno with h48 | ⟨rfl, h1⟩
            · generalize (t[0]'hlt).toNat = r at *
              have h48b : ((r : Int) == 48) = false := by simp; omega
              clear hd hdec hsz hl hp1 hp0
              have HI := Lib.hid (isDigit_yes (r : Int) (by omega) (by omega))
              go_wp2_with (go_at_call 70; refine (HI.out _).mono ?_; rintro e w' ⟨rfl, rfl⟩)
              go_roundw
              case rel => exact ⟨1, true, rfl, by omega, rfl, by simp, hall2.out, Or.inr (by first | exact HL.out | trivial)⟩
              case measure => simp; omega
            · rw [← hsz] at h1
              have h1b : ¬ (1 : Int) < (t.size : Int) := by omega
              generalize (t[0]'hlt).toNat = r at *
              clear hd hdec hsz hl hp1 hp0
              have HI := Lib.hid (isDigit_yes (r : Int) (by omega) (by omega))
              by_cases h48 : r = 48
              · have h48b : ((r : Int) == 48) = true := by simp; omega
                have H48 := Lib.hid h48
                clear h48
                go_wp2_with (go_at_call 70; refine (HI.out _).mono ?_; rintro e w' ⟨rfl, rfl⟩)
                go_roundw
                case rel => exact ⟨1, true, rfl, by omega, rfl, by simp, hall2.out, Or.inr (by first | exact HL.out | trivial)⟩
                case measure => simp; omega
              · have h48b : ((r : Int) == 48) = false := by simp; omega
                go_wp2_with (go_at_call 70; refine (HI.out _).mono ?_; rintro e w' ⟨rfl, rfl⟩)
                go_roundw
                case rel => exact ⟨1, true, rfl, by omega, rfl, by simp, hall2.out, Or.inr (by first | exact HL.out | trivial)⟩
                case measure => simp; omega
          · have hyes := leadL_yes hp1 hl
            rw [← at_data t 0 hlt, ← hsz] at hyes
            have HR : Hid (looksL t.data.toList below = false) := looksL_lead hl
            generalize (t[0]'hlt).toNat = r at *
            have h48b : ((r : Int) == 48) = true := by simp; omega
            obtain ⟨h48, hor⟩ := hyes
            clear hd hdec hsz hl hp1 hp0
            have HI := Lib.hid (isDigit_yes (r : Int) (by omega) (by omega))
            have H48 := Lib.hid h48
            clear h48
            cases below
            · have h1b : (1 : Int) < (t.size : Int) := by rcases hor with h | h; cases h; omega
              clear hor
              go_wp2_with (go_at_call 70; refine (HI.out _).mono ?_; rintro e w' ⟨rfl, rfl⟩)
              rw [Exit.noGoto_ret]
              go_ret
              exact ⟨by rw [HR.out]; rfl, HB.out _⟩
            · clear hor
              go_wp2_with (go_at_call 70; refine (HI.out _).mono ?_; rintro e w' ⟨rfl, rfl⟩)
              rw [Exit.noGoto_ret]
              go_ret
              exact ⟨by rw [HR.out]; rfl, HB.out _⟩
    · obtain rfl : p = t.size := by omega
      have hnx : ∀ ty, (Instr.next (.pointer (some ⟨w.heap.size, 0, none⟩)) true ty).run Tryd.prog (w.iter t t.size) = _ := fun ty => run_next_end w t t.size ty hlt
      have hrun : looksL t.data.toList below = b := by
        obtain ⟨hb, ha, hl⟩ := hall.out
        rw [Lib.size_eq, List.take_length] at ha
        rw [Lib.size_eq] at hb hl
        rw [hb, looksL_end ha hl]
      have HR := Lib.hid hrun
      clear hrun
      go_wp2_with fail
      rw [Exit.noGoto_ret]
      go_ret
      exact ⟨by rw [HR.out]; rfl, HB.out _⟩
end Go.Proofs.YthccgpjbchlocaaDoor
