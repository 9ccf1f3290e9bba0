/- Layer bits: slices.ContainsFunc with BitsMay's closure: contract. -/
import Derived.Test.YtpkpfnilfabkaaaDoorBRa
namespace Go.Proofs.YtpkpfnilfabkaaaDoor
open Go.RowKit

theorem notMay_any (z : Int) (w : World) : Calls Tryd.prog 21 #[.int .i64 z] w fun e w' => e = .returned (.bool (!mayB z)) ∧ w = w' := by
  have HM := Lib.hid fun w => lawMay_any z w
  cases hb : mayB z with
  | true =>
    rw [hb] at HM
    clear hb
    go_enter Tryd.func21, Tryd.ntmps21
    go_wp2_with fail
    refine (HM.out _).mono ?_
    rintro e w1 ⟨rfl, rfl⟩
    go_wp2_with fail
    go_ret
    exact ⟨rfl, rfl⟩
  | false =>
    rw [hb] at HM
    clear hb
    go_enter Tryd.func21, Tryd.ntmps21
    go_wp2_with fail
    refine (HM.out _).mono ?_
    rintro e w1 ⟨rfl, rfl⟩
    go_wp2_with fail
    go_ret
    exact ⟨rfl, rfl⟩

/-- Where the first one lies that may not be; none: -1. -/
def IdxIs (l : List Int) (r : Int) : Prop := (mayL l ∧ r = -1) ∨ (¬ mayL l ∧ 0 ≤ r)
set_option maxHeartbeats 1000000 in
theorem index_may (A : Option Addr) (n c : Nat) (l : List Int) (hn : n ≤ 100000) (w : World) (hA : RI w w.heap.size A n l) :
    Calls Tryd.prog 49 #[.slice A n c, .func (.func 21) #[] #[]] w fun e w' => (∃ r, e = .returned (.int .i64 r) ∧ IdxIs l r) ∧ w' = w := by
  have HR := Lib.hid hA
  have HL := Lib.hid hA.len
  clear hA
  go_enter Tryd.func49, Tryd.ntmps49
  go_wp2_with fail
  go_loop [8] (fun i => ∃ k : Nat, k ≤ n ∧ i = .int .i64 k ∧ Hid (∀ z ∈ l.take k, mayB z = true)) (fun i => n - (intOf i).toNat)
  case atStart => exact ⟨0, Nat.zero_le _, rfl, fun z hz => by simp at hz⟩
  case round =>
    obtain ⟨k, hk, rfl, HN⟩ := hrel
    by_cases hlt : k < n
    · obtain ⟨b, o, rfl, hb, hc⟩ := HR.out.at_ hlt
      have hkl : k < l.length := by rw [HL.out]; exact hlt
      have HM := Lib.hid (getD_mem' hkl)
      have HT := Lib.hid (take_snoc' (d := (0 : Int)) hkl)
      clear hkl
      generalize l.getD k 0 = y at *
      have HC := Lib.hid fun w => notMay_any y w
      rcases Bool.eq_false_or_eq_true (mayB y) with hy | hy
      · have HN2 : Hid (∀ z ∈ l.take (k + 1), mayB z = true) := fun z hz => by
          rw [HT.out] at hz
          rcases List.mem_append.1 hz with hz | hz
          · exact HN.out z hz
          · simp at hz; subst hz; exact hy
        rw [hy] at HC
        clear hy
        go_wp2_with fail
        refine (HC.out _).mono ?_
        rintro e w1 ⟨rfl, rfl⟩
        go_wp2_with fail
        go_round
        case rel => exact ⟨k + 1, by omega, by go_num, HN2⟩
        case measure => simp [intOf]; omega
      · have HX : Hid (IdxIs l (k : Int)) := .inr ⟨fun h => by have := h y HM.out; rw [hy] at this; exact Bool.noConfusion this, by omega⟩
        rw [hy] at HC
        clear hy
        go_wp2_with fail
        refine (HC.out _).mono ?_
        rintro e w1 ⟨rfl, rfl⟩
        go_wp2_with fail
        go_ret
        exact ⟨⟨_, rfl, HX.out⟩, rfl⟩
    · obtain rfl : k = n := by omega
      have HX : Hid (IdxIs l (-1)) := .inl ⟨fun z hz => HN.out z (by rw [List.take_of_length_le (by rw [HL.out]; exact Nat.le_refl _)]; exact hz), rfl⟩
      go_wp2_with fail
      go_ret
      exact ⟨⟨_, rfl, HX.out⟩, rfl⟩

theorem contains_may (A : Option Addr) (n c : Nat) (l : List Int) (hl : mayL l) (hn : n ≤ 100000) (w : World) (hA : RI w w.heap.size A n l) :
    Calls Tryd.prog 20 #[.slice A n c, .func (.func 21) #[] #[]] w fun e w' => e = .returned (.bool false) ∧ w' = w := by
  have HI := Lib.hid (index_may A n c l hn w hA)
  have HL := Lib.hid hl
  clear hA hl
  go_enter Tryd.func20, Tryd.ntmps20
  go_wp2_with fail
  refine HI.out.mono ?_
  rintro e w1 ⟨⟨r, rfl, hr⟩, rfl⟩
  have hr1 : r = -1 := by
    rcases hr with ⟨_, h⟩ | ⟨h, _⟩
    · exact h
    · exact absurd HL.out h
  subst hr1
  clear hr
  go_wp2_with fail
  go_ret
  exact ⟨rfl, rfl⟩
theorem contains_not (A : Option Addr) (n c : Nat) (l : List Int) (hl : ¬ mayL l) (hn : n ≤ 100000) (w : World) (hA : RI w w.heap.size A n l) :
    Calls Tryd.prog 20 #[.slice A n c, .func (.func 21) #[] #[]] w fun e w' => e = .returned (.bool true) ∧ w' = w := by
  have HI := Lib.hid (index_may A n c l hn w hA)
  have HL := Lib.hid hl
  clear hA hl
  go_enter Tryd.func20, Tryd.ntmps20
  go_wp2_with fail
  refine HI.out.mono ?_
  rintro e w1 ⟨⟨r, rfl, hr⟩, rfl⟩
  have hr1 : decide (0 ≤ r) = true := by
    rcases hr with ⟨h, _⟩ | ⟨_, h⟩
    · exact absurd h HL.out
    · simpa using h
  clear hr
  go_wp2_with fail
  go_ret
  exact ⟨rfl, rfl⟩
end Go.Proofs.YtpkpfnilfabkaaaDoor
