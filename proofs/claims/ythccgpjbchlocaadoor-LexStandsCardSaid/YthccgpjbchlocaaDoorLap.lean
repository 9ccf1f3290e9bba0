/- Law LexStands: where a text goes wrong; its walk, whatever the text. -/
import Derived.Test.YthccgpjbchlocaaDoorLao
namespace Go.Proofs.YthccgpjbchlocaaDoor
open Go.RowKit

set_option maxRecDepth 100000 in
set_option maxHeartbeats 4000000 in
theorem stands_bad (s a : ByteArray) (p : Nat) (er : Int) (hp : p < a.size) (_ha : a.size ≤ 1500) (her : er = 120 ∨ er = 121)
    (HC : Hid (∀ w : World, Calls Tryd.prog 5 #[.string s] w fun e w' => e = .returned (.string a) ∧ w = w'))
    (HA : Hid (∀ w : World, Calls Tryd.prog 6 #[.string a] w (AllIs [] 0 p er w))) (w : World) :
    Calls Tryd.prog 3 #[.string s] w fun e w' => e = .returned (.bool true) ∧ Below w.heap.size w w' := by
  have H0 := Lib.hid (wakes_lex w)
  have hb1 : (er != 0) = true := by simp; omega
  have j0 : (0 : Int) ≤ (p : Int) := by omega
  have j1 : (p : Int) < (a.size : Int) := by omega
  have j2 : decide (p < a.size) = true := by simpa using hp
  by_cases h120 : er = 120
  · have h1 : (er == 120) = true := by simpa using h120
    clear her h120
    go_enter Tryd.func3, Tryd.ntmps3
    go_wp2_with fail
    refine H0.out.mono ?_
    rintro e w1 ⟨rfl, b1⟩
    go_wp2_with fail
    refine (HC.out _).mono ?_
    rintro e wx ⟨rfl, rfl⟩
    go_wp2_with fail
    refine (HA.out _).mono ?_
    rintro e w2 ⟨A2, c2, rfl, _, q2, _, _, _⟩
    have b2 := b1.trans (q2.mono b1.size)
    clear b1 q2
    go_wp2_with fail
    go_ret
    exact ⟨rfl, b2⟩
  · have h1 : (er == 120) = false := by simpa using h120
    have h2 : (er == 121) = true := by simp; omega
    clear her h120
    go_enter Tryd.func3, Tryd.ntmps3
    go_wp2_with fail
    refine H0.out.mono ?_
    rintro e w1 ⟨rfl, b1⟩
    go_wp2_with fail
    refine (HC.out _).mono ?_
    rintro e wx ⟨rfl, rfl⟩
    go_wp2_with fail
    refine (HA.out _).mono ?_
    rintro e w2 ⟨A2, c2, rfl, _, q2, _, _, _⟩
    have b2 := b1.trans (q2.mono b1.size)
    clear b1 q2
    go_wp2_with fail
    go_ret
    exact ⟨rfl, b2⟩

theorem all_len3 (l : List UInt8) : (allL l).1.length ≤ l.length + 1 := by
  rw [allL_seq]
  have key : ∀ xs : List Ans, (resOf l.length xs).1.length ≤ xs.length := by
    intro xs
    induction xs with
    | nil => exact Nat.le_refl _
    | cons x xs ih =>
      rw [resOf]
      split
      · simp
      · split
        · simp; exact ih
        · simp
  have := key (seqL l)
  have := seqL_len l
  omega
/-- LexStands answers true, whatever the text. -/
theorem stands_core (s : ByteArray) (hs : s.size ≤ 9223372036854775807) (w : World) :
    Calls Tryd.prog 3 #[.string s] w fun e w' => e = .returned (.bool true) ∧ Below w.heap.size w w' := by
  have hca := cutS_size s
  have HC := Lib.hid fun w => cut_any2 s hs w
  generalize cutS s = a at *
  have sa := Lib.size_eq a
  have hln := all_len3 a.data.toList
  by_cases h0 : (allL a.data.toList).2.2 = 0
  · have HA := fun w => all_is a (by omega) (ts := (allL a.data.toList).1) (p := a.size) (er := 0) (by rw [sa, ← all_place h0, ← h0]) rfl w
    exact stands_good s a _ _ rfl (by omega) hca (chain_all h0) HC HA w
  · have HA := fun w => all_is a (by omega) (ts := []) (p := (allL a.data.toList).2.1) (er := (allL a.data.toList).2.2) (by rw [← all_none h0]) rfl w
    obtain ⟨h1, h2⟩ := err_place h0
    exact stands_bad s a _ _ (by omega) hca h2 HC HA w
end Go.Proofs.YthccgpjbchlocaaDoor
