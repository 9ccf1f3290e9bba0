/- Layer lex: what wakes and cut give, as contracts of the translated calls. -/
import Derived.Test.YthccgpjbchlocaaDoorLk
namespace Go.Proofs.YthccgpjbchlocaaDoor
open Go.RowKit

/-- The text that the laws go through. -/
def cutS (s : ByteArray) : ByteArray := s.extract 0 (min (s.size : Int) 1500).toNat
theorem cutS_size (s : ByteArray) : (cutS s).size ≤ 1500 := by
  unfold cutS
  simp only [ByteArray.size_extract]
  omega
set_option maxHeartbeats 400000 in
theorem cut_any2 (s : ByteArray) (hs : s.size ≤ 9223372036854775807) (w : World) :
    Calls Tryd.prog 5 #[.string s] w fun e w' => e = .returned (.string (cutS s)) ∧ w = w' := by
  go_enter Tryd.func5, Tryd.ntmps5
  go_wp2_with fail
  go_ret
  exact ⟨rfl, rfl⟩

/-- All's answer, as a slice that reads as the tokens. -/
def AllIs (ts : List Tk) (n p : Nat) (er : Int) (w : World) (e : Ending) (w' : World) : Prop :=
  ∃ (A : Option Addr) (c : Nat), e = .returned (.tuple #[.slice A n c, .int .i64 p, .int .i64 er]) ∧ Reads w' w'.heap.size 4 A n (cellsT ts) ∧ Below w.heap.size w w' ∧
    n ≤ c ∧ c ≤ 9223372036854775807 ∧ (A = none ∨ ∃ g, A = some ⟨g, 0, none⟩)
theorem all_is (s : ByteArray) (hs : s.size ≤ 1000000) {ts : List Tk} {n p : Nat} {er : Int} (h : allL s.data.toList = (ts, p, er)) (hn : ts.length = n) (w : World) : Calls Tryd.prog 6 #[.string s] w (AllIs ts n p er w) :=
  (all_any s hs w).mono fun e w' ⟨v, he, hown, hB⟩ => by
    rw [h] at he hown
    simp only [hn] at he hown
    rcases hown.2 with ⟨rfl, h0⟩ | ⟨g, cap, cur, rfl, h1, h2, h3, h4, h5⟩
    · subst h0
      exact ⟨none, 0, he, Reads.of_own hown, hB, by omega, by decide, .inl rfl⟩
    · exact ⟨_, cap, he, Reads.of_own hown, hB, h3, by unfold maxLen at h4; omega, .inr ⟨g, rfl⟩⟩

theorem items_asc : ∀ {l : List UInt8}, (l.all fun c => decide (c.toNat < 128)) = true → items l = l.map fun c => ((c.toNat : Int), [c])
  | [], _ => items_nil
  | c :: l, h => by
    simp only [List.all_cons, Bool.and_eq_true, decide_eq_true_eq] at h
    rw [items_low h.1, items_asc h.2]
    rfl
def ex1 : List UInt8 := [114, 101, 97, 100, 32, 84, 49, 32, 120, 32, 84, 50, 46, 51, 32, 35, 32, 101, 110, 100, 10]
def ex3 : List UInt8 := [57, 50, 50, 51, 51, 55, 50, 48, 51, 54, 56, 53, 52, 55, 55, 53, 56, 48, 56]
theorem all_ex1 : allL ex1 = ([⟨1, 0, [114, 101, 97, 100], false⟩, ⟨1, 5, [84, 49], false⟩, ⟨1, 8, [120], false⟩, ⟨1, 10, [84, 50], false⟩, ⟨3, 12, [46], true⟩, ⟨2, 13, [51], true⟩, ⟨4, 20, [10], false⟩], 21, 0) := by
  unfold allL ex1
  rw [items_asc (by decide)]
  kernel_rfl
theorem all_ex2 : allL [97, 36] = ([], 1, 120) := by
  unfold allL
  rw [items_asc (by decide)]
  kernel_rfl
theorem all_ex3 : allL ex3 = ([], 0, 121) := by
  unfold allL ex3
  rw [items_asc (by decide)]
  kernel_rfl
theorem word_ex : wordB [97, 49] = true := by
  unfold wordB wordErr wordBad wordN
  rw [items_asc (by decide)]
  kernel_rfl

theorem cellsT_prefix (ts : List Tk) (k : Nat) {j : Nat} {u : Value} (h : (cellsT (ts.take k))[j]? = some u) : (cellsT ts)[j]? = some u := by
  have hp : cellsT ts = cellsT (ts.take k) ++ cellsT (ts.drop k) := by
    unfold cellsT
    rw [← List.flatMap_append, List.take_append_drop]
  rw [hp, List.getElem?_append_left (List.getElem?_eq_some_iff.1 h).1]
  exact h
theorem reads_take {w : World} {B n : Nat} {A : Option Addr} {ts : List Tk} (h : Reads w B 4 A n (cellsT ts)) (k : Nat) (hk : k ≤ n) : Reads w B 4 A k (cellsT (ts.take k)) := by
  have hl := h.1
  rw [cellsT_length] at hl
  refine ⟨by rw [cellsT_length, List.length_take]; congr 1; omega, fun h0 => ?_⟩
  obtain ⟨ad, rfl, hb, hc⟩ := h.2 (by omega)
  exact ⟨ad, rfl, hb, fun j u hu => hc j u (cellsT_prefix ts k hu)⟩

set_option maxRecDepth 100000 in
set_option maxHeartbeats 4000000 in
theorem wakes_lex (w : World) : Calls Tryd.prog 4 #[] w fun e w' => e = .returned (.bool true) ∧ Below w.heap.size w w' := by
  have H1 := Lib.hid fun w => all_is ⟨ex1.toArray⟩ (by decide) (n := 7) all_ex1 rfl w
  have H2 := Lib.hid fun w => all_is ⟨#[97, 36]⟩ (by decide) (n := 0) all_ex2 rfl w
  have H3 := Lib.hid fun w => all_is ⟨ex3.toArray⟩ (by decide) (n := 0) all_ex3 rfl w
  have HW := Lib.hid fun w => Word_any ⟨#[97, 49]⟩ (by decide) w
  rw [show wordB (⟨#[97, 49]⟩ : ByteArray).data.toList = true from word_ex] at HW
  unfold ex1 at H1
  unfold ex3 at H3
  go_enter Tryd.func4, Tryd.ntmps4
  go_wp2_with fail
  refine (H1.out _).mono ?_
  rintro e w1 ⟨A, c, rfl, hr1, b1, hc1, hc2, hA⟩
  go_wp2_with fail
  refine (H2.out _).mono ?_
  rintro e w2 ⟨A2, c2, rfl, _, b2, _, _, _⟩
  go_wp2_with fail
  refine (H3.out _).mono ?_
  rintro e w3 ⟨A3, c3, rfl, _, b3, _, _, _⟩
  have hr3 := (hr1.below b2).below (b3.mono b2.size)
  have B3 : Below w.heap.size w w3 := (b1.trans (b2.mono b1.size)).trans (b3.mono (b1.trans (b2.mono b1.size)).size)
  obtain ⟨ad, rfl, had, hcell⟩ := hr3.2 (by decide)
  obtain ⟨g, hg⟩ : ∃ g, ad = ⟨g, 0, none⟩ := by
    rcases hA with h | ⟨g, h⟩
    · cases h
    · exact ⟨g, Option.some.inj h⟩
  subst hg
  have k4 : w3.cell? ⟨g, 16, none⟩ = some (.int .i64 3) := hcell 16 _ rfl
  have k5 : w3.cell? ⟨g, 23, none⟩ = some (.bool true) := hcell 23 _ rfl
  have k6 : w3.cell? ⟨g, 24, none⟩ = some (.int .i64 4) := hcell 24 _ rfl
  have had' : w1.heap.size ≤ w3.heap.size := Nat.le_trans b2.size b3.size
  have HR3 := Lib.hid hr3
  clear hr3 hr1 b1 b2 b3 hA hcell
  go_wp2_with fail
  refine (HW.out _).mono ?_
  rintro e w4 ⟨rfl, b4⟩
  have HR4 := Lib.hid (((reads_take HR3.out 2 (by decide)).below (b4.mono had')).more (B' := w4.heap.size) (by have := b4.size; omega))
  have B4 := Lib.hid (B3.trans (b4.mono B3.size))
  clear b4
  go_wp2_with fail
  refine (spell_any _ 2 _ _ rfl (by decide) (by decide) w4 HR4.out).mono ?_
  rintro e w5 ⟨rfl, b5⟩
  have B5 := Lib.hid (B4.out.trans (b5.mono B4.out.size))
  clear b5
  go_wp2_with fail
  go_ret
  exact ⟨rfl, B5.out⟩
end Go.Proofs.YthccgpjbchlocaaDoor
