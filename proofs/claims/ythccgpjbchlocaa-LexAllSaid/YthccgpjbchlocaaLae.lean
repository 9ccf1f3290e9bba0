/- Layer lex: slices of tokens compared, and copied, by the library: contracts at this program. -/
import Derived.Test.YthccgpjbchlocaaLad
import Derived.Test.YthccgpjbchlocaaWords
import Derived.Laws.StructEq
import Derived.BigQuiet
import Derived.Lib.SliceRun
import Derived.Deep.QuietTactic
namespace Go.Proofs.Ythccgpjbchlocaa
open Go.RowKit

set_option maxRecDepth 100000 in
set_option maxHeartbeats 2000000 in
theorem equal_same (A A2 : Option Addr) (n c c2 : Nat) (zs : List Tz) (hn : n ≤ 1000000) (w : World) (hR : Reads w w.heap.size 4 A n (cellsZ zs)) (hR2 : Reads w w.heap.size 4 A2 n (cellsZ zs)) :
    Calls Try.prog 16 #[.slice A n c, .slice A2 n c2] w fun e w' => e = .returned (.bool true) ∧ Below w.heap.size w w' := by
  have hl : n = zs.length := by have := hR.1; rw [cellsZ_length] at this; omega
  have HR := Lib.hid hR
  have HR2 := Lib.hid hR2
  have HL := Lib.hid hl
  clear hR hR2 hl
  go_enter Try.func16, Try.ntmps16
  go_wp2_with fail
  go_loopw [13] (fun i wr => ∃ k : Nat, k ≤ n ∧ i = .int .i64 k ∧ Below w.heap.size w wr) (fun i _ => n - (intOf i).toNat)
  case atStart => exact ⟨0, Nat.zero_le _, rfl, Below.refl _ _⟩
  case round =>
    obtain ⟨k, hk, rfl, bk⟩ := hrel
    by_cases hlt : k < n
    · obtain ⟨t, ht⟩ : ∃ t, zs[k]? = some t := ⟨zs[k]'(by rw [← HL.out]; exact hlt), List.getElem?_eq_getElem _⟩
      obtain ⟨ad, rfl, g0, g1, g2, g3, had⟩ := toz_cells (HR.out.below bk) ht
      obtain ⟨ad2, rfl, x0, x1, x2, x3, xad⟩ := toz_cells (HR2.out.below bk) ht
      clear ht
      go_wp2_with fail
      go_quiet (fail)
      go_wp2_with fail
      go_roundw
      case rel => exact ⟨k + 1, by omega, by go_num, drewN_below bk _⟩
      case measure => simp [intOf]; omega
    · have hge : ¬ (k : Int) < (n : Int) := by omega
      go_wp2_with fail
      go_ret
      exact ⟨rfl, bk⟩

/-- A copy: its cells lie in memory of the call's own. -/
def CloneIs (n : Nat) (xs : List Value) (w : World) (e : Ending) (w' : World) : Prop :=
  ∃ (A : Option Addr) (c : Nat), e = .returned (.slice A n c) ∧ w'.ownsRow w.heap.size 29 4 (.slice A n c) n xs ∧ Below w.heap.size w w'
theorem tz_one (zs : List Tz) : ∀ u ∈ cellsZ zs, u.oneCell' = true := by
  intro u hu
  unfold cellsZ at hu
  obtain ⟨x, _, hx⟩ := List.mem_flatMap.1 hu
  unfold tzCells at hx
  simp at hx
  rcases hx with rfl | rfl | rfl | rfl <;> rfl

theorem own_new4 (w : World) (t : TypeId) : (w.alloc (.cells #[] t)).ownsRow w.heap.size t 4 (.slice (some ⟨w.heap.size, 0, none⟩) 0 0) 0 [] :=
  ⟨rfl, .inr ⟨w.heap.size, 0, #[], rfl, Nat.le_refl _, by show (w.heap.push _)[w.heap.size]? = _; simp, Nat.le_refl _, Nat.zero_le _, rfl, rfl⟩⟩
theorem own_form {w : World} {base : Nat} {e : TypeId} {size : Nat} {v : Value} {n : Nat} {xs : List Value} (h : w.ownsRow base e size v n xs) : ∃ A c, v = .slice A n c := by
  rcases h.2 with ⟨rfl, rfl⟩ | ⟨g, cap, cur, rfl, _⟩
  · exact ⟨_, _, rfl⟩
  · exact ⟨_, _, rfl⟩

set_option maxRecDepth 100000 in
set_option maxHeartbeats 2000000 in
theorem sclone_none (w : World) :
    Calls Try.prog 17 #[.slice none 0 0] w (CloneIs 0 [] w) := by
  have hq : ∀ w : World, (binOp .eql 34 (.slice none 0 0) (.slice none 0 0)).run Try.prog w = .ok (.bool true) w := fun w => Lib.run_eql_slice_nil w _ _ none 0 0 0 0 Try.underlying34
  go_enter Try.func17, Try.ntmps17
  go_wp2_with fail
  go_ret
  exact ⟨none, 0, rfl, World.ownsRow_nil _ _ _ _, Below.refl _ _⟩

set_option maxRecDepth 100000 in
set_option maxHeartbeats 2000000 in
theorem sclone_some (ad : Addr) (n c : Nat) (zs : List Tz) (hn : n ≤ 1000000) (w : World) (hR : Reads w w.heap.size 4 (some ad) n (cellsZ zs)) :
    Calls Try.prog 17 #[.slice (some ad) n c] w (CloneIs n (cellsZ zs) w) := by
  have hq : ∀ w : World, (binOp .eql 34 (.slice (some ad) n c) (.slice none 0 0)).run Try.prog w = .ok (.bool false) w := fun w => Lib.run_eql_slice_nil w _ _ (some ad) n c 0 0 Try.underlying34
  obtain ⟨i0, hi, hz0, hz1, hz2⟩ := info_parts token_info
  go_enter Try.func17, Try.ntmps17
  go_wp2_with (at_builtin; refine wpList_append_any _ rfl (.tmp 5) (.tmp 6) 34 rfl w.heap.size 29 i0 _ 4 40 Try.underlying34 hi hz0 hz1 hz2 rfl (by decide) _ 0 [] rfl (own_new4 w 29) w.heap.size (some ad) n _ (cellsZ zs) rfl (hR.alloc (Nat.le_refl _) _) (tz_one _) (by unfold maxLen; omega) (by omega) (by simp) ?_; intro v' w2 hown hgrow hat)
  rw [Nat.zero_add, List.nil_append] at hown
  have b2 : Below w.heap.size w w2 := ((Below.refl _ _).alloc (Nat.le_refl _) _).grown hgrow (by simp) (fun j hj => by have e : some w.heap.size = some j := hj; injection e with e; omega)
  obtain ⟨A', c', rfl⟩ := own_form hown
  go_ret
  exact ⟨A', c', rfl, hown, b2⟩
end Go.Proofs.Ythccgpjbchlocaa
