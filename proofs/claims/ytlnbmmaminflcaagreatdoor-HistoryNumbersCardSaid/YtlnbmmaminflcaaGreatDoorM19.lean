/- Layer history: rows copied by the library: contracts. -/
import Derived.Lib.AppendIntMem
import Derived.Maps.AppendAt
import Derived.Test.YtlnbmmaminflcaaGreatDoorM16
import Derived.Test.YtlnbmmaminflcaaGreatDoorM18
-- holds: YtlnbmmaminflcaaGreatDoorVIt
namespace Go.Proofs.YtlnbmmaminflcaaGreatDoor
open Go.RowKit Go.Shelf

def CopyT (t : TypeId) (s n : Nat) (xs : List Value) (w : World) (e : Ending) (w' : World) : Prop :=
 ∃ (A : Option Addr) (c : Nat), e = .returned (.slice A n c) ∧ w'.ownsRow w.heap.size t s (.slice A n c) n xs ∧ Below w.heap.size w w'
theorem own_newT (w : World) (t : TypeId) (s : Nat) : (w.alloc (.cells #[] t)).ownsRow w.heap.size t s (.slice (some ⟨w.heap.size, 0, none⟩) 0 0) 0 [] :=
 ⟨by simp, .inr ⟨w.heap.size, 0, #[], rfl, Nat.le_refl _, by show (w.heap.push _)[w.heap.size]? = _; simp, Nat.le_refl _, Nat.zero_le _, by simp, by simp⟩⟩
theorem one_of {α : Type} {enc : α → List Value} (h : ∀ x, ∀ u ∈ enc x, u.oneCell' = true) (l : List α) : ∀ u ∈ l.flatMap enc, u.oneCell' = true := by
 intro u hu
 obtain ⟨x, _, hx⟩ := List.mem_flatMap.1 hu
 exact h x u hx
theorem seCs_one (x : SeenP) : ∀ u ∈ seCs x, u.oneCell' = true := by intro u hu; unfold seCs at hu; simp at hu; rcases hu with rfl | rfl | rfl <;> rfl
theorem evCs_one (x : EvP × SH) : ∀ u ∈ evCs x, u.oneCell' = true := by intro u hu; unfold evCs at hu; simp at hu; rcases hu with rfl | rfl | rfl | rfl | rfl | rfl | rfl | rfl | rfl <;> rfl
theorem odCs_one (x : OrdP × SH) : ∀ u ∈ odCs x, u.oneCell' = true := by intro u hu; unfold odCs at hu; simp at hu; rcases hu with rfl | rfl <;> rfl
theorem maCs_one (x : MatP × SH) : ∀ u ∈ maCs x, u.oneCell' = true := by intro u hu; unfold maCs at hu; simp at hu; rcases hu with rfl | rfl | rfl | rfl <;> rfl
theorem waCs_one (x : WantP) : ∀ u ∈ waCs x, u.oneCell' = true := by intro u hu; unfold waCs at hu; simp at hu; rcases hu with rfl | rfl <;> rfl

theorem ev_info : (Tryz.prog.info? 39).map (fun i => (i.zero, i.size, i.bytes)) = some (some (.agg #[.int .i64 0, .int .i64 0, .int .i64 0, .int .i64 0, .int .i64 0, .int .i64 0, .int .i64 0, .int .i64 0, .slice none 0 0]), 9, 88) := by kernel_rfl
set_option maxRecDepth 100000 in
set_option maxHeartbeats 2000000 in
theorem clone_ev (A : Option Addr) (n c : Nat) (l : List (EvP × SH)) (hn : n ≤ 1000000) (w : World) (hR : Reads w w.heap.size 9 A n (l.flatMap evCs)) :
 Calls Tryz.prog 79 #[.slice A n c] w (CopyT 39 9 n (l.flatMap evCs) w) := by
 obtain ⟨i0, hi, hz0, hz1, hz2⟩ := info_parts ev_info
 cases A with
 | none =>
  have hq : ∀ w : World, (binOp .eql 23 (.slice none n c) (.slice none 0 0)).run Tryz.prog w = .ok (.bool true) w := fun w => Lib.run_eql_slice_nil w _ _ none n c 0 0 Tryz.underlying23
  have h0 : Hid (n = 0) := by
   show n = 0
   rcases Nat.eq_zero_or_pos n with h | h
   ·exact h
   ·obtain ⟨b, o, e, _⟩ := row_plain (by omega) hR h
    cases e
  have hl := Lib.hid (reads_len_s evCs_len (by omega) hR)
  go_enter Tryz.func79, Tryz.ntmps79
  go_wp2_with fail
  go_ret
  obtain rfl : n = 0 := h0.out
  obtain rfl : l = [] := List.eq_nil_of_length_eq_zero hl.out
  exact ⟨none, 0, rfl, World.ownsRow_nil _ _ _ _, Below.refl _ _⟩
 | some ad =>
  have hq : ∀ w : World, (binOp .eql 23 (.slice (some ad) n c) (.slice none 0 0)).run Tryz.prog w = .ok (.bool false) w := fun w => Lib.run_eql_slice_nil w _ _ (some ad) n c 0 0 Tryz.underlying23
  go_enter Tryz.func79, Tryz.ntmps79
  go_wp2_with (at_builtin; refine wpList_append_any _ rfl (.tmp 5) (.tmp 6) 23 rfl w.heap.size 39 i0 _ 9 88 Tryz.underlying23 hi hz0 hz1 hz2 rfl (by decide) _ 0 [] rfl (own_newT w 39 9) w.heap.size (some ad) n _ (l.flatMap evCs) rfl (hR.alloc (Nat.le_refl _) _) (one_of evCs_one _) (by unfold maxLen; omega) (by omega) (by simp) ?_; intro v' w2 hown hgrow hat)
  rw [Nat.zero_add, List.nil_append] at hown
  have b2 : Below w.heap.size w w2 := ((Below.refl _ _).alloc (Nat.le_refl _) _).grown hgrow (by simp) (fun j hj => by have e : some w.heap.size = some j := hj; injection e with e; omega)
  obtain ⟨A', c', rfl, h1, h2⟩ := own_form2 hown
  go_ret
  exact ⟨A', c', rfl, hown, b2⟩

theorem od_info : (Tryz.prog.info? 61).map (fun i => (i.zero, i.size, i.bytes)) = some (some (.agg #[.int .i64 0, .slice none 0 0]), 2, 32) := by kernel_rfl
set_option maxRecDepth 100000 in
set_option maxHeartbeats 2000000 in
theorem clone_od (A : Option Addr) (n c : Nat) (l : List (OrdP × SH)) (hn : n ≤ 1000000) (w : World) (hR : Reads w w.heap.size 2 A n (l.flatMap odCs)) :
 Calls Tryz.prog 80 #[.slice A n c] w (CopyT 61 2 n (l.flatMap odCs) w) := by
 obtain ⟨i0, hi, hz0, hz1, hz2⟩ := info_parts od_info
 cases A with
 | none =>
  have hq : ∀ w : World, (binOp .eql 24 (.slice none n c) (.slice none 0 0)).run Tryz.prog w = .ok (.bool true) w := fun w => Lib.run_eql_slice_nil w _ _ none n c 0 0 Tryz.underlying24
  have h0 : Hid (n = 0) := by
   show n = 0
   rcases Nat.eq_zero_or_pos n with h | h
   ·exact h
   ·obtain ⟨b, o, e, _⟩ := row_plain (by omega) hR h
    cases e
  have hl := Lib.hid (reads_len_s odCs_len (by omega) hR)
  go_enter Tryz.func80, Tryz.ntmps80
  go_wp2_with fail
  go_ret
  obtain rfl : n = 0 := h0.out
  obtain rfl : l = [] := List.eq_nil_of_length_eq_zero hl.out
  exact ⟨none, 0, rfl, World.ownsRow_nil _ _ _ _, Below.refl _ _⟩
 | some ad =>
  have hq : ∀ w : World, (binOp .eql 24 (.slice (some ad) n c) (.slice none 0 0)).run Tryz.prog w = .ok (.bool false) w := fun w => Lib.run_eql_slice_nil w _ _ (some ad) n c 0 0 Tryz.underlying24
  go_enter Tryz.func80, Tryz.ntmps80
  go_wp2_with (at_builtin; refine wpList_append_any _ rfl (.tmp 5) (.tmp 6) 24 rfl w.heap.size 61 i0 _ 2 32 Tryz.underlying24 hi hz0 hz1 hz2 rfl (by decide) _ 0 [] rfl (own_newT w 61 2) w.heap.size (some ad) n _ (l.flatMap odCs) rfl (hR.alloc (Nat.le_refl _) _) (one_of odCs_one _) (by unfold maxLen; omega) (by omega) (by simp) ?_; intro v' w2 hown hgrow hat)
  rw [Nat.zero_add, List.nil_append] at hown
  have b2 : Below w.heap.size w w2 := ((Below.refl _ _).alloc (Nat.le_refl _) _).grown hgrow (by simp) (fun j hj => by have e : some w.heap.size = some j := hj; injection e with e; omega)
  obtain ⟨A', c', rfl, h1, h2⟩ := own_form2 hown
  go_ret
  exact ⟨A', c', rfl, hown, b2⟩

theorem ma_info : (Tryz.prog.info? 64).map (fun i => (i.zero, i.size, i.bytes)) = some (some (.agg #[.int .i64 0, .int .i64 0, .bool false, .slice none 0 0]), 4, 48) := by kernel_rfl
set_option maxRecDepth 100000 in
set_option maxHeartbeats 2000000 in
theorem clone_ma (A : Option Addr) (n c : Nat) (l : List (MatP × SH)) (hn : n ≤ 1000000) (w : World) (hR : Reads w w.heap.size 4 A n (l.flatMap maCs)) :
 Calls Tryz.prog 81 #[.slice A n c] w (CopyT 64 4 n (l.flatMap maCs) w) := by
 obtain ⟨i0, hi, hz0, hz1, hz2⟩ := info_parts ma_info
 cases A with
 | none =>
  have hq : ∀ w : World, (binOp .eql 25 (.slice none n c) (.slice none 0 0)).run Tryz.prog w = .ok (.bool true) w := fun w => Lib.run_eql_slice_nil w _ _ none n c 0 0 Tryz.underlying25
  have h0 : Hid (n = 0) := by
   show n = 0
   rcases Nat.eq_zero_or_pos n with h | h
   ·exact h
   ·obtain ⟨b, o, e, _⟩ := row_plain (by omega) hR h
    cases e
  have hl := Lib.hid (reads_len_s maCs_len (by omega) hR)
  go_enter Tryz.func81, Tryz.ntmps81
  go_wp2_with fail
  go_ret
  obtain rfl : n = 0 := h0.out
  obtain rfl : l = [] := List.eq_nil_of_length_eq_zero hl.out
  exact ⟨none, 0, rfl, World.ownsRow_nil _ _ _ _, Below.refl _ _⟩
 | some ad =>
  have hq : ∀ w : World, (binOp .eql 25 (.slice (some ad) n c) (.slice none 0 0)).run Tryz.prog w = .ok (.bool false) w := fun w => Lib.run_eql_slice_nil w _ _ (some ad) n c 0 0 Tryz.underlying25
  go_enter Tryz.func81, Tryz.ntmps81
  go_wp2_with (at_builtin; refine wpList_append_any _ rfl (.tmp 5) (.tmp 6) 25 rfl w.heap.size 64 i0 _ 4 48 Tryz.underlying25 hi hz0 hz1 hz2 rfl (by decide) _ 0 [] rfl (own_newT w 64 4) w.heap.size (some ad) n _ (l.flatMap maCs) rfl (hR.alloc (Nat.le_refl _) _) (one_of maCs_one _) (by unfold maxLen; omega) (by omega) (by simp) ?_; intro v' w2 hown hgrow hat)
  rw [Nat.zero_add, List.nil_append] at hown
  have b2 : Below w.heap.size w w2 := ((Below.refl _ _).alloc (Nat.le_refl _) _).grown hgrow (by simp) (fun j hj => by have e : some w.heap.size = some j := hj; injection e with e; omega)
  obtain ⟨A', c', rfl, h1, h2⟩ := own_form2 hown
  go_ret
  exact ⟨A', c', rfl, hown, b2⟩

theorem wa_info : (Tryz.prog.info? 67).map (fun i => (i.zero, i.size, i.bytes)) = some (some (.agg #[.int .i64 0, .int .i64 0]), 2, 16) := by kernel_rfl
set_option maxRecDepth 100000 in
set_option maxHeartbeats 2000000 in
theorem clone_wa (A : Option Addr) (n c : Nat) (l : List (WantP)) (hn : n ≤ 1000000) (w : World) (hR : Reads w w.heap.size 2 A n (l.flatMap waCs)) :
 Calls Tryz.prog 30 #[.slice A n c] w (CopyT 67 2 n (l.flatMap waCs) w) := by
 obtain ⟨i0, hi, hz0, hz1, hz2⟩ := info_parts wa_info
 cases A with
 | none =>
  have hq : ∀ w : World, (binOp .eql 26 (.slice none n c) (.slice none 0 0)).run Tryz.prog w = .ok (.bool true) w := fun w => Lib.run_eql_slice_nil w _ _ none n c 0 0 Tryz.underlying26
  have h0 : Hid (n = 0) := by
   show n = 0
   rcases Nat.eq_zero_or_pos n with h | h
   ·exact h
   ·obtain ⟨b, o, e, _⟩ := row_plain (by omega) hR h
    cases e
  have hl := Lib.hid (reads_len_s waCs_len (by omega) hR)
  go_enter Tryz.func30, Tryz.ntmps30
  go_wp2_with fail
  go_ret
  obtain rfl : n = 0 := h0.out
  obtain rfl : l = [] := List.eq_nil_of_length_eq_zero hl.out
  exact ⟨none, 0, rfl, World.ownsRow_nil _ _ _ _, Below.refl _ _⟩
 | some ad =>
  have hq : ∀ w : World, (binOp .eql 26 (.slice (some ad) n c) (.slice none 0 0)).run Tryz.prog w = .ok (.bool false) w := fun w => Lib.run_eql_slice_nil w _ _ (some ad) n c 0 0 Tryz.underlying26
  go_enter Tryz.func30, Tryz.ntmps30
  go_wp2_with (at_builtin; refine wpList_append_any _ rfl (.tmp 5) (.tmp 6) 26 rfl w.heap.size 67 i0 _ 2 16 Tryz.underlying26 hi hz0 hz1 hz2 rfl (by decide) _ 0 [] rfl (own_newT w 67 2) w.heap.size (some ad) n _ (l.flatMap waCs) rfl (hR.alloc (Nat.le_refl _) _) (one_of waCs_one _) (by unfold maxLen; omega) (by omega) (by simp) ?_; intro v' w2 hown hgrow hat)
  rw [Nat.zero_add, List.nil_append] at hown
  have b2 : Below w.heap.size w w2 := ((Below.refl _ _).alloc (Nat.le_refl _) _).grown hgrow (by simp) (fun j hj => by have e : some w.heap.size = some j := hj; injection e with e; omega)
  obtain ⟨A', c', rfl, h1, h2⟩ := own_form2 hown
  go_ret
  exact ⟨A', c', rfl, hown, b2⟩

theorem se_info : (Tryz.prog.info? 59).map (fun i => (i.zero, i.size, i.bytes)) = some (some (.agg #[.int .i64 0, .int .i64 0, .int .i64 0]), 3, 24) := by kernel_rfl
set_option maxRecDepth 100000 in
set_option maxHeartbeats 2000000 in
theorem clone_se (A : Option Addr) (n c : Nat) (l : List (SeenP)) (hn : n ≤ 1000000) (w : World) (hR : Reads w w.heap.size 3 A n (l.flatMap seCs)) :
 Calls Tryz.prog 28 #[.slice A n c] w (CopyT 59 3 n (l.flatMap seCs) w) := by
 obtain ⟨i0, hi, hz0, hz1, hz2⟩ := info_parts se_info
 cases A with
 | none =>
  have hq : ∀ w : World, (binOp .eql 37 (.slice none n c) (.slice none 0 0)).run Tryz.prog w = .ok (.bool true) w := fun w => Lib.run_eql_slice_nil w _ _ none n c 0 0 Tryz.underlying37
  have h0 : Hid (n = 0) := by
   show n = 0
   rcases Nat.eq_zero_or_pos n with h | h
   ·exact h
   ·obtain ⟨b, o, e, _⟩ := row_plain (by omega) hR h
    cases e
  have hl := Lib.hid (reads_len_s seCs_len (by omega) hR)
  go_enter Tryz.func28, Tryz.ntmps28
  go_wp2_with fail
  go_ret
  obtain rfl : n = 0 := h0.out
  obtain rfl : l = [] := List.eq_nil_of_length_eq_zero hl.out
  exact ⟨none, 0, rfl, World.ownsRow_nil _ _ _ _, Below.refl _ _⟩
 | some ad =>
  have hq : ∀ w : World, (binOp .eql 37 (.slice (some ad) n c) (.slice none 0 0)).run Tryz.prog w = .ok (.bool false) w := fun w => Lib.run_eql_slice_nil w _ _ (some ad) n c 0 0 Tryz.underlying37
  go_enter Tryz.func28, Tryz.ntmps28
  go_wp2_with (at_builtin; refine wpList_append_any _ rfl (.tmp 5) (.tmp 6) 37 rfl w.heap.size 59 i0 _ 3 24 Tryz.underlying37 hi hz0 hz1 hz2 rfl (by decide) _ 0 [] rfl (own_newT w 59 3) w.heap.size (some ad) n _ (l.flatMap seCs) rfl (hR.alloc (Nat.le_refl _) _) (one_of seCs_one _) (by unfold maxLen; omega) (by omega) (by simp) ?_; intro v' w2 hown hgrow hat)
  rw [Nat.zero_add, List.nil_append] at hown
  have b2 : Below w.heap.size w w2 := ((Below.refl _ _).alloc (Nat.le_refl _) _).grown hgrow (by simp) (fun j hj => by have e : some w.heap.size = some j := hj; injection e with e; omega)
  obtain ⟨A', c', rfl, h1, h2⟩ := own_form2 hown
  go_ret
  exact ⟨A', c', rfl, hown, b2⟩

theorem clone_in (A : Option Addr) (n c : Nat) (zs : List Int) (hn : n ≤ 1000000) (w : World) (hR : Reads w w.heap.size 1 A n (ints zs)) :
 Calls Tryz.prog 29 #[.slice A n c] w (CopyT 3 1 n (ints zs) w) := by
 have hl := ints_len hR
 rcases Nat.eq_zero_or_pos n with h | h
 ·subst h
  obtain rfl : zs = [] := List.eq_nil_of_length_eq_zero hl
  cases A with
  | none =>
   refine (Tryz.slices_Clone_int_nil 0 c w).mono ?_
   rintro e w' ⟨rfl, rfl⟩
   exact ⟨none, 0, rfl, World.ownsRow_nil _ _ _ _, Below.refl _ _⟩
  | some ad =>
   refine (Tryz.slices_Clone_int_zero ad c w).mono ?_
   rintro e w' ⟨v', rfl, ho, _, hb⟩
   obtain ⟨A', c', rfl, h1, h2⟩ := own_form2 ho
   exact ⟨A', c', rfl, ho, hb⟩
 ·obtain ⟨b, o, rfl, hb, hc⟩ := reads_plain hR h
  refine (Tryz.slices_Clone_int b o n c zs w (by omega) (by omega) (ints_get hc)).mono ?_
  rintro e w' ⟨v', rfl, ho, _, hb⟩
  rw [List.take_of_length_le (by omega)] at ho
  obtain ⟨A', c', rfl, h1, h2⟩ := own_form2 ho
  exact ⟨A', c', rfl, ho, hb⟩
end Go.Proofs.YtlnbmmaminflcaaGreatDoor
