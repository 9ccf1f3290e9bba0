/- Layer lex: what touched, Clone and Next give, as contracts of the translated calls. -/
import Derived.Test.YthccgpjbchlocaaDoorLe
import Derived.Outline
namespace Go.Proofs.YthccgpjbchlocaaDoor
open Go.RowKit

theorem last_byte {s : ByteArray} {n : Nat} (hn : s.size = n + 1) (h0 : n < s.size) : s.data.toList.getLast? = some (s[n]'h0) := by
  rw [List.getLast?_eq_getElem?, ← Lib.size_eq, hn]
  have : n < s.data.toList.length := by rw [← Lib.size_eq]; exact h0
  rw [Nat.add_sub_cancel, List.getElem?_eq_getElem this]
  rfl
theorem touched_any (s : ByteArray) (hs : s.size ≤ 9223372036854775800) (w : World) :
    Calls Tryd.prog 43 #[.string s] w fun e w' => e = .returned (.bool (touchL s.data.toList)) ∧ w = w' := by
  rcases Nat.eq_zero_or_pos s.size with h | h
  · have hl : s.data.toList = [] := by
      rw [Lib.size_eq] at h
      exact List.eq_nil_of_length_eq_zero h
    rw [empty_is hl]
    exact touched_nil w
  · obtain ⟨n, hn⟩ : ∃ n, s.size = n + 1 := ⟨s.size - 1, by omega⟩
    have h0 : n < s.size := by omega
    obtain ⟨c, m, hl⟩ : ∃ c m, s.data.toList = c :: m := by
      cases hl : s.data.toList with
      | nil => rw [Lib.size_eq, hl] at h; cases h
      | cons c m => exact ⟨c, m, rfl⟩
    have hlt := (s[n]'h0).toNat_lt
    have := touched_core s n hn h0 hs (isEmpty_no hl) ((s[n]'h0).toNat) rfl (by omega) (fun w => isBlank_any _ w) w
    have ht : touchL s.data.toList = (!isBl ((s[n]'h0).toNat : Int) && ((s[n]'h0).toNat : Int) != 10) := by
      unfold touchL
      rw [last_byte hn h0]
      show (!((s[n]'h0).toNat == 32 || (s[n]'h0).toNat == 9) && (s[n]'h0).toNat != 10) = _
      unfold isBl
      generalize (s[n]'h0).toNat = x
      have e1 : ((x : Int) == 32) = (x == 32) := by rw [Bool.eq_iff_iff]; simp; omega
      have e2 : ((x : Int) == 9) = (x == 9) := by rw [Bool.eq_iff_iff]; simp; omega
      have e3 : ((x : Int) != 10) = (x != 10) := by rw [Bool.eq_iff_iff]; simp; omega
      rw [e1, e2, e3]
    rw [ht]
    exact this

set_option maxHeartbeats 400000 in
theorem clone_any (s : ByteArray) (hs : s.size ≤ 281474976710656) (w : World) :
    Calls Tryd.prog 42 #[.string s] w fun e w' => e = .returned (.string s) ∧ Below w.heap.size w w' := by
  have H := Lib.hid fun w => Tryd.stringslite_Clone s w hs
  go_enter Tryd.func42, Tryd.ntmps42
  go_wp2_with fail
  refine (H.out _).mono ?_
  rintro e w1 ⟨rfl, b1⟩
  go_wp2_with fail
  go_ret
  exact ⟨rfl, b1⟩

/-- A token, as the program's struct. -/
def tokV (k : Int) (a : Nat) (tx : ByteArray) (gl : Bool) : Value := .agg #[.int .i64 k, .int .i64 a, .string tx, .bool gl]

set_option maxHeartbeats 800000 in
theorem next_arg (s : ByteArray) (p : Int) (h : p < 0 ∨ (s.size : Int) < p) (w : World) :
    Calls Tryd.prog 28 #[.string s, .int .i64 p] w fun e w' => e = .returned (.tuple #[.agg #[.int .i64 0, .int .i64 0, .string ⟨#[]⟩, .bool false], .int .i64 0, .int .i64 2]) ∧ Below w.heap.size w w' := by
  by_cases h1 : p < 0
  · clear h
    go_enter Tryd.func28, Tryd.ntmps28
    go_wp2_with fail
    exact bodyPost_ret (v := .tuple #[.agg #[.int .i64 0, .int .i64 0, .string ⟨#[]⟩, .bool false], .int .i64 0, .int .i64 2]) (by simp [results, Tryd.results28, go_sem]) rfl ⟨rfl, (Below.refl _ _).alloc (Nat.le_refl _) _⟩
  · have h2 : (s.size : Int) < p := by omega
    clear h
    go_enter Tryd.func28, Tryd.ntmps28
    go_wp2_with fail
    exact bodyPost_ret (v := .tuple #[.agg #[.int .i64 0, .int .i64 0, .string ⟨#[]⟩, .bool false], .int .i64 0, .int .i64 2]) (by simp [results, Tryd.results28, go_sem]) rfl ⟨rfl, (Below.refl _ _).alloc (Nat.le_refl _) _⟩

theorem below_set4 {B b : Nat} {a w : World} (h : Below B a w) (hb : B ≤ b) (x0 x1 x2 x3 : Value) : Below B a ((((w.setCell ⟨b, 0, none⟩ x0).setCell ⟨b, 1, none⟩ x1).setCell ⟨b, 2, none⟩ x2).setCell ⟨b, 3, none⟩ x3) :=
  (((h.setCell (p := ⟨b, 0, none⟩) hb _).setCell (p := ⟨b, 1, none⟩) hb _).setCell (p := ⟨b, 2, none⟩) hb _).setCell (p := ⟨b, 3, none⟩) hb _

theorem four_cells {W : World} {b : Nat} {x0 x1 x2 x3 : Value} {T : TypeId} (h : W.heap[b]? = some (.cells #[x0, x1, x2, x3] T (0, 0))) :
    (W.cell? ⟨b, 0, none⟩ = some x0 ∧ W.cell? ⟨b, 1, none⟩ = some x1 ∧ W.cell? ⟨b, 2, none⟩ = some x2 ∧ W.cell? ⟨b, 3, none⟩ = some x3) ∧
      W.frozen? ⟨b, 0, none⟩ = false ∧ W.frozen? ⟨b, 1, none⟩ = false ∧ W.frozen? ⟨b, 2, none⟩ = false ∧ W.frozen? ⟨b, 3, none⟩ = false := by
  simp [World.cell?, World.frozen?, h]
theorem block_new (w : World) (o : Obj) : (w.alloc o).heap[w.heap.size]? = some o := by
  show (w.heap.push o)[w.heap.size]? = _
  simp
theorem block_lt {w : World} {b : Nat} {o : Obj} (h : w.heap[b]? = some o) : b < w.heap.size := (Array.getElem?_eq_some_iff.1 h).1

set_option maxHeartbeats 1600000 in
theorem next_gap (s t : ByteArray) (p n : Nat) (hp : p ≤ s.size) (hs : s.size ≤ 1000000) (hn : n ≤ 1000000) (hex : s.extract p s.size = t)
    (HG : Hid (∀ w : World, Calls Tryd.prog 40 #[.string t] w fun e w' => e = .returned (.tuple #[.int .i64 n, .int .i64 120]) ∧ Below w.heap.size w w')) (w : World) :
    Calls Tryd.prog 28 #[.string s, .int .i64 p] w fun e w' => e = .returned (.tuple #[.agg #[.int .i64 0, .int .i64 0, .string ⟨#[]⟩, .bool false], .int .i64 ((p + n : Nat) : Int), .int .i64 120]) ∧ Below w.heap.size w w' := by
  go_enter Tryd.func28, Tryd.ntmps28
  go_wp2_with fail
  refine (HG.out _).mono ?_
  rintro e w1 ⟨rfl, b1⟩
  obtain ⟨hc, hf⟩ := bcell b1
  have hz := b1.size
  simp at hz
  have B1 : Below w.heap.size w w1 := ((Below.refl _ _).alloc (Nat.le_refl _) _).trans (b1.mono (by simp))
  clear b1
  go_wp2_with fail
  refine bodyPost_ret (v := .tuple #[.agg #[.int .i64 0, .int .i64 0, .string ⟨#[]⟩, .bool false], .int .i64 ((p + n : Nat) : Int), .int .i64 120]) (by simp [results, Tryd.results28, go_sem, hc]) rfl ⟨rfl, ?_⟩
  exact below_set4 B1 (Nat.le_refl _) _ _ _ _

set_option maxHeartbeats 1600000 in
theorem next_meas (s t t2 : ByteArray) (p n m : Nat) (k E : Int) (hp : p ≤ s.size) (hs : s.size ≤ 1000000) (hn : p + n ≤ s.size) (hm : m ≤ 1000000) (hex : s.extract p s.size = t) (hex2 : s.extract (p + n) s.size = t2) (hE : (E != 0) = true)
    (HG : Hid (∀ w : World, Calls Tryd.prog 40 #[.string t] w fun e w' => e = .returned (.tuple #[.int .i64 n, .int .i64 0]) ∧ Below w.heap.size w w'))
    (HM : Hid (∀ w : World, Calls Tryd.prog 41 #[.string t2] w fun e w' => e = .returned (.tuple #[.int .i64 k, .int .i64 m, .int .i64 E]) ∧ Below w.heap.size w w')) (w : World) :
    Calls Tryd.prog 28 #[.string s, .int .i64 p] w fun e w' => e = .returned (.tuple #[.agg #[.int .i64 0, .int .i64 0, .string ⟨#[]⟩, .bool false], .int .i64 ((p + n + m : Nat) : Int), .int .i64 E]) ∧ Below w.heap.size w w' := by
  go_enter Tryd.func28, Tryd.ntmps28
  go_wp2_with fail
  refine (HG.out _).mono ?_
  rintro e w1 ⟨rfl, b1⟩
  have r1 := Lib.hid ((b1.block w.heap.size (by simp)).trans (block_new w _))
  have B1 : Below w.heap.size w w1 := ((Below.refl _ _).alloc (Nat.le_refl _) _).trans (b1.mono (by simp))
  clear b1
  go_wp2_with fail
  refine (HM.out _).mono ?_
  rintro e w2 ⟨rfl, b2⟩
  have r2 := (b2.block w.heap.size (block_lt r1.out)).trans r1.out
  obtain ⟨⟨g0, g1, g2, g3⟩, f0, f1, f2, f3⟩ := four_cells r2
  have B2 : Below w.heap.size w w2 := B1.trans (b2.mono B1.size)
  clear b2
  go_wp2_with fail
  refine bodyPost_ret (v := .tuple #[.agg #[.int .i64 0, .int .i64 0, .string ⟨#[]⟩, .bool false], .int .i64 ((p + n + m : Nat) : Int), .int .i64 E]) (by simp [results, Tryd.results28, go_sem, g0, g1, g2, g3]) rfl ⟨rfl, ?_⟩
  exact below_set4 B2 (Nat.le_refl _) _ _ _ _

set_option maxHeartbeats 3200000 in
theorem next_touch (s t t2 tx : ByteArray) (p n m : Nat) (k : Int) (hp : p ≤ s.size) (hs : s.size ≤ 1000000) (hn : p + n + m ≤ s.size) (hex : s.extract p s.size = t) (hex2 : s.extract (p + n) s.size = t2) (hex3 : s.extract (p + n) (p + n + m) = tx)
    (HG : Hid (∀ w : World, Calls Tryd.prog 40 #[.string t] w fun e w' => e = .returned (.tuple #[.int .i64 n, .int .i64 0]) ∧ Below w.heap.size w w'))
    (HM : Hid (∀ w : World, Calls Tryd.prog 41 #[.string t2] w fun e w' => e = .returned (.tuple #[.int .i64 k, .int .i64 m, .int .i64 0]) ∧ Below w.heap.size w w'))
    (HC : Hid (∀ w : World, Calls Tryd.prog 42 #[.string tx] w fun e w' => e = .returned (.string tx) ∧ Below w.heap.size w w'))
    (u : ByteArray) (g : Bool) (hu : s.extract 0 p = u) (h0 : n = 0) (hk : decide (k < 4) = true)
    (HT : Hid (∀ w : World, Calls Tryd.prog 43 #[.string u] w fun e w' => e = .returned (.bool g) ∧ w = w')) (w : World) :
    Calls Tryd.prog 28 #[.string s, .int .i64 p] w fun e w' => e = .returned (.tuple #[.agg #[.int .i64 k, .int .i64 ((p + n : Nat) : Int), .string tx, .bool g], .int .i64 ((p + n + m : Nat) : Int), .int .i64 0]) ∧ Below w.heap.size w w' := by
  have hb : ((p : Int) + (n : Int) == (p : Int)) = true := by simp; omega
  have H0 := Lib.hid h0
  clear h0
  go_enter Tryd.func28, Tryd.ntmps28
  go_wp2_with fail
  refine (HG.out _).mono ?_
  rintro e w1 ⟨rfl, b1⟩
  have r1 := Lib.hid ((b1.block w.heap.size (by simp)).trans (block_new w _))
  have B1 : Below w.heap.size w w1 := ((Below.refl _ _).alloc (Nat.le_refl _) _).trans (b1.mono (by simp))
  clear b1
  go_wp2_with fail
  refine (HM.out _).mono ?_
  rintro e w2 ⟨rfl, b2⟩
  have r2 := Lib.hid ((b2.block w.heap.size (block_lt r1.out)).trans r1.out)
  have B2 : Below w.heap.size w w2 := B1.trans (b2.mono B1.size)
  clear b2
  go_wp2_with fail
  refine (HC.out _).mono ?_
  rintro e w3 ⟨rfl, b3⟩
  have r3 := Lib.hid ((b3.block w.heap.size (by have := block_lt r2.out; simp; omega)).trans ((Below.heap_alloc w2 _ _ (block_lt r2.out)).trans r2.out))
  have q3 := Lib.hid ((b3.block w2.heap.size (by simp)).trans (block_new w2 _))
  have B3 : Below w.heap.size w w3 := (B2.alloc B2.size _).trans (b3.mono (by have := B2.size; simp; omega))
  have hne : w.heap.size ≠ w2.heap.size := by have := block_lt r2.out; omega
  have hle := B2.size
  obtain ⟨⟨g0, g1, g2, g3⟩, f0, f1, f2, f3⟩ := four_cells r3.out
  obtain ⟨⟨k0, k1, k2, k3⟩, j0, j1, j2, j3⟩ := four_cells q3.out
  clear b3
  go_wp2_with fail
  refine (HT.out _).mono ?_
  rintro e w4 ⟨rfl, rfl⟩
  go_wp2_with fail
  refine bodyPost_ret (v := .tuple #[.agg #[.int .i64 k, .int .i64 ((p + n : Nat) : Int), .string tx, .bool g], .int .i64 ((p + n + m : Nat) : Int), .int .i64 0]) (by simp [results, Tryd.results28, go_sem, g0, g1, g2, g3]) rfl ⟨rfl, ?_⟩
  exact below_set4 ((B3.setCell (p := ⟨w2.heap.size, 2, none⟩) hle _).setCell (p := ⟨w2.heap.size, 3, none⟩) hle _) (Nat.le_refl _) _ _ _ _

set_option maxHeartbeats 3200000 in
theorem next_apart (s t t2 tx : ByteArray) (p n m : Nat) (k : Int) (hp : p ≤ s.size) (hs : s.size ≤ 1000000) (hn : p + n + m ≤ s.size) (hex : s.extract p s.size = t) (hex2 : s.extract (p + n) s.size = t2) (hex3 : s.extract (p + n) (p + n + m) = tx)
    (HG : Hid (∀ w : World, Calls Tryd.prog 40 #[.string t] w fun e w' => e = .returned (.tuple #[.int .i64 n, .int .i64 0]) ∧ Below w.heap.size w w'))
    (HM : Hid (∀ w : World, Calls Tryd.prog 41 #[.string t2] w fun e w' => e = .returned (.tuple #[.int .i64 k, .int .i64 m, .int .i64 0]) ∧ Below w.heap.size w w'))
    (HC : Hid (∀ w : World, Calls Tryd.prog 42 #[.string tx] w fun e w' => e = .returned (.string tx) ∧ Below w.heap.size w w'))
    (h0 : n ≠ 0) (hk : decide (k < 4) = true) (w : World) :
    Calls Tryd.prog 28 #[.string s, .int .i64 p] w fun e w' => e = .returned (.tuple #[.agg #[.int .i64 k, .int .i64 ((p + n : Nat) : Int), .string tx, .bool false], .int .i64 ((p + n + m : Nat) : Int), .int .i64 0]) ∧ Below w.heap.size w w' := by
  have hb : ((p : Int) + (n : Int) == (p : Int)) = false := by simp; omega
  have H0 := Lib.hid h0
  clear h0
  go_enter Tryd.func28, Tryd.ntmps28
  go_wp2_with fail
  refine (HG.out _).mono ?_
  rintro e w1 ⟨rfl, b1⟩
  have r1 := Lib.hid ((b1.block w.heap.size (by simp)).trans (block_new w _))
  have B1 : Below w.heap.size w w1 := ((Below.refl _ _).alloc (Nat.le_refl _) _).trans (b1.mono (by simp))
  clear b1
  go_wp2_with fail
  refine (HM.out _).mono ?_
  rintro e w2 ⟨rfl, b2⟩
  have r2 := Lib.hid ((b2.block w.heap.size (block_lt r1.out)).trans r1.out)
  have B2 : Below w.heap.size w w2 := B1.trans (b2.mono B1.size)
  clear b2
  go_wp2_with fail
  refine (HC.out _).mono ?_
  rintro e w3 ⟨rfl, b3⟩
  have r3 := Lib.hid ((b3.block w.heap.size (by have := block_lt r2.out; simp; omega)).trans ((Below.heap_alloc w2 _ _ (block_lt r2.out)).trans r2.out))
  have q3 := Lib.hid ((b3.block w2.heap.size (by simp)).trans (block_new w2 _))
  have B3 : Below w.heap.size w w3 := (B2.alloc B2.size _).trans (b3.mono (by have := B2.size; simp; omega))
  have hne : w.heap.size ≠ w2.heap.size := by have := block_lt r2.out; omega
  have hle := B2.size
  obtain ⟨⟨g0, g1, g2, g3⟩, f0, f1, f2, f3⟩ := four_cells r3.out
  obtain ⟨⟨k0, k1, k2, k3⟩, j0, j1, j2, j3⟩ := four_cells q3.out
  clear b3
  go_wp2_with fail
  refine bodyPost_ret (v := .tuple #[.agg #[.int .i64 k, .int .i64 ((p + n : Nat) : Int), .string tx, .bool false], .int .i64 ((p + n + m : Nat) : Int), .int .i64 0]) (by simp [results, Tryd.results28, go_sem, g0, g1, g2, g3]) rfl ⟨rfl, ?_⟩
  exact below_set4 ((B3.setCell (p := ⟨w2.heap.size, 2, none⟩) hle _).setCell (p := ⟨w2.heap.size, 3, none⟩) hle _) (Nat.le_refl _) _ _ _ _

set_option maxHeartbeats 3200000 in
theorem next_end (s t t2 tx : ByteArray) (p n m : Nat) (k : Int) (hp : p ≤ s.size) (hs : s.size ≤ 1000000) (hn : p + n + m ≤ s.size) (hex : s.extract p s.size = t) (hex2 : s.extract (p + n) s.size = t2) (hex3 : s.extract (p + n) (p + n + m) = tx)
    (HG : Hid (∀ w : World, Calls Tryd.prog 40 #[.string t] w fun e w' => e = .returned (.tuple #[.int .i64 n, .int .i64 0]) ∧ Below w.heap.size w w'))
    (HM : Hid (∀ w : World, Calls Tryd.prog 41 #[.string t2] w fun e w' => e = .returned (.tuple #[.int .i64 k, .int .i64 m, .int .i64 0]) ∧ Below w.heap.size w w'))
    (HC : Hid (∀ w : World, Calls Tryd.prog 42 #[.string tx] w fun e w' => e = .returned (.string tx) ∧ Below w.heap.size w w'))
    (hk : decide (k < 4) = false) (w : World) :
    Calls Tryd.prog 28 #[.string s, .int .i64 p] w fun e w' => e = .returned (.tuple #[.agg #[.int .i64 k, .int .i64 ((p + n : Nat) : Int), .string tx, .bool false], .int .i64 ((p + n + m : Nat) : Int), .int .i64 0]) ∧ Below w.heap.size w w' := by
  go_enter Tryd.func28, Tryd.ntmps28
  go_wp2_with fail
  refine (HG.out _).mono ?_
  rintro e w1 ⟨rfl, b1⟩
  have r1 := Lib.hid ((b1.block w.heap.size (by simp)).trans (block_new w _))
  have B1 : Below w.heap.size w w1 := ((Below.refl _ _).alloc (Nat.le_refl _) _).trans (b1.mono (by simp))
  clear b1
  go_wp2_with fail
  refine (HM.out _).mono ?_
  rintro e w2 ⟨rfl, b2⟩
  have r2 := Lib.hid ((b2.block w.heap.size (block_lt r1.out)).trans r1.out)
  have B2 : Below w.heap.size w w2 := B1.trans (b2.mono B1.size)
  clear b2
  go_wp2_with fail
  refine (HC.out _).mono ?_
  rintro e w3 ⟨rfl, b3⟩
  have r3 := Lib.hid ((b3.block w.heap.size (by have := block_lt r2.out; simp; omega)).trans ((Below.heap_alloc w2 _ _ (block_lt r2.out)).trans r2.out))
  have q3 := Lib.hid ((b3.block w2.heap.size (by simp)).trans (block_new w2 _))
  have B3 : Below w.heap.size w w3 := (B2.alloc B2.size _).trans (b3.mono (by have := B2.size; simp; omega))
  have hne : w.heap.size ≠ w2.heap.size := by have := block_lt r2.out; omega
  have hle := B2.size
  obtain ⟨⟨g0, g1, g2, g3⟩, f0, f1, f2, f3⟩ := four_cells r3.out
  obtain ⟨⟨k0, k1, k2, k3⟩, j0, j1, j2, j3⟩ := four_cells q3.out
  clear b3
  go_wp2_with fail
  refine bodyPost_ret (v := .tuple #[.agg #[.int .i64 k, .int .i64 ((p + n : Nat) : Int), .string tx, .bool false], .int .i64 ((p + n + m : Nat) : Int), .int .i64 0]) (by simp [results, Tryd.results28, go_sem, g0, g1, g2, g3]) rfl ⟨rfl, ?_⟩
  exact below_set4 ((B3.setCell (p := ⟨w2.heap.size, 2, none⟩) hle _).setCell (p := ⟨w2.heap.size, 3, none⟩) hle _) (Nat.le_refl _) _ _ _ _

end Go.Proofs.YthccgpjbchlocaaDoor
