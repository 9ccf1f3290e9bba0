/- Layer bits: wakes: its contract. -/
import Derived.Test.YtpkpfnilfabkaaaDoorBr
namespace Go.Proofs.YtpkpfnilfabkaaaDoor
open Go.RowKit

theorem k1 : setW (ofF [3, 64, 3]) = [8, 1] := by decide +kernel
theorem k2 : numsF (inW [8, 1]) = [3, 64] := by decide +kernel
theorem k3 : remS (effW [8, 1]) 4 = [64] := by decide +kernel
theorem k4 : checkE [1, 0] = 140 := by decide +kernel
theorem k5 : mayL [3, 64, 3] := by unfold mayL; decide
theorem k6 : ¬ mayL [10000] := by unfold mayL; decide

/-- A row of numbers, of words, laid by the call. -/
theorem built_i (w : World) (zs : List Int) : RI (w.alloc (.cells (ints zs).toArray 3)) (w.alloc (.cells (ints zs).toArray 3)).heap.size (some ⟨w.heap.size, 0, none⟩) zs.length zs :=
  ⟨by rw [ints_length]; omega, fun _ => ⟨_, rfl, by show w.heap.size < _; simp, fun j u hu => by
    rw [Go.WideShapes.add_plain, (Blk.new w 3 (ints zs).toArray).cell, Nat.zero_add, List.getElem?_toArray]; exact hu⟩⟩
theorem built_u (w : World) (ws : List Nat) : RW (w.alloc (.cells (wcells ws).toArray 51)) (w.alloc (.cells (wcells ws).toArray 51)).heap.size (some ⟨w.heap.size, 0, none⟩) ws.length ws :=
  ⟨by rw [wcells_length]; omega, fun _ => ⟨_, rfl, by show w.heap.size < _; simp, fun j u hu => by
    rw [Go.WideShapes.add_plain, (Blk.new w 51 (wcells ws).toArray).cell, Nat.zero_add, List.getElem?_toArray]; exact hu⟩⟩
theorem one_more (w : World) (o : Obj) : Below w.heap.size w (w.alloc o) := (Below.refl _ _).alloc (Nat.le_refl _) _

theorem at_g {W : World} {g : Nat} (hg : W.heap.size = g) (zs : List Int) : RI (W.alloc (.cells (ints zs).toArray 3)) (W.alloc (.cells (ints zs).toArray 3)).heap.size (some ⟨g, 0, none⟩) zs.length zs := by
  subst hg; exact built_i W zs
theorem at_gu {W : World} {g : Nat} (hg : W.heap.size = g) (ws : List Nat) : RW (W.alloc (.cells (wcells ws).toArray 51)) (W.alloc (.cells (wcells ws).toArray 51)).heap.size (some ⟨g, 0, none⟩) ws.length ws := by
  subst hg; exact built_u W ws

set_option maxRecDepth 100000 in
set_option maxHeartbeats 4000000 in
theorem wakes_any (w : World) (hT : Tab w) : Calls Tryd.prog 9 #[] w fun e w' => e = .returned (.bool true) ∧ Below w.heap.size w w' := by
  have HT := Lib.hid fun W h => hT.on (w' := W) h
  have C1 := Lib.hid fun (W : World) => of_yes (some ⟨W.heap.size, 0, none⟩) 3 3 [3, 64, 3] k5 (by decide) _ (built_i W [3, 64, 3])
  have C2 := Lib.hid fun (W : World) (g : Nat) hg => of_no (some ⟨g, 0, none⟩) 1 1 [10000] k6 (by intro z hz; simp at hz; omega) (by decide) _ (at_g (W := W) hg [10000])
  rw [k1] at C1
  clear hT
  go_enter Tryd.func9, Tryd.ntmps9
  go_wp2_with fail
  refine (C1.out w).mono ?_
  rintro e w1 ⟨A1, n1, c1, rfl, o1, b1⟩
  have B1 : Hid (Below w.heap.size w w1) := (one_more w _).trans (b1.mono (by simp))
  have O1 := Lib.hid o1
  clear o1 b1 C1
  go_wp2_with fail
  refine (C2.out (w1.alloc (.cells #[.slice A1 n1 c1] 24)) (w1.heap.size + 1) (by simp)).mono ?_
  rintro e w2 ⟨A2, n2, c2, rfl, o2, b2⟩
  have hx : Below w1.heap.size w1 w2 := ((one_more w1 _).trans ((one_more _ _).mono (by simp))).trans (b2.mono (by simp; omega))
  have B2 : Hid (Below w.heap.size w w2) := B1.out.trans (hx.mono B1.out.size)
  have O2 := Lib.hid (O1.out.below hx)
  have K1 : Hid (Blk w2 w1.heap.size 24 #[.slice A1 n1 c1]) := ((Blk.new w1 _ _).alloc _).below b2 (by simp; omega)
  have x0 := K1.out.cell 0
  clear o2 b2 hx C2 O1
  have HN := Lib.hid fun (W : World) (h1 : Tab W) (h2 : RW W W.heap.size A1 n1 [8, 1]) (hn : n1 ≤ 100000) => next_any A1 n1 c1 4 4 (by decide) (by decide) [8, 1] (by unfold W64; decide) hn W h1 h2
  rw [k3] at HN
  have HN1 : Hid (n1 ≤ 100000) := by have := O2.out.1; show _ ≤ _; simp at this; omega
  have b3 := one_more w2 (.cells #[.slice A2 n2 c2] 24)
  have B3 : Hid (Below w.heap.size w (w2.alloc (.cells #[.slice A2 n2 c2] 24))) := B2.out.trans (b3.mono B2.out.size)
  have O3 := Lib.hid (O2.out.below b3)
  have K3 := Lib.hid (K1.out.below b3 K1.out.lt)
  have x1 := K3.out.cell 0
  have hlt1 := K1.out.lt
  clear b3 x0
  go_wp2_with fail
  refine (HN.out (w2.alloc (.cells #[.slice A2 n2 c2] 24)) (HT.out _ B3.out) O3.out.reads HN1.out).mono ?_
  rintro e w3 ⟨rfl, b3⟩
  have B4 : Hid (Below w.heap.size w w3) := B3.out.trans (b3.mono B3.out.size)
  have O4 := Lib.hid (O3.out.below b3)
  have K4 := Lib.hid (K3.out.below b3 K3.out.lt)
  have hn1 : n1 = 2 := by have := O4.out.1; simpa using this.symm
  subst hn1
  have y0 := K4.out.cell 0
  have b5 := one_more w3 (.cells (wcells [8, 1]).toArray 51)
  have HEQ := Lib.hid (equal_u A1 (some ⟨w3.heap.size, 0, none⟩) 2 2 c1 2 [8, 1] [8, 1] (by decide) (by decide) (w3.alloc (.cells (wcells [8, 1]).toArray 51)) ((O4.out.below b5).reads) (at_gu rfl [8, 1]))
  have B5 := Lib.hid (B4.out.trans (b5.mono B4.out.size))
  have O5 := Lib.hid (O4.out.below b5)
  have K5 := Lib.hid (K4.out.below b5 K4.out.lt)
  clear b3 b5 HN x1 hlt1 K1 K3 B1 B2 B3 O2 O3 O4
  go_wp2_with fail
  refine HEQ.out.mono ?_
  rintro e w4 ⟨rfl, b6⟩
  have B6 : Hid (Below w.heap.size w w4) := B5.out.trans (b6.mono B5.out.size)
  have O6 := Lib.hid (O5.out.below b6)
  have K6 := Lib.hid (K5.out.below b6 K5.out.lt)
  have z0 := K6.out.cell 0
  have HL := Lib.hid (list_any A1 2 c1 [8, 1] (by unfold W64; decide) (by decide) w4 (HT.out _ B6.out) O6.out.reads)
  rw [k2] at HL
  clear b6 HEQ y0 K5 B5 O5 K4 B4
  go_wp2_with fail
  refine HL.out.mono ?_
  rintro e w5 ⟨v, rfl, hown, b7⟩
  obtain ⟨A5, c5, rfl, _, _⟩ := own_form1 hown
  have R5 := Lib.hid (RI.of_own hown)
  have B7 : Hid (Below w.heap.size w w5) := B6.out.trans (b7.mono B6.out.size)
  clear b7 hown z0 HL K6 B6 O6
  have b8 := one_more w5 (.cells (ints [3, 64]).toArray 3)
  have HE2 := Lib.hid (equal_i A5 (some ⟨w5.heap.size, 0, none⟩) 2 2 c5 2 [3, 64] [3, 64] (by decide) (by decide) (w5.alloc (.cells (ints [3, 64]).toArray 3)) ((R5.out.below b8).more b8.size) (at_g rfl [3, 64]))
  have B8 := Lib.hid (B7.out.trans (b8.mono B7.out.size))
  clear b8 R5 B7
  go_wp2_with fail
  refine HE2.out.mono ?_
  rintro e w6 ⟨rfl, b9⟩
  have B9 : Hid (Below w.heap.size w w6) := B8.out.trans (b9.mono B8.out.size)
  clear b9 HE2 B8
  have b10 := one_more w6 (.cells (wcells [1, 0]).toArray 51)
  have HC := Lib.hid (check_any (some ⟨w6.heap.size, 0, none⟩) 2 2 [1, 0] (by unfold W64; decide) (by decide) (w6.alloc (.cells (wcells [1, 0]).toArray 51)) (at_gu rfl [1, 0]))
  rw [k4] at HC
  have B10 := Lib.hid (B9.out.trans (b10.mono B9.out.size))
  clear b10 B9
  go_wp2_with fail
  refine HC.out.mono ?_
  rintro e w7 ⟨rfl, b11⟩
  go_wp2_with fail
  go_ret
  exact ⟨rfl, B10.out.trans (b11.mono B10.out.size)⟩
end Go.Proofs.YtpkpfnilfabkaaaDoor
