/- Layer graph: In, Kinds, Reverse, and Filter where the question leaves all as it is: contracts. -/
import Derived.Test.YticbgikbpafeoaaGx
namespace Go.Proofs.Yticbgikbpafeoaa
open Go.RowKit

theorem eg_those : ∀ args w, (callFunc 67 args).run Try.prog w = .ok (.enter 67 args) w := enters_of Try.func67 (by kernel_rfl) rfl
theorem eg_values : ∀ args w, (callFunc 68 args).run Try.prog w = .ok (.enter 68 args) w := enters_of Try.func68 (by kernel_rfl) rfl

/-- What those lays: the row, and the question. -/
theorem those_laid (A : Option Addr) (n c g : Nat) (caps : Array Value) (zs : List Ed) (w : World) (hR : Reads w w.heap.size 3 A n (cellsE zs)) :
    ∃ W, W = (w.alloc (.cells #[.slice A n c] 22)).alloc (.cells #[.func (.func g) #[] caps] 54) ∧ Blk W w.heap.size 22 #[.slice A n c] ∧ Blk W (w.heap.size + 1) 54 #[.func (.func g) #[] caps] ∧ Reads W W.heap.size 3 A n (cellsE zs) ∧ Below w.heap.size w W := by
  obtain ⟨k0, k1, b0⟩ := two_new w #[.slice A n c] #[.func (.func g) #[] caps] 22 54
  exact ⟨_, rfl, k0, k1, (hR.below b0).more b0.size, b0⟩

theorem in_filter (zs : List Ed) (v : Int) : zs.filter (fun p => p.2.1 == v) = inE zs v := by
  unfold inE
  refine List.filter_congr fun p _ => ?_
  rw [Bool.eq_iff_iff]; simp

set_option maxRecDepth 100000 in
set_option maxHeartbeats 4000000 in
theorem in_ok (nodes v : Int) (A : Option Addr) (n c : Nat) (zs : List Ed) (hg : IsG nodes zs) (hv : 0 ≤ v ∧ v < nodes) (hn : n ≤ 1000) (w : World) (hR : Reads w w.heap.size 3 A n (cellsE zs)) :
    Calls Try.prog 24 #[.agg #[.int .i64 nodes, .slice A n c], .int .i64 v] w (RErr (inE zs v) 0 w) := by
  obtain ⟨k0, k1, b0⟩ := two_new w #[.int .i64 nodes, .slice A n c] #[.int .i64 v] 24 3
  obtain ⟨W0, hW0⟩ : ∃ W0, (w.alloc (.cells #[.int .i64 nodes, .slice A n c] 24)).alloc (.cells #[.int .i64 v] 3) = W0 := ⟨_, rfl⟩
  rw [hW0] at k0 k1 b0
  have hil := int_lit W0 [v] 3 #[.int .i64 v] rfl
  have bl : Below w.heap.size w (W0.alloc (.cells #[.int .i64 v] 3)) := b0.alloc b0.size _
  have HA := Lib.hid (asked_any nodes A (some ⟨W0.heap.size, 0, none⟩) n c 1 1 zs [v] hn (by omega) _ ((hR.below bl).more bl.size) hil)
  rw [ask_ok (rightG_iff.2 hg) (by unfold nodeB; simp [hv])] at HA
  have HR := Lib.hid fun W (h : Below w.heap.size w W) => (hR.below h).more h.size
  have HK0 := Lib.hid fun W (h : Below W0.heap.size W0 W) => k0.below h k0.lt
  have HK1 := Lib.hid fun W (h : Below W0.heap.size W0 W) => k1.below h k1.lt
  have B0 := Lib.hid b0
  have hlt1 := k1.lt
  have z0 := k0.cell 0
  have z1 := k0.cell 1
  have z2 := k1.cell 0
  have BL0 : Below W0.heap.size W0 (W0.alloc (.cells #[.int .i64 v] 3)) := (Below.refl _ _).alloc (Nat.le_refl _) _
  clear hR k0 k1 b0 bl hil hg hv
  go_enter Try.func24, Try.ntmps24
  go_wp2_with fail
  clear hW0
  refine HA.out.mono ?_
  rintro e w1 ⟨rfl, b⟩
  have B1 : Hid (Below W0.heap.size W0 w1) := BL0.trans (b.mono BL0.size)
  clear b z0 z1 z2 HA BL0
  have z0 := (HK0.out _ B1.out).cell 0
  have z1 := (HK0.out _ B1.out).cell 1
  have BW1 : Hid (Below w.heap.size w w1) := B0.out.trans (B1.out.mono B0.out.size)
  go_wp2_with fail
  refine (those_any A n c 52 #[.pointer (some ⟨w.heap.size + 1, 0, none⟩)] w1).mono ?_
  rintro e w2 ⟨rfl, rfl⟩
  obtain ⟨W2, hW2, t0, t1, t2, t3⟩ := those_laid A n c 52 #[.pointer (some ⟨w.heap.size + 1, 0, none⟩)] zs w1 (HR.out _ BW1.out)
  rw [← hW2]
  clear hW2
  have hx : ∀ W, Below W2.heap.size W2 W → Below W0.heap.size W0 W := fun W h => (B1.out.trans (t3.mono B1.out.size)).trans (h.mono (Nat.le_trans B1.out.size t3.size))
  have HS := Lib.hid (those_stops_in1 9 (by omega) w1.heap.size (w1.heap.size + 1) (w.heap.size + 1) n c A zs (fun p => p.2.1 == v) hn W2 t0 t1 t2
    (fun p W h => in1_any p v (w.heap.size + 1) W (Nat.lt_of_lt_of_le hlt1 (hx W h).size) ((HK1.out _ (hx W h)).cell 0)))
  have HCO := Lib.hid (collect_any _ _ _ n hn _ W2 eg_those HS.out W2 (Below.refl _ _))
  rw [in_filter] at HCO
  have BW2 : Hid (Below w.heap.size w W2) := BW1.out.trans (t3.mono BW1.out.size)
  clear t0 t1 t2 t3 HS hx z0 z1
  go_wp2_with fail
  refine HCO.out.mono ?_
  rintro e w3 hx
  obtain ⟨A2, c2, rfl, h1, h2, h3, h4⟩ := rows_row hx
  have HE : Hid (RErr (inE zs v) 0 w (.returned (.tuple #[.slice A2 (inE zs v).length c2, .int .i64 0])) w3) := ⟨A2, c2, rfl, own_base h1 BW2.out.size, h2, h3, BW2.out.trans (h4.mono BW2.out.size)⟩
  clear h1 h2 h3 h4 hx HCO
  go_wp2_with fail
  go_ret2
  exact HE.out

set_option maxRecDepth 100000 in
set_option maxHeartbeats 2000000 in
theorem in_no (nodes v k : Int) (A : Option Addr) (n c : Nat) (zs : List Ed) (hk : askE nodes zs [v] = k) (hk0 : (k != 0) = true) (hn : n ≤ 1000) (w : World) (hR : Reads w w.heap.size 3 A n (cellsE zs)) :
    Calls Try.prog 24 #[.agg #[.int .i64 nodes, .slice A n c], .int .i64 v] w (RErr [] k w) := by
  obtain ⟨k0, k1, b0⟩ := two_new w #[.int .i64 nodes, .slice A n c] #[.int .i64 v] 24 3
  obtain ⟨W0, hW0⟩ : ∃ W0, (w.alloc (.cells #[.int .i64 nodes, .slice A n c] 24)).alloc (.cells #[.int .i64 v] 3) = W0 := ⟨_, rfl⟩
  rw [hW0] at k0 k1 b0
  have hil := int_lit W0 [v] 3 #[.int .i64 v] rfl
  have bl : Below w.heap.size w (W0.alloc (.cells #[.int .i64 v] 3)) := b0.alloc b0.size _
  have HA := Lib.hid (asked_any nodes A (some ⟨W0.heap.size, 0, none⟩) n c 1 1 zs [v] hn (by omega) _ ((hR.below bl).more bl.size) hil)
  rw [hk] at HA
  have BL := Lib.hid bl
  have z0 := k0.cell 0
  have z1 := k0.cell 1
  have z2 := k1.cell 0
  clear hR k0 k1 b0 bl hil hk
  go_enter Try.func24, Try.ntmps24
  go_wp2_with fail
  refine HA.out.mono ?_
  rintro e w1 ⟨rfl, b⟩
  have B1 : Hid (Below w.heap.size w w1) := BL.out.trans (b.mono BL.out.size)
  clear b z0 z1 z2 HA
  go_wp2_with fail
  go_ret2
  exact ⟨none, 0, rfl, World.ownsRow_nil _ _ _ _, Nat.le_refl _, by decide, B1.out⟩

theorem kinds_filter (zs : List Ed) (u v : Int) : ((outE zs u).filter (fun p => p.2.1 == v)).map (fun p => p.2.2) = kindsE zs u v := by
  unfold kindsE
  congr 1

set_option maxRecDepth 100000 in
set_option maxHeartbeats 4000000 in
theorem kinds_ok (nodes u v : Int) (A : Option Addr) (n c : Nat) (zs : List Ed) (hg : IsG nodes zs) (hu : 0 ≤ u ∧ u < nodes) (hv : 0 ≤ v ∧ v < nodes) (hn : n ≤ 1000) (hnc : n ≤ c) (w : World) (hR : Reads w w.heap.size 3 A n (cellsE zs)) :
    Calls Try.prog 27 #[.agg #[.int .i64 nodes, .slice A n c], .int .i64 u, .int .i64 v] w (IErr (kindsE zs u v) 0 w) := by
  obtain ⟨k0, k1, b0⟩ := two_new w #[.int .i64 nodes, .slice A n c] #[.int .i64 v] 24 3
  obtain ⟨W0, hW0⟩ : ∃ W0, (w.alloc (.cells #[.int .i64 nodes, .slice A n c] 24)).alloc (.cells #[.int .i64 v] 3) = W0 := ⟨_, rfl⟩
  rw [hW0] at k0 k1 b0
  have hnd := hg.nodes
  have hl := reads_len hR
  have hil := int_lit W0 [u, v] 3 #[.int .i64 u, .int .i64 v] rfl
  have bl : Below w.heap.size w (W0.alloc (.cells #[.int .i64 u, .int .i64 v] 3)) := b0.alloc b0.size _
  have HA := Lib.hid (asked_any nodes A (some ⟨W0.heap.size, 0, none⟩) n c 2 2 zs [u, v] hn (by omega) _ ((hR.below bl).more bl.size) hil)
  rw [ask_ok (rightG_iff.2 hg) (by unfold nodeB; simp [hu, hv])] at HA
  have HR := Lib.hid fun W (h : Below w.heap.size w W) => (hR.below h).more h.size
  have HLV := Lib.hid fun W (h : Below w.heap.size w W) => leaving_any A n c zs u (by omega) hg.row hn hnc W ((hR.below h).more h.size)
  have HCR := Lib.hid fun W (h : Below w.heap.size w W) => cut_reads u hg.row ((hR.below h).more h.size)
  have h1 := start_le zs (u + 1)
  have HK0 := Lib.hid fun W (h : Below W0.heap.size W0 W) => k0.below h k0.lt
  have HK1 := Lib.hid fun W (h : Below W0.heap.size W0 W) => k1.below h k1.lt
  have B0 := Lib.hid b0
  have hlt1 := k1.lt
  have z0 := k0.cell 0
  have z1 := k0.cell 1
  have z2 := k1.cell 0
  have BL0 : Below W0.heap.size W0 (W0.alloc (.cells #[.int .i64 u, .int .i64 v] 3)) := (Below.refl _ _).alloc (Nat.le_refl _) _
  have hmn : startE zs (u + 1) - startE zs u ≤ 1000 := by omega
  clear hR k0 k1 b0 bl hil hg hv hu hl h1
  generalize CutAt zs u A = C at *
  generalize startE zs (u + 1) - startE zs u = q at *
  go_enter Try.func27, Try.ntmps27
  go_wp2_with fail
  clear hW0
  refine HA.out.mono ?_
  rintro e w1 ⟨rfl, b⟩
  have B1 : Hid (Below W0.heap.size W0 w1) := BL0.trans (b.mono BL0.size)
  clear b z0 z1 z2 HA BL0
  have z0 := (HK0.out _ B1.out).cell 0
  have z1 := (HK0.out _ B1.out).cell 1
  have BW1 : Hid (Below w.heap.size w w1) := B0.out.trans (B1.out.mono B0.out.size)
  go_wp2_with fail
  refine (HLV.out _ BW1.out).mono ?_
  rintro e w2 ⟨rfl, b⟩
  have B2 : Hid (Below W0.heap.size W0 w2) := B1.out.trans (b.mono B1.out.size)
  have BW2 : Hid (Below w.heap.size w w2) := B0.out.trans (B2.out.mono B0.out.size)
  clear b z0 z1 HLV
  go_wp2_with fail
  refine (those_any C q q 53 #[.pointer (some ⟨w.heap.size + 1, 0, none⟩)] w2).mono ?_
  rintro e w3 ⟨rfl, rfl⟩
  obtain ⟨W3, hW3, t0, t1, t2, t3⟩ := those_laid C q q 53 #[.pointer (some ⟨w.heap.size + 1, 0, none⟩)] (outE zs u) w2 (HCR.out _ BW2.out)
  rw [← hW3]
  clear hW3
  have hx : ∀ W, Below W3.heap.size W3 W → Below W0.heap.size W0 W := fun W h => (B2.out.trans (t3.mono B2.out.size)).trans (h.mono (Nat.le_trans B2.out.size t3.size))
  have HS := Lib.hid (those_stops_kinds1 9 (by omega) w2.heap.size (w2.heap.size + 1) (w.heap.size + 1) q q C (outE zs u) (fun p => p.2.1 == v) hmn W3 t0 t1 t2
    (fun p W h => kinds1_any p v (w.heap.size + 1) W (Nat.lt_of_lt_of_le hlt1 (hx W h).size) ((HK1.out _ (hx W h)).cell 0)))
  have HG := Lib.hid (callsIn_wide.1 (gatherI_in 10 (by omega) _ _ _ q hmn _ W3 eg_those HS.out W3 (Below.refl _ _)))
  rw [kinds_filter] at HG
  have BW3 : Hid (Below w.heap.size w W3) := BW2.out.trans (t3.mono BW2.out.size)
  clear t0 t1 t2 t3 HS hx
  go_wp2_with fail
  refine HG.out.mono ?_
  rintro e w4 ⟨A2, c2, rfl, h1, h2, h3, h4⟩
  have HE : Hid (IErr (kindsE zs u v) 0 w (.returned (.tuple #[.slice A2 (kindsE zs u v).length c2, .int .i64 0])) w4) := ⟨A2, c2, rfl, h1, h2, h3, BW3.out.trans (h4.mono BW3.out.size)⟩
  clear h1 h2 h3 h4 HG
  go_wp2_with fail
  go_ret2
  exact HE.out

set_option maxRecDepth 100000 in
set_option maxHeartbeats 2000000 in
theorem kinds_no (nodes u v k : Int) (A : Option Addr) (n c : Nat) (zs : List Ed) (hk : askE nodes zs [u, v] = k) (hk0 : (k != 0) = true) (hn : n ≤ 1000) (w : World) (hR : Reads w w.heap.size 3 A n (cellsE zs)) :
    Calls Try.prog 27 #[.agg #[.int .i64 nodes, .slice A n c], .int .i64 u, .int .i64 v] w (IErr [] k w) := by
  obtain ⟨k0, k1, b0⟩ := two_new w #[.int .i64 nodes, .slice A n c] #[.int .i64 v] 24 3
  obtain ⟨W0, hW0⟩ : ∃ W0, (w.alloc (.cells #[.int .i64 nodes, .slice A n c] 24)).alloc (.cells #[.int .i64 v] 3) = W0 := ⟨_, rfl⟩
  rw [hW0] at k0 k1 b0
  have hil := int_lit W0 [u, v] 3 #[.int .i64 u, .int .i64 v] rfl
  have bl : Below w.heap.size w (W0.alloc (.cells #[.int .i64 u, .int .i64 v] 3)) := b0.alloc b0.size _
  have HA := Lib.hid (asked_any nodes A (some ⟨W0.heap.size, 0, none⟩) n c 2 2 zs [u, v] hn (by omega) _ ((hR.below bl).more bl.size) hil)
  rw [hk] at HA
  have BL := Lib.hid bl
  have z0 := k0.cell 0
  have z1 := k0.cell 1
  have z2 := k1.cell 0
  clear hR k0 k1 b0 bl hil hk
  go_enter Try.func27, Try.ntmps27
  go_wp2_with fail
  refine HA.out.mono ?_
  rintro e w1 ⟨rfl, b⟩
  have B1 : Hid (Below w.heap.size w w1) := BL.out.trans (b.mono BL.out.size)
  clear b z0 z1 z2 HA
  go_wp2_with fail
  go_ret2
  exact ⟨none, 0, rfl, Reads.none_, Nat.le_refl _, by decide, B1.out⟩

set_option maxRecDepth 100000 in
set_option maxHeartbeats 4000000 in
theorem rev_ok (nodes : Int) (A : Option Addr) (n c : Nat) (zs : List Ed) (hg : IsG nodes zs) (hn : n ≤ 1000) (w : World) (hR : Reads w w.heap.size 3 A n (cellsE zs)) :
    Calls Try.prog 29 #[.agg #[.int .i64 nodes, .slice A n c]] w (GErr nodes (backE zs) 0 w) := by
  obtain ⟨k0, k1, b0⟩ := two_new w #[.int .i64 nodes, .slice A n c] #[.int .i64 0, .slice none 0 0] 24 24
  obtain ⟨W0, hW0⟩ : ∃ W0, (w.alloc (.cells #[.int .i64 nodes, .slice A n c] 24)).alloc (.cells #[.int .i64 0, .slice none 0 0] 24) = W0 := ⟨_, rfl⟩
  rw [hW0] at k0 k1 b0
  have hl := reads_len hR
  have HC := Lib.hid (check_any nodes A n c zs hn W0 ((hR.below b0).more b0.size))
  rw [check_yes (rightG_iff.2 hg)] at HC
  have HR := Lib.hid fun W (h : Below w.heap.size w W) => (hR.below h).more h.size
  have HOK := Lib.hid hg.flip_ok
  have HK0 := Lib.hid fun W (h : Below W0.heap.size W0 W) => k0.below h k0.lt
  have HK1 := Lib.hid fun W (h : Below W0.heap.size W0 W) => k1.below h k1.lt
  have HLN : Hid ((zs.map flipE).length ≤ 1000) := by show _ ≤ _; rw [List.length_map]; omega
  have B0 := Lib.hid b0
  have z0 := k0.cell 0
  have z1 := k0.cell 1
  clear hR k0 k1 b0 hg hl
  go_enter Try.func29, Try.ntmps29
  go_wp2_with fail
  clear hW0
  refine HC.out.mono ?_
  rintro e w1 ⟨rfl, b⟩
  have B1 : Hid (Below W0.heap.size W0 w1) := Lib.hid b
  have BW1 : Hid (Below w.heap.size w w1) := B0.out.trans (b.mono B0.out.size)
  clear b z0 z1 HC
  have z0 := (HK0.out _ B1.out).cell 0
  have z1 := (HK0.out _ B1.out).cell 1
  go_wp2_with fail
  refine (values_any A n c w1).mono ?_
  rintro e w2 ⟨rfl, rfl⟩
  obtain ⟨t0, t3⟩ := box_new w1 #[.slice A n c] 22
  have HS := Lib.hid (values_stops 9 (by omega) w1.heap.size n c A zs hn _ t0 (((HR.out _ BW1.out).below t3).more t3.size))
  have HG := Lib.hid (callsIn_wide.1 (gatherE_in 10 (by omega) _ _ _ n hn _ _ eg_values HS.out _ (Below.refl _ _)))
  have B2 : Hid (Below W0.heap.size W0 (w1.alloc (.cells #[.slice A n c] 22))) := B1.out.trans (t3.mono B1.out.size)
  clear t0 t3 HS z0 z1
  generalize w1.alloc (.cells #[.slice A n c] 22) = w2 at *
  go_wp2_with fail
  refine HG.out.mono ?_
  rintro e w3 hx
  obtain ⟨A2, c2, rfl, h1, h2, h3, h4⟩ := rows_row hx
  have B3 : Hid (Below W0.heap.size W0 w3) := B2.out.trans (h4.mono B2.out.size)
  have HSO := Lib.hid (sorted_any A2 _ c2 (zs.map flipE) HOK.out HLN.out w3.drew (reads_own h1))
  have HBE : Hid (sorE (zs.map flipE) = backE zs) := rfl
  rw [HBE.out] at HSO
  clear h1 h2 h3 h4 hx HG
  generalize (zs.map flipE).length = q at *
  go_wp2_with fail
  have J0 : Hid (Below W0.heap.size W0 w3.drew) := B3.out.drew
  have HS1 : Hid (∀ W, Below W0.heap.size W0 W → W.cell? ⟨w.heap.size, 0, none⟩ = some (.int .i64 nodes) ∧ W.cell? ⟨w.heap.size, 1, none⟩ = some (.slice A n c)) := fun W h => ⟨(HK0.out W h).cell 0, (HK0.out W h).cell 1⟩
  have HS2 : Hid (∀ (W : World) u v, Below W0.heap.size W0 W → ((W.setCell ⟨w.heap.size + 1, 0, none⟩ u).setCell ⟨w.heap.size + 1, 1, none⟩ v).cell? ⟨w.heap.size, 0, none⟩ = some (.int .i64 nodes) ∧ ((W.setCell ⟨w.heap.size + 1, 0, none⟩ u).setCell ⟨w.heap.size + 1, 1, none⟩ v).cell? ⟨w.heap.size, 1, none⟩ = some (.slice A n c)) :=
    fun W u v h => have b := ((HK0.out W h).far (p := ⟨w.heap.size + 1, 0, none⟩) (by simp) u).far (p := ⟨w.heap.size + 1, 1, none⟩) (by simp) v; ⟨b.cell 0, b.cell 1⟩
  go_region_held3 (fun W => W.cell? ⟨w.heap.size, 0, none⟩ = some (.int .i64 nodes) ∧ W.cell? ⟨w.heap.size, 1, none⟩ = some (.slice A n c)) (first | exact HS2.out _ _ _ J1.out | exact HS1.out _ J1.out | exact HS1.out _ J0.out | fail) (first
    | (go_at_call 43; refine HSO.out.mono ?_; rintro e w4 ⟨A3, c3, rfl, i1, i2, i3, i4⟩; have J1 : Hid (Below W0.heap.size W0 w4) := J0.out.trans (i4.mono J0.out.size); have HG := Lib.hid (And.intro i1 (And.intro i2 i3)); have q0 := (HK1.out _ J1.out).cell 0; have q1 := (HK1.out _ J1.out).cell 1; have q2 := (HK1.out _ J1.out).frozen 0; have q3 := (HK1.out _ J1.out).frozen 1; clear i1 i2 i3 i4)
    | fail)
  have y0 := (store2 (HK1.out _ J1.out) (.int .i64 nodes) (.slice A3 (backE zs).length c3)).cell 0
  have y1 := (store2 (HK1.out _ J1.out) (.int .i64 nodes) (.slice A3 (backE zs).length c3)).cell 1
  have HE : Hid (GErr nodes (backE zs) 0 w (.returned (.tuple #[.agg #[.int .i64 nodes, .slice A3 (backE zs).length c3], .int .i64 0])) ((w4.setCell ⟨w.heap.size + 1, 0, none⟩ (.int .i64 nodes)).setCell ⟨w.heap.size + 1, 1, none⟩ (.slice A3 (backE zs).length c3))) :=
    ⟨A3, c3, rfl, own_store2 (own_base HG.out.1 (Nat.le_trans B0.out.size J0.out.size)) (HK1.out _ J1.out) (by decide) _ _, HG.out.2.1, HG.out.2.2, below_store2 (B0.out.trans (J1.out.mono B0.out.size)) (Nat.le_succ _) _ _⟩
  go_wp2_with fail
  exact bodyPost_ret (v := .tuple #[.agg #[.int .i64 nodes, .slice A3 (backE zs).length c3], .int .i64 0]) (by simp [results, Try.results29, go_sem, y0, y1]) rfl HE.out

set_option maxRecDepth 100000 in
set_option maxHeartbeats 2000000 in
theorem rev_no (nodes : Int) (A : Option Addr) (n c : Nat) (zs : List Ed) (hg : rightG nodes zs = false) (hn : n ≤ 1000) (w : World) (hR : Reads w w.heap.size 3 A n (cellsE zs)) :
    Calls Try.prog 29 #[.agg #[.int .i64 nodes, .slice A n c]] w (GErr 0 [] 150 w) := by
  obtain ⟨k0, k1, b0⟩ := two_new w #[.int .i64 nodes, .slice A n c] #[.int .i64 0, .slice none 0 0] 24 24
  obtain ⟨W0, hW0⟩ : ∃ W0, (w.alloc (.cells #[.int .i64 nodes, .slice A n c] 24)).alloc (.cells #[.int .i64 0, .slice none 0 0] 24) = W0 := ⟨_, rfl⟩
  rw [hW0] at k0 k1 b0
  have HC := Lib.hid (check_any nodes A n c zs hn W0 ((hR.below b0).more b0.size))
  rw [check_no hg] at HC
  have HK1 := Lib.hid fun W (h : Below W0.heap.size W0 W) => k1.below h k1.lt
  have B0 := Lib.hid b0
  have z0 := k0.cell 0
  have z1 := k0.cell 1
  clear hR k0 k1 b0 hg
  go_enter Try.func29, Try.ntmps29
  go_wp2_with fail
  clear hW0
  refine HC.out.mono ?_
  rintro e w1 ⟨rfl, b⟩
  have K1 := Lib.hid (HK1.out _ b)
  have B1 : Hid (Below w.heap.size w w1) := B0.out.trans (b.mono B0.out.size)
  clear b z0 z1 HC HK1
  have q0 := K1.out.cell 0
  have q1 := K1.out.cell 1
  have q2 := K1.out.frozen 0
  have q3 := K1.out.frozen 1
  have y0 := (store2 K1.out (.int .i64 0) (.slice none 0 0)).cell 0
  have y1 := (store2 K1.out (.int .i64 0) (.slice none 0 0)).cell 1
  have HE : Hid (GErr 0 [] 150 w (.returned (.tuple #[.agg #[.int .i64 0, .slice none 0 0], .int .i64 150])) ((w1.setCell ⟨w.heap.size + 1, 0, none⟩ (.int .i64 0)).setCell ⟨w.heap.size + 1, 1, none⟩ (.slice none 0 0))) :=
    ⟨none, 0, rfl, World.ownsRow_nil _ _ _ _, Nat.le_refl _, by decide, below_store2 B1.out (Nat.le_succ _) _ _⟩
  go_wp2_with fail
  exact bodyPost_ret (v := .tuple #[.agg #[.int .i64 0, .slice none 0 0], .int .i64 150]) (by simp [results, Try.results29, go_sem, y0, y1]) rfl HE.out

set_option maxRecDepth 100000 in
set_option maxHeartbeats 2000000 in
theorem filter_no (nodes : Int) (A : Option Addr) (n c : Nat) (g : Nat) (caps : Array Value) (zs : List Ed) (hg : rightG nodes zs = false) (hn : n ≤ 1000) (w : World) (hR : Reads w w.heap.size 3 A n (cellsE zs)) :
    Calls Try.prog 30 #[.agg #[.int .i64 nodes, .slice A n c], .func (.func g) #[] caps] w (GErr 0 [] 150 w) := by
  obtain ⟨k0, k1, b0⟩ := two_new w #[.int .i64 nodes, .slice A n c] #[.int .i64 0, .slice none 0 0] 24 24
  obtain ⟨W0, hW0⟩ : ∃ W0, (w.alloc (.cells #[.int .i64 nodes, .slice A n c] 24)).alloc (.cells #[.int .i64 0, .slice none 0 0] 24) = W0 := ⟨_, rfl⟩
  rw [hW0] at k0 k1 b0
  have HC := Lib.hid (check_any nodes A n c zs hn W0 ((hR.below b0).more b0.size))
  rw [check_no hg] at HC
  have HK1 := Lib.hid fun W (h : Below W0.heap.size W0 W) => k1.below h k1.lt
  have B0 := Lib.hid b0
  have z0 := k0.cell 0
  have z1 := k0.cell 1
  clear hR k0 k1 b0 hg
  go_enter Try.func30, Try.ntmps30
  go_wp2_with fail
  clear hW0
  refine HC.out.mono ?_
  rintro e w1 ⟨rfl, b⟩
  have K1 := Lib.hid (HK1.out _ b)
  have B1 : Hid (Below w.heap.size w w1) := B0.out.trans (b.mono B0.out.size)
  clear b z0 z1 HC HK1
  have q0 := K1.out.cell 0
  have q1 := K1.out.cell 1
  have q2 := K1.out.frozen 0
  have q3 := K1.out.frozen 1
  have y0 := (store2 K1.out (.int .i64 0) (.slice none 0 0)).cell 0
  have y1 := (store2 K1.out (.int .i64 0) (.slice none 0 0)).cell 1
  have HE : Hid (GErr 0 [] 150 w (.returned (.tuple #[.agg #[.int .i64 0, .slice none 0 0], .int .i64 150])) ((w1.setCell ⟨w.heap.size + 1, 0, none⟩ (.int .i64 0)).setCell ⟨w.heap.size + 1, 1, none⟩ (.slice none 0 0))) :=
    ⟨none, 0, rfl, World.ownsRow_nil _ _ _ _, Nat.le_refl _, by decide, below_store2 B1.out (Nat.le_succ _) _ _⟩
  go_wp2_with fail
  exact bodyPost_ret (v := .tuple #[.agg #[.int .i64 0, .slice none 0 0], .int .i64 150]) (by simp [results, Try.results30, go_sem, y0, y1]) rfl HE.out

set_option maxRecDepth 100000 in
set_option maxHeartbeats 4000000 in
theorem filter_parts1 (nodes : Int) (A : Option Addr) (n c : Nat) (Bv : Nat) (x : Int) (zs : List Ed) (hg : IsG nodes zs) (hn : n ≤ 1000) (w : World) (hR : Reads w w.heap.size 3 A n (cellsE zs)) (hBv : Bv < w.heap.size) (hcv : w.cell? ⟨Bv, 0, none⟩ = some (.int .i64 x)) :
    Calls Try.prog 30 #[.agg #[.int .i64 nodes, .slice A n c], .func (.func 35) #[] #[.pointer (some ⟨Bv, 0, none⟩)]] w (GErr nodes (zs.filter (fun p => decide (p.2.2 < x))) 0 w) := by
  obtain ⟨rs, hrs⟩ : ∃ rs, zs.filter (fun p => decide (p.2.2 < x)) = rs := ⟨_, rfl⟩
  have HRS := Lib.hid hrs
  rw [hrs]
  clear hrs
  obtain ⟨k0, k1, b0⟩ := two_new w #[.int .i64 nodes, .slice A n c] #[.int .i64 0, .slice none 0 0] 24 24
  obtain ⟨W0, hW0⟩ : ∃ W0, (w.alloc (.cells #[.int .i64 nodes, .slice A n c] 24)).alloc (.cells #[.int .i64 0, .slice none 0 0] 24) = W0 := ⟨_, rfl⟩
  rw [hW0] at k0 k1 b0
  have hl := reads_len hR
  have HC := Lib.hid (check_any nodes A n c zs hn W0 ((hR.below b0).more b0.size))
  rw [check_yes (rightG_iff.2 hg)] at HC
  have HCP := Lib.hid fun W (h : Below w.heap.size w W) => copied_any A n c zs (by omega) W ((hR.below h).more h.size)
  have HK0 := Lib.hid fun W (h : Below W0.heap.size W0 W) => k0.below h k0.lt
  have HK1 := Lib.hid fun W (h : Below W0.heap.size W0 W) => k1.below h k1.lt
  have HLN : Hid (zs.length ≤ 1000) := by show _ ≤ _; omega
  have HQ := Lib.hid fun W (h : Below w.heap.size w W) (p : Ed) => parts1_any p x Bv W (Nat.lt_of_lt_of_le hBv h.size) ((h.cell (p := ⟨Bv, 0, none⟩) hBv).trans hcv)
  have B0 := Lib.hid b0
  have z0 := k0.cell 0
  have z1 := k0.cell 1
  clear hR k0 k1 b0 hg hl hBv hcv
  go_enter Try.func30, Try.ntmps30
  go_wp2_with fail
  clear hW0
  refine HC.out.mono ?_
  rintro e w1 ⟨rfl, b⟩
  have B1 : Hid (Below W0.heap.size W0 w1) := Lib.hid b
  have BW1 : Hid (Below w.heap.size w w1) := B0.out.trans (b.mono B0.out.size)
  clear b z0 z1 HC
  have z0 := (HK0.out _ B1.out).cell 0
  have z1 := (HK0.out _ B1.out).cell 1
  go_wp2_with fail
  refine (HCP.out _ BW1.out).mono ?_
  rintro e w2 hx
  obtain ⟨A2, c2, rfl, h1, h2, h3, h4⟩ := rows_row hx
  have B2 : Hid (Below W0.heap.size W0 w2) := B1.out.trans (h4.mono B1.out.size)
  have R2 := Lib.hid (reads_own h1)
  clear h1 h2 h3 h4 hx HCP z0 z1
  obtain ⟨q, hq⟩ : ∃ q, zs.length = q := ⟨_, rfl⟩
  rw [hq] at R2 HLN ⊢
  clear hq
  go_wp2_with fail
  refine (those_any A2 q c2 35 #[.pointer (some ⟨Bv, 0, none⟩)] w2).mono ?_
  rintro e w3 ⟨rfl, rfl⟩
  obtain ⟨W3, hW3, t0, t1, t2, t3⟩ := those_laid A2 q c2 35 #[.pointer (some ⟨Bv, 0, none⟩)] zs w2 R2.out
  rw [← hW3]
  clear hW3
  have B3 : Hid (Below W0.heap.size W0 W3) := B2.out.trans (t3.mono B2.out.size)
  have hx : ∀ W, Below W3.heap.size W3 W → Below w.heap.size w W := fun W h => B0.out.trans ((B3.out.trans (h.mono B3.out.size)).mono B0.out.size)
  have HS := Lib.hid (those_stops_parts1 9 (by omega) w2.heap.size (w2.heap.size + 1) Bv q c2 A2 zs (fun p => decide (p.2.2 < x)) HLN.out W3 t0 t1 t2 (fun p W h => HQ.out W (hx W h) p))
  have HCO := Lib.hid (collect_any _ _ _ q HLN.out _ W3 eg_those HS.out W3 (Below.refl _ _))
  rw [HRS.out] at HCO
  clear t0 t1 t2 t3 HS hx
  go_wp2_with fail
  refine HCO.out.mono ?_
  rintro e w4 hx
  obtain ⟨A3, c3, rfl, h1, h2, h3, h4⟩ := rows_row hx
  have B4 : Hid (Below W0.heap.size W0 w4) := B3.out.trans (h4.mono B3.out.size)
  have K1 := Lib.hid (HK1.out _ B4.out)
  have z0 := (HK0.out _ B4.out).cell 0
  have z1 := (HK0.out _ B4.out).cell 1
  have q0 := K1.out.cell 0
  have q1 := K1.out.cell 1
  have q2 := K1.out.frozen 0
  have q3 := K1.out.frozen 1
  have y0 := (store2 K1.out (.int .i64 nodes) (.slice A3 rs.length c3)).cell 0
  have y1 := (store2 K1.out (.int .i64 nodes) (.slice A3 rs.length c3)).cell 1
  have HE : Hid (GErr nodes rs 0 w (.returned (.tuple #[.agg #[.int .i64 nodes, .slice A3 rs.length c3], .int .i64 0])) ((w4.setCell ⟨w.heap.size + 1, 0, none⟩ (.int .i64 nodes)).setCell ⟨w.heap.size + 1, 1, none⟩ (.slice A3 rs.length c3))) :=
    ⟨A3, c3, rfl, own_store2 (own_base h1 (Nat.le_trans B0.out.size B3.out.size)) K1.out (by decide) _ _, h2, h3, below_store2 (B0.out.trans (B4.out.mono B0.out.size)) (Nat.le_succ _) _ _⟩
  clear h1 h2 h3 h4 hx HCO
  go_wp2_with fail
  exact bodyPost_ret (v := .tuple #[.agg #[.int .i64 nodes, .slice A3 rs.length c3], .int .i64 0]) (by simp [results, Try.results30, go_sem, y0, y1]) rfl HE.out

set_option maxRecDepth 100000 in
set_option maxHeartbeats 4000000 in
theorem filter_parts2 (nodes : Int) (A : Option Addr) (n c : Nat) (Bv : Nat) (x : Int) (zs : List Ed) (hg : IsG nodes zs) (hn : n ≤ 1000) (w : World) (hR : Reads w w.heap.size 3 A n (cellsE zs)) (hBv : Bv < w.heap.size) (hcv : w.cell? ⟨Bv, 0, none⟩ = some (.int .i64 x)) :
    Calls Try.prog 30 #[.agg #[.int .i64 nodes, .slice A n c], .func (.func 36) #[] #[.pointer (some ⟨Bv, 0, none⟩)]] w (GErr nodes (zs.filter (fun p => decide (p.2.2 ≥ x))) 0 w) := by
  obtain ⟨rs, hrs⟩ : ∃ rs, zs.filter (fun p => decide (p.2.2 ≥ x)) = rs := ⟨_, rfl⟩
  have HRS := Lib.hid hrs
  rw [hrs]
  clear hrs
  obtain ⟨k0, k1, b0⟩ := two_new w #[.int .i64 nodes, .slice A n c] #[.int .i64 0, .slice none 0 0] 24 24
  obtain ⟨W0, hW0⟩ : ∃ W0, (w.alloc (.cells #[.int .i64 nodes, .slice A n c] 24)).alloc (.cells #[.int .i64 0, .slice none 0 0] 24) = W0 := ⟨_, rfl⟩
  rw [hW0] at k0 k1 b0
  have hl := reads_len hR
  have HC := Lib.hid (check_any nodes A n c zs hn W0 ((hR.below b0).more b0.size))
  rw [check_yes (rightG_iff.2 hg)] at HC
  have HCP := Lib.hid fun W (h : Below w.heap.size w W) => copied_any A n c zs (by omega) W ((hR.below h).more h.size)
  have HK0 := Lib.hid fun W (h : Below W0.heap.size W0 W) => k0.below h k0.lt
  have HK1 := Lib.hid fun W (h : Below W0.heap.size W0 W) => k1.below h k1.lt
  have HLN : Hid (zs.length ≤ 1000) := by show _ ≤ _; omega
  have HQ := Lib.hid fun W (h : Below w.heap.size w W) (p : Ed) => parts2_any p x Bv W (Nat.lt_of_lt_of_le hBv h.size) ((h.cell (p := ⟨Bv, 0, none⟩) hBv).trans hcv)
  have B0 := Lib.hid b0
  have z0 := k0.cell 0
  have z1 := k0.cell 1
  clear hR k0 k1 b0 hg hl hBv hcv
  go_enter Try.func30, Try.ntmps30
  go_wp2_with fail
  clear hW0
  refine HC.out.mono ?_
  rintro e w1 ⟨rfl, b⟩
  have B1 : Hid (Below W0.heap.size W0 w1) := Lib.hid b
  have BW1 : Hid (Below w.heap.size w w1) := B0.out.trans (b.mono B0.out.size)
  clear b z0 z1 HC
  have z0 := (HK0.out _ B1.out).cell 0
  have z1 := (HK0.out _ B1.out).cell 1
  go_wp2_with fail
  refine (HCP.out _ BW1.out).mono ?_
  rintro e w2 hx
  obtain ⟨A2, c2, rfl, h1, h2, h3, h4⟩ := rows_row hx
  have B2 : Hid (Below W0.heap.size W0 w2) := B1.out.trans (h4.mono B1.out.size)
  have R2 := Lib.hid (reads_own h1)
  clear h1 h2 h3 h4 hx HCP z0 z1
  obtain ⟨q, hq⟩ : ∃ q, zs.length = q := ⟨_, rfl⟩
  rw [hq] at R2 HLN ⊢
  clear hq
  go_wp2_with fail
  refine (those_any A2 q c2 36 #[.pointer (some ⟨Bv, 0, none⟩)] w2).mono ?_
  rintro e w3 ⟨rfl, rfl⟩
  obtain ⟨W3, hW3, t0, t1, t2, t3⟩ := those_laid A2 q c2 36 #[.pointer (some ⟨Bv, 0, none⟩)] zs w2 R2.out
  rw [← hW3]
  clear hW3
  have B3 : Hid (Below W0.heap.size W0 W3) := B2.out.trans (t3.mono B2.out.size)
  have hx : ∀ W, Below W3.heap.size W3 W → Below w.heap.size w W := fun W h => B0.out.trans ((B3.out.trans (h.mono B3.out.size)).mono B0.out.size)
  have HS := Lib.hid (those_stops_parts2 9 (by omega) w2.heap.size (w2.heap.size + 1) Bv q c2 A2 zs (fun p => decide (p.2.2 ≥ x)) HLN.out W3 t0 t1 t2 (fun p W h => HQ.out W (hx W h) p))
  have HCO := Lib.hid (collect_any _ _ _ q HLN.out _ W3 eg_those HS.out W3 (Below.refl _ _))
  rw [HRS.out] at HCO
  clear t0 t1 t2 t3 HS hx
  go_wp2_with fail
  refine HCO.out.mono ?_
  rintro e w4 hx
  obtain ⟨A3, c3, rfl, h1, h2, h3, h4⟩ := rows_row hx
  have B4 : Hid (Below W0.heap.size W0 w4) := B3.out.trans (h4.mono B3.out.size)
  have K1 := Lib.hid (HK1.out _ B4.out)
  have z0 := (HK0.out _ B4.out).cell 0
  have z1 := (HK0.out _ B4.out).cell 1
  have q0 := K1.out.cell 0
  have q1 := K1.out.cell 1
  have q2 := K1.out.frozen 0
  have q3 := K1.out.frozen 1
  have y0 := (store2 K1.out (.int .i64 nodes) (.slice A3 rs.length c3)).cell 0
  have y1 := (store2 K1.out (.int .i64 nodes) (.slice A3 rs.length c3)).cell 1
  have HE : Hid (GErr nodes rs 0 w (.returned (.tuple #[.agg #[.int .i64 nodes, .slice A3 rs.length c3], .int .i64 0])) ((w4.setCell ⟨w.heap.size + 1, 0, none⟩ (.int .i64 nodes)).setCell ⟨w.heap.size + 1, 1, none⟩ (.slice A3 rs.length c3))) :=
    ⟨A3, c3, rfl, own_store2 (own_base h1 (Nat.le_trans B0.out.size B3.out.size)) K1.out (by decide) _ _, h2, h3, below_store2 (B0.out.trans (B4.out.mono B0.out.size)) (Nat.le_succ _) _ _⟩
  clear h1 h2 h3 h4 hx HCO
  go_wp2_with fail
  exact bodyPost_ret (v := .tuple #[.agg #[.int .i64 nodes, .slice A3 rs.length c3], .int .i64 0]) (by simp [results, Try.results30, go_sem, y0, y1]) rfl HE.out

set_option maxRecDepth 100000 in
set_option maxHeartbeats 4000000 in
theorem filter_parts3 (nodes : Int) (A : Option Addr) (n c : Nat) (zs : List Ed) (hg : IsG nodes zs) (hn : n ≤ 1000) (w : World) (hR : Reads w w.heap.size 3 A n (cellsE zs)) :
    Calls Try.prog 30 #[.agg #[.int .i64 nodes, .slice A n c], .func (.func 37) #[] #[]] w (GErr nodes (zs.filter (fun _ => true)) 0 w) := by
  obtain ⟨rs, hrs⟩ : ∃ rs, zs.filter (fun _ => true) = rs := ⟨_, rfl⟩
  have HRS := Lib.hid hrs
  rw [hrs]
  clear hrs
  obtain ⟨k0, k1, b0⟩ := two_new w #[.int .i64 nodes, .slice A n c] #[.int .i64 0, .slice none 0 0] 24 24
  obtain ⟨W0, hW0⟩ : ∃ W0, (w.alloc (.cells #[.int .i64 nodes, .slice A n c] 24)).alloc (.cells #[.int .i64 0, .slice none 0 0] 24) = W0 := ⟨_, rfl⟩
  rw [hW0] at k0 k1 b0
  have hl := reads_len hR
  have HC := Lib.hid (check_any nodes A n c zs hn W0 ((hR.below b0).more b0.size))
  rw [check_yes (rightG_iff.2 hg)] at HC
  have HCP := Lib.hid fun W (h : Below w.heap.size w W) => copied_any A n c zs (by omega) W ((hR.below h).more h.size)
  have HK0 := Lib.hid fun W (h : Below W0.heap.size W0 W) => k0.below h k0.lt
  have HK1 := Lib.hid fun W (h : Below W0.heap.size W0 W) => k1.below h k1.lt
  have HLN : Hid (zs.length ≤ 1000) := by show _ ≤ _; omega
  have HQ := Lib.hid fun W (_ : Below w.heap.size w W) (p : Ed) => parts3_any p W
  have B0 := Lib.hid b0
  have z0 := k0.cell 0
  have z1 := k0.cell 1
  clear hR k0 k1 b0 hg hl
  go_enter Try.func30, Try.ntmps30
  go_wp2_with fail
  clear hW0
  refine HC.out.mono ?_
  rintro e w1 ⟨rfl, b⟩
  have B1 : Hid (Below W0.heap.size W0 w1) := Lib.hid b
  have BW1 : Hid (Below w.heap.size w w1) := B0.out.trans (b.mono B0.out.size)
  clear b z0 z1 HC
  have z0 := (HK0.out _ B1.out).cell 0
  have z1 := (HK0.out _ B1.out).cell 1
  go_wp2_with fail
  refine (HCP.out _ BW1.out).mono ?_
  rintro e w2 hx
  obtain ⟨A2, c2, rfl, h1, h2, h3, h4⟩ := rows_row hx
  have B2 : Hid (Below W0.heap.size W0 w2) := B1.out.trans (h4.mono B1.out.size)
  have R2 := Lib.hid (reads_own h1)
  clear h1 h2 h3 h4 hx HCP z0 z1
  obtain ⟨q, hq⟩ : ∃ q, zs.length = q := ⟨_, rfl⟩
  rw [hq] at R2 HLN ⊢
  clear hq
  go_wp2_with fail
  refine (those_any A2 q c2 37 #[] w2).mono ?_
  rintro e w3 ⟨rfl, rfl⟩
  obtain ⟨W3, hW3, t0, t1, t2, t3⟩ := those_laid A2 q c2 37 #[] zs w2 R2.out
  rw [← hW3]
  clear hW3
  have B3 : Hid (Below W0.heap.size W0 W3) := B2.out.trans (t3.mono B2.out.size)
  have hx : ∀ W, Below W3.heap.size W3 W → Below w.heap.size w W := fun W h => B0.out.trans ((B3.out.trans (h.mono B3.out.size)).mono B0.out.size)
  have HS := Lib.hid (those_stops_parts3 9 (by omega) w2.heap.size (w2.heap.size + 1) q c2 A2 zs (fun _ => true) HLN.out W3 t0 t1 t2 (fun p W h => HQ.out W (hx W h) p))
  have HCO := Lib.hid (collect_any _ _ _ q HLN.out _ W3 eg_those HS.out W3 (Below.refl _ _))
  rw [HRS.out] at HCO
  clear t0 t1 t2 t3 HS hx
  go_wp2_with fail
  refine HCO.out.mono ?_
  rintro e w4 hx
  obtain ⟨A3, c3, rfl, h1, h2, h3, h4⟩ := rows_row hx
  have B4 : Hid (Below W0.heap.size W0 w4) := B3.out.trans (h4.mono B3.out.size)
  have K1 := Lib.hid (HK1.out _ B4.out)
  have z0 := (HK0.out _ B4.out).cell 0
  have z1 := (HK0.out _ B4.out).cell 1
  have q0 := K1.out.cell 0
  have q1 := K1.out.cell 1
  have q2 := K1.out.frozen 0
  have q3 := K1.out.frozen 1
  have y0 := (store2 K1.out (.int .i64 nodes) (.slice A3 rs.length c3)).cell 0
  have y1 := (store2 K1.out (.int .i64 nodes) (.slice A3 rs.length c3)).cell 1
  have HE : Hid (GErr nodes rs 0 w (.returned (.tuple #[.agg #[.int .i64 nodes, .slice A3 rs.length c3], .int .i64 0])) ((w4.setCell ⟨w.heap.size + 1, 0, none⟩ (.int .i64 nodes)).setCell ⟨w.heap.size + 1, 1, none⟩ (.slice A3 rs.length c3))) :=
    ⟨A3, c3, rfl, own_store2 (own_base h1 (Nat.le_trans B0.out.size B3.out.size)) K1.out (by decide) _ _, h2, h3, below_store2 (B0.out.trans (B4.out.mono B0.out.size)) (Nat.le_succ _) _ _⟩
  clear h1 h2 h3 h4 hx HCO
  go_wp2_with fail
  exact bodyPost_ret (v := .tuple #[.agg #[.int .i64 nodes, .slice A3 rs.length c3], .int .i64 0]) (by simp [results, Try.results30, go_sem, y0, y1]) rfl HE.out

end Go.Proofs.Yticbgikbpafeoaa
