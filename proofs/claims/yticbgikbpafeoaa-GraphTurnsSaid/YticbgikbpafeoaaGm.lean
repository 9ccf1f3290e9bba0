/- Layer graph: rows of numbers; Out, Starts: contracts. -/
import Derived.Test.YticbgikbpafeoaaGl
import Derived.Test.YticbgikbpafeoaaShelf
namespace Go.Proofs.Yticbgikbpafeoaa
open Go.RowKit

/-- Rows of numbers, compared by the library. -/
theorem ints_get {w : World} {b o : Nat} {vs : List Int} (hc : ∀ j u, (ints vs)[j]? = some u → w.cell? ⟨b, o + j, none⟩ = some u) : ∀ j, j < vs.length → w.cell? ⟨b, o + j, none⟩ = some (.int .i64 (vs.getD j 0)) := by
  intro j hj
  refine hc j _ ?_
  unfold ints
  rw [List.getElem?_map, List.getElem?_eq_getElem hj, List.getD_eq_getElem?_getD, List.getElem?_eq_getElem hj]
  rfl
theorem eqi_any (A A2 : Option Addr) (n m c d : Nat) (xs ys : List Int) (hn : n ≤ 1000000) (hm : m ≤ 1000000) (w : World) (hR : Reads w w.heap.size 1 A n (ints xs)) (hR2 : Reads w w.heap.size 1 A2 m (ints ys)) :
    Calls Try.prog 21 #[.slice A n c, .slice A2 m d] w fun e w' => e = .returned (.bool (decide (xs = ys))) ∧ Below w.heap.size w w' := by
  have hl := ints_len hR
  have hl2 := ints_len hR2
  rcases Nat.eq_zero_or_pos n with h0 | h0
  · subst h0
    refine (Try.slices_Equal_int_empty A A2 c m d w (by omega)).mono ?_
    rintro e w' ⟨rfl, rfl⟩
    refine ⟨?_, Below.refl _ _⟩
    obtain rfl : xs = [] := List.eq_nil_of_length_eq_zero hl
    cases ys with
    | nil => simp at hl2; subst hl2; rfl
    | cons y ys => simp at hl2; have : ¬ m = 0 := by omega
                   simp [this]
  · by_cases hnm : n = m
    · subst hnm
      obtain ⟨b, o, rfl, hb, hc⟩ := reads_plain hR h0
      obtain ⟨b2, o2, rfl, hb2, hc2⟩ := reads_plain hR2 h0
      refine (Try.slices_Equal_int b o n c b2 o2 n d xs ys w (by omega) (by omega) (by omega) (by omega) (ints_get hc) (ints_get hc2)).mono ?_
      rintro e w' ⟨rfl, q, rfl⟩
      refine ⟨?_, below_drewN (Below.refl _ _) _⟩
      rw [List.take_of_length_le (by omega), List.take_of_length_le (by omega)]
      have : (xs == ys) = decide (xs = ys) := by rw [Bool.eq_iff_iff]; simp
      rw [this]
    · refine (Try.slices_Equal_int_lens A A2 n c m d w hnm).mono ?_
      rintro e w' ⟨rfl, rfl⟩
      refine ⟨?_, Below.refl _ _⟩
      have : ¬ xs = ys := fun e => hnm (by rw [← hl, ← hl2, e])
      simp [this]

theorem int_lit (w : World) (vs : List Int) (t : TypeId) (cs : Array Value) (h : cs = (ints vs).toArray) : Reads (w.alloc (.cells cs t)) (w.alloc (.cells cs t)).heap.size 1 (some ⟨w.heap.size, 0, none⟩) vs.length (ints vs) := by
  subst h
  exact ⟨by rw [ints_length, Nat.mul_one], fun _ => ⟨_, rfl, by simp, fun j u hu => by
    rw [Go.WideShapes.add_plain, Nat.zero_add, (Blk.new w t (ints vs).toArray).cell, List.getElem?_toArray]; exact hu⟩⟩

/-- Numbers, and an error. -/
def IErr (vs : List Int) (k : Int) (w : World) (e : Ending) (w' : World) : Prop :=
  ∃ (A : Option Addr) (c : Nat), e = .returned (.tuple #[.slice A vs.length c, .int .i64 k]) ∧ Reads w' w'.heap.size 1 A vs.length (ints vs) ∧ vs.length ≤ c ∧ c ≤ 9223372036854775807 ∧ Below w.heap.size w w'
theorem IErr.less {vs : List Int} {k : Int} {w w' : World} {e : Ending} (h : IErr vs k w e w') : Below w.heap.size w w' := by obtain ⟨_, _, _, _, _, _, h⟩ := h; exact h

set_option maxRecDepth 100000 in
set_option maxHeartbeats 2000000 in
theorem out_ok (nodes v : Int) (A : Option Addr) (n c : Nat) (zs : List Ed) (hg : IsG nodes zs) (hv : 0 ≤ v ∧ v < nodes) (hn : n ≤ 1000) (hnc : n ≤ c) (w : World) (hR : Reads w w.heap.size 3 A n (cellsE zs)) :
    Calls Try.prog 23 #[.agg #[.int .i64 nodes, .slice A n c], .int .i64 v] w (RErr (outE zs v) 0 w) := by
  obtain ⟨k0, k1, b0⟩ := two_new w #[.int .i64 nodes, .slice A n c] #[.int .i64 v] 24 3
  have hnd := hg.nodes
  have hl := reads_len hR
  have hsz : (w.alloc (.cells #[.int .i64 nodes, .slice A n c] 24)).heap.size = w.heap.size + 1 := by simp
  have hil := int_lit (w.alloc (.cells #[.int .i64 nodes, .slice A n c] 24)) [v] 3 #[.int .i64 v] rfl
  rw [hsz] at hil
  have HA := Lib.hid (asked_any nodes A (some ⟨w.heap.size + 1, 0, none⟩) n c 1 1 zs [v] hn (by omega) _ ((hR.below b0).more b0.size) hil)
  rw [ask_ok (rightG_iff.2 hg) (by unfold nodeB; simp [hv])] at HA
  have HLV := Lib.hid fun W (h : Below w.heap.size w W) => leaving_any A n c zs v (by omega) hg.row hn hnc W ((hR.below h).more h.size)
  have h1 := start_le zs (v + 1)
  have HCP := Lib.hid fun W (h : Below w.heap.size w W) => copied_any (CutAt zs v A) (startE zs (v + 1) - startE zs v) (startE zs (v + 1) - startE zs v) (outE zs v) (by omega) W (cut_reads v hg.row ((hR.below h).more h.size))
  have BX := Lib.hid k0
  have B0 := Lib.hid b0
  have z0 := k0.cell 0
  have z1 := k0.cell 1
  have x0 := (Blk.new w 24 #[.int .i64 nodes, .slice A n c]).cell 0
  have x1 := (Blk.new w 24 #[.int .i64 nodes, .slice A n c]).cell 1
  clear hR k0 k1 b0 hil hg hv hnd hl h1
  generalize CutAt zs v A = C at *
  generalize startE zs (v + 1) - startE zs v = m at *
  go_enter Try.func23, Try.ntmps23
  go_wp2_with fail
  refine HA.out.mono ?_
  rintro e w1 ⟨rfl, b⟩
  have BX1 := Lib.hid (BX.out.below b BX.out.lt)
  have B1 : Hid (Below w.heap.size w w1) := B0.out.trans (b.mono B0.out.size)
  clear b z0 z1 x0 x1 B0 BX HA
  have z0 := BX1.out.cell 0
  have z1 := BX1.out.cell 1
  go_wp2_with fail
  refine (HLV.out _ B1.out).mono ?_
  rintro e w2 ⟨rfl, b⟩
  have B2 : Hid (Below w.heap.size w w2) := B1.out.trans (b.mono B1.out.size)
  clear b z0 z1
  go_wp2_with fail
  refine (HCP.out _ B2.out).mono ?_
  rintro e w3 hx
  obtain ⟨A2, c2, rfl, h1, h2, h3, h4⟩ := rows_row hx
  have HE : Hid (RErr (outE zs v) 0 w (.returned (.tuple #[.slice A2 (outE zs v).length c2, .int .i64 0])) w3) := ⟨A2, c2, rfl, own_base h1 B2.out.size, h2, h3, B2.out.trans (h4.mono B2.out.size)⟩
  clear h1 h2 h3 h4 hx HCP HLV
  go_wp2_with fail
  go_ret2
  exact HE.out

set_option maxRecDepth 100000 in
set_option maxHeartbeats 2000000 in
theorem out_no (nodes v k : Int) (A : Option Addr) (n c : Nat) (zs : List Ed) (hk : askE nodes zs [v] = k) (hk0 : (k != 0) = true) (hn : n ≤ 1000) (w : World) (hR : Reads w w.heap.size 3 A n (cellsE zs)) :
    Calls Try.prog 23 #[.agg #[.int .i64 nodes, .slice A n c], .int .i64 v] w (RErr [] k w) := by
  obtain ⟨k0, k1, b0⟩ := two_new w #[.int .i64 nodes, .slice A n c] #[.int .i64 v] 24 3
  have hsz : (w.alloc (.cells #[.int .i64 nodes, .slice A n c] 24)).heap.size = w.heap.size + 1 := by simp
  have hil := int_lit (w.alloc (.cells #[.int .i64 nodes, .slice A n c] 24)) [v] 3 #[.int .i64 v] rfl
  rw [hsz] at hil
  have HA := Lib.hid (asked_any nodes A (some ⟨w.heap.size + 1, 0, none⟩) n c 1 1 zs [v] hn (by omega) _ ((hR.below b0).more b0.size) hil)
  rw [hk] at HA
  have B0 := Lib.hid b0
  have x0 := (Blk.new w 24 #[.int .i64 nodes, .slice A n c]).cell 0
  have x1 := (Blk.new w 24 #[.int .i64 nodes, .slice A n c]).cell 1
  clear hR k0 k1 b0 hil hk
  go_enter Try.func23, Try.ntmps23
  go_wp2_with fail
  refine HA.out.mono ?_
  rintro e w1 ⟨rfl, b⟩
  have B1 : Hid (Below w.heap.size w w1) := B0.out.trans (b.mono B0.out.size)
  clear b x0 x1 B0 HA
  go_wp2_with fail
  go_ret2
  exact ⟨none, 0, rfl, World.ownsRow_nil _ _ _ _, Nat.le_refl _, by decide, B1.out⟩

/-- Starts. -/
def startsE (l : List Ed) (m : Nat) : List Int := (List.range m).map fun k : Nat => (startE l (k : Int) : Int)
theorem startsE_len (l : List Ed) (m : Nat) : (startsE l m).length = m := by unfold startsE; simp
theorem int_info : (Try.prog.info? 3).map (fun i => (i.zero, i.size, i.bytes)) = some (some (.int .i64 0), 1, 8) := by kernel_rfl
theorem made_ints (n : Nat) : madeCells (Value.int .i64 0).cells (n * 1) = (ints (List.replicate n 0)).toArray := by
  apply Array.ext
  · rw [size_madeCells, List.size_toArray, ints_length, List.length_replicate, Nat.mul_one]
  · intro j h1 h2
    have hz : (Value.int .i64 0).cells = #[.int .i64 0] := by simp [Value.cells]
    simp only [madeCells, hz, Array.getElem_map, Array.getElem_range, List.getElem_toArray, ints, List.getElem_map, List.getElem_replicate]
    simp [Nat.mod_one]
theorem int_make (n : Nat) (z : Int) (hz : z = (n : Int)) (hn : n ≤ 1000000) (W : World) :
    (Instr.makeSlice 41 (.int .i64 z) (.int .i64 z)).run Try.prog W = .ok (.slice (some ⟨W.heap.size, 0, none⟩) n n) (W.alloc (.cells (ints (List.replicate n 0)).toArray 3)) := by
  subst hz
  obtain ⟨i0, hi, hz0, hz1, hz2⟩ := info_parts int_info
  have hr := run_make (P := Try.prog) W 41 3 i0 _ Try.underlying41 hi hz0 .i64 .i64 n n (by omega) (by omega) (by rw [hz2]; omega) (by omega)
  simp only [Int.toNat_natCast] at hr
  rw [hz1, made_ints] at hr
  exact hr
theorem ints_set (l : List Int) (k : Nat) (v : Int) : (ints l).set k (.int .i64 v) = ints (l.set k v) := by unfold ints; rw [List.map_set]
theorem starts_next (l : List Ed) (i m : Nat) (hi : i < m) : (startsE l i ++ List.replicate (m - i) 0).set i (startE l (i : Int) : Int) = startsE l (i + 1) ++ List.replicate (m - (i + 1)) 0 := by
  have h1 := startsE_len l i
  rw [List.set_append_right _ _ (by omega), h1, Nat.sub_self, show m - i = (m - (i + 1)) + 1 by omega, List.replicate_succ, List.set_cons_zero]
  unfold startsE
  rw [List.range_succ, List.map_append]
  simp

set_option maxRecDepth 100000 in
set_option maxHeartbeats 4000000 in
theorem starts_ok (nodes : Int) (A : Option Addr) (n c : Nat) (zs : List Ed) (hg : IsG nodes zs) (hn : n ≤ 1000) (w : World) (hR : Reads w w.heap.size 3 A n (cellsE zs)) :
    Calls Try.prog 20 #[.agg #[.int .i64 nodes, .slice A n c]] w (IErr (startsE zs (nodes.toNat + 1)) 0 w) := by
  obtain ⟨bx, b0⟩ := box_new w #[.int .i64 nodes, .slice A n c] 24
  have hnd := hg.nodes
  obtain ⟨m, hm⟩ : ∃ m, nodes.toNat + 1 = m := ⟨_, rfl⟩
  rw [hm]
  have HC := Lib.hid (check_any nodes A n c zs hn _ ((hR.below b0).more b0.size))
  rw [check_yes (rightG_iff.2 hg)] at HC
  have HST := Lib.hid fun W (h : Below w.heap.size w W) (i : Nat) (hi : i < m) => start_any A n c zs (i : Int) (by omega) hg.row hn W ((hR.below h).more h.size)
  have hmk := fun W => int_make m (nodes + 1) (by omega) (by omega) W
  have hw : IntKind.i64.wrap (nodes + 1) = nodes + 1 := by rw [IntKind.wrap_i64]; omega
  have hm1 : m ≤ 301 := by omega
  have BX := Lib.hid bx
  have B0 := Lib.hid b0
  have z0 := bx.cell 0
  have z1 := bx.cell 1
  clear hR bx b0 hg hnd hm
  go_enter Try.func20, Try.ntmps20
  go_wp2_with fail
  refine HC.out.mono ?_
  rintro e w1 ⟨rfl, b⟩
  have BX1 := Lib.hid (BX.out.below b BX.out.lt)
  have B1 : Hid (Below w.heap.size w w1) := B0.out.trans (b.mono B0.out.size)
  clear b z0 z1 B0 BX HC
  have z0 := BX1.out.cell 0
  have z1 := BX1.out.cell 1
  have hlt1 := BX1.out.lt
  have HN := Lib.hid (Blk.new w1 3 (ints (List.replicate m 0)).toArray)
  have BX2 := Lib.hid (BX1.out.alloc (.cells (ints (List.replicate m 0)).toArray 3))
  have B2 := Lib.hid (B1.out.alloc B1.out.size (.cells (ints (List.replicate m 0)).toArray 3))
  obtain ⟨X, hX⟩ : ∃ X, w1.heap.size = X := ⟨_, rfl⟩
  rw [hX] at HN hlt1
  have hmk1 := hmk w1
  rw [hX] at hmk1
  clear hmk BX1 B1 hX
  go_wp2_with fail
  clear z0 z1 hmk1
  go_loopg [18] m (fun gg s18 wr => ∃ i : Nat, i + gg = m ∧ s18 = .int .i64 i ∧ Hid (Blk wr X 3 (ints (startsE zs i ++ List.replicate (m - i) 0)).toArray) ∧ Hid (Blk wr w.heap.size 24 #[.int .i64 nodes, .slice A n c]) ∧ Hid (Below w.heap.size w wr))
  case atStart => exact ⟨0, by omega, rfl, HN, BX2, B2⟩
  case round =>
    clear HN BX2 B2
    obtain ⟨i, hi, rfl, HN, HX, HB⟩ := hrel
    cases gk with
    | succ g2 =>
      have hlt : (i : Int) < (m : Int) := by omega
      have him : i < m := by omega
      have z0 := HX.out.cell 0
      have z1 := HX.out.cell 1
      have HS := Lib.hid (HST.out wr HB.out i him)
      have HI := Lib.hid hi
      clear hi
      go_wp2_with fail
      refine HS.out.mono ?_
      rintro e w2 ⟨rfl, b⟩
      have HN2 := Lib.hid (HN.out.below b HN.out.lt)
      have HX2 := Lib.hid (HX.out.below b HX.out.lt)
      have HB2 : Hid (Below w.heap.size w w2) := HB.out.trans (b.mono HB.out.size)
      clear b z0 z1 HN HX HB HS
      have hil : i < (ints (startsE zs i ++ List.replicate (m - i) 0)).length := by rw [ints_length, List.length_append, startsE_len, List.length_replicate]; omega
      obtain ⟨u0, hu0⟩ : ∃ u, (ints (startsE zs i ++ List.replicate (m - i) 0))[i]? = some u := ⟨_, List.getElem?_eq_getElem hil⟩
      have y0 : w2.cell? ⟨X, i, none⟩ = some u0 := by rw [HN2.out.cell, List.getElem?_toArray]; exact hu0
      have f0 : w2.frozen? ⟨X, i, none⟩ = false := HN2.out.frozen i
      have HN3 : Hid (Blk (w2.setCell ⟨X, i, none⟩ (.int .i64 (startE zs (i : Int) : Int))) X 3 (ints (startsE zs (i + 1) ++ List.replicate (m - (i + 1)) 0)).toArray) := by
        have := HN2.out.set_ i (.int .i64 (startE zs (i : Int) : Int))
        rw [List.setIfInBounds_toArray, ints_set, starts_next zs i m him] at this
        exact this
      have HX3 := Lib.hid (HX2.out.far (p := ⟨X, i, none⟩) (by simp; omega) (.int .i64 (startE zs (i : Int) : Int)))
      have HB3 := Lib.hid (HB2.out.setCell (p := ⟨X, i, none⟩) (by simp; omega) (.int .i64 (startE zs (i : Int) : Int)))
      have hi0 : (0 : Int) ≤ (i : Int) := by omega
      clear HN2 HX2 HB2 hil hu0
      generalize startE zs (i : Int) = st at *
      go_wp2_with fail
      go_roundg g2
      case measure => omega
      case rel => exact ⟨i + 1, by have := HI.out; omega, by go_num, HN3, HX3, HB3⟩
    | zero =>
      have hge : ¬ (i : Int) < (m : Int) := by omega
      obtain rfl : i = m := by omega
      have HE : Hid (IErr (startsE zs i) 0 w (.returned (.tuple #[.slice (some ⟨X, 0, none⟩) i i, .int .i64 0])) wr) := by
        have hl := startsE_len zs i
        refine ⟨some ⟨X, 0, none⟩, i, by rw [hl], ⟨by rw [ints_length, Nat.mul_one], fun _ => ⟨_, rfl, HN.out.lt, fun j u hu => ?_⟩⟩, by omega, by omega, HB.out⟩
        have := HN.out
        rw [Nat.sub_self, List.replicate_zero, List.append_nil] at this
        rw [Go.WideShapes.add_plain, this.cell, Nat.zero_add, List.getElem?_toArray]; exact hu
      clear hi
      go_wp2_with fail
      go_ret2
      exact HE.out

set_option maxRecDepth 100000 in
set_option maxHeartbeats 2000000 in
theorem starts_no (nodes : Int) (A : Option Addr) (n c : Nat) (zs : List Ed) (hg : rightG nodes zs = false) (hn : n ≤ 1000) (w : World) (hR : Reads w w.heap.size 3 A n (cellsE zs)) :
    Calls Try.prog 20 #[.agg #[.int .i64 nodes, .slice A n c]] w (IErr [] 150 w) := by
  obtain ⟨bx, b0⟩ := box_new w #[.int .i64 nodes, .slice A n c] 24
  have HC := Lib.hid (check_any nodes A n c zs hn _ ((hR.below b0).more b0.size))
  rw [check_no hg] at HC
  have B0 := Lib.hid b0
  have z0 := bx.cell 0
  have z1 := bx.cell 1
  clear hR bx b0 hg
  go_enter Try.func20, Try.ntmps20
  go_wp2_with fail
  refine HC.out.mono ?_
  rintro e w1 ⟨rfl, b⟩
  have B1 : Hid (Below w.heap.size w w1) := B0.out.trans (b.mono B0.out.size)
  clear b z0 z1 B0 HC
  go_wp2_with fail
  go_ret2
  exact ⟨none, 0, rfl, Reads.none_, Nat.le_refl _, by decide, B1.out⟩
end Go.Proofs.Yticbgikbpafeoaa
