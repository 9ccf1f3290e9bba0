/- Layer graph: closures that ask edges, and that turn them; those, Values: contracts. -/
import Derived.Test.YtgbpaiffnhpafaaDoorM6
import Derived.Test.YtgbpaiffnhpafaaDoorShelf
-- holds: YtgbpaiffnhpafaaDoorGm YtgbpaiffnhpafaaDoorGo YtgbpaiffnhpafaaDoorGq YtgbpaiffnhpafaaDoorGr YtgbpaiffnhpafaaDoorGs YtgbpaiffnhpafaaDoorGt YtgbpaiffnhpafaaDoorGu
namespace Go.Proofs.YtgbpaiffnhpafaaDoor
open Go.RowKit

/-- Rows of numbers, compared by the library. -/
theorem ints_get {w : World} {b o : Nat} {vs : List Int} (hc : ∀ j u, (ints vs)[j]? = some u → w.cell? ⟨b, o + j, none⟩ = some u) : ∀ j, j < vs.length → w.cell? ⟨b, o + j, none⟩ = some (.int .i64 (vs.getD j 0)) := by
  intro j hj
  refine hc j _ ?_
  unfold ints
  rw [List.getElem?_map, List.getElem?_eq_getElem hj, List.getD_eq_getElem?_getD, List.getElem?_eq_getElem hj]
  rfl
theorem eqi_any (A A2 : Option Addr) (n m c d : Nat) (xs ys : List Int) (hn : n ≤ 1000000) (hm : m ≤ 1000000) (w : World) (hR : Reads w w.heap.size 1 A n (ints xs)) (hR2 : Reads w w.heap.size 1 A2 m (ints ys)) :
    Calls Tryd.prog 17 #[.slice A n c, .slice A2 m d] w fun e w' => e = .returned (.bool (decide (xs = ys))) ∧ Below w.heap.size w w' := by
  have hl := ints_len hR
  have hl2 := ints_len hR2
  rcases Nat.eq_zero_or_pos n with h0 | h0
  · subst h0
    refine (Tryd.slices_Equal_int_empty A A2 c m d w (by omega)).mono ?_
    rintro e w' ⟨rfl, rfl⟩
    refine ⟨?_, Below.refl _ _⟩
    obtain rfl : xs = [] := List.eq_nil_of_length_eq_zero hl
    cases ys with
    | nil => simp at hl2; subst hl2; rfl
    | cons y ys => simp at hl2; have : ¬ m = 0 := by omega
                   simp [this]
  · by_cases hnm : n = m
    · subst hnm
      obtain ⟨b, o, rfl, hb, hc⟩ := reads_plain hR h0
      obtain ⟨b2, o2, rfl, hb2, hc2⟩ := reads_plain hR2 h0
      refine (Tryd.slices_Equal_int b o n c b2 o2 n d xs ys w (by omega) (by omega) (by omega) (by omega) (ints_get hc) (ints_get hc2)).mono ?_
      rintro e w' ⟨rfl, q, rfl⟩
      refine ⟨?_, below_drewN (Below.refl _ _) _⟩
      rw [List.take_of_length_le (by omega), List.take_of_length_le (by omega)]
      have : (xs == ys) = decide (xs = ys) := by rw [Bool.eq_iff_iff]; simp
      rw [this]
    · refine (Tryd.slices_Equal_int_lens A A2 n c m d w hnm).mono ?_
      rintro e w' ⟨rfl, rfl⟩
      refine ⟨?_, Below.refl _ _⟩
      have : ¬ xs = ys := fun e => hnm (by rw [← hl, ← hl2, e])
      simp [this]

theorem int_lit (w : World) (vs : List Int) (t : TypeId) (cs : Array Value) (h : cs = (ints vs).toArray) : Reads (w.alloc (.cells cs t)) (w.alloc (.cells cs t)).heap.size 1 (some ⟨w.heap.size, 0, none⟩) vs.length (ints vs) := by
  subst h
  exact ⟨by rw [ints_length, Nat.mul_one], fun _ => ⟨_, rfl, by simp, fun j u hu => by
    rw [Go.WideShapes.add_plain, Nat.zero_add, (Blk.new w t (ints vs).toArray).cell, List.getElem?_toArray]; exact hu⟩⟩

/-- Numbers, and an error. -/
def IErr (vs : List Int) (k : Int) (w : World) (e : Ending) (w' : World) : Prop :=
  ∃ (A : Option Addr) (c : Nat), e = .returned (.tuple #[.slice A vs.length c, .int .i64 k]) ∧ Reads w' w'.heap.size 1 A vs.length (ints vs) ∧ vs.length ≤ c ∧ c ≤ 9223372036854775807 ∧ Below w.heap.size w w'
theorem IErr.less {vs : List Int} {k : Int} {w w' : World} {e : Ending} (h : IErr vs k w e w') : Below w.heap.size w w' := by obtain ⟨_, _, _, _, _, _, h⟩ := h; exact h

/-- Starts. -/
def startsE (l : List Ed) (m : Nat) : List Int := (List.range m).map fun k : Nat => (startE l (k : Int) : Int)
theorem startsE_len (l : List Ed) (m : Nat) : (startsE l m).length = m := by unfold startsE; simp
theorem int_info : (Tryd.prog.info? 3).map (fun i => (i.zero, i.size, i.bytes)) = some (some (.int .i64 0), 1, 8) := by kernel_rfl
theorem made_ints (n : Nat) : madeCells (Value.int .i64 0).cells (n * 1) = (ints (List.replicate n 0)).toArray := by
  apply Array.ext
  · rw [size_madeCells, List.size_toArray, ints_length, List.length_replicate, Nat.mul_one]
  · intro j h1 h2
    have hz : (Value.int .i64 0).cells = #[.int .i64 0] := by simp [Value.cells]
    simp only [madeCells, hz, Array.getElem_map, Array.getElem_range, List.getElem_toArray, ints, List.getElem_map, List.getElem_replicate]
    simp [Nat.mod_one]
theorem int_make (n : Nat) (z : Int) (hz : z = (n : Int)) (hn : n ≤ 1000000) (W : World) :
    (Instr.makeSlice 30 (.int .i64 z) (.int .i64 z)).run Tryd.prog W = .ok (.slice (some ⟨W.heap.size, 0, none⟩) n n) (W.alloc (.cells (ints (List.replicate n 0)).toArray 3)) := by
  subst hz
  obtain ⟨i0, hi, hz0, hz1, hz2⟩ := info_parts int_info
  have hr := run_make (P := Tryd.prog) W 30 3 i0 _ Tryd.underlying30 hi hz0 .i64 .i64 n n (by omega) (by omega) (by rw [hz2]; omega) (by omega)
  simp only [Int.toNat_natCast] at hr
  rw [hz1, made_ints] at hr
  exact hr
theorem ints_set (l : List Int) (k : Nat) (v : Int) : (ints l).set k (.int .i64 v) = ints (l.set k v) := by unfold ints; rw [List.map_set]
theorem starts_next (l : List Ed) (i m : Nat) (hi : i < m) : (startsE l i ++ List.replicate (m - i) 0).set i (startE l (i : Int) : Int) = startsE l (i + 1) ++ List.replicate (m - (i + 1)) 0 := by
  have h1 := startsE_len l i
  rw [List.set_append_right _ _ (by omega), h1, Nat.sub_self, show m - i = (m - (i + 1)) + 1 by omega, List.replicate_succ, List.set_cons_zero]
  unfold startsE
  rw [List.range_succ, List.map_append]
  simp

set_option maxRecDepth 100000 in
set_option maxHeartbeats 4000000 in
theorem starts_ok (nodes : Int) (A : Option Addr) (n c : Nat) (zs : List Ed) (hg : IsG nodes zs) (hn : n ≤ 1000) (w : World) (hR : Reads w w.heap.size 3 A n (cellsE zs)) :
    Calls Tryd.prog 65 #[.agg #[.int .i64 nodes, .slice A n c]] w (IErr (startsE zs (nodes.toNat + 1)) 0 w) := by
  obtain ⟨bx, b0⟩ := box_new w #[.int .i64 nodes, .slice A n c] 24
  have hnd := hg.nodes
  obtain ⟨m, hm⟩ : ∃ m, nodes.toNat + 1 = m := ⟨_, rfl⟩
  rw [hm]
  have HC := Lib.hid (check_any nodes A n c zs hn _ ((hR.below b0).more b0.size))
  rw [check_yes (rightG_iff.2 hg)] at HC
  have HST := Lib.hid fun W (h : Below w.heap.size w W) (i : Nat) (hi : i < m) => start_any A n c zs (i : Int) (by omega) hg.row hn W ((hR.below h).more h.size)
  have hmk := fun W => int_make m (nodes + 1) (by omega) (by omega) W
  have hw : IntKind.i64.wrap (nodes + 1) = nodes + 1 := by rw [IntKind.wrap_i64]; omega
  have hm1 : m ≤ 301 := by omega
  have BX := Lib.hid bx
  have B0 := Lib.hid b0
  have z0 := bx.cell 0
  have z1 := bx.cell 1
  clear hR bx b0 hg hnd hm
  go_enter Tryd.func65, Tryd.ntmps65
  go_wp2_with fail
  refine HC.out.mono ?_
  rintro e w1 ⟨rfl, b⟩
  have BX1 := Lib.hid (BX.out.below b BX.out.lt)
  have B1 : Hid (Below w.heap.size w w1) := B0.out.trans (b.mono B0.out.size)
  clear b z0 z1 B0 BX HC
  have z0 := BX1.out.cell 0
  have z1 := BX1.out.cell 1
  have hlt1 := BX1.out.lt
  have HN := Lib.hid (Blk.new w1 3 (ints (List.replicate m 0)).toArray)
  have BX2 := Lib.hid (BX1.out.alloc (.cells (ints (List.replicate m 0)).toArray 3))
  have B2 := Lib.hid (B1.out.alloc B1.out.size (.cells (ints (List.replicate m 0)).toArray 3))
  obtain ⟨X, hX⟩ : ∃ X, w1.heap.size = X := ⟨_, rfl⟩
  rw [hX] at HN hlt1
  have hmk1 := hmk w1
  rw [hX] at hmk1
  clear hmk BX1 B1 hX
  go_wp2_with fail
  clear z0 z1 hmk1
  go_loopg [18] m (fun gg s18 wr => ∃ i : Nat, i + gg = m ∧ s18 = .int .i64 i ∧ Hid (Blk wr X 3 (ints (startsE zs i ++ List.replicate (m - i) 0)).toArray) ∧ Hid (Blk wr w.heap.size 24 #[.int .i64 nodes, .slice A n c]) ∧ Hid (Below w.heap.size w wr))
  case atStart => exact ⟨0, by omega, rfl, HN, BX2, B2⟩
  case round =>
    clear HN BX2 B2
    obtain ⟨i, hi, rfl, HN, HX, HB⟩ := hrel
    cases gk with
    | succ g2 =>
      have hlt : (i : Int) < (m : Int) := by omega
      have him : i < m := by omega
      have z0 := HX.out.cell 0
      have z1 := HX.out.cell 1
      have HS := Lib.hid (HST.out wr HB.out i him)
      have HI := Lib.hid hi
      clear hi
      go_wp2_with fail
      refine HS.out.mono ?_
      rintro e w2 ⟨rfl, b⟩
      have HN2 := Lib.hid (HN.out.below b HN.out.lt)
      have HX2 := Lib.hid (HX.out.below b HX.out.lt)
      have HB2 : Hid (Below w.heap.size w w2) := HB.out.trans (b.mono HB.out.size)
      clear b z0 z1 HN HX HB HS
      have hil : i < (ints (startsE zs i ++ List.replicate (m - i) 0)).length := by rw [ints_length, List.length_append, startsE_len, List.length_replicate]; omega
      obtain ⟨u0, hu0⟩ : ∃ u, (ints (startsE zs i ++ List.replicate (m - i) 0))[i]? = some u := ⟨_, List.getElem?_eq_getElem hil⟩
      have y0 : w2.cell? ⟨X, i, none⟩ = some u0 := by rw [HN2.out.cell, List.getElem?_toArray]; exact hu0
      have f0 : w2.frozen? ⟨X, i, none⟩ = false := HN2.out.frozen i
      have HN3 : Hid (Blk (w2.setCell ⟨X, i, none⟩ (.int .i64 (startE zs (i : Int) : Int))) X 3 (ints (startsE zs (i + 1) ++ List.replicate (m - (i + 1)) 0)).toArray) := by
        have := HN2.out.set_ i (.int .i64 (startE zs (i : Int) : Int))
        rw [List.setIfInBounds_toArray, ints_set, starts_next zs i m him] at this
        exact this
      have HX3 := Lib.hid (HX2.out.far (p := ⟨X, i, none⟩) (by simp; omega) (.int .i64 (startE zs (i : Int) : Int)))
      have HB3 := Lib.hid (HB2.out.setCell (p := ⟨X, i, none⟩) (by simp; omega) (.int .i64 (startE zs (i : Int) : Int)))
      have hi0 : (0 : Int) ≤ (i : Int) := by omega
      clear HN2 HX2 HB2 hil hu0
      generalize startE zs (i : Int) = st at *
      go_wp2_with fail
      go_roundg g2
      case measure => omega
      case rel => exact ⟨i + 1, by have := HI.out; omega, by go_num, HN3, HX3, HB3⟩
    | zero =>
      have hge : ¬ (i : Int) < (m : Int) := by omega
      obtain rfl : i = m := by omega
      have HE : Hid (IErr (startsE zs i) 0 w (.returned (.tuple #[.slice (some ⟨X, 0, none⟩) i i, .int .i64 0])) wr) := by
        have hl := startsE_len zs i
        refine ⟨some ⟨X, 0, none⟩, i, by rw [hl], ⟨by rw [ints_length, Nat.mul_one], fun _ => ⟨_, rfl, HN.out.lt, fun j u hu => ?_⟩⟩, by omega, by omega, HB.out⟩
        have := HN.out
        rw [Nat.sub_self, List.replicate_zero, List.append_nil] at this
        rw [Go.WideShapes.add_plain, this.cell, Nat.zero_add, List.getElem?_toArray]; exact hu
      clear hi
      go_wp2_with fail
      go_ret2
      exact HE.out

set_option maxRecDepth 100000 in
set_option maxHeartbeats 2000000 in
theorem starts_no (nodes : Int) (A : Option Addr) (n c : Nat) (zs : List Ed) (hg : rightG nodes zs = false) (hn : n ≤ 1000) (w : World) (hR : Reads w w.heap.size 3 A n (cellsE zs)) :
    Calls Tryd.prog 65 #[.agg #[.int .i64 nodes, .slice A n c]] w (IErr [] 150 w) := by
  obtain ⟨bx, b0⟩ := box_new w #[.int .i64 nodes, .slice A n c] 24
  have HC := Lib.hid (check_any nodes A n c zs hn _ ((hR.below b0).more b0.size))
  rw [check_no hg] at HC
  have B0 := Lib.hid b0
  have z0 := bx.cell 0
  have z1 := bx.cell 1
  clear hR bx b0 hg
  go_enter Tryd.func65, Tryd.ntmps65
  go_wp2_with fail
  refine HC.out.mono ?_
  rintro e w1 ⟨rfl, b⟩
  have B1 : Hid (Below w.heap.size w w1) := B0.out.trans (b.mono B0.out.size)
  clear b z0 z1 B0 HC
  go_wp2_with fail
  go_ret2
  exact ⟨none, 0, rfl, Reads.none_, Nat.le_refl _, by decide, B1.out⟩
end Go.Proofs.YtgbpaiffnhpafaaDoor
namespace Go.Proofs.YtgbpaiffnhpafaaDoor
open Go.RowKit

def smallL : List Ed := [(0, 1, 2), (1, 2, 1), (0, 1, 0), (0, 1, 2)]
def smallA : Array Value := #[.int .i64 0, .int .i64 1, .int .i64 2, .int .i64 1, .int .i64 2, .int .i64 1, .int .i64 0, .int .i64 1, .int .i64 0, .int .i64 0, .int .i64 1, .int .i64 2]
theorem small_reads (w : World) : Reads (w.alloc (.cells smallA 53)) (w.alloc (.cells smallA 53)).heap.size 3 (some ⟨w.heap.size, 0, none⟩) 4 (cellsE smallL) :=
  ⟨rfl, fun _ => ⟨_, rfl, by simp, fun j u hu => by
    rw [Go.WideShapes.add_plain, Nat.zero_add, (Blk.new w 53 smallA).cell, ← hu, ← List.getElem?_toArray]
    rfl⟩⟩
theorem small_row : sorE smallL = [(0, 1, 0), (0, 1, 2), (1, 2, 1)] := by decide

end Go.Proofs.YtgbpaiffnhpafaaDoor
namespace Go.Proofs.YtgbpaiffnhpafaaDoor
open Go.RowKit

theorem redge_ways {nodes : Int} {p : Ed} (h : rightE nodes p = false) : ¬ p.1 ≥ 0 ∨ (p.1 ≥ 0 ∧ ¬ p.1 < nodes) ∨ ((p.1 ≥ 0 ∧ p.1 < nodes) ∧ ¬ p.2.1 ≥ 0) ∨ ((p.1 ≥ 0 ∧ p.1 < nodes) ∧ p.2.1 ≥ 0 ∧ ¬ p.2.1 < nodes) ∨
    ((p.1 ≥ 0 ∧ p.1 < nodes) ∧ (p.2.1 ≥ 0 ∧ p.2.1 < nodes) ∧ (p.1 != p.2.1) = false) ∨ ((p.1 ≥ 0 ∧ p.1 < nodes) ∧ (p.2.1 ≥ 0 ∧ p.2.1 < nodes) ∧ (p.1 != p.2.1) = true ∧ ¬ p.2.2 ≥ 0) ∨
    ((p.1 ≥ 0 ∧ p.1 < nodes) ∧ (p.2.1 ≥ 0 ∧ p.2.1 < nodes) ∧ (p.1 != p.2.1) = true ∧ p.2.2 ≥ 0 ∧ ¬ p.2.2 ≤ 9) := by
  have hb1 : (p.1 != p.2.1) = false ↔ p.1 = p.2.1 := by simp
  have hb2 : (p.1 != p.2.1) = true ↔ ¬ p.1 = p.2.1 := by simp
  rw [hb1, hb2]
  unfold rightE at h
  rw [decide_eq_false_iff_not] at h
  omega

set_option maxHeartbeats 2000000 in
theorem redge_any (nodes : Int) (p : Ed) (w : World) : Calls Tryd.prog 35 #[.int .i64 nodes, .agg #[.int .i64 p.1, .int .i64 p.2.1, .int .i64 p.2.2]] w fun e w' => e = .returned (.bool (rightE nodes p)) ∧ Below w.heap.size w w' := by
  have B0 := Lib.hid (box_new w #[.int .i64 p.1, .int .i64 p.2.1, .int .i64 p.2.2] 53).2
  cases he : rightE nodes p
  · have hw := redge_ways he
    clear he
    rcases hw with h1 | ⟨h1, h2⟩ | ⟨⟨h1, h2⟩, h3⟩ | ⟨⟨h1, h2⟩, h3, h4⟩ | ⟨⟨h1, h2⟩, ⟨h3, h4⟩, h5⟩ | ⟨⟨h1, h2⟩, ⟨h3, h4⟩, h5, h6⟩ | ⟨⟨h1, h2⟩, ⟨h3, h4⟩, h5, h6, h7⟩
    case' inl => have hd := decide_eq_false h1
    case' inr.inl => have hd := decide_eq_false h2
    case' inr.inr.inl => have hd := decide_eq_false h3
    case' inr.inr.inr.inl => have hd := decide_eq_false h4
    case' inr.inr.inr.inr.inl => have hd := h5
    case' inr.inr.inr.inr.inr.inl => have hd := decide_eq_false h6
    case' inr.inr.inr.inr.inr.inr => have hd := decide_eq_false h7
    all_goals
      go_enter Tryd.func35, Tryd.ntmps35
      go_wp2_with fail
      go_ret
      exact ⟨rfl, B0.out⟩
  · unfold rightE at he
    rw [decide_eq_true_eq] at he
    obtain ⟨⟨h1, h2⟩, ⟨h3, h4⟩, h5, h6, h7⟩ := he
    have h1' : p.1 ≥ 0 := h1
    have h3' : p.2.1 ≥ 0 := h3
    have h6' : p.2.2 ≥ 0 := h6
    have h5' : (p.1 != p.2.1) = true := by simpa using h5
    clear h1 h3 h5 h6
    go_enter Tryd.func35, Tryd.ntmps35
    go_wp2_with fail
    go_ret
    exact ⟨rfl, B0.out⟩

set_option maxHeartbeats 2000000 in
theorem rahead_any (p q : Ed) (w : World) : Calls Tryd.prog 36 #[.agg #[.int .i64 p.1, .int .i64 p.2.1, .int .i64 p.2.2], .agg #[.int .i64 q.1, .int .i64 q.2.1, .int .i64 q.2.2]] w fun e w' => e = .returned (.bool (aheadE p q)) ∧ Below w.heap.size w w' := by
  have B0 := Lib.hid (two_new w #[.int .i64 p.1, .int .i64 p.2.1, .int .i64 p.2.2] #[.int .i64 q.1, .int .i64 q.2.1, .int .i64 q.2.2] 53 53).2.2
  have HE : Hid (aheadE p q = if p.1 ≠ q.1 then decide (p.1 < q.1) else if p.2.1 ≠ q.2.1 then decide (p.2.1 < q.2.1) else decide (p.2.2 < q.2.2)) := rfl
  by_cases h1 : p.1 = q.1
  · have h1b : (p.1 != q.1) = false := by simpa using h1
    by_cases h2 : p.2.1 = q.2.1
    · have h2b : (p.2.1 != q.2.1) = false := by simpa using h2
      have HF : Hid (aheadE p q = decide (p.2.2 < q.2.2)) := by rw [HE.out, if_neg (fun c => c h1), if_neg (fun c => c h2)]; exact rfl
      clear h1 h2
      go_enter Tryd.func36, Tryd.ntmps36
      go_wp2_with fail
      go_ret
      exact ⟨by rw [HF.out]; rfl, B0.out⟩
    · have h2b : (p.2.1 != q.2.1) = true := by simpa using h2
      have HF : Hid (aheadE p q = decide (p.2.1 < q.2.1)) := by rw [HE.out, if_neg (fun c => c h1), if_pos h2]; exact rfl
      clear h1 h2
      go_enter Tryd.func36, Tryd.ntmps36
      go_wp2_with fail
      go_ret
      exact ⟨by rw [HF.out]; rfl, B0.out⟩
  · have h1b : (p.1 != q.1) = true := by simpa using h1
    have HF : Hid (aheadE p q = decide (p.1 < q.1)) := by rw [HE.out, if_pos h1]; exact rfl
    clear h1
    go_enter Tryd.func36, Tryd.ntmps36
    go_wp2_with fail
    go_ret
    exact ⟨by rw [HF.out]; rfl, B0.out⟩

set_option maxRecDepth 100000 in
set_option maxHeartbeats 8000000 in
theorem right_any (nodes : Int) (A : Option Addr) (n c : Nat) (zs : List Ed) (hn : n ≤ 1000) (w : World) (hR : Reads w w.heap.size 3 A n (cellsE zs)) :
    Calls Tryd.prog 11 #[.agg #[.int .i64 nodes, .slice A n c]] w fun e w' => e = .returned (.bool (rightG nodes zs)) ∧ Below w.heap.size w w' := by
  obtain ⟨bx, b0⟩ := box_new w #[.int .i64 nodes, .slice A n c] 24
  have HL := Lib.hid (reads_len hR)
  have HR := Lib.hid fun W (h : Below w.heap.size w W) => (hR.below h)
  have BX := Lib.hid bx
  have B0 := Lib.hid b0
  clear hR bx b0
  go_enter Tryd.func11, Tryd.ntmps11
  go_wp2_with fail
  go_loopg [8] n (fun gg i wr => ∃ k : Nat, k + gg = n ∧ i = .int .i64 k ∧ Hid (∀ p ∈ zs.take k, rightE nodes p = true) ∧ Hid (∀ j x y, j + 1 < k → zs[j]? = some x → zs[j + 1]? = some y → aheadE x y = true) ∧ Hid (Below w.heap.size w wr) ∧ Hid (Blk wr w.heap.size 24 #[.int .i64 nodes, .slice A n c]))
  case atStart => exact ⟨0, by omega, rfl, fun _ h => by simp at h, fun j x y h => by omega, B0, BX⟩
  case round =>
    clear B0 BX
    obtain ⟨k, hk, rfl, ht, ho, bk, HX⟩ := hrel
    cases gk with
    | succ g2 =>
      have hlt : (k : Int) < (n : Int) := by omega
      have hkn : k < n := by omega
      obtain ⟨p, hp⟩ : ∃ p, zs[k]? = some p := ⟨zs[k]'(by rw [HL.out]; omega), List.getElem?_eq_getElem _⟩
      obtain ⟨b, o, rfl, hb, g0, g1, g2'⟩ := ed_at (HR.out _ bk.out) hp
      have HK := Lib.hid hk
      have HP := Lib.hid hp
      have hX0 := HX.out.lt
      have hbw : b < wr.heap.size := by have := bk.out.size; omega
      obtain ⟨Y, hY⟩ : ∃ Y, wr.heap.size = Y := ⟨_, rfl⟩
      have HY := Lib.hid (Blk.new wr 53 #[.int .i64 p.1, .int .i64 p.2.1, .int .i64 p.2.2])
      have HX1 := Lib.hid (HX.out.alloc (.cells #[.int .i64 p.1, .int .i64 p.2.1, .int .i64 p.2.2] 53))
      have bk1 := Lib.hid (bk.out.alloc bk.out.size (.cells #[.int .i64 p.1, .int .i64 p.2.1, .int .i64 p.2.2] 53))
      rw [hY] at HY
      clear hp hk
      go_upto_region 4 with fail
      clear g0 g1 g2' hY bk HX
      generalize wr.alloc (.cells #[.int .i64 p.1, .int .i64 p.2.1, .int .i64 p.2.2] 53) = wx at *
      have hYl := HY.out.lt
      have hXl := HX1.out.lt
      have HS0 : Hid (∀ W, Below wx.heap.size wx W → W.cell? ⟨w.heap.size, 0, none⟩ = some (.int .i64 nodes) ∧ W.cell? ⟨w.heap.size, 1, none⟩ = some (.slice (some ⟨b, o, none⟩) n c) ∧ W.cell? ⟨Y, 0, none⟩ = some (.int .i64 p.1) ∧ W.cell? ⟨Y, 1, none⟩ = some (.int .i64 p.2.1) ∧ W.cell? ⟨Y, 2, none⟩ = some (.int .i64 p.2.2)) :=
        fun W h => ⟨(HX1.out.below h hXl).cell 0, (HX1.out.below h hXl).cell 1, (HY.out.below h hYl).cell 0, (HY.out.below h hYl).cell 1, (HY.out.below h hYl).cell 2⟩
      have HRE := Lib.hid fun W => redge_any nodes p W
      have J0 : Hid (Below wx.heap.size wx wx.drew) := (Below.refl _ _).drew
      cases he : rightE nodes p
      · have HE := Lib.hid (rg_edge (List.mem_of_getElem? HP.out) he)
        rw [he] at HRE
        clear he
        refine wp_region_noPanic ?_
        refine wp_region_held_drew (S := fun W => W.cell? ⟨w.heap.size, 0, none⟩ = some (.int .i64 nodes) ∧ W.cell? ⟨w.heap.size, 1, none⟩ = some (.slice (some ⟨b, o, none⟩) n c) ∧ W.cell? ⟨Y, 0, none⟩ = some (.int .i64 p.1) ∧ W.cell? ⟨Y, 1, none⟩ = some (.int .i64 p.2.1) ∧ W.cell? ⟨Y, 2, none⟩ = some (.int .i64 p.2.2)) (by kernel_rfl) (HS0.out _ J0.out) (fun hHeld => ?_)
        refine wpAnyH_take (i := 0) (oi := { dst := some 13, op := Op.fieldAddr 24 (Operand.tmp 1) 0, type := 0, pos := "ref.go:25", after := #[], guard := none }) (v := .pointer (some ⟨w.heap.size, 0, none⟩)) rfl (by kernel_rfl) (by kernel_rfl) (by kernel_rfl) (fun _ _ _ h => h) (Or.inl ⟨by kernel_rfl, fun w' hSw => by (try dsimp only at hSw); go_simp⟩) (by assumption) ?_
        try simp only [Act.put, List.setIfInBounds_toArray, List.set_cons_zero, List.set_cons_succ]
        refine wpAnyH_take (i := 1) (oi := { dst := some 14, op := Op.load 3 (Operand.tmp 13), type := 3, pos := "ref.go:25", after := #[{ on := 0, ground := Ground.data }], guard := none }) (v := .int .i64 nodes) rfl (by kernel_rfl) (by kernel_rfl) (by kernel_rfl) (fun _ _ _ h => h) (Or.inl ⟨by kernel_rfl, fun w' hSw => by (try dsimp only at hSw); go_simp⟩) (by assumption) ?_
        try simp only [Act.put, List.setIfInBounds_toArray, List.set_cons_zero, List.set_cons_succ]
        refine wpAnyH_take (i := 2) (oi := { dst := some 15, op := Op.load 53 (Operand.tmp 4), type := 53, pos := "ref.go:25", after := #[], guard := none }) (v := .agg #[.int .i64 p.1, .int .i64 p.2.1, .int .i64 p.2.2]) rfl (by kernel_rfl) (by kernel_rfl) (by kernel_rfl) (fun _ _ _ h => h) (Or.inl ⟨by kernel_rfl, fun w' hSw => by (try dsimp only at hSw); go_simp⟩) (by assumption) ?_
        try simp only [Act.put, List.setIfInBounds_toArray, List.set_cons_zero, List.set_cons_succ]
        refine wpAnyH_ready (rs := [3]) (by kernel_rfl) (by simp) ?_
        refine AllReadyH.cons (o := { dst := some 16, op := Op.call { callee := Callee.value (Operand.func 35), args := #[Operand.tmp 14, Operand.tmp 15], argTypes := #[3, 53] }, type := 4, pos := "ref.go:25", after := #[{ on := 1, ground := Ground.data }, { on := 2, ground := Ground.data }], guard := none }) rfl (fun K hK => ?_) AllReadyH.nil
        go_simp
        refine (HRE.out wx.drew).mono ?_
        rintro e v1 ⟨rfl, b9⟩
        have J1 : Hid (Below wx.heap.size wx v1) := J0.out.trans (b9.mono J0.out.size)
        clear b9 hHeld
        refine hK.out _ _ (HS0.out _ J1.out) (fun hHeld => ?_)
        clear hK K
        try simp only [Act.put, List.setIfInBounds_toArray, List.set_cons_zero, List.set_cons_succ]
        refine wpAnyH_take (i := 4) (oi := { dst := some 17, op := Op.unOp UnOp.not 4 (Operand.tmp 16), type := 4, pos := "ref.go:25", after := #[{ on := 3, ground := Ground.data }], guard := none }) (v := .bool true) rfl (by kernel_rfl) (by kernel_rfl) (by kernel_rfl) (fun _ _ _ h => h) (Or.inl ⟨by kernel_rfl, fun w' hSw => by (try dsimp only at hSw); go_simp⟩) (by assumption) ?_
        try simp only [Act.put, List.setIfInBounds_toArray, List.set_cons_zero, List.set_cons_succ]
        refine wpAnyH_take (i := 5) (oi := { dst := some 18, op := Op.move (Operand.tmp 17), type := 4, pos := "ref.go:25", after := #[{ on := 4, ground := Ground.data }, { on := 3, ground := Ground.chain }], guard := none }) (v := .bool true) rfl (by kernel_rfl) (by kernel_rfl) (by kernel_rfl) (fun _ _ _ h => h) (Or.inl ⟨by kernel_rfl, fun w' hSw => by (try dsimp only at hSw); go_simp⟩) (by assumption) ?_
        try simp only [Act.put, List.setIfInBounds_toArray, List.set_cons_zero, List.set_cons_succ]
        refine wpAnyH_take (i := 6) (oi := { dst := some 19, op := Op.move (Operand.tmp 3), type := 3, pos := "ref.go:25", after := #[{ on := 5, ground := Ground.guard }], guard := some (5, false) }) (v := undef) rfl (by kernel_rfl) (by kernel_rfl) (by kernel_rfl) (fun _ _ _ h => h) (Or.inr ⟨by kernel_rfl, rfl⟩) (by assumption) ?_
        try simp only [Act.put, List.setIfInBounds_toArray, List.set_cons_zero, List.set_cons_succ]
        refine wpAnyH_take (i := 7) (oi := { dst := some 20, op := Op.binOp BinOp.gtr 3 (Operand.tmp 19) (Operand.const (Value.int IntKind.i64 0)) 3, type := 4, pos := "ref.go:25", after := #[{ on := 6, ground := Ground.data }, { on := 5, ground := Ground.guard }], guard := some (5, false) }) (v := undef) rfl (by kernel_rfl) (by kernel_rfl) (by kernel_rfl) (fun _ _ _ h => h) (Or.inr ⟨by kernel_rfl, rfl⟩) (by assumption) ?_
        try simp only [Act.put, List.setIfInBounds_toArray, List.set_cons_zero, List.set_cons_succ]
        refine wpAnyH_take (i := 8) (oi := { dst := some 21, op := Op.move (Operand.tmp 20), type := 4, pos := "ref.go:25", after := #[{ on := 7, ground := Ground.data }, { on := 5, ground := Ground.chain }, { on := 5, ground := Ground.guard }], guard := some (5, false) }) (v := undef) rfl (by kernel_rfl) (by kernel_rfl) (by kernel_rfl) (fun _ _ _ h => h) (Or.inr ⟨by kernel_rfl, rfl⟩) (by assumption) ?_
        try simp only [Act.put, List.setIfInBounds_toArray, List.set_cons_zero, List.set_cons_succ]
        refine wpAnyH_take (i := 9) (oi := { dst := some 22, op := Op.fieldAddr 24 (Operand.tmp 1) 1, type := 0, pos := "ref.go:25", after := #[{ on := 8, ground := Ground.guard }], guard := some (8, true) }) (v := undef) rfl (by kernel_rfl) (by kernel_rfl) (by kernel_rfl) (fun _ _ _ h => h) (Or.inr ⟨by kernel_rfl, rfl⟩) (by assumption) ?_
        try simp only [Act.put, List.setIfInBounds_toArray, List.set_cons_zero, List.set_cons_succ]
        refine wpAnyH_take (i := 10) (oi := { dst := some 23, op := Op.load 22 (Operand.tmp 22), type := 22, pos := "ref.go:25", after := #[{ on := 9, ground := Ground.data }, { on := 8, ground := Ground.guard }], guard := some (8, true) }) (v := undef) rfl (by kernel_rfl) (by kernel_rfl) (by kernel_rfl) (fun _ _ _ h => h) (Or.inr ⟨by kernel_rfl, rfl⟩) (by assumption) ?_
        try simp only [Act.put, List.setIfInBounds_toArray, List.set_cons_zero, List.set_cons_succ]
        refine wpAnyH_take (i := 11) (oi := { dst := some 24, op := Op.move (Operand.tmp 3), type := 3, pos := "ref.go:25", after := #[{ on := 8, ground := Ground.guard }], guard := some (8, true) }) (v := undef) rfl (by kernel_rfl) (by kernel_rfl) (by kernel_rfl) (fun _ _ _ h => h) (Or.inr ⟨by kernel_rfl, rfl⟩) (by assumption) ?_
        try simp only [Act.put, List.setIfInBounds_toArray, List.set_cons_zero, List.set_cons_succ]
        refine wpAnyH_take (i := 12) (oi := { dst := some 25, op := Op.binOp BinOp.sub 3 (Operand.tmp 24) (Operand.const (Value.int IntKind.i64 1)) 3, type := 3, pos := "ref.go:25", after := #[{ on := 11, ground := Ground.data }, { on := 8, ground := Ground.guard }], guard := some (8, true) }) (v := undef) rfl (by kernel_rfl) (by kernel_rfl) (by kernel_rfl) (fun _ _ _ h => h) (Or.inr ⟨by kernel_rfl, rfl⟩) (by assumption) ?_
        try simp only [Act.put, List.setIfInBounds_toArray, List.set_cons_zero, List.set_cons_succ]
        refine wpAnyH_take (i := 13) (oi := { dst := some 26, op := Op.indexAddr 22 (Operand.tmp 23) (Operand.tmp 25), type := 0, pos := "ref.go:25", after := #[{ on := 10, ground := Ground.data }, { on := 12, ground := Ground.data }, { on := 8, ground := Ground.guard }], guard := some (8, true) }) (v := undef) rfl (by kernel_rfl) (by kernel_rfl) (by kernel_rfl) (fun _ _ _ h => h) (Or.inr ⟨by kernel_rfl, rfl⟩) (by assumption) ?_
        try simp only [Act.put, List.setIfInBounds_toArray, List.set_cons_zero, List.set_cons_succ]
        refine wpAnyH_take (i := 14) (oi := { dst := some 27, op := Op.load 53 (Operand.tmp 26), type := 53, pos := "ref.go:25", after := #[{ on := 13, ground := Ground.data }, { on := 8, ground := Ground.guard }], guard := some (8, true) }) (v := undef) rfl (by kernel_rfl) (by kernel_rfl) (by kernel_rfl) (fun _ _ _ h => h) (Or.inr ⟨by kernel_rfl, rfl⟩) (by assumption) ?_
        try simp only [Act.put, List.setIfInBounds_toArray, List.set_cons_zero, List.set_cons_succ]
        refine wpAnyH_take (i := 15) (oi := { dst := some 28, op := Op.load 53 (Operand.tmp 4), type := 53, pos := "ref.go:25", after := #[{ on := 8, ground := Ground.guard }], guard := some (8, true) }) (v := undef) rfl (by kernel_rfl) (by kernel_rfl) (by kernel_rfl) (fun _ _ _ h => h) (Or.inr ⟨by kernel_rfl, rfl⟩) (by assumption) ?_
        try simp only [Act.put, List.setIfInBounds_toArray, List.set_cons_zero, List.set_cons_succ]
        refine wpAnyH_take (i := 16) (oi := { dst := some 29, op := Op.call { callee := Callee.value (Operand.func 36), args := #[Operand.tmp 27, Operand.tmp 28], argTypes := #[53, 53] }, type := 4, pos := "ref.go:25", after := #[{ on := 14, ground := Ground.data }, { on := 15, ground := Ground.data }, { on := 8, ground := Ground.chain }, { on := 8, ground := Ground.guard }], guard := some (8, true) }) (v := undef) rfl (by kernel_rfl) (by kernel_rfl) (by kernel_rfl) (fun _ _ _ h => h) (Or.inr ⟨by kernel_rfl, rfl⟩) (by assumption) ?_
        try simp only [Act.put, List.setIfInBounds_toArray, List.set_cons_zero, List.set_cons_succ]
        refine wpAnyH_take (i := 17) (oi := { dst := some 30, op := Op.unOp UnOp.not 4 (Operand.tmp 29), type := 4, pos := "ref.go:25", after := #[{ on := 16, ground := Ground.data }, { on := 8, ground := Ground.guard }], guard := some (8, true) }) (v := undef) rfl (by kernel_rfl) (by kernel_rfl) (by kernel_rfl) (fun _ _ _ h => h) (Or.inr ⟨by kernel_rfl, rfl⟩) (by assumption) ?_
        try simp only [Act.put, List.setIfInBounds_toArray, List.set_cons_zero, List.set_cons_succ]
        refine wpAnyH_take (i := 18) (oi := { dst := some 31, op := Op.pick (Operand.tmp 21) (Operand.tmp 30) (Operand.const (Value.bool false)), type := 4, pos := "ref.go:25", after := #[{ on := 8, ground := Ground.data }, { on := 17, ground := Ground.data }, { on := 5, ground := Ground.guard }], guard := some (5, false) }) (v := undef) rfl (by kernel_rfl) (by kernel_rfl) (by kernel_rfl) (fun _ _ _ h => h) (Or.inr ⟨by kernel_rfl, rfl⟩) (by assumption) ?_
        try simp only [Act.put, List.setIfInBounds_toArray, List.set_cons_zero, List.set_cons_succ]
        refine wpAnyH_take (i := 19) (oi := { dst := some 32, op := Op.pick (Operand.tmp 18) (Operand.const (Value.bool true)) (Operand.tmp 31), type := 4, pos := "ref.go:25", after := #[{ on := 5, ground := Ground.data }, { on := 18, ground := Ground.data }], guard := none }) (v := .bool true) rfl (by kernel_rfl) (by kernel_rfl) (by kernel_rfl) (fun _ _ _ h => h) (Or.inl ⟨by kernel_rfl, fun w' hSw => by (try dsimp only at hSw); go_simp⟩) (by assumption) ?_
        try simp only [Act.put, List.setIfInBounds_toArray, List.set_cons_zero, List.set_cons_succ]
        refine wpAnyH_done (by kernel_rfl) ?_ _
        refine NoPanic.normal ?_
        go_wp2_with fail
        go_ret
        exact ⟨by rw [HE.out]; rfl, bk1.out.trans (J1.out.mono bk1.out.size)⟩
      · have HT := Lib.hid (all_take ht.out HP.out he)
        rw [he] at HRE
        clear he
        cases k with
        | zero =>
          refine wp_region_noPanic ?_
          refine wp_region_held_drew (S := fun W => W.cell? ⟨w.heap.size, 0, none⟩ = some (.int .i64 nodes) ∧ W.cell? ⟨w.heap.size, 1, none⟩ = some (.slice (some ⟨b, o, none⟩) n c) ∧ W.cell? ⟨Y, 0, none⟩ = some (.int .i64 p.1) ∧ W.cell? ⟨Y, 1, none⟩ = some (.int .i64 p.2.1) ∧ W.cell? ⟨Y, 2, none⟩ = some (.int .i64 p.2.2)) (by kernel_rfl) (HS0.out _ J0.out) (fun hHeld => ?_)
          refine wpAnyH_take (i := 0) (oi := { dst := some 13, op := Op.fieldAddr 24 (Operand.tmp 1) 0, type := 0, pos := "ref.go:25", after := #[], guard := none }) (v := .pointer (some ⟨w.heap.size, 0, none⟩)) rfl (by kernel_rfl) (by kernel_rfl) (by kernel_rfl) (fun _ _ _ h => h) (Or.inl ⟨by kernel_rfl, fun w' hSw => by (try dsimp only at hSw); go_simp⟩) (by assumption) ?_
          try simp only [Act.put, List.setIfInBounds_toArray, List.set_cons_zero, List.set_cons_succ]
          refine wpAnyH_take (i := 1) (oi := { dst := some 14, op := Op.load 3 (Operand.tmp 13), type := 3, pos := "ref.go:25", after := #[{ on := 0, ground := Ground.data }], guard := none }) (v := .int .i64 nodes) rfl (by kernel_rfl) (by kernel_rfl) (by kernel_rfl) (fun _ _ _ h => h) (Or.inl ⟨by kernel_rfl, fun w' hSw => by (try dsimp only at hSw); go_simp⟩) (by assumption) ?_
          try simp only [Act.put, List.setIfInBounds_toArray, List.set_cons_zero, List.set_cons_succ]
          refine wpAnyH_take (i := 2) (oi := { dst := some 15, op := Op.load 53 (Operand.tmp 4), type := 53, pos := "ref.go:25", after := #[], guard := none }) (v := .agg #[.int .i64 p.1, .int .i64 p.2.1, .int .i64 p.2.2]) rfl (by kernel_rfl) (by kernel_rfl) (by kernel_rfl) (fun _ _ _ h => h) (Or.inl ⟨by kernel_rfl, fun w' hSw => by (try dsimp only at hSw); go_simp⟩) (by assumption) ?_
          try simp only [Act.put, List.setIfInBounds_toArray, List.set_cons_zero, List.set_cons_succ]
          refine wpAnyH_ready (rs := [3]) (by kernel_rfl) (by simp) ?_
          refine AllReadyH.cons (o := { dst := some 16, op := Op.call { callee := Callee.value (Operand.func 35), args := #[Operand.tmp 14, Operand.tmp 15], argTypes := #[3, 53] }, type := 4, pos := "ref.go:25", after := #[{ on := 1, ground := Ground.data }, { on := 2, ground := Ground.data }], guard := none }) rfl (fun K hK => ?_) AllReadyH.nil
          go_simp
          refine (HRE.out wx.drew).mono ?_
          rintro e v1 ⟨rfl, b9⟩
          have J1 : Hid (Below wx.heap.size wx v1) := J0.out.trans (b9.mono J0.out.size)
          clear b9 hHeld
          refine hK.out _ _ (HS0.out _ J1.out) (fun hHeld => ?_)
          clear hK K
          try simp only [Act.put, List.setIfInBounds_toArray, List.set_cons_zero, List.set_cons_succ]
          refine wpAnyH_take (i := 4) (oi := { dst := some 17, op := Op.unOp UnOp.not 4 (Operand.tmp 16), type := 4, pos := "ref.go:25", after := #[{ on := 3, ground := Ground.data }], guard := none }) (v := .bool false) rfl (by kernel_rfl) (by kernel_rfl) (by kernel_rfl) (fun _ _ _ h => h) (Or.inl ⟨by kernel_rfl, fun w' hSw => by (try dsimp only at hSw); go_simp⟩) (by assumption) ?_
          try simp only [Act.put, List.setIfInBounds_toArray, List.set_cons_zero, List.set_cons_succ]
          refine wpAnyH_take (i := 5) (oi := { dst := some 18, op := Op.move (Operand.tmp 17), type := 4, pos := "ref.go:25", after := #[{ on := 4, ground := Ground.data }, { on := 3, ground := Ground.chain }], guard := none }) (v := .bool false) rfl (by kernel_rfl) (by kernel_rfl) (by kernel_rfl) (fun _ _ _ h => h) (Or.inl ⟨by kernel_rfl, fun w' hSw => by (try dsimp only at hSw); go_simp⟩) (by assumption) ?_
          try simp only [Act.put, List.setIfInBounds_toArray, List.set_cons_zero, List.set_cons_succ]
          refine wpAnyH_take (i := 6) (oi := { dst := some 19, op := Op.move (Operand.tmp 3), type := 3, pos := "ref.go:25", after := #[{ on := 5, ground := Ground.guard }], guard := some (5, false) }) (v := .int .i64 0) rfl (by kernel_rfl) (by kernel_rfl) (by kernel_rfl) (fun _ _ _ h => h) (Or.inl ⟨by kernel_rfl, fun w' hSw => by (try dsimp only at hSw); go_simp⟩) (by assumption) ?_
          try simp only [Act.put, List.setIfInBounds_toArray, List.set_cons_zero, List.set_cons_succ]
          refine wpAnyH_take (i := 7) (oi := { dst := some 20, op := Op.binOp BinOp.gtr 3 (Operand.tmp 19) (Operand.const (Value.int IntKind.i64 0)) 3, type := 4, pos := "ref.go:25", after := #[{ on := 6, ground := Ground.data }, { on := 5, ground := Ground.guard }], guard := some (5, false) }) (v := .bool false) rfl (by kernel_rfl) (by kernel_rfl) (by kernel_rfl) (fun _ _ _ h => h) (Or.inl ⟨by kernel_rfl, fun w' hSw => by (try dsimp only at hSw); go_simp⟩) (by assumption) ?_
          try simp only [Act.put, List.setIfInBounds_toArray, List.set_cons_zero, List.set_cons_succ]
          refine wpAnyH_take (i := 8) (oi := { dst := some 21, op := Op.move (Operand.tmp 20), type := 4, pos := "ref.go:25", after := #[{ on := 7, ground := Ground.data }, { on := 5, ground := Ground.chain }, { on := 5, ground := Ground.guard }], guard := some (5, false) }) (v := .bool false) rfl (by kernel_rfl) (by kernel_rfl) (by kernel_rfl) (fun _ _ _ h => h) (Or.inl ⟨by kernel_rfl, fun w' hSw => by (try dsimp only at hSw); go_simp⟩) (by assumption) ?_
          try simp only [Act.put, List.setIfInBounds_toArray, List.set_cons_zero, List.set_cons_succ]
          refine wpAnyH_take (i := 9) (oi := { dst := some 22, op := Op.fieldAddr 24 (Operand.tmp 1) 1, type := 0, pos := "ref.go:25", after := #[{ on := 8, ground := Ground.guard }], guard := some (8, true) }) (v := undef) rfl (by kernel_rfl) (by kernel_rfl) (by kernel_rfl) (fun _ _ _ h => h) (Or.inr ⟨by kernel_rfl, rfl⟩) (by assumption) ?_
          try simp only [Act.put, List.setIfInBounds_toArray, List.set_cons_zero, List.set_cons_succ]
          refine wpAnyH_take (i := 10) (oi := { dst := some 23, op := Op.load 22 (Operand.tmp 22), type := 22, pos := "ref.go:25", after := #[{ on := 9, ground := Ground.data }, { on := 8, ground := Ground.guard }], guard := some (8, true) }) (v := undef) rfl (by kernel_rfl) (by kernel_rfl) (by kernel_rfl) (fun _ _ _ h => h) (Or.inr ⟨by kernel_rfl, rfl⟩) (by assumption) ?_
          try simp only [Act.put, List.setIfInBounds_toArray, List.set_cons_zero, List.set_cons_succ]
          refine wpAnyH_take (i := 11) (oi := { dst := some 24, op := Op.move (Operand.tmp 3), type := 3, pos := "ref.go:25", after := #[{ on := 8, ground := Ground.guard }], guard := some (8, true) }) (v := undef) rfl (by kernel_rfl) (by kernel_rfl) (by kernel_rfl) (fun _ _ _ h => h) (Or.inr ⟨by kernel_rfl, rfl⟩) (by assumption) ?_
          try simp only [Act.put, List.setIfInBounds_toArray, List.set_cons_zero, List.set_cons_succ]
          refine wpAnyH_take (i := 12) (oi := { dst := some 25, op := Op.binOp BinOp.sub 3 (Operand.tmp 24) (Operand.const (Value.int IntKind.i64 1)) 3, type := 3, pos := "ref.go:25", after := #[{ on := 11, ground := Ground.data }, { on := 8, ground := Ground.guard }], guard := some (8, true) }) (v := undef) rfl (by kernel_rfl) (by kernel_rfl) (by kernel_rfl) (fun _ _ _ h => h) (Or.inr ⟨by kernel_rfl, rfl⟩) (by assumption) ?_
          try simp only [Act.put, List.setIfInBounds_toArray, List.set_cons_zero, List.set_cons_succ]
          refine wpAnyH_take (i := 13) (oi := { dst := some 26, op := Op.indexAddr 22 (Operand.tmp 23) (Operand.tmp 25), type := 0, pos := "ref.go:25", after := #[{ on := 10, ground := Ground.data }, { on := 12, ground := Ground.data }, { on := 8, ground := Ground.guard }], guard := some (8, true) }) (v := undef) rfl (by kernel_rfl) (by kernel_rfl) (by kernel_rfl) (fun _ _ _ h => h) (Or.inr ⟨by kernel_rfl, rfl⟩) (by assumption) ?_
          try simp only [Act.put, List.setIfInBounds_toArray, List.set_cons_zero, List.set_cons_succ]
          refine wpAnyH_take (i := 14) (oi := { dst := some 27, op := Op.load 53 (Operand.tmp 26), type := 53, pos := "ref.go:25", after := #[{ on := 13, ground := Ground.data }, { on := 8, ground := Ground.guard }], guard := some (8, true) }) (v := undef) rfl (by kernel_rfl) (by kernel_rfl) (by kernel_rfl) (fun _ _ _ h => h) (Or.inr ⟨by kernel_rfl, rfl⟩) (by assumption) ?_
          try simp only [Act.put, List.setIfInBounds_toArray, List.set_cons_zero, List.set_cons_succ]
          refine wpAnyH_take (i := 15) (oi := { dst := some 28, op := Op.load 53 (Operand.tmp 4), type := 53, pos := "ref.go:25", after := #[{ on := 8, ground := Ground.guard }], guard := some (8, true) }) (v := undef) rfl (by kernel_rfl) (by kernel_rfl) (by kernel_rfl) (fun _ _ _ h => h) (Or.inr ⟨by kernel_rfl, rfl⟩) (by assumption) ?_
          try simp only [Act.put, List.setIfInBounds_toArray, List.set_cons_zero, List.set_cons_succ]
          refine wpAnyH_take (i := 16) (oi := { dst := some 29, op := Op.call { callee := Callee.value (Operand.func 36), args := #[Operand.tmp 27, Operand.tmp 28], argTypes := #[53, 53] }, type := 4, pos := "ref.go:25", after := #[{ on := 14, ground := Ground.data }, { on := 15, ground := Ground.data }, { on := 8, ground := Ground.chain }, { on := 8, ground := Ground.guard }], guard := some (8, true) }) (v := undef) rfl (by kernel_rfl) (by kernel_rfl) (by kernel_rfl) (fun _ _ _ h => h) (Or.inr ⟨by kernel_rfl, rfl⟩) (by assumption) ?_
          try simp only [Act.put, List.setIfInBounds_toArray, List.set_cons_zero, List.set_cons_succ]
          refine wpAnyH_take (i := 17) (oi := { dst := some 30, op := Op.unOp UnOp.not 4 (Operand.tmp 29), type := 4, pos := "ref.go:25", after := #[{ on := 16, ground := Ground.data }, { on := 8, ground := Ground.guard }], guard := some (8, true) }) (v := undef) rfl (by kernel_rfl) (by kernel_rfl) (by kernel_rfl) (fun _ _ _ h => h) (Or.inr ⟨by kernel_rfl, rfl⟩) (by assumption) ?_
          try simp only [Act.put, List.setIfInBounds_toArray, List.set_cons_zero, List.set_cons_succ]
          refine wpAnyH_take (i := 18) (oi := { dst := some 31, op := Op.pick (Operand.tmp 21) (Operand.tmp 30) (Operand.const (Value.bool false)), type := 4, pos := "ref.go:25", after := #[{ on := 8, ground := Ground.data }, { on := 17, ground := Ground.data }, { on := 5, ground := Ground.guard }], guard := some (5, false) }) (v := .bool false) rfl (by kernel_rfl) (by kernel_rfl) (by kernel_rfl) (fun _ _ _ h => h) (Or.inl ⟨by kernel_rfl, fun w' hSw => by (try dsimp only at hSw); go_simp⟩) (by assumption) ?_
          try simp only [Act.put, List.setIfInBounds_toArray, List.set_cons_zero, List.set_cons_succ]
          refine wpAnyH_take (i := 19) (oi := { dst := some 32, op := Op.pick (Operand.tmp 18) (Operand.const (Value.bool true)) (Operand.tmp 31), type := 4, pos := "ref.go:25", after := #[{ on := 5, ground := Ground.data }, { on := 18, ground := Ground.data }], guard := none }) (v := .bool false) rfl (by kernel_rfl) (by kernel_rfl) (by kernel_rfl) (fun _ _ _ h => h) (Or.inl ⟨by kernel_rfl, fun w' hSw => by (try dsimp only at hSw); go_simp⟩) (by assumption) ?_
          try simp only [Act.put, List.setIfInBounds_toArray, List.set_cons_zero, List.set_cons_succ]
          refine wpAnyH_done (by kernel_rfl) ?_ _
          refine NoPanic.normal ?_
          go_wp2_with fail
          go_roundg g2
          case measure => omega
          case rel => exact ⟨0 + 1, by have := HK.out; omega, by go_num, HT, fun j x y h => by omega, bk1.out.trans (J1.out.mono bk1.out.size), HX1.out.below J1.out hXl⟩
        | succ j =>
          obtain ⟨q, hq⟩ : ∃ q, zs[j]? = some q := ⟨zs[j]'(by rw [HL.out]; omega), List.getElem?_eq_getElem _⟩
          obtain ⟨b', o', hA', hb', x0, x1, x2⟩ := ed_at (HR.out _ bk1.out) hq
          injection hA' with hA'
          injection hA' with e1 e2 _
          subst e1; subst e2
          have hbx : b < wx.heap.size := by have := bk1.out.size; omega
          have HQ := Lib.hid hq
          have HS1 : Hid (∀ W, Below wx.heap.size wx W → (W.cell? ⟨w.heap.size, 0, none⟩ = some (.int .i64 nodes) ∧ W.cell? ⟨w.heap.size, 1, none⟩ = some (.slice (some ⟨b, o, none⟩) n c) ∧ W.cell? ⟨Y, 0, none⟩ = some (.int .i64 p.1) ∧ W.cell? ⟨Y, 1, none⟩ = some (.int .i64 p.2.1) ∧ W.cell? ⟨Y, 2, none⟩ = some (.int .i64 p.2.2)) ∧
              W.cell? ⟨b, o + j * 3, none⟩ = some (.int .i64 q.1) ∧ W.cell? ⟨b, o + j * 3 + 1, none⟩ = some (.int .i64 q.2.1) ∧ W.cell? ⟨b, o + j * 3 + 2, none⟩ = some (.int .i64 q.2.2)) :=
            fun W h => ⟨HS0.out W h, (h.cell (p := ⟨b, _, none⟩) hbx).trans x0, (h.cell (p := ⟨b, _, none⟩) hbx).trans x1, (h.cell (p := ⟨b, _, none⟩) hbx).trans x2⟩
          have HAH := Lib.hid fun W => rahead_any q p W
          have hs1 : IntKind.i64.wrap (((j + 1 : Nat) : Int) - 1) = (j : Int) := by rw [IntKind.wrap_i64]; omega
          have hs2 : IntKind.i64.wrap (j : Int) = (j : Int) := by rw [IntKind.wrap_i64]; omega
          have hj0 : (0 : Int) ≤ (j : Int) := by omega
          have hj1 : (j : Int) < (n : Int) := by omega
          have hj2 : ((j : Int) + 1 > 0) := by omega
          have hj3 : (0 : Int) < (j : Int) + 1 := by omega
          clear hq x0 x1 x2
          cases ha : aheadE q p
          · have HE := Lib.hid (rg_ahead (nodes := nodes) HQ.out HP.out ha)
            rw [ha] at HAH
            clear ha
            refine wp_region_noPanic ?_
            refine wp_region_held_drew (S := fun W => (W.cell? ⟨w.heap.size, 0, none⟩ = some (.int .i64 nodes) ∧ W.cell? ⟨w.heap.size, 1, none⟩ = some (.slice (some ⟨b, o, none⟩) n c) ∧ W.cell? ⟨Y, 0, none⟩ = some (.int .i64 p.1) ∧ W.cell? ⟨Y, 1, none⟩ = some (.int .i64 p.2.1) ∧ W.cell? ⟨Y, 2, none⟩ = some (.int .i64 p.2.2)) ∧ W.cell? ⟨b, o + j * 3, none⟩ = some (.int .i64 q.1) ∧ W.cell? ⟨b, o + j * 3 + 1, none⟩ = some (.int .i64 q.2.1) ∧ W.cell? ⟨b, o + j * 3 + 2, none⟩ = some (.int .i64 q.2.2)) (by kernel_rfl) (HS1.out _ J0.out) (fun hHeld => ?_)
            refine wpAnyH_take (i := 0) (oi := { dst := some 13, op := Op.fieldAddr 24 (Operand.tmp 1) 0, type := 0, pos := "ref.go:25", after := #[], guard := none }) (v := .pointer (some ⟨w.heap.size, 0, none⟩)) rfl (by kernel_rfl) (by kernel_rfl) (by kernel_rfl) (fun _ _ _ h => h) (Or.inl ⟨by kernel_rfl, fun w' hSw => by (try dsimp only at hSw); go_simp⟩) (by assumption) ?_
            try simp only [Act.put, List.setIfInBounds_toArray, List.set_cons_zero, List.set_cons_succ]
            refine wpAnyH_take (i := 1) (oi := { dst := some 14, op := Op.load 3 (Operand.tmp 13), type := 3, pos := "ref.go:25", after := #[{ on := 0, ground := Ground.data }], guard := none }) (v := .int .i64 nodes) rfl (by kernel_rfl) (by kernel_rfl) (by kernel_rfl) (fun _ _ _ h => h) (Or.inl ⟨by kernel_rfl, fun w' hSw => by (try dsimp only at hSw); go_simp⟩) (by assumption) ?_
            try simp only [Act.put, List.setIfInBounds_toArray, List.set_cons_zero, List.set_cons_succ]
            refine wpAnyH_take (i := 2) (oi := { dst := some 15, op := Op.load 53 (Operand.tmp 4), type := 53, pos := "ref.go:25", after := #[], guard := none }) (v := .agg #[.int .i64 p.1, .int .i64 p.2.1, .int .i64 p.2.2]) rfl (by kernel_rfl) (by kernel_rfl) (by kernel_rfl) (fun _ _ _ h => h) (Or.inl ⟨by kernel_rfl, fun w' hSw => by (try dsimp only at hSw); go_simp⟩) (by assumption) ?_
            try simp only [Act.put, List.setIfInBounds_toArray, List.set_cons_zero, List.set_cons_succ]
            refine wpAnyH_ready (rs := [3]) (by kernel_rfl) (by simp) ?_
            refine AllReadyH.cons (o := { dst := some 16, op := Op.call { callee := Callee.value (Operand.func 35), args := #[Operand.tmp 14, Operand.tmp 15], argTypes := #[3, 53] }, type := 4, pos := "ref.go:25", after := #[{ on := 1, ground := Ground.data }, { on := 2, ground := Ground.data }], guard := none }) rfl (fun K hK => ?_) AllReadyH.nil
            go_simp
            refine (HRE.out wx.drew).mono ?_
            rintro e v1 ⟨rfl, b9⟩
            have J1 : Hid (Below wx.heap.size wx v1) := J0.out.trans (b9.mono J0.out.size)
            clear b9 hHeld
            refine hK.out _ _ (HS1.out _ J1.out) (fun hHeld => ?_)
            clear hK K
            try simp only [Act.put, List.setIfInBounds_toArray, List.set_cons_zero, List.set_cons_succ]
            refine wpAnyH_take (i := 4) (oi := { dst := some 17, op := Op.unOp UnOp.not 4 (Operand.tmp 16), type := 4, pos := "ref.go:25", after := #[{ on := 3, ground := Ground.data }], guard := none }) (v := .bool false) rfl (by kernel_rfl) (by kernel_rfl) (by kernel_rfl) (fun _ _ _ h => h) (Or.inl ⟨by kernel_rfl, fun w' hSw => by (try dsimp only at hSw); go_simp⟩) (by assumption) ?_
            try simp only [Act.put, List.setIfInBounds_toArray, List.set_cons_zero, List.set_cons_succ]
            refine wpAnyH_take (i := 5) (oi := { dst := some 18, op := Op.move (Operand.tmp 17), type := 4, pos := "ref.go:25", after := #[{ on := 4, ground := Ground.data }, { on := 3, ground := Ground.chain }], guard := none }) (v := .bool false) rfl (by kernel_rfl) (by kernel_rfl) (by kernel_rfl) (fun _ _ _ h => h) (Or.inl ⟨by kernel_rfl, fun w' hSw => by (try dsimp only at hSw); go_simp⟩) (by assumption) ?_
            try simp only [Act.put, List.setIfInBounds_toArray, List.set_cons_zero, List.set_cons_succ]
            refine wpAnyH_take (i := 6) (oi := { dst := some 19, op := Op.move (Operand.tmp 3), type := 3, pos := "ref.go:25", after := #[{ on := 5, ground := Ground.guard }], guard := some (5, false) }) (v := .int .i64 ((j : Int) + 1)) rfl (by kernel_rfl) (by kernel_rfl) (by kernel_rfl) (fun _ _ _ h => h) (Or.inl ⟨by kernel_rfl, fun w' hSw => by (try dsimp only at hSw); go_simp⟩) (by assumption) ?_
            try simp only [Act.put, List.setIfInBounds_toArray, List.set_cons_zero, List.set_cons_succ]
            refine wpAnyH_take (i := 7) (oi := { dst := some 20, op := Op.binOp BinOp.gtr 3 (Operand.tmp 19) (Operand.const (Value.int IntKind.i64 0)) 3, type := 4, pos := "ref.go:25", after := #[{ on := 6, ground := Ground.data }, { on := 5, ground := Ground.guard }], guard := some (5, false) }) (v := .bool true) rfl (by kernel_rfl) (by kernel_rfl) (by kernel_rfl) (fun _ _ _ h => h) (Or.inl ⟨by kernel_rfl, fun w' hSw => by (try dsimp only at hSw); go_simp⟩) (by assumption) ?_
            try simp only [Act.put, List.setIfInBounds_toArray, List.set_cons_zero, List.set_cons_succ]
            refine wpAnyH_take (i := 8) (oi := { dst := some 21, op := Op.move (Operand.tmp 20), type := 4, pos := "ref.go:25", after := #[{ on := 7, ground := Ground.data }, { on := 5, ground := Ground.chain }, { on := 5, ground := Ground.guard }], guard := some (5, false) }) (v := .bool true) rfl (by kernel_rfl) (by kernel_rfl) (by kernel_rfl) (fun _ _ _ h => h) (Or.inl ⟨by kernel_rfl, fun w' hSw => by (try dsimp only at hSw); go_simp⟩) (by assumption) ?_
            try simp only [Act.put, List.setIfInBounds_toArray, List.set_cons_zero, List.set_cons_succ]
            refine wpAnyH_take (i := 9) (oi := { dst := some 22, op := Op.fieldAddr 24 (Operand.tmp 1) 1, type := 0, pos := "ref.go:25", after := #[{ on := 8, ground := Ground.guard }], guard := some (8, true) }) (v := .pointer (some ⟨w.heap.size, 1, none⟩)) rfl (by kernel_rfl) (by kernel_rfl) (by kernel_rfl) (fun _ _ _ h => h) (Or.inl ⟨by kernel_rfl, fun w' hSw => by (try dsimp only at hSw); go_simp⟩) (by assumption) ?_
            try simp only [Act.put, List.setIfInBounds_toArray, List.set_cons_zero, List.set_cons_succ]
            refine wpAnyH_take (i := 10) (oi := { dst := some 23, op := Op.load 22 (Operand.tmp 22), type := 22, pos := "ref.go:25", after := #[{ on := 9, ground := Ground.data }, { on := 8, ground := Ground.guard }], guard := some (8, true) }) (v := .slice (some ⟨b, o, none⟩) n c) rfl (by kernel_rfl) (by kernel_rfl) (by kernel_rfl) (fun _ _ _ h => h) (Or.inl ⟨by kernel_rfl, fun w' hSw => by (try dsimp only at hSw); go_simp⟩) (by assumption) ?_
            try simp only [Act.put, List.setIfInBounds_toArray, List.set_cons_zero, List.set_cons_succ]
            refine wpAnyH_take (i := 11) (oi := { dst := some 24, op := Op.move (Operand.tmp 3), type := 3, pos := "ref.go:25", after := #[{ on := 8, ground := Ground.guard }], guard := some (8, true) }) (v := .int .i64 ((j : Int) + 1)) rfl (by kernel_rfl) (by kernel_rfl) (by kernel_rfl) (fun _ _ _ h => h) (Or.inl ⟨by kernel_rfl, fun w' hSw => by (try dsimp only at hSw); go_simp⟩) (by assumption) ?_
            try simp only [Act.put, List.setIfInBounds_toArray, List.set_cons_zero, List.set_cons_succ]
            refine wpAnyH_take (i := 12) (oi := { dst := some 25, op := Op.binOp BinOp.sub 3 (Operand.tmp 24) (Operand.const (Value.int IntKind.i64 1)) 3, type := 3, pos := "ref.go:25", after := #[{ on := 11, ground := Ground.data }, { on := 8, ground := Ground.guard }], guard := some (8, true) }) (v := .int .i64 (j : Int)) rfl (by kernel_rfl) (by kernel_rfl) (by kernel_rfl) (fun _ _ _ h => h) (Or.inl ⟨by kernel_rfl, fun w' hSw => by (try dsimp only at hSw); go_simp⟩) (by assumption) ?_
            try simp only [Act.put, List.setIfInBounds_toArray, List.set_cons_zero, List.set_cons_succ]
            refine wpAnyH_take (i := 13) (oi := { dst := some 26, op := Op.indexAddr 22 (Operand.tmp 23) (Operand.tmp 25), type := 0, pos := "ref.go:25", after := #[{ on := 10, ground := Ground.data }, { on := 12, ground := Ground.data }, { on := 8, ground := Ground.guard }], guard := some (8, true) }) (v := .pointer (some ⟨b, o + j * 3, none⟩)) rfl (by kernel_rfl) (by kernel_rfl) (by kernel_rfl) (fun _ _ _ h => h) (Or.inl ⟨by kernel_rfl, fun w' hSw => by (try dsimp only at hSw); go_simp⟩) (by assumption) ?_
            try simp only [Act.put, List.setIfInBounds_toArray, List.set_cons_zero, List.set_cons_succ]
            refine wpAnyH_take (i := 14) (oi := { dst := some 27, op := Op.load 53 (Operand.tmp 26), type := 53, pos := "ref.go:25", after := #[{ on := 13, ground := Ground.data }, { on := 8, ground := Ground.guard }], guard := some (8, true) }) (v := .agg #[.int .i64 q.1, .int .i64 q.2.1, .int .i64 q.2.2]) rfl (by kernel_rfl) (by kernel_rfl) (by kernel_rfl) (fun _ _ _ h => h) (Or.inl ⟨by kernel_rfl, fun w' hSw => by (try dsimp only at hSw); go_simp⟩) (by assumption) ?_
            try simp only [Act.put, List.setIfInBounds_toArray, List.set_cons_zero, List.set_cons_succ]
            refine wpAnyH_take (i := 15) (oi := { dst := some 28, op := Op.load 53 (Operand.tmp 4), type := 53, pos := "ref.go:25", after := #[{ on := 8, ground := Ground.guard }], guard := some (8, true) }) (v := .agg #[.int .i64 p.1, .int .i64 p.2.1, .int .i64 p.2.2]) rfl (by kernel_rfl) (by kernel_rfl) (by kernel_rfl) (fun _ _ _ h => h) (Or.inl ⟨by kernel_rfl, fun w' hSw => by (try dsimp only at hSw); go_simp⟩) (by assumption) ?_
            try simp only [Act.put, List.setIfInBounds_toArray, List.set_cons_zero, List.set_cons_succ]
            refine wpAnyH_ready (rs := [16]) (by kernel_rfl) (by simp) ?_
            refine AllReadyH.cons (o := { dst := some 29, op := Op.call { callee := Callee.value (Operand.func 36), args := #[Operand.tmp 27, Operand.tmp 28], argTypes := #[53, 53] }, type := 4, pos := "ref.go:25", after := #[{ on := 14, ground := Ground.data }, { on := 15, ground := Ground.data }, { on := 8, ground := Ground.chain }, { on := 8, ground := Ground.guard }], guard := some (8, true) }) rfl (fun K hK => ?_) AllReadyH.nil
            go_simp
            refine (HAH.out v1).mono ?_
            rintro e v2 ⟨rfl, b9⟩
            have J2 : Hid (Below wx.heap.size wx v2) := J1.out.trans (b9.mono J1.out.size)
            clear b9 hHeld
            refine hK.out _ _ (HS1.out _ J2.out) (fun hHeld => ?_)
            clear hK K
            try simp only [Act.put, List.setIfInBounds_toArray, List.set_cons_zero, List.set_cons_succ]
            refine wpAnyH_take (i := 17) (oi := { dst := some 30, op := Op.unOp UnOp.not 4 (Operand.tmp 29), type := 4, pos := "ref.go:25", after := #[{ on := 16, ground := Ground.data }, { on := 8, ground := Ground.guard }], guard := some (8, true) }) (v := .bool true) rfl (by kernel_rfl) (by kernel_rfl) (by kernel_rfl) (fun _ _ _ h => h) (Or.inl ⟨by kernel_rfl, fun w' hSw => by (try dsimp only at hSw); go_simp⟩) (by assumption) ?_
            try simp only [Act.put, List.setIfInBounds_toArray, List.set_cons_zero, List.set_cons_succ]
            refine wpAnyH_take (i := 18) (oi := { dst := some 31, op := Op.pick (Operand.tmp 21) (Operand.tmp 30) (Operand.const (Value.bool false)), type := 4, pos := "ref.go:25", after := #[{ on := 8, ground := Ground.data }, { on := 17, ground := Ground.data }, { on := 5, ground := Ground.guard }], guard := some (5, false) }) (v := .bool true) rfl (by kernel_rfl) (by kernel_rfl) (by kernel_rfl) (fun _ _ _ h => h) (Or.inl ⟨by kernel_rfl, fun w' hSw => by (try dsimp only at hSw); go_simp⟩) (by assumption) ?_
            try simp only [Act.put, List.setIfInBounds_toArray, List.set_cons_zero, List.set_cons_succ]
            refine wpAnyH_take (i := 19) (oi := { dst := some 32, op := Op.pick (Operand.tmp 18) (Operand.const (Value.bool true)) (Operand.tmp 31), type := 4, pos := "ref.go:25", after := #[{ on := 5, ground := Ground.data }, { on := 18, ground := Ground.data }], guard := none }) (v := .bool true) rfl (by kernel_rfl) (by kernel_rfl) (by kernel_rfl) (fun _ _ _ h => h) (Or.inl ⟨by kernel_rfl, fun w' hSw => by (try dsimp only at hSw); go_simp⟩) (by assumption) ?_
            try simp only [Act.put, List.setIfInBounds_toArray, List.set_cons_zero, List.set_cons_succ]
            refine wpAnyH_done (by kernel_rfl) ?_ _
            refine NoPanic.normal ?_
            go_wp2_with fail
            go_ret
            exact ⟨by rw [HE.out]; rfl, bk1.out.trans (J2.out.mono bk1.out.size)⟩
          · have HO2 : Hid (∀ j' x y, j' + 1 < j + 1 + 1 → zs[j']? = some x → zs[j' + 1]? = some y → aheadE x y = true) := by
              intro j' x y h hx hy
              rcases Nat.lt_or_ge (j' + 1) (j + 1) with h' | h'
              · exact ho.out j' x y h' hx hy
              · obtain rfl : j' = j := by omega
                rw [HQ.out] at hx
                rw [HP.out] at hy
                injection hx with hx
                injection hy with hy
                subst hx; subst hy
                exact ha
            rw [ha] at HAH
            clear ha
            refine wp_region_noPanic ?_
            refine wp_region_held_drew (S := fun W => (W.cell? ⟨w.heap.size, 0, none⟩ = some (.int .i64 nodes) ∧ W.cell? ⟨w.heap.size, 1, none⟩ = some (.slice (some ⟨b, o, none⟩) n c) ∧ W.cell? ⟨Y, 0, none⟩ = some (.int .i64 p.1) ∧ W.cell? ⟨Y, 1, none⟩ = some (.int .i64 p.2.1) ∧ W.cell? ⟨Y, 2, none⟩ = some (.int .i64 p.2.2)) ∧ W.cell? ⟨b, o + j * 3, none⟩ = some (.int .i64 q.1) ∧ W.cell? ⟨b, o + j * 3 + 1, none⟩ = some (.int .i64 q.2.1) ∧ W.cell? ⟨b, o + j * 3 + 2, none⟩ = some (.int .i64 q.2.2)) (by kernel_rfl) (HS1.out _ J0.out) (fun hHeld => ?_)
            refine wpAnyH_take (i := 0) (oi := { dst := some 13, op := Op.fieldAddr 24 (Operand.tmp 1) 0, type := 0, pos := "ref.go:25", after := #[], guard := none }) (v := .pointer (some ⟨w.heap.size, 0, none⟩)) rfl (by kernel_rfl) (by kernel_rfl) (by kernel_rfl) (fun _ _ _ h => h) (Or.inl ⟨by kernel_rfl, fun w' hSw => by (try dsimp only at hSw); go_simp⟩) (by assumption) ?_
            try simp only [Act.put, List.setIfInBounds_toArray, List.set_cons_zero, List.set_cons_succ]
            refine wpAnyH_take (i := 1) (oi := { dst := some 14, op := Op.load 3 (Operand.tmp 13), type := 3, pos := "ref.go:25", after := #[{ on := 0, ground := Ground.data }], guard := none }) (v := .int .i64 nodes) rfl (by kernel_rfl) (by kernel_rfl) (by kernel_rfl) (fun _ _ _ h => h) (Or.inl ⟨by kernel_rfl, fun w' hSw => by (try dsimp only at hSw); go_simp⟩) (by assumption) ?_
            try simp only [Act.put, List.setIfInBounds_toArray, List.set_cons_zero, List.set_cons_succ]
            refine wpAnyH_take (i := 2) (oi := { dst := some 15, op := Op.load 53 (Operand.tmp 4), type := 53, pos := "ref.go:25", after := #[], guard := none }) (v := .agg #[.int .i64 p.1, .int .i64 p.2.1, .int .i64 p.2.2]) rfl (by kernel_rfl) (by kernel_rfl) (by kernel_rfl) (fun _ _ _ h => h) (Or.inl ⟨by kernel_rfl, fun w' hSw => by (try dsimp only at hSw); go_simp⟩) (by assumption) ?_
            try simp only [Act.put, List.setIfInBounds_toArray, List.set_cons_zero, List.set_cons_succ]
            refine wpAnyH_ready (rs := [3]) (by kernel_rfl) (by simp) ?_
            refine AllReadyH.cons (o := { dst := some 16, op := Op.call { callee := Callee.value (Operand.func 35), args := #[Operand.tmp 14, Operand.tmp 15], argTypes := #[3, 53] }, type := 4, pos := "ref.go:25", after := #[{ on := 1, ground := Ground.data }, { on := 2, ground := Ground.data }], guard := none }) rfl (fun K hK => ?_) AllReadyH.nil
            go_simp
            refine (HRE.out wx.drew).mono ?_
            rintro e v1 ⟨rfl, b9⟩
            have J1 : Hid (Below wx.heap.size wx v1) := J0.out.trans (b9.mono J0.out.size)
            clear b9 hHeld
            refine hK.out _ _ (HS1.out _ J1.out) (fun hHeld => ?_)
            clear hK K
            try simp only [Act.put, List.setIfInBounds_toArray, List.set_cons_zero, List.set_cons_succ]
            refine wpAnyH_take (i := 4) (oi := { dst := some 17, op := Op.unOp UnOp.not 4 (Operand.tmp 16), type := 4, pos := "ref.go:25", after := #[{ on := 3, ground := Ground.data }], guard := none }) (v := .bool false) rfl (by kernel_rfl) (by kernel_rfl) (by kernel_rfl) (fun _ _ _ h => h) (Or.inl ⟨by kernel_rfl, fun w' hSw => by (try dsimp only at hSw); go_simp⟩) (by assumption) ?_
            try simp only [Act.put, List.setIfInBounds_toArray, List.set_cons_zero, List.set_cons_succ]
            refine wpAnyH_take (i := 5) (oi := { dst := some 18, op := Op.move (Operand.tmp 17), type := 4, pos := "ref.go:25", after := #[{ on := 4, ground := Ground.data }, { on := 3, ground := Ground.chain }], guard := none }) (v := .bool false) rfl (by kernel_rfl) (by kernel_rfl) (by kernel_rfl) (fun _ _ _ h => h) (Or.inl ⟨by kernel_rfl, fun w' hSw => by (try dsimp only at hSw); go_simp⟩) (by assumption) ?_
            try simp only [Act.put, List.setIfInBounds_toArray, List.set_cons_zero, List.set_cons_succ]
            refine wpAnyH_take (i := 6) (oi := { dst := some 19, op := Op.move (Operand.tmp 3), type := 3, pos := "ref.go:25", after := #[{ on := 5, ground := Ground.guard }], guard := some (5, false) }) (v := .int .i64 ((j : Int) + 1)) rfl (by kernel_rfl) (by kernel_rfl) (by kernel_rfl) (fun _ _ _ h => h) (Or.inl ⟨by kernel_rfl, fun w' hSw => by (try dsimp only at hSw); go_simp⟩) (by assumption) ?_
            try simp only [Act.put, List.setIfInBounds_toArray, List.set_cons_zero, List.set_cons_succ]
            refine wpAnyH_take (i := 7) (oi := { dst := some 20, op := Op.binOp BinOp.gtr 3 (Operand.tmp 19) (Operand.const (Value.int IntKind.i64 0)) 3, type := 4, pos := "ref.go:25", after := #[{ on := 6, ground := Ground.data }, { on := 5, ground := Ground.guard }], guard := some (5, false) }) (v := .bool true) rfl (by kernel_rfl) (by kernel_rfl) (by kernel_rfl) (fun _ _ _ h => h) (Or.inl ⟨by kernel_rfl, fun w' hSw => by (try dsimp only at hSw); go_simp⟩) (by assumption) ?_
            try simp only [Act.put, List.setIfInBounds_toArray, List.set_cons_zero, List.set_cons_succ]
            refine wpAnyH_take (i := 8) (oi := { dst := some 21, op := Op.move (Operand.tmp 20), type := 4, pos := "ref.go:25", after := #[{ on := 7, ground := Ground.data }, { on := 5, ground := Ground.chain }, { on := 5, ground := Ground.guard }], guard := some (5, false) }) (v := .bool true) rfl (by kernel_rfl) (by kernel_rfl) (by kernel_rfl) (fun _ _ _ h => h) (Or.inl ⟨by kernel_rfl, fun w' hSw => by (try dsimp only at hSw); go_simp⟩) (by assumption) ?_
            try simp only [Act.put, List.setIfInBounds_toArray, List.set_cons_zero, List.set_cons_succ]
            refine wpAnyH_take (i := 9) (oi := { dst := some 22, op := Op.fieldAddr 24 (Operand.tmp 1) 1, type := 0, pos := "ref.go:25", after := #[{ on := 8, ground := Ground.guard }], guard := some (8, true) }) (v := .pointer (some ⟨w.heap.size, 1, none⟩)) rfl (by kernel_rfl) (by kernel_rfl) (by kernel_rfl) (fun _ _ _ h => h) (Or.inl ⟨by kernel_rfl, fun w' hSw => by (try dsimp only at hSw); go_simp⟩) (by assumption) ?_
            try simp only [Act.put, List.setIfInBounds_toArray, List.set_cons_zero, List.set_cons_succ]
            refine wpAnyH_take (i := 10) (oi := { dst := some 23, op := Op.load 22 (Operand.tmp 22), type := 22, pos := "ref.go:25", after := #[{ on := 9, ground := Ground.data }, { on := 8, ground := Ground.guard }], guard := some (8, true) }) (v := .slice (some ⟨b, o, none⟩) n c) rfl (by kernel_rfl) (by kernel_rfl) (by kernel_rfl) (fun _ _ _ h => h) (Or.inl ⟨by kernel_rfl, fun w' hSw => by (try dsimp only at hSw); go_simp⟩) (by assumption) ?_
            try simp only [Act.put, List.setIfInBounds_toArray, List.set_cons_zero, List.set_cons_succ]
            refine wpAnyH_take (i := 11) (oi := { dst := some 24, op := Op.move (Operand.tmp 3), type := 3, pos := "ref.go:25", after := #[{ on := 8, ground := Ground.guard }], guard := some (8, true) }) (v := .int .i64 ((j : Int) + 1)) rfl (by kernel_rfl) (by kernel_rfl) (by kernel_rfl) (fun _ _ _ h => h) (Or.inl ⟨by kernel_rfl, fun w' hSw => by (try dsimp only at hSw); go_simp⟩) (by assumption) ?_
            try simp only [Act.put, List.setIfInBounds_toArray, List.set_cons_zero, List.set_cons_succ]
            refine wpAnyH_take (i := 12) (oi := { dst := some 25, op := Op.binOp BinOp.sub 3 (Operand.tmp 24) (Operand.const (Value.int IntKind.i64 1)) 3, type := 3, pos := "ref.go:25", after := #[{ on := 11, ground := Ground.data }, { on := 8, ground := Ground.guard }], guard := some (8, true) }) (v := .int .i64 (j : Int)) rfl (by kernel_rfl) (by kernel_rfl) (by kernel_rfl) (fun _ _ _ h => h) (Or.inl ⟨by kernel_rfl, fun w' hSw => by (try dsimp only at hSw); go_simp⟩) (by assumption) ?_
            try simp only [Act.put, List.setIfInBounds_toArray, List.set_cons_zero, List.set_cons_succ]
            refine wpAnyH_take (i := 13) (oi := { dst := some 26, op := Op.indexAddr 22 (Operand.tmp 23) (Operand.tmp 25), type := 0, pos := "ref.go:25", after := #[{ on := 10, ground := Ground.data }, { on := 12, ground := Ground.data }, { on := 8, ground := Ground.guard }], guard := some (8, true) }) (v := .pointer (some ⟨b, o + j * 3, none⟩)) rfl (by kernel_rfl) (by kernel_rfl) (by kernel_rfl) (fun _ _ _ h => h) (Or.inl ⟨by kernel_rfl, fun w' hSw => by (try dsimp only at hSw); go_simp⟩) (by assumption) ?_
            try simp only [Act.put, List.setIfInBounds_toArray, List.set_cons_zero, List.set_cons_succ]
            refine wpAnyH_take (i := 14) (oi := { dst := some 27, op := Op.load 53 (Operand.tmp 26), type := 53, pos := "ref.go:25", after := #[{ on := 13, ground := Ground.data }, { on := 8, ground := Ground.guard }], guard := some (8, true) }) (v := .agg #[.int .i64 q.1, .int .i64 q.2.1, .int .i64 q.2.2]) rfl (by kernel_rfl) (by kernel_rfl) (by kernel_rfl) (fun _ _ _ h => h) (Or.inl ⟨by kernel_rfl, fun w' hSw => by (try dsimp only at hSw); go_simp⟩) (by assumption) ?_
            try simp only [Act.put, List.setIfInBounds_toArray, List.set_cons_zero, List.set_cons_succ]
            refine wpAnyH_take (i := 15) (oi := { dst := some 28, op := Op.load 53 (Operand.tmp 4), type := 53, pos := "ref.go:25", after := #[{ on := 8, ground := Ground.guard }], guard := some (8, true) }) (v := .agg #[.int .i64 p.1, .int .i64 p.2.1, .int .i64 p.2.2]) rfl (by kernel_rfl) (by kernel_rfl) (by kernel_rfl) (fun _ _ _ h => h) (Or.inl ⟨by kernel_rfl, fun w' hSw => by (try dsimp only at hSw); go_simp⟩) (by assumption) ?_
            try simp only [Act.put, List.setIfInBounds_toArray, List.set_cons_zero, List.set_cons_succ]
            refine wpAnyH_ready (rs := [16]) (by kernel_rfl) (by simp) ?_
            refine AllReadyH.cons (o := { dst := some 29, op := Op.call { callee := Callee.value (Operand.func 36), args := #[Operand.tmp 27, Operand.tmp 28], argTypes := #[53, 53] }, type := 4, pos := "ref.go:25", after := #[{ on := 14, ground := Ground.data }, { on := 15, ground := Ground.data }, { on := 8, ground := Ground.chain }, { on := 8, ground := Ground.guard }], guard := some (8, true) }) rfl (fun K hK => ?_) AllReadyH.nil
            go_simp
            refine (HAH.out v1).mono ?_
            rintro e v2 ⟨rfl, b9⟩
            have J2 : Hid (Below wx.heap.size wx v2) := J1.out.trans (b9.mono J1.out.size)
            clear b9 hHeld
            refine hK.out _ _ (HS1.out _ J2.out) (fun hHeld => ?_)
            clear hK K
            try simp only [Act.put, List.setIfInBounds_toArray, List.set_cons_zero, List.set_cons_succ]
            refine wpAnyH_take (i := 17) (oi := { dst := some 30, op := Op.unOp UnOp.not 4 (Operand.tmp 29), type := 4, pos := "ref.go:25", after := #[{ on := 16, ground := Ground.data }, { on := 8, ground := Ground.guard }], guard := some (8, true) }) (v := .bool false) rfl (by kernel_rfl) (by kernel_rfl) (by kernel_rfl) (fun _ _ _ h => h) (Or.inl ⟨by kernel_rfl, fun w' hSw => by (try dsimp only at hSw); go_simp⟩) (by assumption) ?_
            try simp only [Act.put, List.setIfInBounds_toArray, List.set_cons_zero, List.set_cons_succ]
            refine wpAnyH_take (i := 18) (oi := { dst := some 31, op := Op.pick (Operand.tmp 21) (Operand.tmp 30) (Operand.const (Value.bool false)), type := 4, pos := "ref.go:25", after := #[{ on := 8, ground := Ground.data }, { on := 17, ground := Ground.data }, { on := 5, ground := Ground.guard }], guard := some (5, false) }) (v := .bool false) rfl (by kernel_rfl) (by kernel_rfl) (by kernel_rfl) (fun _ _ _ h => h) (Or.inl ⟨by kernel_rfl, fun w' hSw => by (try dsimp only at hSw); go_simp⟩) (by assumption) ?_
            try simp only [Act.put, List.setIfInBounds_toArray, List.set_cons_zero, List.set_cons_succ]
            refine wpAnyH_take (i := 19) (oi := { dst := some 32, op := Op.pick (Operand.tmp 18) (Operand.const (Value.bool true)) (Operand.tmp 31), type := 4, pos := "ref.go:25", after := #[{ on := 5, ground := Ground.data }, { on := 18, ground := Ground.data }], guard := none }) (v := .bool false) rfl (by kernel_rfl) (by kernel_rfl) (by kernel_rfl) (fun _ _ _ h => h) (Or.inl ⟨by kernel_rfl, fun w' hSw => by (try dsimp only at hSw); go_simp⟩) (by assumption) ?_
            try simp only [Act.put, List.setIfInBounds_toArray, List.set_cons_zero, List.set_cons_succ]
            refine wpAnyH_done (by kernel_rfl) ?_ _
            refine NoPanic.normal ?_
            go_wp2_with fail
            go_roundg g2
            case measure => omega
            case rel => exact ⟨j + 1 + 1, by have := HK.out; omega, by go_num, HT, HO2, bk1.out.trans (J2.out.mono bk1.out.size), HX1.out.below J2.out hXl⟩
    | zero =>
      have hge : ¬ (k : Int) < (n : Int) := by omega
      have hkn : k = n := by omega
      have z0 := HX.out.cell 0
      have z1 := HX.out.cell 1
      have HE : Hid (rightG nodes zs = mayN nodes) := by
        refine rg_true ?_ fun j x y hx hy => ho.out j x y ?_ hx hy
        · have := ht.out
          rwa [List.take_of_length_le (by rw [HL.out]; omega)] at this
        · have := (List.getElem?_eq_some_iff.1 hy).1
          have := HL.out
          omega
      have h40 : (n : Int) ≤ 40000 := by omega
      clear hk hkn
      by_cases h1 : nodes ≥ 0
      · by_cases h2 : nodes ≤ 300
        · have HM : Hid (mayN nodes = true) := by show _ = _; unfold mayN; simp; omega
          go_wp2_with fail
          go_ret
          exact ⟨by rw [HE.out, HM.out]; rfl, bk.out⟩
        · have HM : Hid (mayN nodes = false) := by show _ = _; unfold mayN; simp; omega
          have hd := decide_eq_false h2
          go_wp2_with fail
          go_ret
          exact ⟨by rw [HE.out, HM.out]; rfl, bk.out⟩
      · have HM : Hid (mayN nodes = false) := by show _ = _; unfold mayN; simp; omega
        have hd := decide_eq_false h1
        go_wp2_with fail
        go_ret
        exact ⟨by rw [HE.out, HM.out]; rfl, bk.out⟩
end Go.Proofs.YtgbpaiffnhpafaaDoor
namespace Go.Proofs.YtgbpaiffnhpafaaDoor
open Go.RowKit

theorem ints_append (a b : List Int) : ints (a ++ b) = ints a ++ ints b := by unfold ints; rw [List.map_append]
theorem ints_one (l : List Int) : ∀ u ∈ ints l, u.oneCell' = true := by
  intro u hu
  unfold ints at hu
  obtain ⟨z, _, rfl⟩ := List.mem_map.1 hu
  rfl
theorem int_one (w : World) (z : Int) : Reads (w.alloc (.cells #[.int .i64 z] 3)) (w.heap.size + 1) 1 (some ⟨w.heap.size, 0, none⟩) 1 (ints [z]) :=
  ⟨rfl, fun _ => ⟨_, rfl, Nat.lt_succ_self _, fun j u hu => by
    rw [Go.WideShapes.add_plain, Nat.zero_add, (Blk.new w 3 #[.int .i64 z]).cell]
    rw [← hu, ← List.getElem?_toArray]
    rfl⟩⟩
/-- What stands among the first k and is asked for. -/
def fil {α : Type} (q : α → Bool) (l : List α) (k : Nat) : List α := (l.take k).filter q
theorem fil_keep {α : Type} {q : α → Bool} {l : List α} {k : Nat} {x : α} (h : l[k]? = some x) (hq : q x = true) : fil q l (k + 1) = fil q l k ++ [x] := by
  unfold fil; rw [List.take_add_one, h, List.filter_append]; simp [hq]
theorem fil_skip {α : Type} {q : α → Bool} {l : List α} {k : Nat} {x : α} (h : l[k]? = some x) (hq : q x = false) : fil q l (k + 1) = fil q l k := by
  unfold fil; rw [List.take_add_one, h, List.filter_append]; simp [hq]
theorem fil_all {α : Type} {q : α → Bool} {l : List α} {k : Nat} (h : l.length ≤ k) : fil q l k = l.filter q := by unfold fil; rw [List.take_of_length_le h]
theorem row_end {ps : List Ed} {w W0 w' : World} {A : Option Addr} {u c : Nat} (hb : Below w.heap.size w W0) (hl : ps.length = u) (ho : w'.ownsRow W0.heap.size 53 3 (.slice A u c) u (cellsE ps)) (h1 : u ≤ c) (h2 : c ≤ 9223372036854775807) (h3 : Below W0.heap.size W0 w') :
    RowIs ps w (.returned (.slice A u c)) w' := by
  subst hl
  exact ⟨A, c, rfl, own_base ho hb.size, h1, h2, hb.trans (h3.mono hb.size)⟩
/-- Numbers. -/
def IntsIs (vs : List Int) (w : World) (e : Ending) (w' : World) : Prop :=
  ∃ (A : Option Addr) (c : Nat), e = .returned (.slice A vs.length c) ∧ Reads w' w'.heap.size 1 A vs.length (ints vs) ∧ vs.length ≤ c ∧ c ≤ 9223372036854775807 ∧ Below w.heap.size w w'
theorem ints_end {vs : List Int} {w W0 w' : World} {A : Option Addr} {u c : Nat} (hb : Below w.heap.size w W0) (hl : vs.length = u) (ho : w'.ownsRow W0.heap.size 3 1 (.slice A u c) u (ints vs)) (h1 : u ≤ c) (h2 : c ≤ 9223372036854775807) (h3 : Below W0.heap.size W0 w') :
    IntsIs vs w (.returned (.slice A u c)) w' := by
  subst hl
  exact ⟨A, c, rfl, Reads.of_own ho, h1, h2, hb.trans (h3.mono hb.size)⟩

set_option maxRecDepth 100000 in
set_option maxHeartbeats 4000000 in
theorem rout_any (nodes v : Int) (A : Option Addr) (n c : Nat) (zs : List Ed) (hn : n ≤ 1000) (w : World) (hR : Reads w w.heap.size 3 A n (cellsE zs)) :
    Calls Tryd.prog 43 #[.agg #[.int .i64 nodes, .slice A n c], .int .i64 v] w (RowIs (outE zs v) w) := by
  obtain ⟨bx, b0⟩ := box_new w #[.int .i64 nodes, .slice A n c] 24
  have HL := Lib.hid (reads_len hR)
  have HR := Lib.hid fun W (h : Below w.heap.size w W) => (hR.below h)
  obtain ⟨i0, hi, hz0, hz1, hz2⟩ := info_parts pair_info
  have z0 := bx.cell 0
  have z1 := bx.cell 1
  have B0 := Lib.hid b0
  clear hR bx b0
  go_enter Tryd.func43, Tryd.ntmps43
  go_wp2_with fail
  generalize w.alloc (.cells #[.int .i64 nodes, .slice A n c] 24) = W0 at *
  clear z0 z1
  go_loopg [5, 11] n (fun gg s5 s11 wr => ∃ (i u : Nat) (A' : Option Addr) (c' : Nat), i + gg = n ∧ u ≤ i ∧ s11 = .int .i64 i ∧ s5 = .slice A' u c' ∧ u ≤ c' ∧ c' ≤ 9223372036854775807 ∧ Hid ((fil (fun p : Ed => decide (p.1 = v)) zs i).length = u) ∧
    Hid (wr.ownsRow W0.heap.size 53 3 (.slice A' u c') u (cellsE (fil (fun p : Ed => decide (p.1 = v)) zs i))) ∧ Hid (Below W0.heap.size W0 wr))
  case atStart => exact ⟨0, 0, none, 0, by omega, Nat.le_refl _, rfl, rfl, Nat.le_refl _, by decide, rfl, World.ownsRow_nil _ _ _ _, Below.refl _ _⟩
  case round =>
    obtain ⟨i, u, A', c', hig, hui, rfl, rfl, huc, hcm, HU, HO, HB⟩ := hrel
    cases gk with
    | zero =>
      have hge : ¬ (i : Int) < (n : Int) := by omega
      have HE := Lib.hid (row_end B0.out HU.out HO.out huc hcm HB.out)
      rw [fil_all (by rw [HL.out]; omega)] at HE
      clear hig
      go_wp2_with fail
      go_ret
      exact HE.out
    | succ g2 =>
      have hlt : (i : Int) < (n : Int) := by omega
      have hin : i < n := by omega
      obtain ⟨p, hp⟩ : ∃ p, zs[i]? = some p := ⟨zs[i]'(by rw [HL.out]; omega), List.getElem?_eq_getElem _⟩
      obtain ⟨b, o, rfl, hb, g0, g1, gk2⟩ := ed_at (HR.out _ (B0.out.trans (HB.out.mono B0.out.size))) hp
      have HIG := Lib.hid hig
      have hsz := HB.out.size
      have HX := Lib.hid (Blk.new wr 53 #[.int .i64 p.1, .int .i64 p.2.1, .int .i64 p.2.2])
      have HO1 := Lib.hid (HO.out.alloc (.cells #[.int .i64 p.1, .int .i64 p.2.1, .int .i64 p.2.2] 53))
      have HB1 := Lib.hid (HB.out.alloc hsz (.cells #[.int .i64 p.1, .int .i64 p.2.1, .int .i64 p.2.2] 53))
      obtain ⟨X, hX⟩ : ∃ X, wr.heap.size = X := ⟨_, rfl⟩
      rw [hX] at HX
      clear hig
      go_upto_region 5 with fail
      clear g0 g1 gk2 hX HB HO
      generalize wr.alloc (.cells #[.int .i64 p.1, .int .i64 p.2.1, .int .i64 p.2.2] 53) = wx at *
      have z0 : wx.cell? ⟨X, 0, none⟩ = some (.int .i64 p.1) := HX.out.cell 0
      have z1 : wx.cell? ⟨X, 1, none⟩ = some (.int .i64 p.2.1) := HX.out.cell 1
      have z2 : wx.cell? ⟨X, 2, none⟩ = some (.int .i64 p.2.2) := HX.out.cell 2
      have hsz2 := HB1.out.size
      cases ht : p.1 == v
      · have HNX := Lib.hid (fil_skip (q := fun p : Ed => decide (p.1 = v)) hp (by simpa using ht))
        clear hp
        go_wp2_with fail
        go_roundg g2
        case measure => omega
        case rel => exact ⟨i + 1, u, A', c', by have := HIG.out; omega, by omega, by go_num, rfl, huc, hcm, by rw [HNX.out]; exact HU, by rw [HNX.out]; exact HO1, HB1⟩
      · have HNX := Lib.hid (fil_keep (q := fun p : Ed => decide (p.1 = v)) hp (by simpa using ht))
        clear hp
        go_wp2_with (at_builtin; refine wpList_append_any _ rfl (.tmp 19) (.tmp 21) 22 rfl W0.heap.size 53 i0 _ 3 24 Tryd.underlying22 hi hz0 hz1 hz2 rfl (by decide) (.slice A' u c') u _ rfl (HO1.out.alloc _) (wx.heap.size + 1) (some ⟨wx.heap.size, 0, none⟩) 1 _ (cellsE [p]) rfl (pair_one wx p) (cellsE_one _) (by unfold maxLen; omega) (by omega) (by simp; omega) ?_; intro v5 w5 hown5 hgrow5 _; have HB5 : Hid (Below W0.heap.size W0 w5) := (HB1.out.alloc hsz2 _).grown hgrow5 (by simp; omega) (fun k hk => (HO1.out.lt k hk).1); obtain ⟨A5, c5, rfl, h51, h52⟩ := own_form2 hown5; rw [← cellsE_append, ← HNX.out] at hown5; have HO5 := Lib.hid hown5; clear hown5 hgrow5)
        go_roundg g2
        case measure => omega
        case rel => exact ⟨i + 1, u + 1, A5, c5, by have := HIG.out; omega, by omega, by go_num, rfl, h51, h52, by rw [HNX.out, List.length_append, HU.out]; rfl, HO5, HB5⟩

end Go.Proofs.YtgbpaiffnhpafaaDoor
namespace Go.Proofs.YtgbpaiffnhpafaaDoor
open Go.RowKit

theorem start_upto {l : List Ed} {v : Int} {k : Nat} (h : l.length ≤ k) : (fil (fun p : Ed => decide (p.1 < v)) l k).length = startE l v := by rw [fil_all h]; rfl

theorem wl_step (e : Ed) (l : List Ed) (k : Nat) {x : Ed} (h : l[k]? = some x) : (l.take (k + 1)).foldl (wStep e) ([], false) = wStep e ((l.take k).foldl (wStep e) ([], false)) x := by
  rw [List.take_add_one, h, List.foldl_append]
  rfl
theorem ws_keep {e x : Ed} {out : List Ed} {laid : Bool} (h : laid = true ∨ aheadE x e = true) (hx : x ≠ e) : wStep e (out, laid) x = (out ++ [x], laid) := by
  unfold wStep
  rcases h with h | h <;> simp [h, hx]
theorem ws_drop {e x : Ed} {out : List Ed} (hx : x = e) : wStep e (out, true) x = (out, true) := by
  unfold wStep
  simp [hx]
theorem ws_both {e x : Ed} {out : List Ed} (h : aheadE x e = false) (hx : x ≠ e) : wStep e (out, false) x = (out ++ [e] ++ [x], true) := by
  unfold wStep
  simp [h, hx]
theorem ws_one {e x : Ed} {out : List Ed} (hx : x = e) : wStep e (out, false) x = (out ++ [e], true) := by
  unfold wStep
  simp [hx, ahead_irrefl]

set_option maxRecDepth 100000 in
set_option maxHeartbeats 8000000 in
theorem with_any (e : Ed) (A : Option Addr) (n c : Nat) (zs : List Ed) (hn : n ≤ 1000) (w : World) (hR : Reads w w.heap.size 3 A n (cellsE zs)) :
    Calls Tryd.prog 104 #[.slice A n c, .agg #[.int .i64 e.1, .int .i64 e.2.1, .int .i64 e.2.2]] w (RowIs (withE zs e) w) := by
  obtain ⟨bx, b0⟩ := box_new w #[.int .i64 e.1, .int .i64 e.2.1, .int .i64 e.2.2] 53
  have HL := Lib.hid (reads_len hR)
  have HR := Lib.hid fun W (h : Below w.heap.size w W) => (hR.below h)
  obtain ⟨i0, hi, hz0, hz1, hz2⟩ := info_parts pair_info
  have B0 := Lib.hid b0
  have BX := Lib.hid bx
  clear hR bx b0
  go_enter Tryd.func104, Tryd.ntmps104
  go_wp2_with fail
  generalize w.alloc (.cells #[.int .i64 e.1, .int .i64 e.2.1, .int .i64 e.2.2] 53) = W0 at *
  have hX0 := BX.out.lt
  go_loopg [5, 6, 11] n (fun gg s5 s6 s11 wr => ∃ (i u : Nat) (A' : Option Addr) (c' : Nat) (out : List Ed) (laid : Bool), i + gg = n ∧ u ≤ 2 * i ∧ s11 = .int .i64 i ∧ s6 = .bool laid ∧ s5 = .slice A' u c' ∧ u ≤ c' ∧ c' ≤ 9223372036854775807 ∧ Hid ((zs.take i).foldl (wStep e) ([], false) = (out, laid)) ∧ Hid (out.length = u) ∧
    Hid (wr.ownsRow W0.heap.size 53 3 (.slice A' u c') u (cellsE out)) ∧ Hid (Below W0.heap.size W0 wr))
  case atStart => exact ⟨0, 0, none, 0, [], false, by omega, by omega, rfl, rfl, rfl, Nat.le_refl _, by decide, rfl, rfl, World.ownsRow_nil _ _ _ _, Below.refl _ _⟩
  case round =>
    obtain ⟨i, u, A', c', out, laid, hig, hui, rfl, rfl, rfl, huc, hcm, HF, HU, HO, HB⟩ := hrel
    cases gk with
    | zero =>
      have hge : ¬ (i : Int) < (n : Int) := by omega
      have HW : Hid (withE zs e = if laid = true then out else out ++ [e]) := by
        show _ = _
        unfold withE
        have := HF.out
        rw [List.take_of_length_le (by rw [HL.out]; omega)] at this
        rw [this]
      have hin : u ≤ 2000 := by omega
      have HBX := Lib.hid (BX.out.below HB.out hX0)
      have hsz2 := HB.out.size
      clear hig HF
      cases laid
      · have HW2 : Hid (withE zs e = out ++ [e]) := HW.out
        have z0 := HBX.out.cell 0
        have z1 := HBX.out.cell 1
        have z2 := HBX.out.cell 2
        go_wp2_with (at_builtin; refine wpList_append_any _ rfl (.tmp 37) (.tmp 39) 22 rfl W0.heap.size 53 i0 _ 3 24 Tryd.underlying22 hi hz0 hz1 hz2 rfl (by decide) (.slice A' u c') u _ rfl (HO.out.alloc _) (wr.heap.size + 1) (some ⟨wr.heap.size, 0, none⟩) 1 _ (cellsE [e]) rfl (pair_one wr e) (cellsE_one _) (by unfold maxLen; omega) (by omega) (by simp; omega) ?_; intro v5 w5 hown5 hgrow5 _; have HB5 : Hid (Below W0.heap.size W0 w5) := (HB.out.alloc hsz2 _).grown hgrow5 (by simp; omega) (fun k hk => (HO.out.lt k hk).1); obtain ⟨A5, c5, rfl, h51, h52⟩ := own_form2 hown5; rw [← cellsE_append] at hown5; have HO5 := Lib.hid hown5; clear hown5 hgrow5)
        have HE := Lib.hid (row_end B0.out (by rw [List.length_append, HU.out]; rfl) HO5.out h51 h52 HB5.out)
        rw [← HW2.out] at HE
        go_wp2_with fail
        go_ret
        exact HE.out
      · have HW2 : Hid (withE zs e = out) := HW.out
        have HE := Lib.hid (row_end B0.out HU.out HO.out huc hcm HB.out)
        rw [← HW2.out] at HE
        go_wp2_with fail
        go_ret
        exact HE.out
    | succ g2 =>
      have hlt : (i : Int) < (n : Int) := by omega
      have hin : i < n := by omega
      have huin : u ≤ 2000 := by omega
      obtain ⟨x, hx⟩ : ∃ x, zs[i]? = some x := ⟨zs[i]'(by rw [HL.out]; omega), List.getElem?_eq_getElem _⟩
      obtain ⟨b, o, rfl, hb, g0, g1, gk2⟩ := ed_at (HR.out _ (B0.out.trans (HB.out.mono B0.out.size))) hx
      have HIG := Lib.hid hig
      have HST := Lib.hid (wl_step e zs i hx)
      rw [HF.out] at HST
      have hsz := HB.out.size
      have HX := Lib.hid (Blk.new wr 53 #[.int .i64 x.1, .int .i64 x.2.1, .int .i64 x.2.2])
      have HO1 := Lib.hid (HO.out.alloc (.cells #[.int .i64 x.1, .int .i64 x.2.1, .int .i64 x.2.2] 53))
      have HB1 := Lib.hid (HB.out.alloc hsz (.cells #[.int .i64 x.1, .int .i64 x.2.1, .int .i64 x.2.2] 53))
      have HOL : Hid (∀ g, (Value.slice A' u c').ownBlock = some g → g < wr.heap.size) := fun g hg => (HO.out.lt g hg).2
      obtain ⟨X, hX⟩ : ∃ X, wr.heap.size = X := ⟨_, rfl⟩
      rw [hX] at HX HOL
      clear hig hx
      go_upto_region 6 with fail
      clear g0 g1 gk2 hX HB HO HF
      generalize wr.alloc (.cells #[.int .i64 x.1, .int .i64 x.2.1, .int .i64 x.2.2] 53) = wx at *
      have hXl := HX.out.lt
      have HBE := Lib.hid (BX.out.below HB1.out hX0)
      cases laid
      · have HAH := Lib.hid fun W => rahead_any x e W
        have z0 := HX.out.cell 0
        have z1 := HX.out.cell 1
        have z2 := HX.out.cell 2
        have e0 := HBE.out.cell 0
        have e1 := HBE.out.cell 1
        have e2 := HBE.out.cell 2
        cases ha : aheadE x e
        · rw [ha] at HAH
          by_cases hxe : x = e
          · subst hxe
            have HN := Lib.hid (HST.out.trans (ws_one rfl))
            clear ha HST
            go_wp2_with fail
            refine (HAH.out _).mono ?_
            rintro e9 wy ⟨rfl, b9⟩
            have HB2 : Hid (Below W0.heap.size W0 wy) := HB1.out.trans (b9.mono HB1.out.size)
            have HO2 := Lib.hid (own_below2 HO1.out b9 (Nat.le_refl _))
            have HX2 := Lib.hid (HX.out.below b9 hXl)
            have hX2 := HX2.out.lt
            have hsz2 := HB2.out.size
            have HX3 : Hid (∀ {W : World}, (wy.alloc (.cells #[.int .i64 x.1, .int .i64 x.2.1, .int .i64 x.2.2] 53)).grownBy W (Value.slice A' u c').ownBlock → Blk W X 53 #[.int .i64 x.1, .int .i64 x.2.1, .int .i64 x.2.2]) := fun h => (HX2.out.alloc _).grown h (fun h9 => absurd (HOL.out X h9.symm) (by omega))
            have HBE2 := Lib.hid (BX.out.below HB2.out hX0)
            clear z0 z1 z2 e0 e1 e2 b9 HAH HX HO1 HB1 HBE
            have z0 := HX2.out.cell 0
            have z1 := HX2.out.cell 1
            have z2 := HX2.out.cell 2
            have e0 := HBE2.out.cell 0
            have e1 := HBE2.out.cell 1
            have e2 := HBE2.out.cell 2
            go_wp2_with (at_builtin; refine wpList_append_any _ rfl (.tmp 23) (.tmp 25) 22 rfl W0.heap.size 53 i0 _ 3 24 Tryd.underlying22 hi hz0 hz1 hz2 rfl (by decide) (.slice A' u c') u _ rfl (HO2.out.alloc _) (wy.heap.size + 1) (some ⟨wy.heap.size, 0, none⟩) 1 _ (cellsE [x]) rfl (pair_one wy x) (cellsE_one _) (by unfold maxLen; omega) (by omega) (by simp; omega) ?_; intro v5 w5 hown5 hgrow5 _; have HB5 : Hid (Below W0.heap.size W0 w5) := (HB2.out.alloc hsz2 _).grown hgrow5 (by simp; omega) (fun k hk => (HO2.out.lt k hk).1); have KB := Lib.hid (HX3.out hgrow5); have v0 := KB.out.cell 0; have v1 := KB.out.cell 1; have v2 := KB.out.cell 2; have KE := Lib.hid (BX.out.below HB5.out hX0); have u0 := KE.out.cell 0; have u1 := KE.out.cell 1; have u2 := KE.out.cell 2; have hsz5 := HB5.out.size; clear HX3; obtain ⟨A5, c5, rfl, h51, h52⟩ := own_form2 hown5; rw [← cellsE_append] at hown5; have HO5 := Lib.hid hown5; clear hown5 hgrow5)
            go_roundg g2
            case measure => omega
            case rel => exact ⟨i + 1, u + 1, A5, c5, out ++ [x], true, by have := HIG.out; omega, by omega, by go_num, rfl, rfl, h51, h52, HN, by rw [List.length_append, HU.out]; rfl, HO5, HB5⟩
          · have HN := Lib.hid (HST.out.trans (ws_both ha hxe))
            have hne := bool_ne hxe
            clear ha HST hxe
            go_wp2_with fail
            refine (HAH.out _).mono ?_
            rintro e9 wy ⟨rfl, b9⟩
            have HB2 : Hid (Below W0.heap.size W0 wy) := HB1.out.trans (b9.mono HB1.out.size)
            have HO2 := Lib.hid (own_below2 HO1.out b9 (Nat.le_refl _))
            have HX2 := Lib.hid (HX.out.below b9 hXl)
            have hX2 := HX2.out.lt
            have hsz2 := HB2.out.size
            have HX3 : Hid (∀ {W : World}, (wy.alloc (.cells #[.int .i64 e.1, .int .i64 e.2.1, .int .i64 e.2.2] 53)).grownBy W (Value.slice A' u c').ownBlock → Blk W X 53 #[.int .i64 x.1, .int .i64 x.2.1, .int .i64 x.2.2]) := fun h => (HX2.out.alloc _).grown h (fun h9 => absurd (HOL.out X h9.symm) (by omega))
            have HBE2 := Lib.hid (BX.out.below HB2.out hX0)
            clear z0 z1 z2 e0 e1 e2 b9 HAH HX HO1 HB1 HBE
            have z0 := HX2.out.cell 0
            have z1 := HX2.out.cell 1
            have z2 := HX2.out.cell 2
            have e0 := HBE2.out.cell 0
            have e1 := HBE2.out.cell 1
            have e2 := HBE2.out.cell 2
            rcases hne with n1 | ⟨n1, n2⟩ | ⟨n1, n2, n3⟩
            all_goals
              go_wp2_with (first | (at_builtin; refine wpList_append_any _ rfl (.tmp 23) (.tmp 25) 22 rfl W0.heap.size 53 i0 _ 3 24 Tryd.underlying22 hi hz0 hz1 hz2 rfl (by decide) (.slice A' u c') u _ rfl (HO2.out.alloc _) (wy.heap.size + 1) (some ⟨wy.heap.size, 0, none⟩) 1 _ (cellsE [e]) rfl (pair_one wy e) (cellsE_one _) (by unfold maxLen; omega) (by omega) (by simp; omega) ?_; intro v5 w5 hown5 hgrow5 _; have HB5 : Hid (Below W0.heap.size W0 w5) := (HB2.out.alloc hsz2 _).grown hgrow5 (by simp; omega) (fun k hk => (HO2.out.lt k hk).1); have KB := Lib.hid (HX3.out hgrow5); have v0 := KB.out.cell 0; have v1 := KB.out.cell 1; have v2 := KB.out.cell 2; have KE := Lib.hid (BX.out.below HB5.out hX0); have u0 := KE.out.cell 0; have u1 := KE.out.cell 1; have u2 := KE.out.cell 2; have hsz5 := HB5.out.size; clear HX3; obtain ⟨A5, c5, rfl, h51, h52⟩ := own_form2 hown5; rw [← cellsE_append] at hown5; have HO5 := Lib.hid hown5; clear hown5 hgrow5) | (at_builtin; refine wpList_append_any _ rfl (.tmp 30) (.tmp 32) 22 rfl W0.heap.size 53 i0 _ 3 24 Tryd.underlying22 hi hz0 hz1 hz2 rfl (by decide) (.slice A5 (u + 1) c5) (u + 1) _ rfl (HO5.out.alloc _) (w5.heap.size + 1) (some ⟨w5.heap.size, 0, none⟩) 1 _ (cellsE [x]) rfl (pair_one w5 x) (cellsE_one _) (by unfold maxLen; omega) (by omega) (by simp; omega) ?_; intro v6 w6 hown6 hgrow6 _; have HB6 : Hid (Below W0.heap.size W0 w6) := (HB5.out.alloc hsz5 _).grown hgrow6 (by simp; omega) (fun k hk => (HO5.out.lt k hk).1); obtain ⟨A6, c6, rfl, h61, h62⟩ := own_form2 hown6; rw [← cellsE_append] at hown6; have HO6 := Lib.hid hown6; clear hown6 hgrow6) | fail)
              go_roundg g2
              case measure => omega
              case rel => exact ⟨i + 1, u + 1 + 1, A6, c6, out ++ [e] ++ [x], true, by have := HIG.out; omega, by omega, by go_num, rfl, rfl, h61, h62, HN, by rw [List.length_append, List.length_append, HU.out]; rfl, HO6, HB6⟩
        · rw [ha] at HAH
          have hxe : x ≠ e := fun h => by rw [h, ahead_irrefl] at ha; cases ha
          have HN := Lib.hid (HST.out.trans (ws_keep (.inr ha) hxe))
          have hne := bool_ne hxe
          clear ha HST hxe
          go_wp2_with fail
          refine (HAH.out _).mono ?_
          rintro e9 wy ⟨rfl, b9⟩
          have HB2 : Hid (Below W0.heap.size W0 wy) := HB1.out.trans (b9.mono HB1.out.size)
          have HO2 := Lib.hid (own_below2 HO1.out b9 (Nat.le_refl _))
          have HX2 := Lib.hid (HX.out.below b9 hXl)
          have hX2 := HX2.out.lt
          have hsz2 := HB2.out.size
          have HX3 : Hid (∀ {W : World}, (wy.alloc (.cells #[.int .i64 e.1, .int .i64 e.2.1, .int .i64 e.2.2] 53)).grownBy W (Value.slice A' u c').ownBlock → Blk W X 53 #[.int .i64 x.1, .int .i64 x.2.1, .int .i64 x.2.2]) := fun h => (HX2.out.alloc _).grown h (fun h9 => absurd (HOL.out X h9.symm) (by omega))
          have HBE2 := Lib.hid (BX.out.below HB2.out hX0)
          clear z0 z1 z2 e0 e1 e2 b9 HAH HX HO1 HB1 HBE
          have z0 := HX2.out.cell 0
          have z1 := HX2.out.cell 1
          have z2 := HX2.out.cell 2
          have e0 := HBE2.out.cell 0
          have e1 := HBE2.out.cell 1
          have e2 := HBE2.out.cell 2
          clear HX3
          rcases hne with n1 | ⟨n1, n2⟩ | ⟨n1, n2, n3⟩
          all_goals
            go_wp2_with (at_builtin; refine wpList_append_any _ rfl (.tmp 30) (.tmp 32) 22 rfl W0.heap.size 53 i0 _ 3 24 Tryd.underlying22 hi hz0 hz1 hz2 rfl (by decide) (.slice A' u c') u _ rfl (HO2.out.alloc _) (wy.heap.size + 1) (some ⟨wy.heap.size, 0, none⟩) 1 _ (cellsE [x]) rfl (pair_one wy x) (cellsE_one _) (by unfold maxLen; omega) (by omega) (by simp; omega) ?_; intro v5 w5 hown5 hgrow5 _; have HB5 : Hid (Below W0.heap.size W0 w5) := (HB2.out.alloc hsz2 _).grown hgrow5 (by simp; omega) (fun k hk => (HO2.out.lt k hk).1); obtain ⟨A5, c5, rfl, h51, h52⟩ := own_form2 hown5; rw [← cellsE_append] at hown5; have HO5 := Lib.hid hown5; clear hown5 hgrow5)
            go_roundg g2
            case measure => omega
            case rel => exact ⟨i + 1, u + 1, A5, c5, out ++ [x], false, by have := HIG.out; omega, by omega, by go_num, rfl, rfl, h51, h52, HN, by rw [List.length_append, HU.out]; rfl, HO5, HB5⟩
      · have z0 := HX.out.cell 0
        have z1 := HX.out.cell 1
        have z2 := HX.out.cell 2
        have e0 := HBE.out.cell 0
        have e1 := HBE.out.cell 1
        have e2 := HBE.out.cell 2
        have hsz2 := HB1.out.size
        by_cases hxe : x = e
        · subst hxe
          have HN := Lib.hid (HST.out.trans (ws_drop rfl))
          clear HST
          go_wp2_with fail
          go_roundg g2
          case measure => omega
          case rel => exact ⟨i + 1, u, A', c', out, true, by have := HIG.out; omega, by omega, by go_num, rfl, rfl, huc, hcm, HN, HU, HO1, HB1⟩
        · have HN := Lib.hid (HST.out.trans (ws_keep (.inl rfl) hxe))
          have hne := bool_ne hxe
          clear HST hxe
          rcases hne with n1 | ⟨n1, n2⟩ | ⟨n1, n2, n3⟩
          all_goals
            go_wp2_with (at_builtin; refine wpList_append_any _ rfl (.tmp 30) (.tmp 32) 22 rfl W0.heap.size 53 i0 _ 3 24 Tryd.underlying22 hi hz0 hz1 hz2 rfl (by decide) (.slice A' u c') u _ rfl (HO1.out.alloc _) (wx.heap.size + 1) (some ⟨wx.heap.size, 0, none⟩) 1 _ (cellsE [x]) rfl (pair_one wx x) (cellsE_one _) (by unfold maxLen; omega) (by omega) (by simp; omega) ?_; intro v5 w5 hown5 hgrow5 _; have HB5 : Hid (Below W0.heap.size W0 w5) := (HB1.out.alloc hsz2 _).grown hgrow5 (by simp; omega) (fun k hk => (HO1.out.lt k hk).1); obtain ⟨A5, c5, rfl, h51, h52⟩ := own_form2 hown5; rw [← cellsE_append] at hown5; have HO5 := Lib.hid hown5; clear hown5 hgrow5)
            go_roundg g2
            case measure => omega
            case rel => exact ⟨i + 1, u + 1, A5, c5, out ++ [x], true, by have := HIG.out; omega, by omega, by go_num, rfl, rfl, h51, h52, HN, by rw [List.length_append, HU.out]; rfl, HO5, HB5⟩
end Go.Proofs.YtgbpaiffnhpafaaDoor
namespace Go.Proofs.YtgbpaiffnhpafaaDoor
open Go.RowKit

theorem with_len (l : List Ed) (e : Ed) : (withE l e).length ≤ l.length + 1 := by
  obtain ⟨pre, post, h1, _, _, h4⟩ := w_not e l []
  have hw : withE l e = pre ++ [e] ++ post.filter (fun x => decide (x ≠ e)) := by unfold withE; rw [h4]; simp
  rw [hw, h1]
  have := List.length_filter_le (fun x => decide (x ≠ e)) post
  simp only [List.length_append, List.length_singleton]
  omega
theorem of_step (l : List Ed) (k : Nat) {x : Ed} (h : l[k]? = some x) : ofE (l.take (k + 1)) = withE (ofE (l.take k)) x := by
  unfold ofE
  rw [List.take_add_one, h, List.foldl_append]
  rfl
theorem gis_end {nodes : Int} {ps : List Ed} {w W : World} {A : Option Addr} {c X : Nat} {a b : Value} {base : Nat} (hbase : w.heap.size ≤ base) (ho : W.ownsRow base 53 3 (.slice A ps.length c) ps.length (cellsE ps)) (h1 : ps.length ≤ c) (h2 : c ≤ 9223372036854775807) (hb : Below w.heap.size w W) (hX : w.heap.size ≤ X) (hx : Blk W X 24 #[a, b]) :
    GIs nodes ps w (.returned (.agg #[.int .i64 nodes, .slice A ps.length c])) ((W.setCell ⟨X, 0, none⟩ (.int .i64 nodes)).setCell ⟨X, 1, none⟩ (.slice A ps.length c)) :=
  ⟨A, c, rfl, own_store2 (own_base ho hbase) hx (by decide) _ _, h1, h2, below_store2 hb hX _ _⟩

set_option maxRecDepth 100000 in
set_option maxHeartbeats 4000000 in
theorem rof_any (nodes : Int) (A : Option Addr) (n c : Nat) (zs : List Ed) (hn : n ≤ 900) (w : World) (hR : Reads w w.heap.size 3 A n (cellsE zs)) :
    Calls Tryd.prog 89 #[.int .i64 nodes, .slice A n c] w (GIs nodes (ofE zs) w) := by
  obtain ⟨k0, k1, b0⟩ := two_new w #[.int .i64 0, .slice none 0 0] #[.int .i64 nodes, .slice none 0 0] 24 24
  have HL := Lib.hid (reads_len hR)
  have HR := Lib.hid fun W (h : Below w.heap.size w W) => (hR.below h)
  have K0 := Lib.hid k0
  have K1 := Lib.hid k1
  have B0 := Lib.hid b0
  clear hR b0 k0 k1
  go_enter Tryd.func89, Tryd.ntmps89
  go_wp2_with fail
  generalize (w.alloc (.cells #[.int .i64 0, .slice none 0 0] 24)).alloc (.cells #[.int .i64 nodes, .slice none 0 0] 24) = W0 at *
  go_loopg [12] n (fun gg s12 wr => ∃ (i u : Nat) (A' : Option Addr) (c' : Nat), i + gg = n ∧ u ≤ i ∧ s12 = .int .i64 i ∧ Hid ((ofE (zs.take i)).length = u) ∧
    Hid (wr.ownsRow w.heap.size 53 3 (.slice A' u c') u (cellsE (ofE (zs.take i)))) ∧ Hid (u ≤ c' ∧ c' ≤ 9223372036854775807) ∧ Hid (Blk wr w.heap.size 24 #[.int .i64 0, .slice none 0 0]) ∧ Hid (Blk wr (w.heap.size + 1) 24 #[.int .i64 nodes, .slice A' u c']) ∧ Hid (Below w.heap.size w wr))
  case atStart => exact ⟨0, 0, none, 0, by omega, by omega, rfl, rfl, World.ownsRow_nil _ _ _ _, ⟨Nat.le_refl _, by decide⟩, K0, K1, B0⟩
  case round =>
    clear K0 K1 B0
    obtain ⟨i, u, A', c', hig, hui, rfl, HU, HO, HC, K0, K1, HB⟩ := hrel
    cases gk with
    | zero =>
      have hge : ¬ (i : Int) < (n : Int) := by omega
      have hin : i = n := by omega
      have HT : Hid (zs.take i = zs) := List.take_of_length_le (by rw [HL.out]; omega)
      rw [HT.out] at HU HO
      have HUU := HU.out
      subst HUU
      have HE := Lib.hid (gis_end (nodes := nodes) (Nat.le_refl _) HO.out HC.out.1 HC.out.2 HB.out (Nat.le_refl _) K0.out)
      have y0 := K1.out.cell 0
      have y1 := K1.out.cell 1
      have x0 := K0.out.cell 0
      have x1 := K0.out.cell 1
      have f0 := K0.out.frozen 0
      have f1 := K0.out.frozen 1
      have q0 := (store2 K0.out (.int .i64 nodes) (.slice A' (ofE zs).length c')).cell 0
      have q1 := (store2 K0.out (.int .i64 nodes) (.slice A' (ofE zs).length c')).cell 1
      clear hig hin HU
      go_wp2_with fail
      exact bodyPost_ret (v := .agg #[.int .i64 nodes, .slice A' (ofE zs).length c']) (by simp [results, Tryd.results89, go_sem, q0, q1]) rfl HE.out
    | succ g2 =>
      have hlt : (i : Int) < (n : Int) := by omega
      have hin : i < n := by omega
      obtain ⟨p, hp⟩ : ∃ p, zs[i]? = some p := ⟨zs[i]'(by rw [HL.out]; omega), List.getElem?_eq_getElem _⟩
      obtain ⟨b, o, rfl, hb, g0, g1, gk2⟩ := ed_at (HR.out _ HB.out) hp
      have HIG := Lib.hid hig
      have HST := Lib.hid (of_step zs i hp)
      have hsz := HB.out.size
      have HO1 := Lib.hid (HO.out.alloc (.cells #[.int .i64 p.1, .int .i64 p.2.1, .int .i64 p.2.2] 53))
      have HB1 := Lib.hid (HB.out.alloc hsz (.cells #[.int .i64 p.1, .int .i64 p.2.1, .int .i64 p.2.2] 53))
      have K01 := Lib.hid (K0.out.alloc (.cells #[.int .i64 p.1, .int .i64 p.2.1, .int .i64 p.2.2] 53))
      have K11 := Lib.hid (K1.out.alloc (.cells #[.int .i64 p.1, .int .i64 p.2.1, .int .i64 p.2.2] 53))
      have HX := Lib.hid (Blk.new wr 53 #[.int .i64 p.1, .int .i64 p.2.1, .int .i64 p.2.2])
      obtain ⟨X, hX⟩ : ∃ X, wr.heap.size = X := ⟨_, rfl⟩
      rw [hX] at HX
      clear hig hp
      go_upto_region 5 with fail
      clear g0 g1 gk2 hX HB HO K0 K1
      generalize wr.alloc (.cells #[.int .i64 p.1, .int .i64 p.2.1, .int .i64 p.2.2] 53) = wx at *
      have z0 := HX.out.cell 0
      have z1 := HX.out.cell 1
      have z2 := HX.out.cell 2
      have y0 := K11.out.cell 0
      have y1 := K11.out.cell 1
      have HW := Lib.hid (with_any p A' u c' (ofE (zs.take i)) (by omega) wx (reads_own HO1.out))
      have hk0 := K01.out.lt
      have hk1 := K11.out.lt
      go_wp2_with fail
      refine HW.out.mono ?_
      rintro e w2 hx
      obtain ⟨A2, c2, rfl, h1, h2, h3, h4⟩ := rows_row hx
      rw [← HST.out] at h1 h2
      have HLE : Hid ((ofE (zs.take (i + 1))).length ≤ i + 1) := by
        have := with_len (ofE (zs.take i)) p
        have h5 := HU.out
        show _ ≤ _
        rw [HST.out]; omega
      have HW2 : Hid ((withE (ofE (zs.take i)) p).length = (ofE (zs.take (i + 1))).length) := by rw [HST.out]; exact rfl
      have HB2 : Hid (Below w.heap.size w w2) := HB1.out.trans (h4.mono HB1.out.size)
      have K02 := Lib.hid (K01.out.below h4 hk0)
      have K12 := Lib.hid (K11.out.below h4 hk1)
      have HO2 := Lib.hid (own_base h1 HB1.out.size)
      have HC2 := Lib.hid (And.intro h2 h3)
      rw [HW2.out]
      generalize hu2 : (ofE (zs.take (i + 1))).length = u2 at *
      have q0 := K12.out.cell 0
      have q1 := K12.out.cell 1
      have f1 := K12.out.frozen 1
      have HO3 := Lib.hid (own_store (k := 1) HO2.out K12.out (by decide) (.slice A2 u2 c2))
      have HB3 := Lib.hid (HB2.out.setCell (p := ⟨w.heap.size + 1, 1, none⟩) (Nat.le_succ _) (.slice A2 u2 c2))
      have K03 := Lib.hid (K02.out.far (p := ⟨w.heap.size + 1, 1, none⟩) (by simp) (.slice A2 u2 c2))
      have K13 : Hid (Blk (w2.setCell ⟨w.heap.size + 1, 1, none⟩ (.slice A2 u2 c2)) (w.heap.size + 1) 24 #[.int .i64 nodes, .slice A2 u2 c2]) := by
        show Blk _ _ _ _
        have := K12.out.set_ 1 (.slice A2 u2 c2)
        simpa using this
      have HU2 := Lib.hid hu2
      have hle := HLE.out
      clear h1 h2 h3 h4 hx HB2 K02 K12 HO2 HW z0 z1 z2 y0 y1 HO1 HB1 K01 K11 HX hu2 HW2 HST HLE
      go_wp2_with fail
      go_roundg g2
      case measure => omega
      case rel => exact ⟨i + 1, u2, A2, c2, by have := HIG.out; omega, hle, by go_num, HU2, HO3, HC2, K03, K13, HB3⟩

def flips (l : List Ed) (k : Nat) : List Ed := (l.take k).map flipE
theorem flips_next {l : List Ed} {k : Nat} {x : Ed} (h : l[k]? = some x) : flips l (k + 1) = flips l k ++ [flipE x] := by
  unfold flips; rw [List.take_add_one, h, List.map_append]; rfl
theorem flips_len {l : List Ed} {k : Nat} (h : k ≤ l.length) : (flips l k).length = k := by unfold flips; rw [List.length_map, List.length_take]; omega

set_option maxRecDepth 100000 in
set_option maxHeartbeats 4000000 in
theorem rrev_any (nodes : Int) (A : Option Addr) (n c : Nat) (zs : List Ed) (hn : n ≤ 900) (w : World) (hR : Reads w w.heap.size 3 A n (cellsE zs)) :
    Calls Tryd.prog 68 #[.agg #[.int .i64 nodes, .slice A n c]] w (GIs nodes (ofE (zs.map flipE)) w) := by
  obtain ⟨k0, k1, b0⟩ := two_new w #[.int .i64 nodes, .slice A n c] #[.int .i64 0, .slice none 0 0] 24 24
  have HL := Lib.hid (reads_len hR)
  have HR := Lib.hid fun W (h : Below w.heap.size w W) => (hR.below h)
  obtain ⟨i0, hi, hz0, hz1, hz2⟩ := info_parts pair_info
  have K0 := Lib.hid k0
  have K1 := Lib.hid k1
  have B0 := Lib.hid b0
  have z0 := k0.cell 0
  have z1 := k0.cell 1
  clear hR b0 k0 k1
  go_enter Tryd.func68, Tryd.ntmps68
  go_wp2_with fail
  generalize (w.alloc (.cells #[.int .i64 nodes, .slice A n c] 24)).alloc (.cells #[.int .i64 0, .slice none 0 0] 24) = W0 at *
  clear z0 z1
  have hk0 := K0.out.lt
  have hk1 := K1.out.lt
  go_loopg [3, 9] n (fun gg s3 s9 wr => ∃ (i : Nat) (A' : Option Addr) (c' : Nat), i + gg = n ∧ s9 = .int .i64 i ∧ s3 = .slice A' i c' ∧ i ≤ c' ∧ c' ≤ 9223372036854775807 ∧
    Hid (wr.ownsRow W0.heap.size 53 3 (.slice A' i c') i (cellsE (flips zs i))) ∧ Hid (Below W0.heap.size W0 wr))
  case atStart => exact ⟨0, none, 0, by omega, rfl, rfl, Nat.le_refl _, by decide, World.ownsRow_nil _ _ _ _, Below.refl _ _⟩
  case round =>
    obtain ⟨i, A', c', hig, rfl, rfl, huc, hcm, HO, HB⟩ := hrel
    cases gk with
    | zero =>
      have hge : ¬ (i : Int) < (n : Int) := by omega
      have hin : i = n := by omega
      have HF : Hid (flips zs i = zs.map flipE) := by show _ = _; unfold flips; rw [List.take_of_length_le (by rw [HL.out]; omega)]
      rw [HF.out] at HO
      have HOF := Lib.hid (rof_any nodes A' i c' (zs.map flipE) (by omega) wr (reads_own HO.out))
      have K02 := Lib.hid (K0.out.below HB.out hk0)
      have K12 := Lib.hid (K1.out.below HB.out hk1)
      have HB2 : Hid (Below w.heap.size w wr) := B0.out.trans (HB.out.mono B0.out.size)
      have z0 := K02.out.cell 0
      have z1 := K02.out.cell 1
      have hk2 := K12.out.lt
      clear hig hin HO HB HF
      generalize ofE (zs.map flipE) = rs at *
      go_wp2_with fail
      refine HOF.out.mono ?_
      rintro e w2 ⟨A2, c2, rfl, h1, h2, h3, h4⟩
      have K13 := Lib.hid (K12.out.below h4 hk2)
      have HB3 : Hid (Below w.heap.size w w2) := HB2.out.trans (h4.mono HB2.out.size)
      have HE := Lib.hid (gis_end (nodes := nodes) HB2.out.size h1 h2 h3 HB3.out (Nat.le_succ _) K13.out)
      have x0 := K13.out.cell 0
      have x1 := K13.out.cell 1
      have f0 := K13.out.frozen 0
      have f1 := K13.out.frozen 1
      have q0 := (store2 K13.out (.int .i64 nodes) (.slice A2 rs.length c2)).cell 0
      have q1 := (store2 K13.out (.int .i64 nodes) (.slice A2 rs.length c2)).cell 1
      clear h1 h2 h3 h4 HOF K02 K12 HB2 z0 z1
      go_wp2_with fail
      exact bodyPost_ret (v := .agg #[.int .i64 nodes, .slice A2 rs.length c2]) (by simp [results, Tryd.results68, go_sem, q0, q1]) rfl HE.out
    | succ g2 =>
      have hlt : (i : Int) < (n : Int) := by omega
      have hin : i < n := by omega
      obtain ⟨p, hp⟩ : ∃ p, zs[i]? = some p := ⟨zs[i]'(by rw [HL.out]; omega), List.getElem?_eq_getElem _⟩
      obtain ⟨b, o, rfl, hb, g0, g1, gk2⟩ := ed_at (HR.out _ (B0.out.trans (HB.out.mono B0.out.size))) hp
      have HIG := Lib.hid hig
      have HNX := Lib.hid (flips_next hp)
      have hsz := HB.out.size
      have HX := Lib.hid (Blk.new wr 53 #[.int .i64 p.1, .int .i64 p.2.1, .int .i64 p.2.2])
      have HO1 := Lib.hid (HO.out.alloc (.cells #[.int .i64 p.1, .int .i64 p.2.1, .int .i64 p.2.2] 53))
      have HB1 := Lib.hid (HB.out.alloc hsz (.cells #[.int .i64 p.1, .int .i64 p.2.1, .int .i64 p.2.2] 53))
      obtain ⟨X, hX⟩ : ∃ X, wr.heap.size = X := ⟨_, rfl⟩
      rw [hX] at HX
      clear hig hp
      go_upto_region 5 with fail
      clear g0 g1 gk2 hX HB HO
      generalize wr.alloc (.cells #[.int .i64 p.1, .int .i64 p.2.1, .int .i64 p.2.2] 53) = wx at *
      have z0 := HX.out.cell 0
      have z1 := HX.out.cell 1
      have z2 := HX.out.cell 2
      have hsz2 := HB1.out.size
      go_wp2_with (at_builtin; refine wpList_append_any _ rfl (.tmp 13) (.tmp 21) 22 rfl W0.heap.size 53 i0 _ 3 24 Tryd.underlying22 hi hz0 hz1 hz2 rfl (by decide) (.slice A' i c') i _ rfl (HO1.out.alloc _) (wx.heap.size + 1) (some ⟨wx.heap.size, 0, none⟩) 1 _ (cellsE [(flipE p)]) rfl (pair_one wx (flipE p)) (cellsE_one _) (by unfold maxLen; omega) (by omega) (by simp; omega) ?_; intro v5 w5 hown5 hgrow5 _; have HB5 : Hid (Below W0.heap.size W0 w5) := (HB1.out.alloc hsz2 _).grown hgrow5 (by simp; omega) (fun k hk => (HO1.out.lt k hk).1); obtain ⟨A5, c5, rfl, h51, h52⟩ := own_form2 hown5; rw [← cellsE_append, ← HNX.out] at hown5; have HO5 := Lib.hid hown5; clear hown5 hgrow5)
      go_roundg g2
      case measure => omega
      case rel => exact ⟨i + 1, A5, c5, by have := HIG.out; omega, by go_num, rfl, h51, h52, HO5, HB5⟩
end Go.Proofs.YtgbpaiffnhpafaaDoor
namespace Go.Proofs.YtgbpaiffnhpafaaDoor
open Go.RowKit

theorem store3 {W : World} {X : Nat} {t : TypeId} {a b c : Value} (h : Blk W X t #[a, b, c]) (u v x : Value) : Blk (((W.setCell ⟨X, 0, none⟩ u).setCell ⟨X, 1, none⟩ v).setCell ⟨X, 2, none⟩ x) X t #[u, v, x] := by
  have := ((h.set_ 0 u).set_ 1 v).set_ 2 x
  simpa using this
/-- those: the function value that it hands back. -/
theorem those_any (A : Option Addr) (n c : Nat) (g : Nat) (caps : Array Value) (w : World) :
    Calls Tryd.prog 106 #[.slice A n c, .func (.func g) #[] caps] w fun e w' => e = .returned (.func (.func 111) #[] #[.pointer (some ⟨w.heap.size, 0, none⟩), .pointer (some ⟨w.heap.size + 1, 0, none⟩)]) ∧
      w' = (w.alloc (.cells #[.slice A n c] 22)).alloc (.cells #[.func (.func g) #[] caps] 127) := by
  go_enter Tryd.func106, Tryd.ntmps106
  go_wp2_with fail
  go_ret
  exact ⟨rfl, rfl⟩
end Go.Proofs.YtgbpaiffnhpafaaDoor
