/- Layer graph: closures that ask edges, and that turn them; those, Values: contracts. -/
import Derived.Test.YtkebeadaoiiokaaM7
import Derived.Test.YtkebeadaoiiokaaShelf
import Derived.Test.YtkebeadaoiiokaaM2
-- holds: YtkebeadaoiiokaaGm YtkebeadaoiiokaaGo YtkebeadaoiiokaaGq YtkebeadaoiiokaaGr YtkebeadaoiiokaaGs YtkebeadaoiiokaaGt YtkebeadaoiiokaaCb YtkebeadaoiiokaaCc YtkebeadaoiiokaaCd YtkebeadaoiiokaaGu
namespace Go.Proofs.Ytkebeadaoiiokaa
open Go.RowKit

/-- Rows of numbers, compared by the library. -/
theorem ints_get {w : World} {b o : Nat} {vs : List Int} (hc : ∀ j u, (ints vs)[j]? = some u → w.cell? ⟨b, o + j, none⟩ = some u) : ∀ j, j < vs.length → w.cell? ⟨b, o + j, none⟩ = some (.int .i64 (vs.getD j 0)) := by
  intro j hj
  refine hc j _ ?_
  unfold ints
  rw [List.getElem?_map, List.getElem?_eq_getElem hj, List.getD_eq_getElem?_getD, List.getElem?_eq_getElem hj]
  rfl
theorem eqi_any (A A2 : Option Addr) (n m c d : Nat) (xs ys : List Int) (hn : n ≤ 1000000) (hm : m ≤ 1000000) (w : World) (hR : Reads w w.heap.size 1 A n (ints xs)) (hR2 : Reads w w.heap.size 1 A2 m (ints ys)) :
    Calls Try.prog 24 #[.slice A n c, .slice A2 m d] w fun e w' => e = .returned (.bool (decide (xs = ys))) ∧ Below w.heap.size w w' := by
  have hl := ints_len hR
  have hl2 := ints_len hR2
  rcases Nat.eq_zero_or_pos n with h0 | h0
  · subst h0
    refine (Try.slices_Equal_int_empty A A2 c m d w (by omega)).mono ?_
    rintro e w' ⟨rfl, rfl⟩
    refine ⟨?_, Below.refl _ _⟩
    obtain rfl : xs = [] := List.eq_nil_of_length_eq_zero hl
    cases ys with
    | nil => simp at hl2; subst hl2; rfl
    | cons y ys => simp at hl2; have : ¬ m = 0 := by omega
                   simp [this]
  · by_cases hnm : n = m
    · subst hnm
      obtain ⟨b, o, rfl, hb, hc⟩ := reads_plain hR h0
      obtain ⟨b2, o2, rfl, hb2, hc2⟩ := reads_plain hR2 h0
      refine (Try.slices_Equal_int b o n c b2 o2 n d xs ys w (by omega) (by omega) (by omega) (by omega) (ints_get hc) (ints_get hc2)).mono ?_
      rintro e w' ⟨rfl, q, rfl⟩
      refine ⟨?_, below_drewN (Below.refl _ _) _⟩
      rw [List.take_of_length_le (by omega), List.take_of_length_le (by omega)]
      have : (xs == ys) = decide (xs = ys) := by rw [Bool.eq_iff_iff]; simp
      rw [this]
    · refine (Try.slices_Equal_int_lens A A2 n c m d w hnm).mono ?_
      rintro e w' ⟨rfl, rfl⟩
      refine ⟨?_, Below.refl _ _⟩
      have : ¬ xs = ys := fun e => hnm (by rw [← hl, ← hl2, e])
      simp [this]

theorem int_lit (w : World) (vs : List Int) (t : TypeId) (cs : Array Value) (h : cs = (ints vs).toArray) : Reads (w.alloc (.cells cs t)) (w.alloc (.cells cs t)).heap.size 1 (some ⟨w.heap.size, 0, none⟩) vs.length (ints vs) := by
  subst h
  exact ⟨by rw [ints_length, Nat.mul_one], fun _ => ⟨_, rfl, by simp, fun j u hu => by
    rw [Go.WideShapes.add_plain, Nat.zero_add, (Blk.new w t (ints vs).toArray).cell, List.getElem?_toArray]; exact hu⟩⟩

/-- Numbers, and an error. -/
def IErr (vs : List Int) (k : Int) (w : World) (e : Ending) (w' : World) : Prop :=
  ∃ (A : Option Addr) (c : Nat), e = .returned (.tuple #[.slice A vs.length c, .int .i64 k]) ∧ Reads w' w'.heap.size 1 A vs.length (ints vs) ∧ vs.length ≤ c ∧ c ≤ 9223372036854775807 ∧ Below w.heap.size w w'
theorem IErr.less {vs : List Int} {k : Int} {w w' : World} {e : Ending} (h : IErr vs k w e w') : Below w.heap.size w w' := by obtain ⟨_, _, _, _, _, _, h⟩ := h; exact h

/-- Starts. -/
def startsE (l : List Ed) (m : Nat) : List Int := (List.range m).map fun k : Nat => (startE l (k : Int) : Int)
theorem startsE_len (l : List Ed) (m : Nat) : (startsE l m).length = m := by unfold startsE; simp
theorem int_info : (Try.prog.info? 3).map (fun i => (i.zero, i.size, i.bytes)) = some (some (.int .i64 0), 1, 8) := by kernel_rfl
theorem made_ints (n : Nat) : madeCells (Value.int .i64 0).cells (n * 1) = (ints (List.replicate n 0)).toArray := by
  apply Array.ext
  · rw [size_madeCells, List.size_toArray, ints_length, List.length_replicate, Nat.mul_one]
  · intro j h1 h2
    have hz : (Value.int .i64 0).cells = #[.int .i64 0] := by simp [Value.cells]
    simp only [madeCells, hz, Array.getElem_map, Array.getElem_range, List.getElem_toArray, ints, List.getElem_map, List.getElem_replicate]
    simp [Nat.mod_one]
theorem int_make (n : Nat) (z : Int) (hz : z = (n : Int)) (hn : n ≤ 1000000) (W : World) :
    (Instr.makeSlice 35 (.int .i64 z) (.int .i64 z)).run Try.prog W = .ok (.slice (some ⟨W.heap.size, 0, none⟩) n n) (W.alloc (.cells (ints (List.replicate n 0)).toArray 3)) := by
  subst hz
  obtain ⟨i0, hi, hz0, hz1, hz2⟩ := info_parts int_info
  have hr := run_make (P := Try.prog) W 35 3 i0 _ Try.underlying35 hi hz0 .i64 .i64 n n (by omega) (by omega) (by rw [hz2]; omega) (by omega)
  simp only [Int.toNat_natCast] at hr
  rw [hz1, made_ints] at hr
  exact hr
theorem ints_set (l : List Int) (k : Nat) (v : Int) : (ints l).set k (.int .i64 v) = ints (l.set k v) := by unfold ints; rw [List.map_set]
theorem starts_next (l : List Ed) (i m : Nat) (hi : i < m) : (startsE l i ++ List.replicate (m - i) 0).set i (startE l (i : Int) : Int) = startsE l (i + 1) ++ List.replicate (m - (i + 1)) 0 := by
  have h1 := startsE_len l i
  rw [List.set_append_right _ _ (by omega), h1, Nat.sub_self, show m - i = (m - (i + 1)) + 1 by omega, List.replicate_succ, List.set_cons_zero]
  unfold startsE
  rw [List.range_succ, List.map_append]
  simp

set_option maxRecDepth 100000 in
set_option maxHeartbeats 4000000 in
theorem starts_ok (nodes : Int) (A : Option Addr) (n c : Nat) (zs : List Ed) (hg : IsG nodes zs) (hn : n ≤ 1000) (w : World) (hR : Reads w w.heap.size 3 A n (cellsE zs)) :
    Calls Try.prog 66 #[.agg #[.int .i64 nodes, .slice A n c]] w (IErr (startsE zs (nodes.toNat + 1)) 0 w) := by
  obtain ⟨bx, b0⟩ := box_new w #[.int .i64 nodes, .slice A n c] 24
  have hnd := hg.nodes
  obtain ⟨m, hm⟩ : ∃ m, nodes.toNat + 1 = m := ⟨_, rfl⟩
  rw [hm]
  have HC := Lib.hid (check_any nodes A n c zs hn _ ((hR.below b0).more b0.size))
  rw [check_yes (rightG_iff.2 hg)] at HC
  have HST := Lib.hid fun W (h : Below w.heap.size w W) (i : Nat) (hi : i < m) => start_any A n c zs (i : Int) (by omega) hg.row hn W ((hR.below h).more h.size)
  have hmk := fun W => int_make m (nodes + 1) (by omega) (by omega) W
  have hw : IntKind.i64.wrap (nodes + 1) = nodes + 1 := by rw [IntKind.wrap_i64]; omega
  have hm1 : m ≤ 301 := by omega
  have BX := Lib.hid bx
  have B0 := Lib.hid b0
  have z0 := bx.cell 0
  have z1 := bx.cell 1
  clear hR bx b0 hg hnd hm
  go_enter Try.func66, Try.ntmps66
  go_wp2_with fail
  refine HC.out.mono ?_
  rintro e w1 ⟨rfl, b⟩
  have BX1 := Lib.hid (BX.out.below b BX.out.lt)
  have B1 : Hid (Below w.heap.size w w1) := B0.out.trans (b.mono B0.out.size)
  clear b z0 z1 B0 BX HC
  have z0 := BX1.out.cell 0
  have z1 := BX1.out.cell 1
  have hlt1 := BX1.out.lt
  have HN := Lib.hid (Blk.new w1 3 (ints (List.replicate m 0)).toArray)
  have BX2 := Lib.hid (BX1.out.alloc (.cells (ints (List.replicate m 0)).toArray 3))
  have B2 := Lib.hid (B1.out.alloc B1.out.size (.cells (ints (List.replicate m 0)).toArray 3))
  obtain ⟨X, hX⟩ : ∃ X, w1.heap.size = X := ⟨_, rfl⟩
  rw [hX] at HN hlt1
  have hmk1 := hmk w1
  rw [hX] at hmk1
  clear hmk BX1 B1 hX
  go_wp2_with fail
  clear z0 z1 hmk1
  go_loopg [18] m (fun gg s18 wr => ∃ i : Nat, i + gg = m ∧ s18 = .int .i64 i ∧ Hid (Blk wr X 3 (ints (startsE zs i ++ List.replicate (m - i) 0)).toArray) ∧ Hid (Blk wr w.heap.size 24 #[.int .i64 nodes, .slice A n c]) ∧ Hid (Below w.heap.size w wr))
  case atStart => exact ⟨0, by omega, rfl, HN, BX2, B2⟩
  case round =>
    clear HN BX2 B2
    obtain ⟨i, hi, rfl, HN, HX, HB⟩ := hrel
    cases gk with
    | succ g2 =>
      have hlt : (i : Int) < (m : Int) := by omega
      have him : i < m := by omega
      have z0 := HX.out.cell 0
      have z1 := HX.out.cell 1
      have HS := Lib.hid (HST.out wr HB.out i him)
      have HI := Lib.hid hi
      clear hi
      go_wp2_with fail
      refine HS.out.mono ?_
      rintro e w2 ⟨rfl, b⟩
      have HN2 := Lib.hid (HN.out.below b HN.out.lt)
      have HX2 := Lib.hid (HX.out.below b HX.out.lt)
      have HB2 : Hid (Below w.heap.size w w2) := HB.out.trans (b.mono HB.out.size)
      clear b z0 z1 HN HX HB HS
      have hil : i < (ints (startsE zs i ++ List.replicate (m - i) 0)).length := by rw [ints_length, List.length_append, startsE_len, List.length_replicate]; omega
      obtain ⟨u0, hu0⟩ : ∃ u, (ints (startsE zs i ++ List.replicate (m - i) 0))[i]? = some u := ⟨_, List.getElem?_eq_getElem hil⟩
      have y0 : w2.cell? ⟨X, i, none⟩ = some u0 := by rw [HN2.out.cell, List.getElem?_toArray]; exact hu0
      have f0 : w2.frozen? ⟨X, i, none⟩ = false := HN2.out.frozen i
      have HN3 : Hid (Blk (w2.setCell ⟨X, i, none⟩ (.int .i64 (startE zs (i : Int) : Int))) X 3 (ints (startsE zs (i + 1) ++ List.replicate (m - (i + 1)) 0)).toArray) := by
        have := HN2.out.set_ i (.int .i64 (startE zs (i : Int) : Int))
        rw [List.setIfInBounds_toArray, ints_set, starts_next zs i m him] at this
        exact this
      have HX3 := Lib.hid (HX2.out.far (p := ⟨X, i, none⟩) (by simp; omega) (.int .i64 (startE zs (i : Int) : Int)))
      have HB3 := Lib.hid (HB2.out.setCell (p := ⟨X, i, none⟩) (by simp; omega) (.int .i64 (startE zs (i : Int) : Int)))
      have hi0 : (0 : Int) ≤ (i : Int) := by omega
      clear HN2 HX2 HB2 hil hu0
      generalize startE zs (i : Int) = st at *
      go_wp2_with fail
      go_roundg g2
      case measure => omega
      case rel => exact ⟨i + 1, by have := HI.out; omega, by go_num, HN3, HX3, HB3⟩
    | zero =>
      have hge : ¬ (i : Int) < (m : Int) := by omega
      obtain rfl : i = m := by omega
      have HE : Hid (IErr (startsE zs i) 0 w (.returned (.tuple #[.slice (some ⟨X, 0, none⟩) i i, .int .i64 0])) wr) := by
        have hl := startsE_len zs i
        refine ⟨some ⟨X, 0, none⟩, i, by rw [hl], ⟨by rw [ints_length, Nat.mul_one], fun _ => ⟨_, rfl, HN.out.lt, fun j u hu => ?_⟩⟩, by omega, by omega, HB.out⟩
        have := HN.out
        rw [Nat.sub_self, List.replicate_zero, List.append_nil] at this
        rw [Go.WideShapes.add_plain, this.cell, Nat.zero_add, List.getElem?_toArray]; exact hu
      clear hi
      go_wp2_with fail
      go_ret2
      exact HE.out

set_option maxRecDepth 100000 in
set_option maxHeartbeats 2000000 in
theorem starts_no (nodes : Int) (A : Option Addr) (n c : Nat) (zs : List Ed) (hg : rightG nodes zs = false) (hn : n ≤ 1000) (w : World) (hR : Reads w w.heap.size 3 A n (cellsE zs)) :
    Calls Try.prog 66 #[.agg #[.int .i64 nodes, .slice A n c]] w (IErr [] 150 w) := by
  obtain ⟨bx, b0⟩ := box_new w #[.int .i64 nodes, .slice A n c] 24
  have HC := Lib.hid (check_any nodes A n c zs hn _ ((hR.below b0).more b0.size))
  rw [check_no hg] at HC
  have B0 := Lib.hid b0
  have z0 := bx.cell 0
  have z1 := bx.cell 1
  clear hR bx b0 hg
  go_enter Try.func66, Try.ntmps66
  go_wp2_with fail
  refine HC.out.mono ?_
  rintro e w1 ⟨rfl, b⟩
  have B1 : Hid (Below w.heap.size w w1) := B0.out.trans (b.mono B0.out.size)
  clear b z0 z1 B0 HC
  go_wp2_with fail
  go_ret2
  exact ⟨none, 0, rfl, Reads.none_, Nat.le_refl _, by decide, B1.out⟩
end Go.Proofs.Ytkebeadaoiiokaa
namespace Go.Proofs.Ytkebeadaoiiokaa
open Go.RowKit

def smallL : List Ed := [(0, 1, 2), (1, 2, 1), (0, 1, 0), (0, 1, 2)]
def smallA : Array Value := #[.int .i64 0, .int .i64 1, .int .i64 2, .int .i64 1, .int .i64 2, .int .i64 1, .int .i64 0, .int .i64 1, .int .i64 0, .int .i64 0, .int .i64 1, .int .i64 2]
theorem small_reads (w : World) : Reads (w.alloc (.cells smallA 34)) (w.alloc (.cells smallA 34)).heap.size 3 (some ⟨w.heap.size, 0, none⟩) 4 (cellsE smallL) :=
  ⟨rfl, fun _ => ⟨_, rfl, by simp, fun j u hu => by
    rw [Go.WideShapes.add_plain, Nat.zero_add, (Blk.new w 34 smallA).cell, ← hu, ← List.getElem?_toArray]
    rfl⟩⟩
theorem small_row : sorE smallL = [(0, 1, 0), (0, 1, 2), (1, 2, 1)] := by decide

end Go.Proofs.Ytkebeadaoiiokaa
namespace Go.Proofs.Ytkebeadaoiiokaa
open Go.RowKit

theorem redge_ways {nodes : Int} {p : Ed} (h : rightE nodes p = false) : ¬ p.1 ≥ 0 ∨ (p.1 ≥ 0 ∧ ¬ p.1 < nodes) ∨ ((p.1 ≥ 0 ∧ p.1 < nodes) ∧ ¬ p.2.1 ≥ 0) ∨ ((p.1 ≥ 0 ∧ p.1 < nodes) ∧ p.2.1 ≥ 0 ∧ ¬ p.2.1 < nodes) ∨
    ((p.1 ≥ 0 ∧ p.1 < nodes) ∧ (p.2.1 ≥ 0 ∧ p.2.1 < nodes) ∧ (p.1 != p.2.1) = false) ∨ ((p.1 ≥ 0 ∧ p.1 < nodes) ∧ (p.2.1 ≥ 0 ∧ p.2.1 < nodes) ∧ (p.1 != p.2.1) = true ∧ ¬ p.2.2 ≥ 0) ∨
    ((p.1 ≥ 0 ∧ p.1 < nodes) ∧ (p.2.1 ≥ 0 ∧ p.2.1 < nodes) ∧ (p.1 != p.2.1) = true ∧ p.2.2 ≥ 0 ∧ ¬ p.2.2 ≤ 9) := by
  have hb1 : (p.1 != p.2.1) = false ↔ p.1 = p.2.1 := by simp
  have hb2 : (p.1 != p.2.1) = true ↔ ¬ p.1 = p.2.1 := by simp
  rw [hb1, hb2]
  unfold rightE at h
  rw [decide_eq_false_iff_not] at h
  omega

set_option maxHeartbeats 2000000 in
theorem redge_any (nodes : Int) (p : Ed) (w : World) : Calls Try.prog 34 #[.int .i64 nodes, .agg #[.int .i64 p.1, .int .i64 p.2.1, .int .i64 p.2.2]] w fun e w' => e = .returned (.bool (rightE nodes p)) ∧ Below w.heap.size w w' := by
  have B0 := Lib.hid (box_new w #[.int .i64 p.1, .int .i64 p.2.1, .int .i64 p.2.2] 34).2
  cases he : rightE nodes p
  · have hw := redge_ways he
    clear he
    rcases hw with h1 | ⟨h1, h2⟩ | ⟨⟨h1, h2⟩, h3⟩ | ⟨⟨h1, h2⟩, h3, h4⟩ | ⟨⟨h1, h2⟩, ⟨h3, h4⟩, h5⟩ | ⟨⟨h1, h2⟩, ⟨h3, h4⟩, h5, h6⟩ | ⟨⟨h1, h2⟩, ⟨h3, h4⟩, h5, h6, h7⟩
    case' inl => have hd := decide_eq_false h1
    case' inr.inl => have hd := decide_eq_false h2
    case' inr.inr.inl => have hd := decide_eq_false h3
    case' inr.inr.inr.inl => have hd := decide_eq_false h4
    case' inr.inr.inr.inr.inl => have hd := h5
    case' inr.inr.inr.inr.inr.inl => have hd := decide_eq_false h6
    case' inr.inr.inr.inr.inr.inr => have hd := decide_eq_false h7
    all_goals
      go_enter Try.func34, Try.ntmps34
      go_wp2_with fail
      go_ret
      exact ⟨rfl, B0.out⟩
  · unfold rightE at he
    rw [decide_eq_true_eq] at he
    obtain ⟨⟨h1, h2⟩, ⟨h3, h4⟩, h5, h6, h7⟩ := he
    have h1' : p.1 ≥ 0 := h1
    have h3' : p.2.1 ≥ 0 := h3
    have h6' : p.2.2 ≥ 0 := h6
    have h5' : (p.1 != p.2.1) = true := by simpa using h5
    clear h1 h3 h5 h6
    go_enter Try.func34, Try.ntmps34
    go_wp2_with fail
    go_ret
    exact ⟨rfl, B0.out⟩

set_option maxHeartbeats 2000000 in
theorem rahead_any (p q : Ed) (w : World) : Calls Try.prog 35 #[.agg #[.int .i64 p.1, .int .i64 p.2.1, .int .i64 p.2.2], .agg #[.int .i64 q.1, .int .i64 q.2.1, .int .i64 q.2.2]] w fun e w' => e = .returned (.bool (aheadE p q)) ∧ Below w.heap.size w w' := by
  have B0 := Lib.hid (two_new w #[.int .i64 p.1, .int .i64 p.2.1, .int .i64 p.2.2] #[.int .i64 q.1, .int .i64 q.2.1, .int .i64 q.2.2] 34 34).2.2
  have HE : Hid (aheadE p q = if p.1 ≠ q.1 then decide (p.1 < q.1) else if p.2.1 ≠ q.2.1 then decide (p.2.1 < q.2.1) else decide (p.2.2 < q.2.2)) := rfl
  by_cases h1 : p.1 = q.1
  · have h1b : (p.1 != q.1) = false := by simpa using h1
    by_cases h2 : p.2.1 = q.2.1
    · have h2b : (p.2.1 != q.2.1) = false := by simpa using h2
      have HF : Hid (aheadE p q = decide (p.2.2 < q.2.2)) := by rw [HE.out, if_neg (fun c => c h1), if_neg (fun c => c h2)]; exact rfl
      clear h1 h2
      go_enter Try.func35, Try.ntmps35
      go_wp2_with fail
      go_ret
      exact ⟨by rw [HF.out]; rfl, B0.out⟩
    · have h2b : (p.2.1 != q.2.1) = true := by simpa using h2
      have HF : Hid (aheadE p q = decide (p.2.1 < q.2.1)) := by rw [HE.out, if_neg (fun c => c h1), if_pos h2]; exact rfl
      clear h1 h2
      go_enter Try.func35, Try.ntmps35
      go_wp2_with fail
      go_ret
      exact ⟨by rw [HF.out]; rfl, B0.out⟩
  · have h1b : (p.1 != q.1) = true := by simpa using h1
    have HF : Hid (aheadE p q = decide (p.1 < q.1)) := by rw [HE.out, if_pos h1]; exact rfl
    clear h1
    go_enter Try.func35, Try.ntmps35
    go_wp2_with fail
    go_ret
    exact ⟨by rw [HF.out]; rfl, B0.out⟩

set_option maxRecDepth 100000 in
set_option maxHeartbeats 8000000 in
theorem right_any (nodes : Int) (A : Option Addr) (n c : Nat) (zs : List Ed) (hn : n ≤ 1000) (w : World) (hR : Reads w w.heap.size 3 A n (cellsE zs)) :
    Calls Try.prog 11 #[.agg #[.int .i64 nodes, .slice A n c]] w fun e w' => e = .returned (.bool (rightG nodes zs)) ∧ Below w.heap.size w w' := by
  obtain ⟨bx, b0⟩ := box_new w #[.int .i64 nodes, .slice A n c] 24
  have HL := Lib.hid (reads_len hR)
  have HR := Lib.hid fun W (h : Below w.heap.size w W) => (hR.below h)
  have BX := Lib.hid bx
  have B0 := Lib.hid b0
  clear hR bx b0
  go_enter Try.func11, Try.ntmps11
  go_wp2_with fail
  go_loopg [8] n (fun gg i wr => ∃ k : Nat, k + gg = n ∧ i = .int .i64 k ∧ Hid (∀ p ∈ zs.take k, rightE nodes p = true) ∧ Hid (∀ j x y, j + 1 < k → zs[j]? = some x → zs[j + 1]? = some y → aheadE x y = true) ∧ Hid (Below w.heap.size w wr) ∧ Hid (Blk wr w.heap.size 24 #[.int .i64 nodes, .slice A n c]))
  case atStart => exact ⟨0, by omega, rfl, fun _ h => by simp at h, fun j x y h => by omega, B0, BX⟩
  case round =>
    clear B0 BX
    obtain ⟨k, hk, rfl, ht, ho, bk, HX⟩ := hrel
    cases gk with
    | succ g2 =>
      have hlt : (k : Int) < (n : Int) := by omega
      have hkn : k < n := by omega
      obtain ⟨p, hp⟩ : ∃ p, zs[k]? = some p := ⟨zs[k]'(by rw [HL.out]; omega), List.getElem?_eq_getElem _⟩
      obtain ⟨b, o, rfl, hb, g0, g1, g2'⟩ := ed_at (HR.out _ bk.out) hp
      have HK := Lib.hid hk
      have HP := Lib.hid hp
      have hX0 := HX.out.lt
      have hbw : b < wr.heap.size := by have := bk.out.size; omega
      obtain ⟨Y, hY⟩ : ∃ Y, wr.heap.size = Y := ⟨_, rfl⟩
      have HY := Lib.hid (Blk.new wr 34 #[.int .i64 p.1, .int .i64 p.2.1, .int .i64 p.2.2])
      have HX1 := Lib.hid (HX.out.alloc (.cells #[.int .i64 p.1, .int .i64 p.2.1, .int .i64 p.2.2] 34))
      have bk1 := Lib.hid (bk.out.alloc bk.out.size (.cells #[.int .i64 p.1, .int .i64 p.2.1, .int .i64 p.2.2] 34))
      rw [hY] at HY
      clear hp hk
      go_upto_region 4 with fail
      clear g0 g1 g2' hY bk HX
      generalize wr.alloc (.cells #[.int .i64 p.1, .int .i64 p.2.1, .int .i64 p.2.2] 34) = wx at *
      have hYl := HY.out.lt
      have hXl := HX1.out.lt
      have HS0 : Hid (∀ W, Below wx.heap.size wx W → W.cell? ⟨w.heap.size, 0, none⟩ = some (.int .i64 nodes) ∧ W.cell? ⟨w.heap.size, 1, none⟩ = some (.slice (some ⟨b, o, none⟩) n c) ∧ W.cell? ⟨Y, 0, none⟩ = some (.int .i64 p.1) ∧ W.cell? ⟨Y, 1, none⟩ = some (.int .i64 p.2.1) ∧ W.cell? ⟨Y, 2, none⟩ = some (.int .i64 p.2.2)) :=
        fun W h => ⟨(HX1.out.below h hXl).cell 0, (HX1.out.below h hXl).cell 1, (HY.out.below h hYl).cell 0, (HY.out.below h hYl).cell 1, (HY.out.below h hYl).cell 2⟩
      have HRE := Lib.hid fun W => redge_any nodes p W
      have J0 : Hid (Below wx.heap.size wx wx.drew) := (Below.refl _ _).drew
      cases he : rightE nodes p
      · have HE := Lib.hid (rg_edge (List.mem_of_getElem? HP.out) he)
        rw [he] at HRE
        clear he
        refine wp_region_noPanic ?_
        refine wp_region_held_drew (S := fun W => W.cell? ⟨w.heap.size, 0, none⟩ = some (.int .i64 nodes) ∧ W.cell? ⟨w.heap.size, 1, none⟩ = some (.slice (some ⟨b, o, none⟩) n c) ∧ W.cell? ⟨Y, 0, none⟩ = some (.int .i64 p.1) ∧ W.cell? ⟨Y, 1, none⟩ = some (.int .i64 p.2.1) ∧ W.cell? ⟨Y, 2, none⟩ = some (.int .i64 p.2.2)) (by kernel_rfl) (HS0.out _ J0.out) (fun hHeld => ?_)
        refine wpAnyH_take (i := 0) (oi := { dst := some 13, op := Op.fieldAddr 24 (Operand.tmp 1) 0, type := 0, pos := "ref.go:25", after := #[], guard := none }) (v := .pointer (some ⟨w.heap.size, 0, none⟩)) rfl (by kernel_rfl) (by kernel_rfl) (by kernel_rfl) (fun _ _ _ h => h) (Or.inl ⟨by kernel_rfl, fun w' hSw => by (try dsimp only at hSw); go_simp⟩) (by assumption) ?_
        try simp only [Act.put, List.setIfInBounds_toArray, List.set_cons_zero, List.set_cons_succ]
        refine wpAnyH_take (i := 1) (oi := { dst := some 14, op := Op.load 3 (Operand.tmp 13), type := 3, pos := "ref.go:25", after := #[{ on := 0, ground := Ground.data }], guard := none }) (v := .int .i64 nodes) rfl (by kernel_rfl) (by kernel_rfl) (by kernel_rfl) (fun _ _ _ h => h) (Or.inl ⟨by kernel_rfl, fun w' hSw => by (try dsimp only at hSw); go_simp⟩) (by assumption) ?_
        try simp only [Act.put, List.setIfInBounds_toArray, List.set_cons_zero, List.set_cons_succ]
        refine wpAnyH_take (i := 2) (oi := { dst := some 15, op := Op.load 34 (Operand.tmp 4), type := 34, pos := "ref.go:25", after := #[], guard := none }) (v := .agg #[.int .i64 p.1, .int .i64 p.2.1, .int .i64 p.2.2]) rfl (by kernel_rfl) (by kernel_rfl) (by kernel_rfl) (fun _ _ _ h => h) (Or.inl ⟨by kernel_rfl, fun w' hSw => by (try dsimp only at hSw); go_simp⟩) (by assumption) ?_
        try simp only [Act.put, List.setIfInBounds_toArray, List.set_cons_zero, List.set_cons_succ]
        refine wpAnyH_ready (rs := [3]) (by kernel_rfl) (by simp) ?_
        refine AllReadyH.cons (o := { dst := some 16, op := Op.call { callee := Callee.value (Operand.func 34), args := #[Operand.tmp 14, Operand.tmp 15], argTypes := #[3, 34] }, type := 4, pos := "ref.go:25", after := #[{ on := 1, ground := Ground.data }, { on := 2, ground := Ground.data }], guard := none }) rfl (fun K hK => ?_) AllReadyH.nil
        go_simp
        refine (HRE.out wx.drew).mono ?_
        rintro e v1 ⟨rfl, b9⟩
        have J1 : Hid (Below wx.heap.size wx v1) := J0.out.trans (b9.mono J0.out.size)
        clear b9 hHeld
        refine hK.out _ _ (HS0.out _ J1.out) (fun hHeld => ?_)
        clear hK K
        try simp only [Act.put, List.setIfInBounds_toArray, List.set_cons_zero, List.set_cons_succ]
        refine wpAnyH_take (i := 4) (oi := { dst := some 17, op := Op.unOp UnOp.not 4 (Operand.tmp 16), type := 4, pos := "ref.go:25", after := #[{ on := 3, ground := Ground.data }], guard := none }) (v := .bool true) rfl (by kernel_rfl) (by kernel_rfl) (by kernel_rfl) (fun _ _ _ h => h) (Or.inl ⟨by kernel_rfl, fun w' hSw => by (try dsimp only at hSw); go_simp⟩) (by assumption) ?_
        try simp only [Act.put, List.setIfInBounds_toArray, List.set_cons_zero, List.set_cons_succ]
        refine wpAnyH_take (i := 5) (oi := { dst := some 18, op := Op.move (Operand.tmp 17), type := 4, pos := "ref.go:25", after := #[{ on := 4, ground := Ground.data }, { on := 3, ground := Ground.chain }], guard := none }) (v := .bool true) rfl (by kernel_rfl) (by kernel_rfl) (by kernel_rfl) (fun _ _ _ h => h) (Or.inl ⟨by kernel_rfl, fun w' hSw => by (try dsimp only at hSw); go_simp⟩) (by assumption) ?_
        try simp only [Act.put, List.setIfInBounds_toArray, List.set_cons_zero, List.set_cons_succ]
        refine wpAnyH_take (i := 6) (oi := { dst := some 19, op := Op.move (Operand.tmp 3), type := 3, pos := "ref.go:25", after := #[{ on := 5, ground := Ground.guard }], guard := some (5, false) }) (v := undef) rfl (by kernel_rfl) (by kernel_rfl) (by kernel_rfl) (fun _ _ _ h => h) (Or.inr ⟨by kernel_rfl, rfl⟩) (by assumption) ?_
        try simp only [Act.put, List.setIfInBounds_toArray, List.set_cons_zero, List.set_cons_succ]
        refine wpAnyH_take (i := 7) (oi := { dst := some 20, op := Op.binOp BinOp.gtr 3 (Operand.tmp 19) (Operand.const (Value.int IntKind.i64 0)) 3, type := 4, pos := "ref.go:25", after := #[{ on := 6, ground := Ground.data }, { on := 5, ground := Ground.guard }], guard := some (5, false) }) (v := undef) rfl (by kernel_rfl) (by kernel_rfl) (by kernel_rfl) (fun _ _ _ h => h) (Or.inr ⟨by kernel_rfl, rfl⟩) (by assumption) ?_
        try simp only [Act.put, List.setIfInBounds_toArray, List.set_cons_zero, List.set_cons_succ]
        refine wpAnyH_take (i := 8) (oi := { dst := some 21, op := Op.move (Operand.tmp 20), type := 4, pos := "ref.go:25", after := #[{ on := 7, ground := Ground.data }, { on := 5, ground := Ground.chain }, { on := 5, ground := Ground.guard }], guard := some (5, false) }) (v := undef) rfl (by kernel_rfl) (by kernel_rfl) (by kernel_rfl) (fun _ _ _ h => h) (Or.inr ⟨by kernel_rfl, rfl⟩) (by assumption) ?_
        try simp only [Act.put, List.setIfInBounds_toArray, List.set_cons_zero, List.set_cons_succ]
        refine wpAnyH_take (i := 9) (oi := { dst := some 22, op := Op.fieldAddr 24 (Operand.tmp 1) 1, type := 0, pos := "ref.go:25", after := #[{ on := 8, ground := Ground.guard }], guard := some (8, true) }) (v := undef) rfl (by kernel_rfl) (by kernel_rfl) (by kernel_rfl) (fun _ _ _ h => h) (Or.inr ⟨by kernel_rfl, rfl⟩) (by assumption) ?_
        try simp only [Act.put, List.setIfInBounds_toArray, List.set_cons_zero, List.set_cons_succ]
        refine wpAnyH_take (i := 10) (oi := { dst := some 23, op := Op.load 22 (Operand.tmp 22), type := 22, pos := "ref.go:25", after := #[{ on := 9, ground := Ground.data }, { on := 8, ground := Ground.guard }], guard := some (8, true) }) (v := undef) rfl (by kernel_rfl) (by kernel_rfl) (by kernel_rfl) (fun _ _ _ h => h) (Or.inr ⟨by kernel_rfl, rfl⟩) (by assumption) ?_
        try simp only [Act.put, List.setIfInBounds_toArray, List.set_cons_zero, List.set_cons_succ]
        refine wpAnyH_take (i := 11) (oi := { dst := some 24, op := Op.move (Operand.tmp 3), type := 3, pos := "ref.go:25", after := #[{ on := 8, ground := Ground.guard }], guard := some (8, true) }) (v := undef) rfl (by kernel_rfl) (by kernel_rfl) (by kernel_rfl) (fun _ _ _ h => h) (Or.inr ⟨by kernel_rfl, rfl⟩) (by assumption) ?_
        try simp only [Act.put, List.setIfInBounds_toArray, List.set_cons_zero, List.set_cons_succ]
        refine wpAnyH_take (i := 12) (oi := { dst := some 25, op := Op.binOp BinOp.sub 3 (Operand.tmp 24) (Operand.const (Value.int IntKind.i64 1)) 3, type := 3, pos := "ref.go:25", after := #[{ on := 11, ground := Ground.data }, { on := 8, ground := Ground.guard }], guard := some (8, true) }) (v := undef) rfl (by kernel_rfl) (by kernel_rfl) (by kernel_rfl) (fun _ _ _ h => h) (Or.inr ⟨by kernel_rfl, rfl⟩) (by assumption) ?_
        try simp only [Act.put, List.setIfInBounds_toArray, List.set_cons_zero, List.set_cons_succ]
        refine wpAnyH_take (i := 13) (oi := { dst := some 26, op := Op.indexAddr 22 (Operand.tmp 23) (Operand.tmp 25), type := 0, pos := "ref.go:25", after := #[{ on := 10, ground := Ground.data }, { on := 12, ground := Ground.data }, { on := 8, ground := Ground.guard }], guard := some (8, true) }) (v := undef) rfl (by kernel_rfl) (by kernel_rfl) (by kernel_rfl) (fun _ _ _ h => h) (Or.inr ⟨by kernel_rfl, rfl⟩) (by assumption) ?_
        try simp only [Act.put, List.setIfInBounds_toArray, List.set_cons_zero, List.set_cons_succ]
        refine wpAnyH_take (i := 14) (oi := { dst := some 27, op := Op.load 34 (Operand.tmp 26), type := 34, pos := "ref.go:25", after := #[{ on := 13, ground := Ground.data }, { on := 8, ground := Ground.guard }], guard := some (8, true) }) (v := undef) rfl (by kernel_rfl) (by kernel_rfl) (by kernel_rfl) (fun _ _ _ h => h) (Or.inr ⟨by kernel_rfl, rfl⟩) (by assumption) ?_
        try simp only [Act.put, List.setIfInBounds_toArray, List.set_cons_zero, List.set_cons_succ]
        refine wpAnyH_take (i := 15) (oi := { dst := some 28, op := Op.load 34 (Operand.tmp 4), type := 34, pos := "ref.go:25", after := #[{ on := 8, ground := Ground.guard }], guard := some (8, true) }) (v := undef) rfl (by kernel_rfl) (by kernel_rfl) (by kernel_rfl) (fun _ _ _ h => h) (Or.inr ⟨by kernel_rfl, rfl⟩) (by assumption) ?_
        try simp only [Act.put, List.setIfInBounds_toArray, List.set_cons_zero, List.set_cons_succ]
        refine wpAnyH_take (i := 16) (oi := { dst := some 29, op := Op.call { callee := Callee.value (Operand.func 35), args := #[Operand.tmp 27, Operand.tmp 28], argTypes := #[34, 34] }, type := 4, pos := "ref.go:25", after := #[{ on := 14, ground := Ground.data }, { on := 15, ground := Ground.data }, { on := 8, ground := Ground.chain }, { on := 8, ground := Ground.guard }], guard := some (8, true) }) (v := undef) rfl (by kernel_rfl) (by kernel_rfl) (by kernel_rfl) (fun _ _ _ h => h) (Or.inr ⟨by kernel_rfl, rfl⟩) (by assumption) ?_
        try simp only [Act.put, List.setIfInBounds_toArray, List.set_cons_zero, List.set_cons_succ]
        refine wpAnyH_take (i := 17) (oi := { dst := some 30, op := Op.unOp UnOp.not 4 (Operand.tmp 29), type := 4, pos := "ref.go:25", after := #[{ on := 16, ground := Ground.data }, { on := 8, ground := Ground.guard }], guard := some (8, true) }) (v := undef) rfl (by kernel_rfl) (by kernel_rfl) (by kernel_rfl) (fun _ _ _ h => h) (Or.inr ⟨by kernel_rfl, rfl⟩) (by assumption) ?_
        try simp only [Act.put, List.setIfInBounds_toArray, List.set_cons_zero, List.set_cons_succ]
        refine wpAnyH_take (i := 18) (oi := { dst := some 31, op := Op.pick (Operand.tmp 21) (Operand.tmp 30) (Operand.const (Value.bool false)), type := 4, pos := "ref.go:25", after := #[{ on := 8, ground := Ground.data }, { on := 17, ground := Ground.data }, { on := 5, ground := Ground.guard }], guard := some (5, false) }) (v := undef) rfl (by kernel_rfl) (by kernel_rfl) (by kernel_rfl) (fun _ _ _ h => h) (Or.inr ⟨by kernel_rfl, rfl⟩) (by assumption) ?_
        try simp only [Act.put, List.setIfInBounds_toArray, List.set_cons_zero, List.set_cons_succ]
        refine wpAnyH_take (i := 19) (oi := { dst := some 32, op := Op.pick (Operand.tmp 18) (Operand.const (Value.bool true)) (Operand.tmp 31), type := 4, pos := "ref.go:25", after := #[{ on := 5, ground := Ground.data }, { on := 18, ground := Ground.data }], guard := none }) (v := .bool true) rfl (by kernel_rfl) (by kernel_rfl) (by kernel_rfl) (fun _ _ _ h => h) (Or.inl ⟨by kernel_rfl, fun w' hSw => by (try dsimp only at hSw); go_simp⟩) (by assumption) ?_
        try simp only [Act.put, List.setIfInBounds_toArray, List.set_cons_zero, List.set_cons_succ]
        refine wpAnyH_done (by kernel_rfl) ?_ _
        refine NoPanic.normal ?_
        go_wp2_with fail
        go_ret
        exact ⟨by rw [HE.out]; rfl, bk1.out.trans (J1.out.mono bk1.out.size)⟩
      · have HT := Lib.hid (all_take ht.out HP.out he)
        rw [he] at HRE
        clear he
        cases k with
        | zero =>
          refine wp_region_noPanic ?_
          refine wp_region_held_drew (S := fun W => W.cell? ⟨w.heap.size, 0, none⟩ = some (.int .i64 nodes) ∧ W.cell? ⟨w.heap.size, 1, none⟩ = some (.slice (some ⟨b, o, none⟩) n c) ∧ W.cell? ⟨Y, 0, none⟩ = some (.int .i64 p.1) ∧ W.cell? ⟨Y, 1, none⟩ = some (.int .i64 p.2.1) ∧ W.cell? ⟨Y, 2, none⟩ = some (.int .i64 p.2.2)) (by kernel_rfl) (HS0.out _ J0.out) (fun hHeld => ?_)
          refine wpAnyH_take (i := 0) (oi := { dst := some 13, op := Op.fieldAddr 24 (Operand.tmp 1) 0, type := 0, pos := "ref.go:25", after := #[], guard := none }) (v := .pointer (some ⟨w.heap.size, 0, none⟩)) rfl (by kernel_rfl) (by kernel_rfl) (by kernel_rfl) (fun _ _ _ h => h) (Or.inl ⟨by kernel_rfl, fun w' hSw => by (try dsimp only at hSw); go_simp⟩) (by assumption) ?_
          try simp only [Act.put, List.setIfInBounds_toArray, List.set_cons_zero, List.set_cons_succ]
          refine wpAnyH_take (i := 1) (oi := { dst := some 14, op := Op.load 3 (Operand.tmp 13), type := 3, pos := "ref.go:25", after := #[{ on := 0, ground := Ground.data }], guard := none }) (v := .int .i64 nodes) rfl (by kernel_rfl) (by kernel_rfl) (by kernel_rfl) (fun _ _ _ h => h) (Or.inl ⟨by kernel_rfl, fun w' hSw => by (try dsimp only at hSw); go_simp⟩) (by assumption) ?_
          try simp only [Act.put, List.setIfInBounds_toArray, List.set_cons_zero, List.set_cons_succ]
          refine wpAnyH_take (i := 2) (oi := { dst := some 15, op := Op.load 34 (Operand.tmp 4), type := 34, pos := "ref.go:25", after := #[], guard := none }) (v := .agg #[.int .i64 p.1, .int .i64 p.2.1, .int .i64 p.2.2]) rfl (by kernel_rfl) (by kernel_rfl) (by kernel_rfl) (fun _ _ _ h => h) (Or.inl ⟨by kernel_rfl, fun w' hSw => by (try dsimp only at hSw); go_simp⟩) (by assumption) ?_
          try simp only [Act.put, List.setIfInBounds_toArray, List.set_cons_zero, List.set_cons_succ]
          refine wpAnyH_ready (rs := [3]) (by kernel_rfl) (by simp) ?_
          refine AllReadyH.cons (o := { dst := some 16, op := Op.call { callee := Callee.value (Operand.func 34), args := #[Operand.tmp 14, Operand.tmp 15], argTypes := #[3, 34] }, type := 4, pos := "ref.go:25", after := #[{ on := 1, ground := Ground.data }, { on := 2, ground := Ground.data }], guard := none }) rfl (fun K hK => ?_) AllReadyH.nil
          go_simp
          refine (HRE.out wx.drew).mono ?_
          rintro e v1 ⟨rfl, b9⟩
          have J1 : Hid (Below wx.heap.size wx v1) := J0.out.trans (b9.mono J0.out.size)
          clear b9 hHeld
          refine hK.out _ _ (HS0.out _ J1.out) (fun hHeld => ?_)
          clear hK K
          try simp only [Act.put, List.setIfInBounds_toArray, List.set_cons_zero, List.set_cons_succ]
          refine wpAnyH_take (i := 4) (oi := { dst := some 17, op := Op.unOp UnOp.not 4 (Operand.tmp 16), type := 4, pos := "ref.go:25", after := #[{ on := 3, ground := Ground.data }], guard := none }) (v := .bool false) rfl (by kernel_rfl) (by kernel_rfl) (by kernel_rfl) (fun _ _ _ h => h) (Or.inl ⟨by kernel_rfl, fun w' hSw => by (try dsimp only at hSw); go_simp⟩) (by assumption) ?_
          try simp only [Act.put, List.setIfInBounds_toArray, List.set_cons_zero, List.set_cons_succ]
          refine wpAnyH_take (i := 5) (oi := { dst := some 18, op := Op.move (Operand.tmp 17), type := 4, pos := "ref.go:25", after := #[{ on := 4, ground := Ground.data }, { on := 3, ground := Ground.chain }], guard := none }) (v := .bool false) rfl (by kernel_rfl) (by kernel_rfl) (by kernel_rfl) (fun _ _ _ h => h) (Or.inl ⟨by kernel_rfl, fun w' hSw => by (try dsimp only at hSw); go_simp⟩) (by assumption) ?_
          try simp only [Act.put, List.setIfInBounds_toArray, List.set_cons_zero, List.set_cons_succ]
          refine wpAnyH_take (i := 6) (oi := { dst := some 19, op := Op.move (Operand.tmp 3), type := 3, pos := "ref.go:25", after := #[{ on := 5, ground := Ground.guard }], guard := some (5, false) }) (v := .int .i64 0) rfl (by kernel_rfl) (by kernel_rfl) (by kernel_rfl) (fun _ _ _ h => h) (Or.inl ⟨by kernel_rfl, fun w' hSw => by (try dsimp only at hSw); go_simp⟩) (by assumption) ?_
          try simp only [Act.put, List.setIfInBounds_toArray, List.set_cons_zero, List.set_cons_succ]
          refine wpAnyH_take (i := 7) (oi := { dst := some 20, op := Op.binOp BinOp.gtr 3 (Operand.tmp 19) (Operand.const (Value.int IntKind.i64 0)) 3, type := 4, pos := "ref.go:25", after := #[{ on := 6, ground := Ground.data }, { on := 5, ground := Ground.guard }], guard := some (5, false) }) (v := .bool false) rfl (by kernel_rfl) (by kernel_rfl) (by kernel_rfl) (fun _ _ _ h => h) (Or.inl ⟨by kernel_rfl, fun w' hSw => by (try dsimp only at hSw); go_simp⟩) (by assumption) ?_
          try simp only [Act.put, List.setIfInBounds_toArray, List.set_cons_zero, List.set_cons_succ]
          refine wpAnyH_take (i := 8) (oi := { dst := some 21, op := Op.move (Operand.tmp 20), type := 4, pos := "ref.go:25", after := #[{ on := 7, ground := Ground.data }, { on := 5, ground := Ground.chain }, { on := 5, ground := Ground.guard }], guard := some (5, false) }) (v := .bool false) rfl (by kernel_rfl) (by kernel_rfl) (by kernel_rfl) (fun _ _ _ h => h) (Or.inl ⟨by kernel_rfl, fun w' hSw => by (try dsimp only at hSw); go_simp⟩) (by assumption) ?_
          try simp only [Act.put, List.setIfInBounds_toArray, List.set_cons_zero, List.set_cons_succ]
          refine wpAnyH_take (i := 9) (oi := { dst := some 22, op := Op.fieldAddr 24 (Operand.tmp 1) 1, type := 0, pos := "ref.go:25", after := #[{ on := 8, ground := Ground.guard }], guard := some (8, true) }) (v := undef) rfl (by kernel_rfl) (by kernel_rfl) (by kernel_rfl) (fun _ _ _ h => h) (Or.inr ⟨by kernel_rfl, rfl⟩) (by assumption) ?_
          try simp only [Act.put, List.setIfInBounds_toArray, List.set_cons_zero, List.set_cons_succ]
          refine wpAnyH_take (i := 10) (oi := { dst := some 23, op := Op.load 22 (Operand.tmp 22), type := 22, pos := "ref.go:25", after := #[{ on := 9, ground := Ground.data }, { on := 8, ground := Ground.guard }], guard := some (8, true) }) (v := undef) rfl (by kernel_rfl) (by kernel_rfl) (by kernel_rfl) (fun _ _ _ h => h) (Or.inr ⟨by kernel_rfl, rfl⟩) (by assumption) ?_
          try simp only [Act.put, List.setIfInBounds_toArray, List.set_cons_zero, List.set_cons_succ]
          refine wpAnyH_take (i := 11) (oi := { dst := some 24, op := Op.move (Operand.tmp 3), type := 3, pos := "ref.go:25", after := #[{ on := 8, ground := Ground.guard }], guard := some (8, true) }) (v := undef) rfl (by kernel_rfl) (by kernel_rfl) (by kernel_rfl) (fun _ _ _ h => h) (Or.inr ⟨by kernel_rfl, rfl⟩) (by assumption) ?_
          try simp only [Act.put, List.setIfInBounds_toArray, List.set_cons_zero, List.set_cons_succ]
          refine wpAnyH_take (i := 12) (oi := { dst := some 25, op := Op.binOp BinOp.sub 3 (Operand.tmp 24) (Operand.const (Value.int IntKind.i64 1)) 3, type := 3, pos := "ref.go:25", after := #[{ on := 11, ground := Ground.data }, { on := 8, ground := Ground.guard }], guard := some (8, true) }) (v := undef) rfl (by kernel_rfl) (by kernel_rfl) (by kernel_rfl) (fun _ _ _ h => h) (Or.inr ⟨by kernel_rfl, rfl⟩) (by assumption) ?_
          try simp only [Act.put, List.setIfInBounds_toArray, List.set_cons_zero, List.set_cons_succ]
          refine wpAnyH_take (i := 13) (oi := { dst := some 26, op := Op.indexAddr 22 (Operand.tmp 23) (Operand.tmp 25), type := 0, pos := "ref.go:25", after := #[{ on := 10, ground := Ground.data }, { on := 12, ground := Ground.data }, { on := 8, ground := Ground.guard }], guard := some (8, true) }) (v := undef) rfl (by kernel_rfl) (by kernel_rfl) (by kernel_rfl) (fun _ _ _ h => h) (Or.inr ⟨by kernel_rfl, rfl⟩) (by assumption) ?_
          try simp only [Act.put, List.setIfInBounds_toArray, List.set_cons_zero, List.set_cons_succ]
          refine wpAnyH_take (i := 14) (oi := { dst := some 27, op := Op.load 34 (Operand.tmp 26), type := 34, pos := "ref.go:25", after := #[{ on := 13, ground := Ground.data }, { on := 8, ground := Ground.guard }], guard := some (8, true) }) (v := undef) rfl (by kernel_rfl) (by kernel_rfl) (by kernel_rfl) (fun _ _ _ h => h) (Or.inr ⟨by kernel_rfl, rfl⟩) (by assumption) ?_
          try simp only [Act.put, List.setIfInBounds_toArray, List.set_cons_zero, List.set_cons_succ]
          refine wpAnyH_take (i := 15) (oi := { dst := some 28, op := Op.load 34 (Operand.tmp 4), type := 34, pos := "ref.go:25", after := #[{ on := 8, ground := Ground.guard }], guard := some (8, true) }) (v := undef) rfl (by kernel_rfl) (by kernel_rfl) (by kernel_rfl) (fun _ _ _ h => h) (Or.inr ⟨by kernel_rfl, rfl⟩) (by assumption) ?_
          try simp only [Act.put, List.setIfInBounds_toArray, List.set_cons_zero, List.set_cons_succ]
          refine wpAnyH_take (i := 16) (oi := { dst := some 29, op := Op.call { callee := Callee.value (Operand.func 35), args := #[Operand.tmp 27, Operand.tmp 28], argTypes := #[34, 34] }, type := 4, pos := "ref.go:25", after := #[{ on := 14, ground := Ground.data }, { on := 15, ground := Ground.data }, { on := 8, ground := Ground.chain }, { on := 8, ground := Ground.guard }], guard := some (8, true) }) (v := undef) rfl (by kernel_rfl) (by kernel_rfl) (by kernel_rfl) (fun _ _ _ h => h) (Or.inr ⟨by kernel_rfl, rfl⟩) (by assumption) ?_
          try simp only [Act.put, List.setIfInBounds_toArray, List.set_cons_zero, List.set_cons_succ]
          refine wpAnyH_take (i := 17) (oi := { dst := some 30, op := Op.unOp UnOp.not 4 (Operand.tmp 29), type := 4, pos := "ref.go:25", after := #[{ on := 16, ground := Ground.data }, { on := 8, ground := Ground.guard }], guard := some (8, true) }) (v := undef) rfl (by kernel_rfl) (by kernel_rfl) (by kernel_rfl) (fun _ _ _ h => h) (Or.inr ⟨by kernel_rfl, rfl⟩) (by assumption) ?_
          try simp only [Act.put, List.setIfInBounds_toArray, List.set_cons_zero, List.set_cons_succ]
          refine wpAnyH_take (i := 18) (oi := { dst := some 31, op := Op.pick (Operand.tmp 21) (Operand.tmp 30) (Operand.const (Value.bool false)), type := 4, pos := "ref.go:25", after := #[{ on := 8, ground := Ground.data }, { on := 17, ground := Ground.data }, { on := 5, ground := Ground.guard }], guard := some (5, false) }) (v := .bool false) rfl (by kernel_rfl) (by kernel_rfl) (by kernel_rfl) (fun _ _ _ h => h) (Or.inl ⟨by kernel_rfl, fun w' hSw => by (try dsimp only at hSw); go_simp⟩) (by assumption) ?_
          try simp only [Act.put, List.setIfInBounds_toArray, List.set_cons_zero, List.set_cons_succ]
          refine wpAnyH_take (i := 19) (oi := { dst := some 32, op := Op.pick (Operand.tmp 18) (Operand.const (Value.bool true)) (Operand.tmp 31), type := 4, pos := "ref.go:25", after := #[{ on := 5, ground := Ground.data }, { on := 18, ground := Ground.data }], guard := none }) (v := .bool false) rfl (by kernel_rfl) (by kernel_rfl) (by kernel_rfl) (fun _ _ _ h => h) (Or.inl ⟨by kernel_rfl, fun w' hSw => by (try dsimp only at hSw); go_simp⟩) (by assumption) ?_
          try simp only [Act.put, List.setIfInBounds_toArray, List.set_cons_zero, List.set_cons_succ]
          refine wpAnyH_done (by kernel_rfl) ?_ _
          refine NoPanic.normal ?_
          go_wp2_with fail
          go_roundg g2
          case measure => omega
          case rel => exact ⟨0 + 1, by have := HK.out; omega, by go_num, HT, fun j x y h => by omega, bk1.out.trans (J1.out.mono bk1.out.size), HX1.out.below J1.out hXl⟩
        | succ j =>
          obtain ⟨q, hq⟩ : ∃ q, zs[j]? = some q := ⟨zs[j]'(by rw [HL.out]; omega), List.getElem?_eq_getElem _⟩
          obtain ⟨b', o', hA', hb', x0, x1, x2⟩ := ed_at (HR.out _ bk1.out) hq
          injection hA' with hA'
          injection hA' with e1 e2 _
          subst e1; subst e2
          have hbx : b < wx.heap.size := by have := bk1.out.size; omega
          have HQ := Lib.hid hq
          have HS1 : Hid (∀ W, Below wx.heap.size wx W → (W.cell? ⟨w.heap.size, 0, none⟩ = some (.int .i64 nodes) ∧ W.cell? ⟨w.heap.size, 1, none⟩ = some (.slice (some ⟨b, o, none⟩) n c) ∧ W.cell? ⟨Y, 0, none⟩ = some (.int .i64 p.1) ∧ W.cell? ⟨Y, 1, none⟩ = some (.int .i64 p.2.1) ∧ W.cell? ⟨Y, 2, none⟩ = some (.int .i64 p.2.2)) ∧
              W.cell? ⟨b, o + j * 3, none⟩ = some (.int .i64 q.1) ∧ W.cell? ⟨b, o + j * 3 + 1, none⟩ = some (.int .i64 q.2.1) ∧ W.cell? ⟨b, o + j * 3 + 2, none⟩ = some (.int .i64 q.2.2)) :=
            fun W h => ⟨HS0.out W h, (h.cell (p := ⟨b, _, none⟩) hbx).trans x0, (h.cell (p := ⟨b, _, none⟩) hbx).trans x1, (h.cell (p := ⟨b, _, none⟩) hbx).trans x2⟩
          have HAH := Lib.hid fun W => rahead_any q p W
          have hs1 : IntKind.i64.wrap (((j + 1 : Nat) : Int) - 1) = (j : Int) := by rw [IntKind.wrap_i64]; omega
          have hs2 : IntKind.i64.wrap (j : Int) = (j : Int) := by rw [IntKind.wrap_i64]; omega
          have hj0 : (0 : Int) ≤ (j : Int) := by omega
          have hj1 : (j : Int) < (n : Int) := by omega
          have hj2 : ((j : Int) + 1 > 0) := by omega
          have hj3 : (0 : Int) < (j : Int) + 1 := by omega
          clear hq x0 x1 x2
          cases ha : aheadE q p
          · have HE := Lib.hid (rg_ahead (nodes := nodes) HQ.out HP.out ha)
            rw [ha] at HAH
            clear ha
            refine wp_region_noPanic ?_
            refine wp_region_held_drew (S := fun W => (W.cell? ⟨w.heap.size, 0, none⟩ = some (.int .i64 nodes) ∧ W.cell? ⟨w.heap.size, 1, none⟩ = some (.slice (some ⟨b, o, none⟩) n c) ∧ W.cell? ⟨Y, 0, none⟩ = some (.int .i64 p.1) ∧ W.cell? ⟨Y, 1, none⟩ = some (.int .i64 p.2.1) ∧ W.cell? ⟨Y, 2, none⟩ = some (.int .i64 p.2.2)) ∧ W.cell? ⟨b, o + j * 3, none⟩ = some (.int .i64 q.1) ∧ W.cell? ⟨b, o + j * 3 + 1, none⟩ = some (.int .i64 q.2.1) ∧ W.cell? ⟨b, o + j * 3 + 2, none⟩ = some (.int .i64 q.2.2)) (by kernel_rfl) (HS1.out _ J0.out) (fun hHeld => ?_)
            refine wpAnyH_take (i := 0) (oi := { dst := some 13, op := Op.fieldAddr 24 (Operand.tmp 1) 0, type := 0, pos := "ref.go:25", after := #[], guard := none }) (v := .pointer (some ⟨w.heap.size, 0, none⟩)) rfl (by kernel_rfl) (by kernel_rfl) (by kernel_rfl) (fun _ _ _ h => h) (Or.inl ⟨by kernel_rfl, fun w' hSw => by (try dsimp only at hSw); go_simp⟩) (by assumption) ?_
            try simp only [Act.put, List.setIfInBounds_toArray, List.set_cons_zero, List.set_cons_succ]
            refine wpAnyH_take (i := 1) (oi := { dst := some 14, op := Op.load 3 (Operand.tmp 13), type := 3, pos := "ref.go:25", after := #[{ on := 0, ground := Ground.data }], guard := none }) (v := .int .i64 nodes) rfl (by kernel_rfl) (by kernel_rfl) (by kernel_rfl) (fun _ _ _ h => h) (Or.inl ⟨by kernel_rfl, fun w' hSw => by (try dsimp only at hSw); go_simp⟩) (by assumption) ?_
            try simp only [Act.put, List.setIfInBounds_toArray, List.set_cons_zero, List.set_cons_succ]
            refine wpAnyH_take (i := 2) (oi := { dst := some 15, op := Op.load 34 (Operand.tmp 4), type := 34, pos := "ref.go:25", after := #[], guard := none }) (v := .agg #[.int .i64 p.1, .int .i64 p.2.1, .int .i64 p.2.2]) rfl (by kernel_rfl) (by kernel_rfl) (by kernel_rfl) (fun _ _ _ h => h) (Or.inl ⟨by kernel_rfl, fun w' hSw => by (try dsimp only at hSw); go_simp⟩) (by assumption) ?_
            try simp only [Act.put, List.setIfInBounds_toArray, List.set_cons_zero, List.set_cons_succ]
            refine wpAnyH_ready (rs := [3]) (by kernel_rfl) (by simp) ?_
            refine AllReadyH.cons (o := { dst := some 16, op := Op.call { callee := Callee.value (Operand.func 34), args := #[Operand.tmp 14, Operand.tmp 15], argTypes := #[3, 34] }, type := 4, pos := "ref.go:25", after := #[{ on := 1, ground := Ground.data }, { on := 2, ground := Ground.data }], guard := none }) rfl (fun K hK => ?_) AllReadyH.nil
            go_simp
            refine (HRE.out wx.drew).mono ?_
            rintro e v1 ⟨rfl, b9⟩
            have J1 : Hid (Below wx.heap.size wx v1) := J0.out.trans (b9.mono J0.out.size)
            clear b9 hHeld
            refine hK.out _ _ (HS1.out _ J1.out) (fun hHeld => ?_)
            clear hK K
            try simp only [Act.put, List.setIfInBounds_toArray, List.set_cons_zero, List.set_cons_succ]
            refine wpAnyH_take (i := 4) (oi := { dst := some 17, op := Op.unOp UnOp.not 4 (Operand.tmp 16), type := 4, pos := "ref.go:25", after := #[{ on := 3, ground := Ground.data }], guard := none }) (v := .bool false) rfl (by kernel_rfl) (by kernel_rfl) (by kernel_rfl) (fun _ _ _ h => h) (Or.inl ⟨by kernel_rfl, fun w' hSw => by (try dsimp only at hSw); go_simp⟩) (by assumption) ?_
            try simp only [Act.put, List.setIfInBounds_toArray, List.set_cons_zero, List.set_cons_succ]
            refine wpAnyH_take (i := 5) (oi := { dst := some 18, op := Op.move (Operand.tmp 17), type := 4, pos := "ref.go:25", after := #[{ on := 4, ground := Ground.data }, { on := 3, ground := Ground.chain }], guard := none }) (v := .bool false) rfl (by kernel_rfl) (by kernel_rfl) (by kernel_rfl) (fun _ _ _ h => h) (Or.inl ⟨by kernel_rfl, fun w' hSw => by (try dsimp only at hSw); go_simp⟩) (by assumption) ?_
            try simp only [Act.put, List.setIfInBounds_toArray, List.set_cons_zero, List.set_cons_succ]
            refine wpAnyH_take (i := 6) (oi := { dst := some 19, op := Op.move (Operand.tmp 3), type := 3, pos := "ref.go:25", after := #[{ on := 5, ground := Ground.guard }], guard := some (5, false) }) (v := .int .i64 ((j : Int) + 1)) rfl (by kernel_rfl) (by kernel_rfl) (by kernel_rfl) (fun _ _ _ h => h) (Or.inl ⟨by kernel_rfl, fun w' hSw => by (try dsimp only at hSw); go_simp⟩) (by assumption) ?_
            try simp only [Act.put, List.setIfInBounds_toArray, List.set_cons_zero, List.set_cons_succ]
            refine wpAnyH_take (i := 7) (oi := { dst := some 20, op := Op.binOp BinOp.gtr 3 (Operand.tmp 19) (Operand.const (Value.int IntKind.i64 0)) 3, type := 4, pos := "ref.go:25", after := #[{ on := 6, ground := Ground.data }, { on := 5, ground := Ground.guard }], guard := some (5, false) }) (v := .bool true) rfl (by kernel_rfl) (by kernel_rfl) (by kernel_rfl) (fun _ _ _ h => h) (Or.inl ⟨by kernel_rfl, fun w' hSw => by (try dsimp only at hSw); go_simp⟩) (by assumption) ?_
            try simp only [Act.put, List.setIfInBounds_toArray, List.set_cons_zero, List.set_cons_succ]
            refine wpAnyH_take (i := 8) (oi := { dst := some 21, op := Op.move (Operand.tmp 20), type := 4, pos := "ref.go:25", after := #[{ on := 7, ground := Ground.data }, { on := 5, ground := Ground.chain }, { on := 5, ground := Ground.guard }], guard := some (5, false) }) (v := .bool true) rfl (by kernel_rfl) (by kernel_rfl) (by kernel_rfl) (fun _ _ _ h => h) (Or.inl ⟨by kernel_rfl, fun w' hSw => by (try dsimp only at hSw); go_simp⟩) (by assumption) ?_
            try simp only [Act.put, List.setIfInBounds_toArray, List.set_cons_zero, List.set_cons_succ]
            refine wpAnyH_take (i := 9) (oi := { dst := some 22, op := Op.fieldAddr 24 (Operand.tmp 1) 1, type := 0, pos := "ref.go:25", after := #[{ on := 8, ground := Ground.guard }], guard := some (8, true) }) (v := .pointer (some ⟨w.heap.size, 1, none⟩)) rfl (by kernel_rfl) (by kernel_rfl) (by kernel_rfl) (fun _ _ _ h => h) (Or.inl ⟨by kernel_rfl, fun w' hSw => by (try dsimp only at hSw); go_simp⟩) (by assumption) ?_
            try simp only [Act.put, List.setIfInBounds_toArray, List.set_cons_zero, List.set_cons_succ]
            refine wpAnyH_take (i := 10) (oi := { dst := some 23, op := Op.load 22 (Operand.tmp 22), type := 22, pos := "ref.go:25", after := #[{ on := 9, ground := Ground.data }, { on := 8, ground := Ground.guard }], guard := some (8, true) }) (v := .slice (some ⟨b, o, none⟩) n c) rfl (by kernel_rfl) (by kernel_rfl) (by kernel_rfl) (fun _ _ _ h => h) (Or.inl ⟨by kernel_rfl, fun w' hSw => by (try dsimp only at hSw); go_simp⟩) (by assumption) ?_
            try simp only [Act.put, List.setIfInBounds_toArray, List.set_cons_zero, List.set_cons_succ]
            refine wpAnyH_take (i := 11) (oi := { dst := some 24, op := Op.move (Operand.tmp 3), type := 3, pos := "ref.go:25", after := #[{ on := 8, ground := Ground.guard }], guard := some (8, true) }) (v := .int .i64 ((j : Int) + 1)) rfl (by kernel_rfl) (by kernel_rfl) (by kernel_rfl) (fun _ _ _ h => h) (Or.inl ⟨by kernel_rfl, fun w' hSw => by (try dsimp only at hSw); go_simp⟩) (by assumption) ?_
            try simp only [Act.put, List.setIfInBounds_toArray, List.set_cons_zero, List.set_cons_succ]
            refine wpAnyH_take (i := 12) (oi := { dst := some 25, op := Op.binOp BinOp.sub 3 (Operand.tmp 24) (Operand.const (Value.int IntKind.i64 1)) 3, type := 3, pos := "ref.go:25", after := #[{ on := 11, ground := Ground.data }, { on := 8, ground := Ground.guard }], guard := some (8, true) }) (v := .int .i64 (j : Int)) rfl (by kernel_rfl) (by kernel_rfl) (by kernel_rfl) (fun _ _ _ h => h) (Or.inl ⟨by kernel_rfl, fun w' hSw => by (try dsimp only at hSw); go_simp⟩) (by assumption) ?_
            try simp only [Act.put, List.setIfInBounds_toArray, List.set_cons_zero, List.set_cons_succ]
            refine wpAnyH_take (i := 13) (oi := { dst := some 26, op := Op.indexAddr 22 (Operand.tmp 23) (Operand.tmp 25), type := 0, pos := "ref.go:25", after := #[{ on := 10, ground := Ground.data }, { on := 12, ground := Ground.data }, { on := 8, ground := Ground.guard }], guard := some (8, true) }) (v := .pointer (some ⟨b, o + j * 3, none⟩)) rfl (by kernel_rfl) (by kernel_rfl) (by kernel_rfl) (fun _ _ _ h => h) (Or.inl ⟨by kernel_rfl, fun w' hSw => by (try dsimp only at hSw); go_simp⟩) (by assumption) ?_
            try simp only [Act.put, List.setIfInBounds_toArray, List.set_cons_zero, List.set_cons_succ]
            refine wpAnyH_take (i := 14) (oi := { dst := some 27, op := Op.load 34 (Operand.tmp 26), type := 34, pos := "ref.go:25", after := #[{ on := 13, ground := Ground.data }, { on := 8, ground := Ground.guard }], guard := some (8, true) }) (v := .agg #[.int .i64 q.1, .int .i64 q.2.1, .int .i64 q.2.2]) rfl (by kernel_rfl) (by kernel_rfl) (by kernel_rfl) (fun _ _ _ h => h) (Or.inl ⟨by kernel_rfl, fun w' hSw => by (try dsimp only at hSw); go_simp⟩) (by assumption) ?_
            try simp only [Act.put, List.setIfInBounds_toArray, List.set_cons_zero, List.set_cons_succ]
            refine wpAnyH_take (i := 15) (oi := { dst := some 28, op := Op.load 34 (Operand.tmp 4), type := 34, pos := "ref.go:25", after := #[{ on := 8, ground := Ground.guard }], guard := some (8, true) }) (v := .agg #[.int .i64 p.1, .int .i64 p.2.1, .int .i64 p.2.2]) rfl (by kernel_rfl) (by kernel_rfl) (by kernel_rfl) (fun _ _ _ h => h) (Or.inl ⟨by kernel_rfl, fun w' hSw => by (try dsimp only at hSw); go_simp⟩) (by assumption) ?_
            try simp only [Act.put, List.setIfInBounds_toArray, List.set_cons_zero, List.set_cons_succ]
            refine wpAnyH_ready (rs := [16]) (by kernel_rfl) (by simp) ?_
            refine AllReadyH.cons (o := { dst := some 29, op := Op.call { callee := Callee.value (Operand.func 35), args := #[Operand.tmp 27, Operand.tmp 28], argTypes := #[34, 34] }, type := 4, pos := "ref.go:25", after := #[{ on := 14, ground := Ground.data }, { on := 15, ground := Ground.data }, { on := 8, ground := Ground.chain }, { on := 8, ground := Ground.guard }], guard := some (8, true) }) rfl (fun K hK => ?_) AllReadyH.nil
            go_simp
            refine (HAH.out v1).mono ?_
            rintro e v2 ⟨rfl, b9⟩
            have J2 : Hid (Below wx.heap.size wx v2) := J1.out.trans (b9.mono J1.out.size)
            clear b9 hHeld
            refine hK.out _ _ (HS1.out _ J2.out) (fun hHeld => ?_)
            clear hK K
            try simp only [Act.put, List.setIfInBounds_toArray, List.set_cons_zero, List.set_cons_succ]
            refine wpAnyH_take (i := 17) (oi := { dst := some 30, op := Op.unOp UnOp.not 4 (Operand.tmp 29), type := 4, pos := "ref.go:25", after := #[{ on := 16, ground := Ground.data }, { on := 8, ground := Ground.guard }], guard := some (8, true) }) (v := .bool true) rfl (by kernel_rfl) (by kernel_rfl) (by kernel_rfl) (fun _ _ _ h => h) (Or.inl ⟨by kernel_rfl, fun w' hSw => by (try dsimp only at hSw); go_simp⟩) (by assumption) ?_
            try simp only [Act.put, List.setIfInBounds_toArray, List.set_cons_zero, List.set_cons_succ]
            refine wpAnyH_take (i := 18) (oi := { dst := some 31, op := Op.pick (Operand.tmp 21) (Operand.tmp 30) (Operand.const (Value.bool false)), type := 4, pos := "ref.go:25", after := #[{ on := 8, ground := Ground.data }, { on := 17, ground := Ground.data }, { on := 5, ground := Ground.guard }], guard := some (5, false) }) (v := .bool true) rfl (by kernel_rfl) (by kernel_rfl) (by kernel_rfl) (fun _ _ _ h => h) (Or.inl ⟨by kernel_rfl, fun w' hSw => by (try dsimp only at hSw); go_simp⟩) (by assumption) ?_
            try simp only [Act.put, List.setIfInBounds_toArray, List.set_cons_zero, List.set_cons_succ]
            refine wpAnyH_take (i := 19) (oi := { dst := some 32, op := Op.pick (Operand.tmp 18) (Operand.const (Value.bool true)) (Operand.tmp 31), type := 4, pos := "ref.go:25", after := #[{ on := 5, ground := Ground.data }, { on := 18, ground := Ground.data }], guard := none }) (v := .bool true) rfl (by kernel_rfl) (by kernel_rfl) (by kernel_rfl) (fun _ _ _ h => h) (Or.inl ⟨by kernel_rfl, fun w' hSw => by (try dsimp only at hSw); go_simp⟩) (by assumption) ?_
            try simp only [Act.put, List.setIfInBounds_toArray, List.set_cons_zero, List.set_cons_succ]
            refine wpAnyH_done (by kernel_rfl) ?_ _
            refine NoPanic.normal ?_
            go_wp2_with fail
            go_ret
            exact ⟨by rw [HE.out]; rfl, bk1.out.trans (J2.out.mono bk1.out.size)⟩
          · have HO2 : Hid (∀ j' x y, j' + 1 < j + 1 + 1 → zs[j']? = some x → zs[j' + 1]? = some y → aheadE x y = true) := by
              intro j' x y h hx hy
              rcases Nat.lt_or_ge (j' + 1) (j + 1) with h' | h'
              · exact ho.out j' x y h' hx hy
              · obtain rfl : j' = j := by omega
                rw [HQ.out] at hx
                rw [HP.out] at hy
                injection hx with hx
                injection hy with hy
                subst hx; subst hy
                exact ha
            rw [ha] at HAH
            clear ha
            refine wp_region_noPanic ?_
            refine wp_region_held_drew (S := fun W => (W.cell? ⟨w.heap.size, 0, none⟩ = some (.int .i64 nodes) ∧ W.cell? ⟨w.heap.size, 1, none⟩ = some (.slice (some ⟨b, o, none⟩) n c) ∧ W.cell? ⟨Y, 0, none⟩ = some (.int .i64 p.1) ∧ W.cell? ⟨Y, 1, none⟩ = some (.int .i64 p.2.1) ∧ W.cell? ⟨Y, 2, none⟩ = some (.int .i64 p.2.2)) ∧ W.cell? ⟨b, o + j * 3, none⟩ = some (.int .i64 q.1) ∧ W.cell? ⟨b, o + j * 3 + 1, none⟩ = some (.int .i64 q.2.1) ∧ W.cell? ⟨b, o + j * 3 + 2, none⟩ = some (.int .i64 q.2.2)) (by kernel_rfl) (HS1.out _ J0.out) (fun hHeld => ?_)
            refine wpAnyH_take (i := 0) (oi := { dst := some 13, op := Op.fieldAddr 24 (Operand.tmp 1) 0, type := 0, pos := "ref.go:25", after := #[], guard := none }) (v := .pointer (some ⟨w.heap.size, 0, none⟩)) rfl (by kernel_rfl) (by kernel_rfl) (by kernel_rfl) (fun _ _ _ h => h) (Or.inl ⟨by kernel_rfl, fun w' hSw => by (try dsimp only at hSw); go_simp⟩) (by assumption) ?_
            try simp only [Act.put, List.setIfInBounds_toArray, List.set_cons_zero, List.set_cons_succ]
            refine wpAnyH_take (i := 1) (oi := { dst := some 14, op := Op.load 3 (Operand.tmp 13), type := 3, pos := "ref.go:25", after := #[{ on := 0, ground := Ground.data }], guard := none }) (v := .int .i64 nodes) rfl (by kernel_rfl) (by kernel_rfl) (by kernel_rfl) (fun _ _ _ h => h) (Or.inl ⟨by kernel_rfl, fun w' hSw => by (try dsimp only at hSw); go_simp⟩) (by assumption) ?_
            try simp only [Act.put, List.setIfInBounds_toArray, List.set_cons_zero, List.set_cons_succ]
            refine wpAnyH_take (i := 2) (oi := { dst := some 15, op := Op.load 34 (Operand.tmp 4), type := 34, pos := "ref.go:25", after := #[], guard := none }) (v := .agg #[.int .i64 p.1, .int .i64 p.2.1, .int .i64 p.2.2]) rfl (by kernel_rfl) (by kernel_rfl) (by kernel_rfl) (fun _ _ _ h => h) (Or.inl ⟨by kernel_rfl, fun w' hSw => by (try dsimp only at hSw); go_simp⟩) (by assumption) ?_
            try simp only [Act.put, List.setIfInBounds_toArray, List.set_cons_zero, List.set_cons_succ]
            refine wpAnyH_ready (rs := [3]) (by kernel_rfl) (by simp) ?_
            refine AllReadyH.cons (o := { dst := some 16, op := Op.call { callee := Callee.value (Operand.func 34), args := #[Operand.tmp 14, Operand.tmp 15], argTypes := #[3, 34] }, type := 4, pos := "ref.go:25", after := #[{ on := 1, ground := Ground.data }, { on := 2, ground := Ground.data }], guard := none }) rfl (fun K hK => ?_) AllReadyH.nil
            go_simp
            refine (HRE.out wx.drew).mono ?_
            rintro e v1 ⟨rfl, b9⟩
            have J1 : Hid (Below wx.heap.size wx v1) := J0.out.trans (b9.mono J0.out.size)
            clear b9 hHeld
            refine hK.out _ _ (HS1.out _ J1.out) (fun hHeld => ?_)
            clear hK K
            try simp only [Act.put, List.setIfInBounds_toArray, List.set_cons_zero, List.set_cons_succ]
            refine wpAnyH_take (i := 4) (oi := { dst := some 17, op := Op.unOp UnOp.not 4 (Operand.tmp 16), type := 4, pos := "ref.go:25", after := #[{ on := 3, ground := Ground.data }], guard := none }) (v := .bool false) rfl (by kernel_rfl) (by kernel_rfl) (by kernel_rfl) (fun _ _ _ h => h) (Or.inl ⟨by kernel_rfl, fun w' hSw => by (try dsimp only at hSw); go_simp⟩) (by assumption) ?_
            try simp only [Act.put, List.setIfInBounds_toArray, List.set_cons_zero, List.set_cons_succ]
            refine wpAnyH_take (i := 5) (oi := { dst := some 18, op := Op.move (Operand.tmp 17), type := 4, pos := "ref.go:25", after := #[{ on := 4, ground := Ground.data }, { on := 3, ground := Ground.chain }], guard := none }) (v := .bool false) rfl (by kernel_rfl) (by kernel_rfl) (by kernel_rfl) (fun _ _ _ h => h) (Or.inl ⟨by kernel_rfl, fun w' hSw => by (try dsimp only at hSw); go_simp⟩) (by assumption) ?_
            try simp only [Act.put, List.setIfInBounds_toArray, List.set_cons_zero, List.set_cons_succ]
            refine wpAnyH_take (i := 6) (oi := { dst := some 19, op := Op.move (Operand.tmp 3), type := 3, pos := "ref.go:25", after := #[{ on := 5, ground := Ground.guard }], guard := some (5, false) }) (v := .int .i64 ((j : Int) + 1)) rfl (by kernel_rfl) (by kernel_rfl) (by kernel_rfl) (fun _ _ _ h => h) (Or.inl ⟨by kernel_rfl, fun w' hSw => by (try dsimp only at hSw); go_simp⟩) (by assumption) ?_
            try simp only [Act.put, List.setIfInBounds_toArray, List.set_cons_zero, List.set_cons_succ]
            refine wpAnyH_take (i := 7) (oi := { dst := some 20, op := Op.binOp BinOp.gtr 3 (Operand.tmp 19) (Operand.const (Value.int IntKind.i64 0)) 3, type := 4, pos := "ref.go:25", after := #[{ on := 6, ground := Ground.data }, { on := 5, ground := Ground.guard }], guard := some (5, false) }) (v := .bool true) rfl (by kernel_rfl) (by kernel_rfl) (by kernel_rfl) (fun _ _ _ h => h) (Or.inl ⟨by kernel_rfl, fun w' hSw => by (try dsimp only at hSw); go_simp⟩) (by assumption) ?_
            try simp only [Act.put, List.setIfInBounds_toArray, List.set_cons_zero, List.set_cons_succ]
            refine wpAnyH_take (i := 8) (oi := { dst := some 21, op := Op.move (Operand.tmp 20), type := 4, pos := "ref.go:25", after := #[{ on := 7, ground := Ground.data }, { on := 5, ground := Ground.chain }, { on := 5, ground := Ground.guard }], guard := some (5, false) }) (v := .bool true) rfl (by kernel_rfl) (by kernel_rfl) (by kernel_rfl) (fun _ _ _ h => h) (Or.inl ⟨by kernel_rfl, fun w' hSw => by (try dsimp only at hSw); go_simp⟩) (by assumption) ?_
            try simp only [Act.put, List.setIfInBounds_toArray, List.set_cons_zero, List.set_cons_succ]
            refine wpAnyH_take (i := 9) (oi := { dst := some 22, op := Op.fieldAddr 24 (Operand.tmp 1) 1, type := 0, pos := "ref.go:25", after := #[{ on := 8, ground := Ground.guard }], guard := some (8, true) }) (v := .pointer (some ⟨w.heap.size, 1, none⟩)) rfl (by kernel_rfl) (by kernel_rfl) (by kernel_rfl) (fun _ _ _ h => h) (Or.inl ⟨by kernel_rfl, fun w' hSw => by (try dsimp only at hSw); go_simp⟩) (by assumption) ?_
            try simp only [Act.put, List.setIfInBounds_toArray, List.set_cons_zero, List.set_cons_succ]
            refine wpAnyH_take (i := 10) (oi := { dst := some 23, op := Op.load 22 (Operand.tmp 22), type := 22, pos := "ref.go:25", after := #[{ on := 9, ground := Ground.data }, { on := 8, ground := Ground.guard }], guard := some (8, true) }) (v := .slice (some ⟨b, o, none⟩) n c) rfl (by kernel_rfl) (by kernel_rfl) (by kernel_rfl) (fun _ _ _ h => h) (Or.inl ⟨by kernel_rfl, fun w' hSw => by (try dsimp only at hSw); go_simp⟩) (by assumption) ?_
            try simp only [Act.put, List.setIfInBounds_toArray, List.set_cons_zero, List.set_cons_succ]
            refine wpAnyH_take (i := 11) (oi := { dst := some 24, op := Op.move (Operand.tmp 3), type := 3, pos := "ref.go:25", after := #[{ on := 8, ground := Ground.guard }], guard := some (8, true) }) (v := .int .i64 ((j : Int) + 1)) rfl (by kernel_rfl) (by kernel_rfl) (by kernel_rfl) (fun _ _ _ h => h) (Or.inl ⟨by kernel_rfl, fun w' hSw => by (try dsimp only at hSw); go_simp⟩) (by assumption) ?_
            try simp only [Act.put, List.setIfInBounds_toArray, List.set_cons_zero, List.set_cons_succ]
            refine wpAnyH_take (i := 12) (oi := { dst := some 25, op := Op.binOp BinOp.sub 3 (Operand.tmp 24) (Operand.const (Value.int IntKind.i64 1)) 3, type := 3, pos := "ref.go:25", after := #[{ on := 11, ground := Ground.data }, { on := 8, ground := Ground.guard }], guard := some (8, true) }) (v := .int .i64 (j : Int)) rfl (by kernel_rfl) (by kernel_rfl) (by kernel_rfl) (fun _ _ _ h => h) (Or.inl ⟨by kernel_rfl, fun w' hSw => by (try dsimp only at hSw); go_simp⟩) (by assumption) ?_
            try simp only [Act.put, List.setIfInBounds_toArray, List.set_cons_zero, List.set_cons_succ]
            refine wpAnyH_take (i := 13) (oi := { dst := some 26, op := Op.indexAddr 22 (Operand.tmp 23) (Operand.tmp 25), type := 0, pos := "ref.go:25", after := #[{ on := 10, ground := Ground.data }, { on := 12, ground := Ground.data }, { on := 8, ground := Ground.guard }], guard := some (8, true) }) (v := .pointer (some ⟨b, o + j * 3, none⟩)) rfl (by kernel_rfl) (by kernel_rfl) (by kernel_rfl) (fun _ _ _ h => h) (Or.inl ⟨by kernel_rfl, fun w' hSw => by (try dsimp only at hSw); go_simp⟩) (by assumption) ?_
            try simp only [Act.put, List.setIfInBounds_toArray, List.set_cons_zero, List.set_cons_succ]
            refine wpAnyH_take (i := 14) (oi := { dst := some 27, op := Op.load 34 (Operand.tmp 26), type := 34, pos := "ref.go:25", after := #[{ on := 13, ground := Ground.data }, { on := 8, ground := Ground.guard }], guard := some (8, true) }) (v := .agg #[.int .i64 q.1, .int .i64 q.2.1, .int .i64 q.2.2]) rfl (by kernel_rfl) (by kernel_rfl) (by kernel_rfl) (fun _ _ _ h => h) (Or.inl ⟨by kernel_rfl, fun w' hSw => by (try dsimp only at hSw); go_simp⟩) (by assumption) ?_
            try simp only [Act.put, List.setIfInBounds_toArray, List.set_cons_zero, List.set_cons_succ]
            refine wpAnyH_take (i := 15) (oi := { dst := some 28, op := Op.load 34 (Operand.tmp 4), type := 34, pos := "ref.go:25", after := #[{ on := 8, ground := Ground.guard }], guard := some (8, true) }) (v := .agg #[.int .i64 p.1, .int .i64 p.2.1, .int .i64 p.2.2]) rfl (by kernel_rfl) (by kernel_rfl) (by kernel_rfl) (fun _ _ _ h => h) (Or.inl ⟨by kernel_rfl, fun w' hSw => by (try dsimp only at hSw); go_simp⟩) (by assumption) ?_
            try simp only [Act.put, List.setIfInBounds_toArray, List.set_cons_zero, List.set_cons_succ]
            refine wpAnyH_ready (rs := [16]) (by kernel_rfl) (by simp) ?_
            refine AllReadyH.cons (o := { dst := some 29, op := Op.call { callee := Callee.value (Operand.func 35), args := #[Operand.tmp 27, Operand.tmp 28], argTypes := #[34, 34] }, type := 4, pos := "ref.go:25", after := #[{ on := 14, ground := Ground.data }, { on := 15, ground := Ground.data }, { on := 8, ground := Ground.chain }, { on := 8, ground := Ground.guard }], guard := some (8, true) }) rfl (fun K hK => ?_) AllReadyH.nil
            go_simp
            refine (HAH.out v1).mono ?_
            rintro e v2 ⟨rfl, b9⟩
            have J2 : Hid (Below wx.heap.size wx v2) := J1.out.trans (b9.mono J1.out.size)
            clear b9 hHeld
            refine hK.out _ _ (HS1.out _ J2.out) (fun hHeld => ?_)
            clear hK K
            try simp only [Act.put, List.setIfInBounds_toArray, List.set_cons_zero, List.set_cons_succ]
            refine wpAnyH_take (i := 17) (oi := { dst := some 30, op := Op.unOp UnOp.not 4 (Operand.tmp 29), type := 4, pos := "ref.go:25", after := #[{ on := 16, ground := Ground.data }, { on := 8, ground := Ground.guard }], guard := some (8, true) }) (v := .bool false) rfl (by kernel_rfl) (by kernel_rfl) (by kernel_rfl) (fun _ _ _ h => h) (Or.inl ⟨by kernel_rfl, fun w' hSw => by (try dsimp only at hSw); go_simp⟩) (by assumption) ?_
            try simp only [Act.put, List.setIfInBounds_toArray, List.set_cons_zero, List.set_cons_succ]
            refine wpAnyH_take (i := 18) (oi := { dst := some 31, op := Op.pick (Operand.tmp 21) (Operand.tmp 30) (Operand.const (Value.bool false)), type := 4, pos := "ref.go:25", after := #[{ on := 8, ground := Ground.data }, { on := 17, ground := Ground.data }, { on := 5, ground := Ground.guard }], guard := some (5, false) }) (v := .bool false) rfl (by kernel_rfl) (by kernel_rfl) (by kernel_rfl) (fun _ _ _ h => h) (Or.inl ⟨by kernel_rfl, fun w' hSw => by (try dsimp only at hSw); go_simp⟩) (by assumption) ?_
            try simp only [Act.put, List.setIfInBounds_toArray, List.set_cons_zero, List.set_cons_succ]
            refine wpAnyH_take (i := 19) (oi := { dst := some 32, op := Op.pick (Operand.tmp 18) (Operand.const (Value.bool true)) (Operand.tmp 31), type := 4, pos := "ref.go:25", after := #[{ on := 5, ground := Ground.data }, { on := 18, ground := Ground.data }], guard := none }) (v := .bool false) rfl (by kernel_rfl) (by kernel_rfl) (by kernel_rfl) (fun _ _ _ h => h) (Or.inl ⟨by kernel_rfl, fun w' hSw => by (try dsimp only at hSw); go_simp⟩) (by assumption) ?_
            try simp only [Act.put, List.setIfInBounds_toArray, List.set_cons_zero, List.set_cons_succ]
            refine wpAnyH_done (by kernel_rfl) ?_ _
            refine NoPanic.normal ?_
            go_wp2_with fail
            go_roundg g2
            case measure => omega
            case rel => exact ⟨j + 1 + 1, by have := HK.out; omega, by go_num, HT, HO2, bk1.out.trans (J2.out.mono bk1.out.size), HX1.out.below J2.out hXl⟩
    | zero =>
      have hge : ¬ (k : Int) < (n : Int) := by omega
      have hkn : k = n := by omega
      have z0 := HX.out.cell 0
      have z1 := HX.out.cell 1
      have HE : Hid (rightG nodes zs = mayN nodes) := by
        refine rg_true ?_ fun j x y hx hy => ho.out j x y ?_ hx hy
        · have := ht.out
          rwa [List.take_of_length_le (by rw [HL.out]; omega)] at this
        · have := (List.getElem?_eq_some_iff.1 hy).1
          have := HL.out
          omega
      have h40 : (n : Int) ≤ 40000 := by omega
      clear hk hkn
      by_cases h1 : nodes ≥ 0
      · by_cases h2 : nodes ≤ 300
        · have HM : Hid (mayN nodes = true) := by show _ = _; unfold mayN; simp; omega
          go_wp2_with fail
          go_ret
          exact ⟨by rw [HE.out, HM.out]; rfl, bk.out⟩
        · have HM : Hid (mayN nodes = false) := by show _ = _; unfold mayN; simp; omega
          have hd := decide_eq_false h2
          go_wp2_with fail
          go_ret
          exact ⟨by rw [HE.out, HM.out]; rfl, bk.out⟩
      · have HM : Hid (mayN nodes = false) := by show _ = _; unfold mayN; simp; omega
        have hd := decide_eq_false h1
        go_wp2_with fail
        go_ret
        exact ⟨by rw [HE.out, HM.out]; rfl, bk.out⟩
end Go.Proofs.Ytkebeadaoiiokaa
namespace Go.Proofs.Ytkebeadaoiiokaa
open Go.RowKit

theorem ints_append (a b : List Int) : ints (a ++ b) = ints a ++ ints b := by unfold ints; rw [List.map_append]
theorem ints_one (l : List Int) : ∀ u ∈ ints l, u.oneCell' = true := by
  intro u hu
  unfold ints at hu
  obtain ⟨z, _, rfl⟩ := List.mem_map.1 hu
  rfl
theorem int_one (w : World) (z : Int) : Reads (w.alloc (.cells #[.int .i64 z] 3)) (w.heap.size + 1) 1 (some ⟨w.heap.size, 0, none⟩) 1 (ints [z]) :=
  ⟨rfl, fun _ => ⟨_, rfl, Nat.lt_succ_self _, fun j u hu => by
    rw [Go.WideShapes.add_plain, Nat.zero_add, (Blk.new w 3 #[.int .i64 z]).cell]
    rw [← hu, ← List.getElem?_toArray]
    rfl⟩⟩
/-- What stands among the first k and is asked for. -/
def fil {α : Type} (q : α → Bool) (l : List α) (k : Nat) : List α := (l.take k).filter q
theorem fil_keep {α : Type} {q : α → Bool} {l : List α} {k : Nat} {x : α} (h : l[k]? = some x) (hq : q x = true) : fil q l (k + 1) = fil q l k ++ [x] := by
  unfold fil; rw [List.take_add_one, h, List.filter_append]; simp [hq]
theorem fil_skip {α : Type} {q : α → Bool} {l : List α} {k : Nat} {x : α} (h : l[k]? = some x) (hq : q x = false) : fil q l (k + 1) = fil q l k := by
  unfold fil; rw [List.take_add_one, h, List.filter_append]; simp [hq]
theorem fil_all {α : Type} {q : α → Bool} {l : List α} {k : Nat} (h : l.length ≤ k) : fil q l k = l.filter q := by unfold fil; rw [List.take_of_length_le h]
theorem row_end {ps : List Ed} {w W0 w' : World} {A : Option Addr} {u c : Nat} (hb : Below w.heap.size w W0) (hl : ps.length = u) (ho : w'.ownsRow W0.heap.size 34 3 (.slice A u c) u (cellsE ps)) (h1 : u ≤ c) (h2 : c ≤ 9223372036854775807) (h3 : Below W0.heap.size W0 w') :
    RowIs ps w (.returned (.slice A u c)) w' := by
  subst hl
  exact ⟨A, c, rfl, own_base ho hb.size, h1, h2, hb.trans (h3.mono hb.size)⟩
/-- Numbers. -/
def IntsIs (vs : List Int) (w : World) (e : Ending) (w' : World) : Prop :=
  ∃ (A : Option Addr) (c : Nat), e = .returned (.slice A vs.length c) ∧ Reads w' w'.heap.size 1 A vs.length (ints vs) ∧ vs.length ≤ c ∧ c ≤ 9223372036854775807 ∧ Below w.heap.size w w'
theorem ints_end {vs : List Int} {w W0 w' : World} {A : Option Addr} {u c : Nat} (hb : Below w.heap.size w W0) (hl : vs.length = u) (ho : w'.ownsRow W0.heap.size 3 1 (.slice A u c) u (ints vs)) (h1 : u ≤ c) (h2 : c ≤ 9223372036854775807) (h3 : Below W0.heap.size W0 w') :
    IntsIs vs w (.returned (.slice A u c)) w' := by
  subst hl
  exact ⟨A, c, rfl, Reads.of_own ho, h1, h2, hb.trans (h3.mono hb.size)⟩

set_option maxRecDepth 100000 in
set_option maxHeartbeats 4000000 in
theorem rout_any (nodes v : Int) (A : Option Addr) (n c : Nat) (zs : List Ed) (hn : n ≤ 1000) (w : World) (hR : Reads w w.heap.size 3 A n (cellsE zs)) :
    Calls Try.prog 110 #[.agg #[.int .i64 nodes, .slice A n c], .int .i64 v] w (RowIs (outE zs v) w) := by
  obtain ⟨bx, b0⟩ := box_new w #[.int .i64 nodes, .slice A n c] 24
  have HL := Lib.hid (reads_len hR)
  have HR := Lib.hid fun W (h : Below w.heap.size w W) => (hR.below h)
  obtain ⟨i0, hi, hz0, hz1, hz2⟩ := info_parts pair_info
  have z0 := bx.cell 0
  have z1 := bx.cell 1
  have B0 := Lib.hid b0
  clear hR bx b0
  go_enter Try.func110, Try.ntmps110
  go_wp2_with fail
  generalize w.alloc (.cells #[.int .i64 nodes, .slice A n c] 24) = W0 at *
  clear z0 z1
  go_loopg [5, 11] n (fun gg s5 s11 wr => ∃ (i u : Nat) (A' : Option Addr) (c' : Nat), i + gg = n ∧ u ≤ i ∧ s11 = .int .i64 i ∧ s5 = .slice A' u c' ∧ u ≤ c' ∧ c' ≤ 9223372036854775807 ∧ Hid ((fil (fun p : Ed => decide (p.1 = v)) zs i).length = u) ∧
    Hid (wr.ownsRow W0.heap.size 34 3 (.slice A' u c') u (cellsE (fil (fun p : Ed => decide (p.1 = v)) zs i))) ∧ Hid (Below W0.heap.size W0 wr))
  case atStart => exact ⟨0, 0, none, 0, by omega, Nat.le_refl _, rfl, rfl, Nat.le_refl _, by decide, rfl, World.ownsRow_nil _ _ _ _, Below.refl _ _⟩
  case round =>
    obtain ⟨i, u, A', c', hig, hui, rfl, rfl, huc, hcm, HU, HO, HB⟩ := hrel
    cases gk with
    | zero =>
      have hge : ¬ (i : Int) < (n : Int) := by omega
      have HE := Lib.hid (row_end B0.out HU.out HO.out huc hcm HB.out)
      rw [fil_all (by rw [HL.out]; omega)] at HE
      clear hig
      go_wp2_with fail
      go_ret
      exact HE.out
    | succ g2 =>
      have hlt : (i : Int) < (n : Int) := by omega
      have hin : i < n := by omega
      obtain ⟨p, hp⟩ : ∃ p, zs[i]? = some p := ⟨zs[i]'(by rw [HL.out]; omega), List.getElem?_eq_getElem _⟩
      obtain ⟨b, o, rfl, hb, g0, g1, gk2⟩ := ed_at (HR.out _ (B0.out.trans (HB.out.mono B0.out.size))) hp
      have HIG := Lib.hid hig
      have hsz := HB.out.size
      have HX := Lib.hid (Blk.new wr 34 #[.int .i64 p.1, .int .i64 p.2.1, .int .i64 p.2.2])
      have HO1 := Lib.hid (HO.out.alloc (.cells #[.int .i64 p.1, .int .i64 p.2.1, .int .i64 p.2.2] 34))
      have HB1 := Lib.hid (HB.out.alloc hsz (.cells #[.int .i64 p.1, .int .i64 p.2.1, .int .i64 p.2.2] 34))
      obtain ⟨X, hX⟩ : ∃ X, wr.heap.size = X := ⟨_, rfl⟩
      rw [hX] at HX
      clear hig
      go_upto_region 5 with fail
      clear g0 g1 gk2 hX HB HO
      generalize wr.alloc (.cells #[.int .i64 p.1, .int .i64 p.2.1, .int .i64 p.2.2] 34) = wx at *
      have z0 : wx.cell? ⟨X, 0, none⟩ = some (.int .i64 p.1) := HX.out.cell 0
      have z1 : wx.cell? ⟨X, 1, none⟩ = some (.int .i64 p.2.1) := HX.out.cell 1
      have z2 : wx.cell? ⟨X, 2, none⟩ = some (.int .i64 p.2.2) := HX.out.cell 2
      have hsz2 := HB1.out.size
      cases ht : p.1 == v
      · have HNX := Lib.hid (fil_skip (q := fun p : Ed => decide (p.1 = v)) hp (by simpa using ht))
        clear hp
        go_wp2_with fail
        go_roundg g2
        case measure => omega
        case rel => exact ⟨i + 1, u, A', c', by have := HIG.out; omega, by omega, by go_num, rfl, huc, hcm, by rw [HNX.out]; exact HU, by rw [HNX.out]; exact HO1, HB1⟩
      · have HNX := Lib.hid (fil_keep (q := fun p : Ed => decide (p.1 = v)) hp (by simpa using ht))
        clear hp
        go_wp2_with (at_builtin; refine wpList_append_any _ rfl (.tmp 19) (.tmp 21) 22 rfl W0.heap.size 34 i0 _ 3 24 Try.underlying22 hi hz0 hz1 hz2 rfl (by decide) (.slice A' u c') u _ rfl (HO1.out.alloc _) (wx.heap.size + 1) (some ⟨wx.heap.size, 0, none⟩) 1 _ (cellsE [p]) rfl (pair_one wx p) (cellsE_one _) (by unfold maxLen; omega) (by omega) (by simp; omega) ?_; intro v5 w5 hown5 hgrow5 _; have HB5 : Hid (Below W0.heap.size W0 w5) := (HB1.out.alloc hsz2 _).grown hgrow5 (by simp; omega) (fun k hk => (HO1.out.lt k hk).1); obtain ⟨A5, c5, rfl, h51, h52⟩ := own_form2 hown5; rw [← cellsE_append, ← HNX.out] at hown5; have HO5 := Lib.hid hown5; clear hown5 hgrow5)
        go_roundg g2
        case measure => omega
        case rel => exact ⟨i + 1, u + 1, A5, c5, by have := HIG.out; omega, by omega, by go_num, rfl, h51, h52, by rw [HNX.out, List.length_append, HU.out]; rfl, HO5, HB5⟩

end Go.Proofs.Ytkebeadaoiiokaa
namespace Go.Proofs.Ytkebeadaoiiokaa
open Go.RowKit

theorem start_upto {l : List Ed} {v : Int} {k : Nat} (h : l.length ≤ k) : (fil (fun p : Ed => decide (p.1 < v)) l k).length = startE l v := by rw [fil_all h]; rfl

theorem wl_step (e : Ed) (l : List Ed) (k : Nat) {x : Ed} (h : l[k]? = some x) : (l.take (k + 1)).foldl (wStep e) ([], false) = wStep e ((l.take k).foldl (wStep e) ([], false)) x := by
  rw [List.take_add_one, h, List.foldl_append]
  rfl
theorem ws_keep {e x : Ed} {out : List Ed} {laid : Bool} (h : laid = true ∨ aheadE x e = true) (hx : x ≠ e) : wStep e (out, laid) x = (out ++ [x], laid) := by
  unfold wStep
  rcases h with h | h <;> simp [h, hx]
theorem ws_drop {e x : Ed} {out : List Ed} (hx : x = e) : wStep e (out, true) x = (out, true) := by
  unfold wStep
  simp [hx]
theorem ws_both {e x : Ed} {out : List Ed} (h : aheadE x e = false) (hx : x ≠ e) : wStep e (out, false) x = (out ++ [e] ++ [x], true) := by
  unfold wStep
  simp [h, hx]
theorem ws_one {e x : Ed} {out : List Ed} (hx : x = e) : wStep e (out, false) x = (out ++ [e], true) := by
  unfold wStep
  simp [hx, ahead_irrefl]

set_option maxRecDepth 100000 in
set_option maxHeartbeats 8000000 in
theorem with_any (e : Ed) (A : Option Addr) (n c : Nat) (zs : List Ed) (hn : n ≤ 1000) (w : World) (hR : Reads w w.heap.size 3 A n (cellsE zs)) :
    Calls Try.prog 64 #[.slice A n c, .agg #[.int .i64 e.1, .int .i64 e.2.1, .int .i64 e.2.2]] w (RowIs (withE zs e) w) := by
  obtain ⟨bx, b0⟩ := box_new w #[.int .i64 e.1, .int .i64 e.2.1, .int .i64 e.2.2] 34
  have HL := Lib.hid (reads_len hR)
  have HR := Lib.hid fun W (h : Below w.heap.size w W) => (hR.below h)
  obtain ⟨i0, hi, hz0, hz1, hz2⟩ := info_parts pair_info
  have B0 := Lib.hid b0
  have BX := Lib.hid bx
  clear hR bx b0
  go_enter Try.func64, Try.ntmps64
  go_wp2_with fail
  generalize w.alloc (.cells #[.int .i64 e.1, .int .i64 e.2.1, .int .i64 e.2.2] 34) = W0 at *
  have hX0 := BX.out.lt
  go_loopg [5, 6, 11] n (fun gg s5 s6 s11 wr => ∃ (i u : Nat) (A' : Option Addr) (c' : Nat) (out : List Ed) (laid : Bool), i + gg = n ∧ u ≤ 2 * i ∧ s11 = .int .i64 i ∧ s6 = .bool laid ∧ s5 = .slice A' u c' ∧ u ≤ c' ∧ c' ≤ 9223372036854775807 ∧ Hid ((zs.take i).foldl (wStep e) ([], false) = (out, laid)) ∧ Hid (out.length = u) ∧
    Hid (wr.ownsRow W0.heap.size 34 3 (.slice A' u c') u (cellsE out)) ∧ Hid (Below W0.heap.size W0 wr))
  case atStart => exact ⟨0, 0, none, 0, [], false, by omega, by omega, rfl, rfl, rfl, Nat.le_refl _, by decide, rfl, rfl, World.ownsRow_nil _ _ _ _, Below.refl _ _⟩
  case round =>
    obtain ⟨i, u, A', c', out, laid, hig, hui, rfl, rfl, rfl, huc, hcm, HF, HU, HO, HB⟩ := hrel
    cases gk with
    | zero =>
      have hge : ¬ (i : Int) < (n : Int) := by omega
      have HW : Hid (withE zs e = if laid = true then out else out ++ [e]) := by
        show _ = _
        unfold withE
        have := HF.out
        rw [List.take_of_length_le (by rw [HL.out]; omega)] at this
        rw [this]
      have hin : u ≤ 2000 := by omega
      have HBX := Lib.hid (BX.out.below HB.out hX0)
      have hsz2 := HB.out.size
      clear hig HF
      cases laid
      · have HW2 : Hid (withE zs e = out ++ [e]) := HW.out
        have z0 := HBX.out.cell 0
        have z1 := HBX.out.cell 1
        have z2 := HBX.out.cell 2
        go_wp2_with (at_builtin; refine wpList_append_any _ rfl (.tmp 37) (.tmp 39) 22 rfl W0.heap.size 34 i0 _ 3 24 Try.underlying22 hi hz0 hz1 hz2 rfl (by decide) (.slice A' u c') u _ rfl (HO.out.alloc _) (wr.heap.size + 1) (some ⟨wr.heap.size, 0, none⟩) 1 _ (cellsE [e]) rfl (pair_one wr e) (cellsE_one _) (by unfold maxLen; omega) (by omega) (by simp; omega) ?_; intro v5 w5 hown5 hgrow5 _; have HB5 : Hid (Below W0.heap.size W0 w5) := (HB.out.alloc hsz2 _).grown hgrow5 (by simp; omega) (fun k hk => (HO.out.lt k hk).1); obtain ⟨A5, c5, rfl, h51, h52⟩ := own_form2 hown5; rw [← cellsE_append] at hown5; have HO5 := Lib.hid hown5; clear hown5 hgrow5)
        have HE := Lib.hid (row_end B0.out (by rw [List.length_append, HU.out]; rfl) HO5.out h51 h52 HB5.out)
        rw [← HW2.out] at HE
        go_wp2_with fail
        go_ret
        exact HE.out
      · have HW2 : Hid (withE zs e = out) := HW.out
        have HE := Lib.hid (row_end B0.out HU.out HO.out huc hcm HB.out)
        rw [← HW2.out] at HE
        go_wp2_with fail
        go_ret
        exact HE.out
    | succ g2 =>
      have hlt : (i : Int) < (n : Int) := by omega
      have hin : i < n := by omega
      have huin : u ≤ 2000 := by omega
      obtain ⟨x, hx⟩ : ∃ x, zs[i]? = some x := ⟨zs[i]'(by rw [HL.out]; omega), List.getElem?_eq_getElem _⟩
      obtain ⟨b, o, rfl, hb, g0, g1, gk2⟩ := ed_at (HR.out _ (B0.out.trans (HB.out.mono B0.out.size))) hx
      have HIG := Lib.hid hig
      have HST := Lib.hid (wl_step e zs i hx)
      rw [HF.out] at HST
      have hsz := HB.out.size
      have HX := Lib.hid (Blk.new wr 34 #[.int .i64 x.1, .int .i64 x.2.1, .int .i64 x.2.2])
      have HO1 := Lib.hid (HO.out.alloc (.cells #[.int .i64 x.1, .int .i64 x.2.1, .int .i64 x.2.2] 34))
      have HB1 := Lib.hid (HB.out.alloc hsz (.cells #[.int .i64 x.1, .int .i64 x.2.1, .int .i64 x.2.2] 34))
      have HOL : Hid (∀ g, (Value.slice A' u c').ownBlock = some g → g < wr.heap.size) := fun g hg => (HO.out.lt g hg).2
      obtain ⟨X, hX⟩ : ∃ X, wr.heap.size = X := ⟨_, rfl⟩
      rw [hX] at HX HOL
      clear hig hx
      go_upto_region 6 with fail
      clear g0 g1 gk2 hX HB HO HF
      generalize wr.alloc (.cells #[.int .i64 x.1, .int .i64 x.2.1, .int .i64 x.2.2] 34) = wx at *
      have hXl := HX.out.lt
      have HBE := Lib.hid (BX.out.below HB1.out hX0)
      cases laid
      · have HAH := Lib.hid fun W => rahead_any x e W
        have z0 := HX.out.cell 0
        have z1 := HX.out.cell 1
        have z2 := HX.out.cell 2
        have e0 := HBE.out.cell 0
        have e1 := HBE.out.cell 1
        have e2 := HBE.out.cell 2
        cases ha : aheadE x e
        · rw [ha] at HAH
          by_cases hxe : x = e
          · subst hxe
            have HN := Lib.hid (HST.out.trans (ws_one rfl))
            clear ha HST
            go_wp2_with fail
            refine (HAH.out _).mono ?_
            rintro e9 wy ⟨rfl, b9⟩
            have HB2 : Hid (Below W0.heap.size W0 wy) := HB1.out.trans (b9.mono HB1.out.size)
            have HO2 := Lib.hid (own_below2 HO1.out b9 (Nat.le_refl _))
            have HX2 := Lib.hid (HX.out.below b9 hXl)
            have hX2 := HX2.out.lt
            have hsz2 := HB2.out.size
            have HX3 : Hid (∀ {W : World}, (wy.alloc (.cells #[.int .i64 x.1, .int .i64 x.2.1, .int .i64 x.2.2] 34)).grownBy W (Value.slice A' u c').ownBlock → Blk W X 34 #[.int .i64 x.1, .int .i64 x.2.1, .int .i64 x.2.2]) := fun h => (HX2.out.alloc _).grown h (fun h9 => absurd (HOL.out X h9.symm) (by omega))
            have HBE2 := Lib.hid (BX.out.below HB2.out hX0)
            clear z0 z1 z2 e0 e1 e2 b9 HAH HX HO1 HB1 HBE
            have z0 := HX2.out.cell 0
            have z1 := HX2.out.cell 1
            have z2 := HX2.out.cell 2
            have e0 := HBE2.out.cell 0
            have e1 := HBE2.out.cell 1
            have e2 := HBE2.out.cell 2
            go_wp2_with (at_builtin; refine wpList_append_any _ rfl (.tmp 23) (.tmp 25) 22 rfl W0.heap.size 34 i0 _ 3 24 Try.underlying22 hi hz0 hz1 hz2 rfl (by decide) (.slice A' u c') u _ rfl (HO2.out.alloc _) (wy.heap.size + 1) (some ⟨wy.heap.size, 0, none⟩) 1 _ (cellsE [x]) rfl (pair_one wy x) (cellsE_one _) (by unfold maxLen; omega) (by omega) (by simp; omega) ?_; intro v5 w5 hown5 hgrow5 _; have HB5 : Hid (Below W0.heap.size W0 w5) := (HB2.out.alloc hsz2 _).grown hgrow5 (by simp; omega) (fun k hk => (HO2.out.lt k hk).1); have KB := Lib.hid (HX3.out hgrow5); have v0 := KB.out.cell 0; have v1 := KB.out.cell 1; have v2 := KB.out.cell 2; have KE := Lib.hid (BX.out.below HB5.out hX0); have u0 := KE.out.cell 0; have u1 := KE.out.cell 1; have u2 := KE.out.cell 2; have hsz5 := HB5.out.size; clear HX3; obtain ⟨A5, c5, rfl, h51, h52⟩ := own_form2 hown5; rw [← cellsE_append] at hown5; have HO5 := Lib.hid hown5; clear hown5 hgrow5)
            go_roundg g2
            case measure => omega
            case rel => exact ⟨i + 1, u + 1, A5, c5, out ++ [x], true, by have := HIG.out; omega, by omega, by go_num, rfl, rfl, h51, h52, HN, by rw [List.length_append, HU.out]; rfl, HO5, HB5⟩
          · have HN := Lib.hid (HST.out.trans (ws_both ha hxe))
            have hne := bool_ne hxe
            clear ha HST hxe
            go_wp2_with fail
            refine (HAH.out _).mono ?_
            rintro e9 wy ⟨rfl, b9⟩
            have HB2 : Hid (Below W0.heap.size W0 wy) := HB1.out.trans (b9.mono HB1.out.size)
            have HO2 := Lib.hid (own_below2 HO1.out b9 (Nat.le_refl _))
            have HX2 := Lib.hid (HX.out.below b9 hXl)
            have hX2 := HX2.out.lt
            have hsz2 := HB2.out.size
            have HX3 : Hid (∀ {W : World}, (wy.alloc (.cells #[.int .i64 e.1, .int .i64 e.2.1, .int .i64 e.2.2] 34)).grownBy W (Value.slice A' u c').ownBlock → Blk W X 34 #[.int .i64 x.1, .int .i64 x.2.1, .int .i64 x.2.2]) := fun h => (HX2.out.alloc _).grown h (fun h9 => absurd (HOL.out X h9.symm) (by omega))
            have HBE2 := Lib.hid (BX.out.below HB2.out hX0)
            clear z0 z1 z2 e0 e1 e2 b9 HAH HX HO1 HB1 HBE
            have z0 := HX2.out.cell 0
            have z1 := HX2.out.cell 1
            have z2 := HX2.out.cell 2
            have e0 := HBE2.out.cell 0
            have e1 := HBE2.out.cell 1
            have e2 := HBE2.out.cell 2
            rcases hne with n1 | ⟨n1, n2⟩ | ⟨n1, n2, n3⟩
            all_goals
              go_wp2_with (first | (at_builtin; refine wpList_append_any _ rfl (.tmp 23) (.tmp 25) 22 rfl W0.heap.size 34 i0 _ 3 24 Try.underlying22 hi hz0 hz1 hz2 rfl (by decide) (.slice A' u c') u _ rfl (HO2.out.alloc _) (wy.heap.size + 1) (some ⟨wy.heap.size, 0, none⟩) 1 _ (cellsE [e]) rfl (pair_one wy e) (cellsE_one _) (by unfold maxLen; omega) (by omega) (by simp; omega) ?_; intro v5 w5 hown5 hgrow5 _; have HB5 : Hid (Below W0.heap.size W0 w5) := (HB2.out.alloc hsz2 _).grown hgrow5 (by simp; omega) (fun k hk => (HO2.out.lt k hk).1); have KB := Lib.hid (HX3.out hgrow5); have v0 := KB.out.cell 0; have v1 := KB.out.cell 1; have v2 := KB.out.cell 2; have KE := Lib.hid (BX.out.below HB5.out hX0); have u0 := KE.out.cell 0; have u1 := KE.out.cell 1; have u2 := KE.out.cell 2; have hsz5 := HB5.out.size; clear HX3; obtain ⟨A5, c5, rfl, h51, h52⟩ := own_form2 hown5; rw [← cellsE_append] at hown5; have HO5 := Lib.hid hown5; clear hown5 hgrow5) | (at_builtin; refine wpList_append_any _ rfl (.tmp 30) (.tmp 32) 22 rfl W0.heap.size 34 i0 _ 3 24 Try.underlying22 hi hz0 hz1 hz2 rfl (by decide) (.slice A5 (u + 1) c5) (u + 1) _ rfl (HO5.out.alloc _) (w5.heap.size + 1) (some ⟨w5.heap.size, 0, none⟩) 1 _ (cellsE [x]) rfl (pair_one w5 x) (cellsE_one _) (by unfold maxLen; omega) (by omega) (by simp; omega) ?_; intro v6 w6 hown6 hgrow6 _; have HB6 : Hid (Below W0.heap.size W0 w6) := (HB5.out.alloc hsz5 _).grown hgrow6 (by simp; omega) (fun k hk => (HO5.out.lt k hk).1); obtain ⟨A6, c6, rfl, h61, h62⟩ := own_form2 hown6; rw [← cellsE_append] at hown6; have HO6 := Lib.hid hown6; clear hown6 hgrow6) | fail)
              go_roundg g2
              case measure => omega
              case rel => exact ⟨i + 1, u + 1 + 1, A6, c6, out ++ [e] ++ [x], true, by have := HIG.out; omega, by omega, by go_num, rfl, rfl, h61, h62, HN, by rw [List.length_append, List.length_append, HU.out]; rfl, HO6, HB6⟩
        · rw [ha] at HAH
          have hxe : x ≠ e := fun h => by rw [h, ahead_irrefl] at ha; cases ha
          have HN := Lib.hid (HST.out.trans (ws_keep (.inr ha) hxe))
          have hne := bool_ne hxe
          clear ha HST hxe
          go_wp2_with fail
          refine (HAH.out _).mono ?_
          rintro e9 wy ⟨rfl, b9⟩
          have HB2 : Hid (Below W0.heap.size W0 wy) := HB1.out.trans (b9.mono HB1.out.size)
          have HO2 := Lib.hid (own_below2 HO1.out b9 (Nat.le_refl _))
          have HX2 := Lib.hid (HX.out.below b9 hXl)
          have hX2 := HX2.out.lt
          have hsz2 := HB2.out.size
          have HX3 : Hid (∀ {W : World}, (wy.alloc (.cells #[.int .i64 e.1, .int .i64 e.2.1, .int .i64 e.2.2] 34)).grownBy W (Value.slice A' u c').ownBlock → Blk W X 34 #[.int .i64 x.1, .int .i64 x.2.1, .int .i64 x.2.2]) := fun h => (HX2.out.alloc _).grown h (fun h9 => absurd (HOL.out X h9.symm) (by omega))
          have HBE2 := Lib.hid (BX.out.below HB2.out hX0)
          clear z0 z1 z2 e0 e1 e2 b9 HAH HX HO1 HB1 HBE
          have z0 := HX2.out.cell 0
          have z1 := HX2.out.cell 1
          have z2 := HX2.out.cell 2
          have e0 := HBE2.out.cell 0
          have e1 := HBE2.out.cell 1
          have e2 := HBE2.out.cell 2
          clear HX3
          rcases hne with n1 | ⟨n1, n2⟩ | ⟨n1, n2, n3⟩
          all_goals
            go_wp2_with (at_builtin; refine wpList_append_any _ rfl (.tmp 30) (.tmp 32) 22 rfl W0.heap.size 34 i0 _ 3 24 Try.underlying22 hi hz0 hz1 hz2 rfl (by decide) (.slice A' u c') u _ rfl (HO2.out.alloc _) (wy.heap.size + 1) (some ⟨wy.heap.size, 0, none⟩) 1 _ (cellsE [x]) rfl (pair_one wy x) (cellsE_one _) (by unfold maxLen; omega) (by omega) (by simp; omega) ?_; intro v5 w5 hown5 hgrow5 _; have HB5 : Hid (Below W0.heap.size W0 w5) := (HB2.out.alloc hsz2 _).grown hgrow5 (by simp; omega) (fun k hk => (HO2.out.lt k hk).1); obtain ⟨A5, c5, rfl, h51, h52⟩ := own_form2 hown5; rw [← cellsE_append] at hown5; have HO5 := Lib.hid hown5; clear hown5 hgrow5)
            go_roundg g2
            case measure => omega
            case rel => exact ⟨i + 1, u + 1, A5, c5, out ++ [x], false, by have := HIG.out; omega, by omega, by go_num, rfl, rfl, h51, h52, HN, by rw [List.length_append, HU.out]; rfl, HO5, HB5⟩
      · have z0 := HX.out.cell 0
        have z1 := HX.out.cell 1
        have z2 := HX.out.cell 2
        have e0 := HBE.out.cell 0
        have e1 := HBE.out.cell 1
        have e2 := HBE.out.cell 2
        have hsz2 := HB1.out.size
        by_cases hxe : x = e
        · subst hxe
          have HN := Lib.hid (HST.out.trans (ws_drop rfl))
          clear HST
          go_wp2_with fail
          go_roundg g2
          case measure => omega
          case rel => exact ⟨i + 1, u, A', c', out, true, by have := HIG.out; omega, by omega, by go_num, rfl, rfl, huc, hcm, HN, HU, HO1, HB1⟩
        · have HN := Lib.hid (HST.out.trans (ws_keep (.inl rfl) hxe))
          have hne := bool_ne hxe
          clear HST hxe
          rcases hne with n1 | ⟨n1, n2⟩ | ⟨n1, n2, n3⟩
          all_goals
            go_wp2_with (at_builtin; refine wpList_append_any _ rfl (.tmp 30) (.tmp 32) 22 rfl W0.heap.size 34 i0 _ 3 24 Try.underlying22 hi hz0 hz1 hz2 rfl (by decide) (.slice A' u c') u _ rfl (HO1.out.alloc _) (wx.heap.size + 1) (some ⟨wx.heap.size, 0, none⟩) 1 _ (cellsE [x]) rfl (pair_one wx x) (cellsE_one _) (by unfold maxLen; omega) (by omega) (by simp; omega) ?_; intro v5 w5 hown5 hgrow5 _; have HB5 : Hid (Below W0.heap.size W0 w5) := (HB1.out.alloc hsz2 _).grown hgrow5 (by simp; omega) (fun k hk => (HO1.out.lt k hk).1); obtain ⟨A5, c5, rfl, h51, h52⟩ := own_form2 hown5; rw [← cellsE_append] at hown5; have HO5 := Lib.hid hown5; clear hown5 hgrow5)
            go_roundg g2
            case measure => omega
            case rel => exact ⟨i + 1, u + 1, A5, c5, out ++ [x], true, by have := HIG.out; omega, by omega, by go_num, rfl, rfl, h51, h52, HN, by rw [List.length_append, HU.out]; rfl, HO5, HB5⟩
end Go.Proofs.Ytkebeadaoiiokaa
namespace Go.Proofs.Ytkebeadaoiiokaa
open Go.RowKit

theorem with_len (l : List Ed) (e : Ed) : (withE l e).length ≤ l.length + 1 := by
  obtain ⟨pre, post, h1, _, _, h4⟩ := w_not e l []
  have hw : withE l e = pre ++ [e] ++ post.filter (fun x => decide (x ≠ e)) := by unfold withE; rw [h4]; simp
  rw [hw, h1]
  have := List.length_filter_le (fun x => decide (x ≠ e)) post
  simp only [List.length_append, List.length_singleton]
  omega
theorem of_step (l : List Ed) (k : Nat) {x : Ed} (h : l[k]? = some x) : ofE (l.take (k + 1)) = withE (ofE (l.take k)) x := by
  unfold ofE
  rw [List.take_add_one, h, List.foldl_append]
  rfl
theorem gis_end {nodes : Int} {ps : List Ed} {w W : World} {A : Option Addr} {c X : Nat} {a b : Value} {base : Nat} (hbase : w.heap.size ≤ base) (ho : W.ownsRow base 34 3 (.slice A ps.length c) ps.length (cellsE ps)) (h1 : ps.length ≤ c) (h2 : c ≤ 9223372036854775807) (hb : Below w.heap.size w W) (hX : w.heap.size ≤ X) (hx : Blk W X 24 #[a, b]) :
    GIs nodes ps w (.returned (.agg #[.int .i64 nodes, .slice A ps.length c])) ((W.setCell ⟨X, 0, none⟩ (.int .i64 nodes)).setCell ⟨X, 1, none⟩ (.slice A ps.length c)) :=
  ⟨A, c, rfl, own_store2 (own_base ho hbase) hx (by decide) _ _, h1, h2, below_store2 hb hX _ _⟩

set_option maxRecDepth 100000 in
set_option maxHeartbeats 4000000 in
theorem rof_any (nodes : Int) (A : Option Addr) (n c : Nat) (zs : List Ed) (hn : n ≤ 900) (w : World) (hR : Reads w w.heap.size 3 A n (cellsE zs)) :
    Calls Try.prog 37 #[.int .i64 nodes, .slice A n c] w (GIs nodes (ofE zs) w) := by
  obtain ⟨k0, k1, b0⟩ := two_new w #[.int .i64 0, .slice none 0 0] #[.int .i64 nodes, .slice none 0 0] 24 24
  have HL := Lib.hid (reads_len hR)
  have HR := Lib.hid fun W (h : Below w.heap.size w W) => (hR.below h)
  have K0 := Lib.hid k0
  have K1 := Lib.hid k1
  have B0 := Lib.hid b0
  clear hR b0 k0 k1
  go_enter Try.func37, Try.ntmps37
  go_wp2_with fail
  generalize (w.alloc (.cells #[.int .i64 0, .slice none 0 0] 24)).alloc (.cells #[.int .i64 nodes, .slice none 0 0] 24) = W0 at *
  go_loopg [12] n (fun gg s12 wr => ∃ (i u : Nat) (A' : Option Addr) (c' : Nat), i + gg = n ∧ u ≤ i ∧ s12 = .int .i64 i ∧ Hid ((ofE (zs.take i)).length = u) ∧
    Hid (wr.ownsRow w.heap.size 34 3 (.slice A' u c') u (cellsE (ofE (zs.take i)))) ∧ Hid (u ≤ c' ∧ c' ≤ 9223372036854775807) ∧ Hid (Blk wr w.heap.size 24 #[.int .i64 0, .slice none 0 0]) ∧ Hid (Blk wr (w.heap.size + 1) 24 #[.int .i64 nodes, .slice A' u c']) ∧ Hid (Below w.heap.size w wr))
  case atStart => exact ⟨0, 0, none, 0, by omega, by omega, rfl, rfl, World.ownsRow_nil _ _ _ _, ⟨Nat.le_refl _, by decide⟩, K0, K1, B0⟩
  case round =>
    clear K0 K1 B0
    obtain ⟨i, u, A', c', hig, hui, rfl, HU, HO, HC, K0, K1, HB⟩ := hrel
    cases gk with
    | zero =>
      have hge : ¬ (i : Int) < (n : Int) := by omega
      have hin : i = n := by omega
      have HT : Hid (zs.take i = zs) := List.take_of_length_le (by rw [HL.out]; omega)
      rw [HT.out] at HU HO
      have HUU := HU.out
      subst HUU
      have HE := Lib.hid (gis_end (nodes := nodes) (Nat.le_refl _) HO.out HC.out.1 HC.out.2 HB.out (Nat.le_refl _) K0.out)
      have y0 := K1.out.cell 0
      have y1 := K1.out.cell 1
      have x0 := K0.out.cell 0
      have x1 := K0.out.cell 1
      have f0 := K0.out.frozen 0
      have f1 := K0.out.frozen 1
      have q0 := (store2 K0.out (.int .i64 nodes) (.slice A' (ofE zs).length c')).cell 0
      have q1 := (store2 K0.out (.int .i64 nodes) (.slice A' (ofE zs).length c')).cell 1
      clear hig hin HU
      go_wp2_with fail
      exact bodyPost_ret (v := .agg #[.int .i64 nodes, .slice A' (ofE zs).length c']) (by simp [results, Try.results37, go_sem, q0, q1]) rfl HE.out
    | succ g2 =>
      have hlt : (i : Int) < (n : Int) := by omega
      have hin : i < n := by omega
      obtain ⟨p, hp⟩ : ∃ p, zs[i]? = some p := ⟨zs[i]'(by rw [HL.out]; omega), List.getElem?_eq_getElem _⟩
      obtain ⟨b, o, rfl, hb, g0, g1, gk2⟩ := ed_at (HR.out _ HB.out) hp
      have HIG := Lib.hid hig
      have HST := Lib.hid (of_step zs i hp)
      have hsz := HB.out.size
      have HO1 := Lib.hid (HO.out.alloc (.cells #[.int .i64 p.1, .int .i64 p.2.1, .int .i64 p.2.2] 34))
      have HB1 := Lib.hid (HB.out.alloc hsz (.cells #[.int .i64 p.1, .int .i64 p.2.1, .int .i64 p.2.2] 34))
      have K01 := Lib.hid (K0.out.alloc (.cells #[.int .i64 p.1, .int .i64 p.2.1, .int .i64 p.2.2] 34))
      have K11 := Lib.hid (K1.out.alloc (.cells #[.int .i64 p.1, .int .i64 p.2.1, .int .i64 p.2.2] 34))
      have HX := Lib.hid (Blk.new wr 34 #[.int .i64 p.1, .int .i64 p.2.1, .int .i64 p.2.2])
      obtain ⟨X, hX⟩ : ∃ X, wr.heap.size = X := ⟨_, rfl⟩
      rw [hX] at HX
      clear hig hp
      go_upto_region 5 with fail
      clear g0 g1 gk2 hX HB HO K0 K1
      generalize wr.alloc (.cells #[.int .i64 p.1, .int .i64 p.2.1, .int .i64 p.2.2] 34) = wx at *
      have z0 := HX.out.cell 0
      have z1 := HX.out.cell 1
      have z2 := HX.out.cell 2
      have y0 := K11.out.cell 0
      have y1 := K11.out.cell 1
      have HW := Lib.hid (with_any p A' u c' (ofE (zs.take i)) (by omega) wx (reads_own HO1.out))
      have hk0 := K01.out.lt
      have hk1 := K11.out.lt
      go_wp2_with fail
      refine HW.out.mono ?_
      rintro e w2 hx
      obtain ⟨A2, c2, rfl, h1, h2, h3, h4⟩ := rows_row hx
      rw [← HST.out] at h1 h2
      have HLE : Hid ((ofE (zs.take (i + 1))).length ≤ i + 1) := by
        have := with_len (ofE (zs.take i)) p
        have h5 := HU.out
        show _ ≤ _
        rw [HST.out]; omega
      have HW2 : Hid ((withE (ofE (zs.take i)) p).length = (ofE (zs.take (i + 1))).length) := by rw [HST.out]; exact rfl
      have HB2 : Hid (Below w.heap.size w w2) := HB1.out.trans (h4.mono HB1.out.size)
      have K02 := Lib.hid (K01.out.below h4 hk0)
      have K12 := Lib.hid (K11.out.below h4 hk1)
      have HO2 := Lib.hid (own_base h1 HB1.out.size)
      have HC2 := Lib.hid (And.intro h2 h3)
      rw [HW2.out]
      generalize hu2 : (ofE (zs.take (i + 1))).length = u2 at *
      have q0 := K12.out.cell 0
      have q1 := K12.out.cell 1
      have f1 := K12.out.frozen 1
      have HO3 := Lib.hid (own_store (k := 1) HO2.out K12.out (by decide) (.slice A2 u2 c2))
      have HB3 := Lib.hid (HB2.out.setCell (p := ⟨w.heap.size + 1, 1, none⟩) (Nat.le_succ _) (.slice A2 u2 c2))
      have K03 := Lib.hid (K02.out.far (p := ⟨w.heap.size + 1, 1, none⟩) (by simp) (.slice A2 u2 c2))
      have K13 : Hid (Blk (w2.setCell ⟨w.heap.size + 1, 1, none⟩ (.slice A2 u2 c2)) (w.heap.size + 1) 24 #[.int .i64 nodes, .slice A2 u2 c2]) := by
        show Blk _ _ _ _
        have := K12.out.set_ 1 (.slice A2 u2 c2)
        simpa using this
      have HU2 := Lib.hid hu2
      have hle := HLE.out
      clear h1 h2 h3 h4 hx HB2 K02 K12 HO2 HW z0 z1 z2 y0 y1 HO1 HB1 K01 K11 HX hu2 HW2 HST HLE
      go_wp2_with fail
      go_roundg g2
      case measure => omega
      case rel => exact ⟨i + 1, u2, A2, c2, by have := HIG.out; omega, hle, by go_num, HU2, HO3, HC2, K03, K13, HB3⟩

def flips (l : List Ed) (k : Nat) : List Ed := (l.take k).map flipE
theorem flips_next {l : List Ed} {k : Nat} {x : Ed} (h : l[k]? = some x) : flips l (k + 1) = flips l k ++ [flipE x] := by
  unfold flips; rw [List.take_add_one, h, List.map_append]; rfl
theorem flips_len {l : List Ed} {k : Nat} (h : k ≤ l.length) : (flips l k).length = k := by unfold flips; rw [List.length_map, List.length_take]; omega

end Go.Proofs.Ytkebeadaoiiokaa
namespace Go.Proofs.Ytkebeadaoiiokaa
open Go.RowKit

/-- A row of edges, one or more, leads from the one to the other. -/
inductive Leads (zs : List Ed) (u : Int) : Int → Prop
  | one {p : Ed} : p ∈ zs → p.1 = u → Leads zs u p.2.1
  | more {p : Ed} : Leads zs u p.1 → p ∈ zs → Leads zs u p.2.1
theorem Leads.trans {zs : List Ed} {u v x : Int} (h : Leads zs u v) (k : Leads zs v x) : Leads zs u x := by
  induction k with
  | one hp hu => subst hu; exact .more h hp
  | more _ hp ih => exact .more ih hp
theorem Leads.mono {zs ys : List Ed} {u v : Int} (hs : ∀ p ∈ zs, p ∈ ys) (h : Leads zs u v) : Leads ys u v := by
  induction h with
  | one hp hu => exact .one (hs _ hp) hu
  | more _ hp ih => exact .more ih (hs _ hp)
theorem Leads.ends {zs : List Ed} {nodes u v : Int} (hz : ∀ p ∈ zs, rightE nodes p = true) (h : Leads zs u v) : (0 ≤ u ∧ u < nodes) ∧ (0 ≤ v ∧ v < nodes) := by
  induction h with
  | one hp hu => have := of_decide_eq_true (hz _ hp); subst hu; exact ⟨this.1, this.2.1⟩
  | more _ hp ih => have := of_decide_eq_true (hz _ hp); exact ⟨ih.1, this.2.1⟩
/-- How far the search has come: ex are those whose edges are being gone over. -/
structure Bfs (zs : List Ed) (m : Nat) (v : Int) (ex : Int → Prop) (out : List Bool) (todo : List Int) : Prop where
  len : out.length = m
  sound : ∀ u : Nat, out[u]? = some true → Leads zs v u
  rows : ∀ x ∈ todo, (0 ≤ x ∧ x < m) ∧ (x = v ∨ Leads zs v x)
  closed : ∀ x : Int, 0 ≤ x → (x = v ∨ out[x.toNat]? = some true) → ¬ ex x → x ∈ todo ∨ ∀ p ∈ zs, p.1 = x → out[p.2.1.toNat]? = some true
theorem Bfs.start {zs : List Ed} {m : Nat} {v : Int} (h : 0 ≤ v ∧ v < m) : Bfs zs m v (fun _ => False) (List.replicate m false) [v] := by
  refine ⟨List.length_replicate, fun u hu => ?_, fun x hx => ?_, fun x _ hx _ => ?_⟩
  · rw [List.getElem?_replicate] at hu
    split at hu <;> simp at hu
  · simp at hx; subst hx; exact ⟨h, .inl rfl⟩
  · rcases hx with rfl | hx
    · exact .inl (by simp)
    · rw [List.getElem?_replicate] at hx
      split at hx <;> simp at hx
theorem Bfs.pop {zs : List Ed} {m : Nat} {v x : Int} {out : List Bool} {rest : List Int} (h : Bfs zs m v (fun _ => False) out (x :: rest)) : Bfs zs m v (fun y => y = x) out rest ∧ (0 ≤ x ∧ x < m) ∧ (x = v ∨ Leads zs v x) := by
  refine ⟨⟨h.len, h.sound, fun y hy => h.rows y (.tail _ hy), fun y h0 hy hex => ?_⟩, h.rows x (.head _)⟩
  rcases h.closed y h0 hy (fun e => e) with h1 | h1
  · rcases List.mem_cons.1 h1 with h2 | h2
    · exact absurd h2 hex
    · exact .inl h2
  · exact .inr h1
theorem count_set : ∀ (l : List Bool) (y : Nat), l[y]? = some false → (l.set y true).count false + 1 = l.count false
  | [], y, h => by simp at h
  | b :: l, 0, h => by simp at h; subst h; simp
  | b :: l, y + 1, h => by
    simp at h
    have := count_set l y h
    cases b <;> simp <;> omega
theorem set_true {out : List Bool} {y u : Nat} (h : out[u]? = some true) : (out.set y true)[u]? = some true := by
  rw [List.getElem?_set]
  have := (List.getElem?_eq_some_iff.1 h).1
  split
  · rename_i e; subst e; rw [if_pos this]
  · exact h
theorem Bfs.push {zs : List Ed} {m : Nat} {v : Int} {ex : Int → Prop} {out : List Bool} {todo : List Int} (h : Bfs zs m v ex out todo) {y : Nat} (hy : y < m) (hl : Leads zs v y) : Bfs zs m v ex (out.set y true) (todo ++ [(y : Int)]) := by
  refine ⟨by rw [List.length_set, h.len], fun u hu => ?_, fun x hx => ?_, fun x h0 hx hex => ?_⟩
  · rw [List.getElem?_set] at hu
    split at hu
    · rename_i e; subst e; exact hl
    · exact h.sound u hu
  · rcases List.mem_append.1 hx with hx | hx
    · exact h.rows x hx
    · simp at hx; subst hx; exact ⟨by omega, .inr hl⟩
  · by_cases e : x = (y : Int)
    · exact .inl (by simp [e])
    · have hx' : x = v ∨ out[x.toNat]? = some true := by
        rcases hx with hx | hx
        · exact .inl hx
        · rw [List.getElem?_set, if_neg (by omega)] at hx
          exact .inr hx
      rcases h.closed x h0 hx' hex with h1 | h1
      · exact .inl (List.mem_append_left _ h1)
      · exact .inr fun p hp he => set_true (h1 p hp he)
theorem Bfs.done {zs : List Ed} {m : Nat} {v x : Int} {out : List Bool} {todo : List Int} (h : Bfs zs m v (fun y => y = x) out todo) (hx : ∀ p ∈ zs, p.1 = x → out[p.2.1.toNat]? = some true) : Bfs zs m v (fun _ => False) out todo := by
  refine ⟨h.len, h.sound, h.rows, fun y h0 hy _ => ?_⟩
  by_cases e : y = x
  · subst e; exact .inr hx
  · exact h.closed y h0 hy e
theorem Bfs.out {zs : List Ed} {m : Nat} {v : Int} {out : List Bool} (h : Bfs zs m v (fun _ => False) out []) (hz : ∀ p ∈ zs, rightE (m : Int) p = true) (u : Nat) : out[u]? = some true ↔ Leads zs v u := by
  refine ⟨h.sound u, fun hl => ?_⟩
  have : ∀ y, Leads zs v y → out[y.toNat]? = some true := by
    intro y hy
    induction hy with
    | @one p hp hu =>
      have := (of_decide_eq_true (hz _ hp)).1.1
      rcases h.closed p.1 this (.inl hu) (fun e => e) with h1 | h1
      · simp at h1
      · exact h1 p hp rfl
    | @more p _ hp ih =>
      have := (of_decide_eq_true (hz _ hp)).1.1
      rcases h.closed p.1 this (.inr ih) (fun e => e) with h1 | h1
      · simp at h1
      · exact h1 p hp rfl
  simpa using this u hl

/-- A row of bools, as cells. -/
def bools (bs : List Bool) : List Value := bs.map Value.bool
theorem bools_length (bs : List Bool) : (bools bs).length = bs.length := by unfold bools; simp
theorem bools_one (bs : List Bool) : ∀ u ∈ bools bs, u.oneCell' = true := by
  intro u hu
  obtain ⟨b, _, rfl⟩ := List.mem_map.1 hu
  rfl
theorem bools_set (bs : List Bool) (k : Nat) (b : Bool) : (bools bs).set k (.bool b) = bools (bs.set k b) := by unfold bools; rw [List.map_set]
theorem bools_get {bs : List Bool} {k : Nat} {b : Bool} (h : bs[k]? = some b) : (bools bs)[k]? = some (.bool b) := by unfold bools; rw [List.getElem?_map, h]; rfl
theorem bool_info : (Try.prog.info? 4).map (fun i => (i.zero, i.size, i.bytes)) = some (some (.bool false), 1, 1) := by kernel_rfl
theorem made_bools (n : Nat) : madeCells (Value.bool false).cells (n * 1) = (bools (List.replicate n false)).toArray := by
  apply Array.ext
  · rw [size_madeCells, List.size_toArray, bools_length, List.length_replicate, Nat.mul_one]
  · intro j h1 h2
    have hz : (Value.bool false).cells = #[.bool false] := by simp [Value.cells]
    simp only [madeCells, hz, Array.getElem_map, Array.getElem_range, List.getElem_toArray, bools, List.getElem_map, List.getElem_replicate]
    simp [Nat.mod_one]
theorem bool_make (n : Nat) (z : Int) (hz : z = (n : Int)) (hn : n ≤ 1000000) (W : World) :
    (Instr.makeSlice 99 (.int .i64 z) (.int .i64 z)).run Try.prog W = .ok (.slice (some ⟨W.heap.size, 0, none⟩) n n) (W.alloc (.cells (bools (List.replicate n false)).toArray 4)) := by
  subst hz
  obtain ⟨i0, hi, hz0, hz1, hz2⟩ := info_parts bool_info
  have hr := run_make (P := Try.prog) W 99 4 i0 _ Try.underlying99 hi hz0 .i64 .i64 n n (by omega) (by omega) (by rw [hz2]; omega) (by omega)
  simp only [Int.toNat_natCast] at hr
  rw [hz1, made_bools] at hr
  exact hr
theorem own_kind {W W' : World} {base n size : Nat} {e : TypeId} {v : Value} {xs : List Value} (h : W.ownsRow base e size v n xs) (hk : ∀ C cs, Blk W C e cs → Blk W' C e cs) : W'.ownsRow base e size v n xs := by
  refine ⟨h.1, ?_⟩
  rcases h.2 with hn | ⟨g, cap, cur, hv, hbg, hb, rest⟩
  · exact .inl hn
  · exact .inr ⟨g, cap, cur, hv, hbg, hk g cur hb, rest⟩
/-- Bools, in memory of the call's own. -/
def BoolsIs (bs : List Bool) (w : World) (e : Ending) (w' : World) : Prop :=
  ∃ (A : Option Addr) (c : Nat), e = .returned (.slice A bs.length c) ∧ w'.ownsRow w.heap.size 4 1 (.slice A bs.length c) bs.length (bools bs) ∧ bs.length ≤ c ∧ c ≤ 9223372036854775807 ∧ Below w.heap.size w w'
theorem blk_own1 {W : World} {B X n : Nat} {e : TypeId} {xs : List Value} (hB : B ≤ X) (h : Blk W X e xs.toArray) (hl : xs.length = n) (hn : n ≤ 1000000) : W.ownsRow B e 1 (.slice (some ⟨X, 0, none⟩) n n) n xs := by
  refine ⟨by omega, .inr ⟨X, n, _, rfl, hB, h, Nat.le_refl _, by unfold maxLen; omega, by simp; omega, ?_⟩⟩
  rw [List.take_of_length_le (by simp; omega)]
end Go.Proofs.Ytkebeadaoiiokaa
namespace Go.Proofs.Ytkebeadaoiiokaa
open Go.RowKit Go.Shelf

theorem iq_elem_size (W : World) : (sizeOf (Try.prog.elem 35)).run Try.prog W = .ok 1 W := by kernel_rfl
theorem iq_slice_1 (A : Option Addr) (len cap : Nat) (hl : 1 ≤ len) (W : World) :
    (Instr.slice 35 (.slice A len cap) (some (.int .i64 1)) none none).run Try.prog W = .ok (.slice (if cap = 1 then A else A.map (·.add 1)) (len - 1) (cap - 1)) W := by
  rw [run_slice_l W 35 A len cap (show Try.prog.underlying 35 = some (.slice (Try.prog.elem 35)) by kernel_rfl) .i64 1 (by omega) (by omega), iq_elem_size]
  rfl
theorem QRow.setOther {w : World} {base n X k : Nat} {e t : TypeId} {v u : Value} {xs : List Value} {cs : Array Value} (h : QRow w base e v n xs) (hX : Blk w X t cs) (ht : e ≠ t) : QRow (w.setCell ⟨X, k, none⟩ u) base e v n xs :=
  h.kept fun _ _ _ hk => hk.far (p := ⟨X, k, none⟩) (Blk.ne_ hk hX ht) _
/-- How far the search has come, in memory. -/
structure BfsAt (w : World) (X : Nat) (out : List Bool) (todo : List Int) (A : Option Addr) (n c : Nat) (W : World) : Prop where
  below : Below w.heap.size w W
  blk : Blk W X 4 (bools out).toArray
  row : QRow W w.heap.size 3 (.slice A n c) n (ints todo)
theorem BfsAt.on {w W W' : World} {X n c : Nat} {out : List Bool} {todo : List Int} {A : Option Addr} (h : BfsAt w X out todo A n c W) (hb : Below W.heap.size W W') : BfsAt w X out todo A n c W' :=
  ⟨h.below.trans (hb.mono h.below.size), h.blk.below hb h.blk.lt, h.row.on hb⟩
theorem BfsAt.alloc {w W : World} {X n c : Nat} {out : List Bool} {todo : List Int} {A : Option Addr} (h : BfsAt w X out todo A n c W) (o : Obj) : BfsAt w X out todo A n c (W.alloc o) := h.on ((Below.refl _ _).alloc (Nat.le_refl _) o)
theorem BfsAt.len {w W : World} {X n c : Nat} {out : List Bool} {todo : List Int} {A : Option Addr} (h : BfsAt w X out todo A n c W) : todo.length = n := by have := h.row.1; rwa [ints_length] at this
theorem BfsAt.set {w W : World} {X n c k : Nat} {out : List Bool} {todo : List Int} {A : Option Addr} (h : BfsAt w X out todo A n c W) (hX : w.heap.size ≤ X) (b : Bool) : BfsAt w X (out.set k b) todo A n c (W.setCell ⟨X, k, none⟩ (.bool b)) := by
  refine ⟨h.below.setCell hX _, ?_, h.row.setOther h.blk (by decide)⟩
  have := h.blk.set_ k (.bool b)
  rwa [List.setIfInBounds_toArray, bools_set] at this
theorem BfsAt.more {w W W' : World} {X n c c' : Nat} {out : List Bool} {todo : List Int} {A A' : Option Addr} {y : Int} (h : BfsAt w X out todo A n c W) (m : QMore W w.heap.size 3 (n + 1) (ints todo ++ [.int .i64 y]) (.slice A' (n + 1) c') W') : BfsAt w X out (todo ++ [y]) A' (n + 1) c' W' := by
  refine ⟨h.below.trans m.2.1, m.2.2 _ _ _ h.blk (by decide), ?_⟩
  rw [ints_append]
  exact m.1

set_option maxRecDepth 100000 in
set_option maxHeartbeats 4000000 in
theorem rleads_any (z v : Int) (A : Option Addr) (n c : Nat) (zs : List Ed) (hg : IsG z zs) (hv : 0 ≤ v ∧ v < z) (hn : n ≤ 1000) (w : World) (hR : Reads w w.heap.size 3 A n (cellsE zs)) :
    Calls Try.prog 84 #[.agg #[.int .i64 z, .slice A n c], .int .i64 v] w fun e w' => ∃ bs : List Bool, bs.length = z.toNat ∧ (∀ u : Nat, bs[u]? = some true ↔ Leads zs v u) ∧ BoolsIs bs w e w' := by
  obtain ⟨bx, b0⟩ := box_new w #[.int .i64 z, .slice A n c] 24
  have hnd := hg.nodes
  obtain ⟨m, hm⟩ : ∃ m : Nat, z = (m : Int) := ⟨z.toNat, by omega⟩
  have hmz : z.toNat = m := by omega
  have hm300 : m ≤ 300 := by omega
  rw [hmz]
  subst hm
  have HZ := Lib.hid hg.all
  have hmk := fun W => bool_make m (m : Int) rfl (by omega) W
  have HO := Lib.hid fun x W (h : Below w.heap.size w W) => rout_any (m : Int) x A n c zs hn W ((hR.below h).more h.size)
  obtain ⟨i0, hi, hz0, hz1, hz2⟩ := info_parts int_info
  have HZN : Hid (zs.length ≤ 1000) := by have := reads_len hR; show _ ≤ _; omega
  have B0 := Lib.hid b0
  have z0 := bx.cell 0
  have z1 := bx.cell 1
  have BX := Lib.hid bx
  have HV := Lib.hid hv
  clear hR bx b0 hg hnd hmz hv
  go_enter Try.func84, Try.ntmps84
  obtain ⟨W0, hW0⟩ : ∃ W0, w.alloc (.cells #[.int .i64 (m : Int), .slice A n c] 24) = W0 := ⟨_, rfl⟩
  rw [hW0] at B0 z0 z1 BX
  have hmk0 := hmk W0
  have S0 : Hid (BfsAt W0 W0.heap.size (List.replicate m false) [v] (some ⟨W0.heap.size + 1, 0, none⟩) 1 1 ((W0.alloc (.cells (bools (List.replicate m false)).toArray 4)).alloc (.cells #[.int .i64 v] 3))) := by
    have h1 : Below W0.heap.size W0 (W0.alloc (.cells (bools (List.replicate m false)).toArray 4)) := (Below.refl _ _).alloc (Nat.le_refl _) _
    have h2 := QRow.new (W0.alloc (.cells (bools (List.replicate m false)).toArray 4)) 3 (.int .i64 v) W0.heap.size h1.size
    rw [World.size_alloc] at h2
    exact ⟨h1.alloc h1.size _, (Blk.new _ _ _).alloc _, h2⟩
  clear hmk
  go_wp2_with fail
  clear hmk0 z0 z1 hW0
  generalize (W0.alloc (.cells (bools (List.replicate m false)).toArray 4)).alloc (.cells #[.int .i64 v] 3) = W2 at *
  go_loopg [6] (m + 1) (fun gg s6 wr => ∃ (out : List Bool) (todo : List Int) (A' : Option Addr) (k c' : Nat), s6 = .slice A' k c' ∧ out.count false + todo.length = gg ∧ gg ≤ m + 1 ∧ Hid (Bfs zs m v (fun _ => False) out todo) ∧ Hid (BfsAt W0 W0.heap.size out todo A' k c' wr))
  case atStart => exact ⟨_, _, _, _, _, rfl, by simp, Nat.le_refl _, Lib.hid (Bfs.start HV.out), S0⟩
  case round =>
    clear S0
    obtain ⟨out, todo, A', k, c', rfl, hgg, hgm, HB, HS⟩ := hrel
    rename World => wo
    have hlen := HS.out.len
    cases todo with
    | nil =>
      have hk : k = 0 := by simpa using hlen.symm
      subst hk
      have HE : Hid (out.length = m ∧ (∀ u : Nat, out[u]? = some true ↔ Leads zs v u) ∧ BoolsIs out w (.returned (.slice (some ⟨W0.heap.size, 0, none⟩) m m)) wo) := by
        have hl := HB.out.len
        refine ⟨hl, fun u => HB.out.out HZ.out u, ?_⟩
        unfold BoolsIs
        rw [hl]
        exact ⟨_, _, rfl, own_base (blk_own1 (Nat.le_refl _) HS.out.blk (by rw [bools_length, hl]) (by omega)) B0.out.size, Nat.le_refl _, by omega, B0.out.trans (HS.out.below.mono B0.out.size)⟩
      clear hgg hgm hlen
      go_wp2_with fail
      go_ret
      exact ⟨out, HE.out⟩
    | cons x rest =>
      cases gk with
      | zero => simp at hgg
      | succ g2 =>
        have hk1 : 1 ≤ k := by simp at hlen; omega
        have hkgt : (k : Int) > 0 := by omega
        have hkb : decide ((k : Int) > 0) = true := decide_eq_true hkgt
        have hlt0 : (0 : Int) < (k : Int) := by omega
        have hg2 : out.count false + rest.length = g2 := by simp at hgg; omega
        have hg2m : g2 ≤ m := by omega
        obtain ⟨qb, qo, qc, hq, q0⟩ := HS.out.row.head
        injection hq with hq1 _ hq2
        subst hq1; subst hq2
        have hs1 := iq_slice_1 (some ⟨qb, qo, none⟩) k c' hk1
        obtain ⟨A1, hA1⟩ : ∃ A1, (if c' = 1 then some (⟨qb, qo, none⟩ : Addr) else (some (⟨qb, qo, none⟩ : Addr)).map (·.add 1)) = A1 := ⟨_, rfl⟩
        have HT := HS.out.row.tail
        rw [hA1] at HT hs1
        have HS1 : Hid (BfsAt W0 W0.heap.size out rest A1 (k - 1) (c' - 1) wo) := ⟨HS.out.below, HS.out.blk, HT⟩
        have hpop := HB.out.pop
        have HB1 := Lib.hid hpop.1
        have HXR := Lib.hid hpop.2
        have HG2 := Lib.hid (And.intro hg2 hg2m)
        have bxo := BX.out.below HS.out.below BX.out.lt
        have z0 := bxo.cell 0
        have z1 := bxo.cell 1
        have HOX := Lib.hid (HO.out x wo (B0.out.trans (HS.out.below.mono B0.out.size)))
        clear hA1 HT hpop HB HS hgg hgm hlen hg2 hg2m bxo
        go_wp2_with fail
        refine HOX.out.mono ?_
        rintro e w2 hx
        obtain ⟨Ae, ce, rfl, h1, h2, h3, h4⟩ := rows_row hx
        have HS2 := Lib.hid (HS1.out.on h4)
        have HES := Lib.hid h1
        clear hx h1 h2 h3 h4 HOX HS1 z0 z1 q0 hs1
        obtain ⟨es, hes⟩ : ∃ es, outE zs x = es := ⟨_, rfl⟩
        rw [hes] at HES ⊢
        have HEQ := Lib.hid hes
        clear hes
        obtain ⟨kk, hkk⟩ : ∃ kk, es.length = kk := ⟨_, rfl⟩
        have HKK := Lib.hid hkk
        rw [hkk] at HES ⊢
        clear hkk
        go_wp2_with fail
        go_loopg [6, 27] kk (fun gg s6 s27 wr => ∃ (i : Nat) (out : List Bool) (todo : List Int) (A' : Option Addr) (k c' : Nat), i + gg = kk ∧ s27 = .int .i64 i ∧ s6 = .slice A' k c' ∧ Hid (out.count false + todo.length = g2) ∧ Hid (Bfs zs m v (fun y => y = x) out todo) ∧
          Hid (∀ j, j < i → ∀ p, es[j]? = some p → out[p.2.1.toNat]? = some true) ∧ Hid (BfsAt W0 W0.heap.size out todo A' k c' wr) ∧ Hid (wr.ownsRow wo.heap.size 34 3 (.slice Ae kk ce) kk (cellsE es)))
        case atStart => exact ⟨0, out, rest, A1, k - 1, c' - 1, by omega, rfl, rfl, HG2.out.1, HB1, fun j hj => by omega, HS2, HES⟩
        case round =>
          clear HS2 HES HB1 hk1 hkgt hkb hlt0
          obtain ⟨i, out, todo, A', k, c', hig, rfl, rfl, HC, HB, HD, HS, HES⟩ := hrel
          cases gk with
          | zero =>
            obtain rfl : i = kk := by omega
            have hlt : ¬ (i : Int) < (i : Int) := by omega
            have HDN : Hid (Bfs zs m v (fun _ => False) out todo) := HB.out.done fun p hp he => by
              have hpe : p ∈ es := by rw [← HEQ.out]; unfold outE; exact List.mem_filter.2 ⟨hp, decide_eq_true he⟩
              obtain ⟨j, hj⟩ := List.getElem?_of_mem hpe
              exact HD.out j (by have := (List.getElem?_eq_some_iff.1 hj).1; rw [HKK.out] at this; exact this) p hj
            clear hig
            go_wp2_with fail
            go_roundg g2
            case measure => omega
            case rel => exact ⟨out, todo, A', k, c', rfl, HC.out, by have := HG2.out; omega, HDN, HS⟩
          | succ g3 =>
            have hlt : (i : Int) < (kk : Int) := by omega
            have hik : i < kk := by omega
            have hw1 : IntKind.i64.wrap ((i : Int) + 1) = ((i + 1 : Nat) : Int) := by
              have h1 := HKK.out
              have h2 : es.length ≤ 1000 := by
                rw [← HEQ.out]
                unfold outE
                exact Nat.le_trans (List.length_filter_le _ _) HZN.out
              rw [IntKind.wrap_i64]; omega
            obtain ⟨p, hp⟩ : ∃ p, es[i]? = some p := ⟨es[i]'(by rw [HKK.out]; exact hik), List.getElem?_eq_getElem _⟩
            have hpz : p ∈ zs ∧ p.1 = x := by
              have := List.mem_of_getElem? hp
              rw [← HEQ.out] at this
              unfold outE at this
              exact ⟨(List.mem_filter.1 this).1, of_decide_eq_true (List.mem_filter.1 this).2⟩
            have hpr := of_decide_eq_true (HZ.out p hpz.1)
            obtain ⟨bl, ol, hAe, hbl, y0, y1, y2⟩ := ed_at (reads_own HES.out) hp
            have HL : Hid (Leads zs v p.2.1) := by
              rcases HXR.out.2 with h | h
              · exact .one hpz.1 (by rw [hpz.2]; exact h)
              · exact .more (by rw [hpz.2]; exact h) hpz.1
            have HIG : Hid (i + 1 + g3 = kk) := by show _ = _; omega
            have HP := Lib.hid hp
            obtain ⟨p1, p2, p3⟩ := p
            simp only at y0 y1 y2 hpr HL
            obtain ⟨yn, rfl⟩ : ∃ yn : Nat, p2 = (yn : Int) := ⟨p2.toNat, by omega⟩
            have hyn : yn < m := by omega
            have hynI : (yn : Int) < (m : Int) := by omega
            have HX := Lib.hid (Blk.new wr 34 #[.int .i64 p1, .int .i64 (yn : Int), .int .i64 p3])
            have HS2 := Lib.hid (HS.out.alloc (.cells #[.int .i64 p1, .int .i64 (yn : Int), .int .i64 p3] 34))
            have HES2 := Lib.hid (HES.out.alloc (.cells #[.int .i64 p1, .int .i64 (yn : Int), .int .i64 p3] 34))
            have HAE := Lib.hid hAe
            have hkn : k ≤ 301 := by
              have h1 := HS.out.len; have h2 := HC.out; have h3 := HG2.out; omega
            have HKN := Lib.hid hkn
            clear hp hpz hpr hig hbl hkn
            rw [hAe]
            clear hAe
            go_upto_region 9 with fail
            clear y0 y1 y2 HS HES
            generalize wr.alloc (.cells #[.int .i64 p1, .int .i64 (yn : Int), .int .i64 p3] 34) = wx at *
            generalize wr.heap.size = Y at *
            have y1 : wx.cell? ⟨Y, 1, none⟩ = some (.int .i64 (yn : Int)) := HX.out.cell 1
            obtain ⟨b, hb⟩ : ∃ b, out[yn]? = some b := ⟨out[yn]'(by rw [HB.out.len]; exact hyn), List.getElem?_eq_getElem _⟩
            have y3 : wx.cell? ⟨W0.heap.size, yn, none⟩ = some (.bool b) := by rw [HS2.out.blk.cell, List.getElem?_toArray]; exact bools_get hb
            have HBB := Lib.hid hb
            clear hb
            cases b
            · have f3 : wx.frozen? ⟨W0.heap.size, yn, none⟩ = false := HS2.out.blk.frozen yn
              have HS3 := Lib.hid (HS2.out.set (k := yn) (Nat.le_refl _) true)
              have hYX : Y ≠ W0.heap.size := Blk.ne_ HX.out HS2.out.blk (by decide)
              have x1 : (wx.setCell ⟨W0.heap.size, yn, none⟩ (.bool true)).cell? ⟨Y, 1, none⟩ = some (.int .i64 (yn : Int)) := (HX.out.far (p := ⟨W0.heap.size, yn, none⟩) hYX (.bool true)).cell 1
              have HES3 : Hid ((wx.setCell ⟨W0.heap.size, yn, none⟩ (.bool true)).ownsRow wo.heap.size 34 3 (.slice Ae kk ce) kk (cellsE es)) := own_kind HES2.out fun C cs hk => hk.far (p := ⟨W0.heap.size, yn, none⟩) (Blk.ne_ hk HS2.out.blk (by decide)) _
              clear hYX
              go_upto_region 11 with fail
              clear y1 y3 f3 HS2 HES2
              generalize wx.setCell ⟨W0.heap.size, yn, none⟩ (.bool true) = wy at *
              go_wp2_with (at_builtin; refine wpList_append_q _ rfl _ _ 35 rfl W0.heap.size 3 i0 _ Try.underlying35 hi hz0 hz1 (by rw [hz2]; decide) rfl (.slice A' k c') k (ints todo) rfl (HS3.out.row.alloc _) ⟨wy.heap.size, 0, none⟩ 1 (.int .i64 (yn : Int)) rfl ((Blk.new wy 3 #[.int .i64 (yn : Int)]).cell 0) rfl (by have := HKN.out; omega) (by have := HS3.out.below.size; simp; omega) ?_; intro v5 w5 hm5; obtain ⟨A5, c5, rfl, _⟩ := hm5.1.form; have HS4 := Lib.hid ((HS3.out.alloc _).more hm5); have HES4 : Hid (w5.ownsRow wo.heap.size 34 3 (.slice Ae kk ce) kk (cellsE es)) := own_kind (HES3.out.alloc _) (fun C cs hk => hm5.2.2 C _ cs hk (by decide)); clear hm5 x1)
              rw [← HAE.out]
              go_roundg g3
              case measure => omega
              case rel => exact ⟨i + 1, out.set yn true, todo ++ [(yn : Int)], A5, k + 1, c5, HIG.out, rfl, rfl, (by have h1 := count_set out yn HBB.out; have h2 := HC.out; show _ = _; rw [List.length_append]; simp; omega), Lib.hid (HB.out.push hyn HL.out), (fun j hj q hq => by
                rcases Nat.lt_or_ge j i with h | h
                · exact set_true (HD.out j h q hq)
                · obtain rfl : j = i := by omega
                  rw [HP.out] at hq
                  injection hq with hq
                  subst hq
                  show (out.set yn true)[(yn : Int).toNat]? = some true
                  rw [Int.toNat_natCast, List.getElem?_set, if_pos rfl, if_pos (by rw [HB.out.len]; exact hyn)]), HS4, HES4⟩
            · go_wp2_with fail
              rw [← HAE.out]
              go_roundg g3
              case measure => omega
              case rel => exact ⟨i + 1, out, todo, A', k, c', HIG.out, rfl, rfl, HC, HB, (fun j hj q hq => by
                rcases Nat.lt_or_ge j i with h | h
                · exact HD.out j h q hq
                · obtain rfl : j = i := by omega
                  rw [HP.out] at hq
                  injection hq with hq
                  subst hq
                  exact HBB.out), HS2, HES2⟩
end Go.Proofs.Ytkebeadaoiiokaa
namespace Go.Proofs.Ytkebeadaoiiokaa
open Go.RowKit Go.Shelf

theorem own_grown {W W' : World} {base base' n n' size size' : Nat} {e e' : TypeId} {v v' : Value} {xs xs' : List Value} {o : Obj} (h : W.ownsRow base e size v n xs) (h' : W.ownsRow base' e' size' v' n' xs') (hg : (W.alloc o).grownBy W' v'.ownBlock) (ht : e ≠ e') : W'.ownsRow base e size v n xs := by
  refine own_kind h fun C cs hk => (hk.alloc o).grown hg fun hh => ?_
  exact own_blk_ne h' hk (Ne.symm ht) hh.symm
theorem own_on {W W' : World} {base n size : Nat} {e : TypeId} {v : Value} {xs : List Value} (h : W.ownsRow base e size v n xs) (hb : Below W.heap.size W W') : W'.ownsRow base e size v n xs := own_kind h fun _ _ hk => hk.below hb hk.lt
/-- A row of rows of bools, all of one length, in memory of the call's own. -/
def Mat (W : World) (base m : Nat) (A : Option Addr) (n c : Nat) (ms : List (List Bool)) : Prop :=
  ∃ rs : List (Option Addr × Nat), rs.length = n ∧ ms.length = n ∧ W.ownsRow base 99 1 (.slice A n c) n (rs.map fun r => .slice r.1 m r.2) ∧
    ∀ (i : Nat) (r : Option Addr × Nat) (bs : List Bool), rs[i]? = some r → ms[i]? = some bs → bs.length = m ∧ W.ownsRow base 4 1 (.slice r.1 m r.2) m (bools bs)
section
variable {W W' : World} {base m n c : Nat} {A : Option Addr} {ms : List (List Bool)}
theorem Mat.on (h : Mat W base m A n c ms) (hb : Below W.heap.size W W') : Mat W' base m A n c ms := by
  obtain ⟨rs, h1, h2, h3, h4⟩ := h
  exact ⟨rs, h1, h2, own_on h3 hb, fun i r bs hr hs => ⟨(h4 i r bs hr hs).1, own_on (h4 i r bs hr hs).2 hb⟩⟩
theorem Mat.base_ (h : Mat W base m A n c ms) {base' : Nat} (hb : base' ≤ base) : Mat W base' m A n c ms := by
  obtain ⟨rs, h1, h2, h3, h4⟩ := h
  exact ⟨rs, h1, h2, own_base h3 hb, fun i r bs hr hs => ⟨(h4 i r bs hr hs).1, own_base (h4 i r bs hr hs).2 hb⟩⟩
theorem Mat.len (h : Mat W base m A n c ms) : ms.length = n := by obtain ⟨_, _, h2, _⟩ := h; exact h2
theorem Mat.nil (W : World) (base m : Nat) : Mat W base m none 0 0 [] := ⟨[], rfl, rfl, World.ownsRow_nil _ _ _ _, fun i r bs h => by simp at h⟩
/-- One cell of it. -/
theorem Mat.at_ (h : Mat W base m A n c ms) {i j : Nat} (hi : i < n) (hj : j < m) : ∃ (b o : Nat) (A' : Option Addr) (c' b' o' : Nat) (bs : List Bool) (v : Bool), A = some ⟨b, o, none⟩ ∧ W.cell? ⟨b, o + i, none⟩ = some (.slice A' m c') ∧ A' = some ⟨b', o', none⟩ ∧ W.cell? ⟨b', o' + j, none⟩ = some (.bool v) ∧ ms[i]? = some bs ∧ bs[j]? = some v := by
  obtain ⟨rs, h1, h2, h3, h4⟩ := h
  obtain ⟨r, hr⟩ : ∃ r, rs[i]? = some r := ⟨rs[i]'(by omega), List.getElem?_eq_getElem _⟩
  obtain ⟨bs, hs⟩ : ∃ bs, ms[i]? = some bs := ⟨ms[i]'(by omega), List.getElem?_eq_getElem _⟩
  obtain ⟨hl, h5⟩ := h4 i r bs hr hs
  obtain ⟨v, hv⟩ : ∃ v, bs[j]? = some v := ⟨bs[j]'(by omega), List.getElem?_eq_getElem _⟩
  obtain ⟨b, o, hA, _, hc⟩ := reads_plain (Reads.of_own h3) (by omega)
  obtain ⟨b', o', hA', _, hc'⟩ := reads_plain (Reads.of_own h5) (by omega)
  exact ⟨b, o, r.1, r.2, b', o', bs, v, hA, hc i _ (by rw [List.getElem?_map, hr]; rfl), hA', hc' j _ (bools_get hv), hs, hv⟩
/-- One more row. -/
theorem mat_more {rs : List (Option Addr × Nat)} (h1 : rs.length = n) (h2 : ms.length = n) (h3 : W.ownsRow base 99 1 (.slice A n c) n (rs.map fun r => .slice r.1 m r.2))
    (h4 : ∀ (i : Nat) (r : Option Addr × Nat) (bs : List Bool), rs[i]? = some r → ms[i]? = some bs → bs.length = m ∧ W.ownsRow base 4 1 (.slice r.1 m r.2) m (bools bs))
    {A' : Option Addr} {c' : Nat} {bs : List Bool} {o : Obj} {v5 : Value} (hl : bs.length = m) (hb : W.ownsRow base 4 1 (.slice A' m c') m (bools bs)) (h5 : W'.ownsRow base 99 1 v5 (n + 1) ((rs.map fun r => .slice r.1 m r.2) ++ [.slice A' m c']))
    (hg : (W.alloc o).grownBy W' (Value.slice A n c).ownBlock) : ∃ A5 c5, v5 = .slice A5 (n + 1) c5 ∧ Mat W' base m A5 (n + 1) c5 (ms ++ [bs]) := by
  obtain ⟨A5, c5, rfl, _, _⟩ := own_form2 h5
  refine ⟨A5, c5, rfl, rs ++ [(A', c')], by rw [List.length_append, h1]; rfl, by rw [List.length_append, h2]; rfl, by simpa using h5, fun i r b hr hs => ?_⟩
  rcases Nat.lt_or_ge i n with hi | hi
  · rw [List.getElem?_append_left (by omega)] at hr hs
    exact ⟨(h4 i r b hr hs).1, own_grown (h4 i r b hr hs).2 h3 hg (by decide)⟩
  · have hi2 : i = n := by
      have := (List.getElem?_eq_some_iff.1 hr).1
      rw [List.length_append, h1] at this
      simp at this
      omega
    subst hi2
    rw [List.getElem?_append_right (by omega), h1, Nat.sub_self] at hr
    rw [List.getElem?_append_right (by omega), h2, Nat.sub_self] at hs
    simp at hr hs
    subst hr; subst hs
    exact ⟨hl, own_grown hb h3 hg (by decide)⟩
end
theorem bslice_info : (Try.prog.info? 99).map (fun i => (i.zero, i.size, i.bytes)) = some (some (.slice none 0 0), 1, 24) := by kernel_rfl
/-- Which nodes lead to which, as rows. -/
structure AllM (zs : List Ed) (m : Nat) (ms : List (List Bool)) : Prop where
  len : ms.length = m
  row : ∀ (i : Nat) (bs : List Bool), ms[i]? = some bs → bs.length = m ∧ ∀ u : Nat, bs[u]? = some true ↔ Leads zs (i : Int) u

def AllIs (zs : List Ed) (m : Nat) (w : World) (e : Ending) (w' : World) : Prop :=
  ∃ (ms : List (List Bool)) (A' : Option Addr) (c' : Nat), AllM zs m ms ∧ e = .returned (.slice A' m c') ∧ Mat w' w.heap.size m A' m c' ms ∧ Below w.heap.size w w'

set_option maxRecDepth 100000 in
set_option maxHeartbeats 4000000 in
theorem rall_any (z : Int) (A : Option Addr) (n c : Nat) (zs : List Ed) (hg : IsG z zs) (hn : n ≤ 1000) (w : World) (hR : Reads w w.heap.size 3 A n (cellsE zs)) :
    Calls Try.prog 65 #[.agg #[.int .i64 z, .slice A n c]] w (AllIs zs z.toNat w) := by
  obtain ⟨bx, b0⟩ := box_new w #[.int .i64 z, .slice A n c] 24
  have hnd := hg.nodes
  obtain ⟨m, hm⟩ : ∃ m : Nat, z = (m : Int) := ⟨z.toNat, by omega⟩
  have hmz : z.toNat = m := by omega
  have hm300 : m ≤ 300 := by omega
  rw [hmz]
  subst hm
  have HL := Lib.hid fun (v : Nat) (hv : v < m) W (h : Below w.heap.size w W) => rleads_any (m : Int) v A n c zs hg (by omega) hn W ((hR.below h).more h.size)
  obtain ⟨i0, hi, hz0, hz1, hz2⟩ := info_parts bslice_info
  have HMZ := Lib.hid hmz
  have B0 := Lib.hid b0
  have z0 := bx.cell 0
  have BX := Lib.hid bx
  clear hR bx b0 hg hnd hmz
  go_enter Try.func65, Try.ntmps65
  go_wp2_with fail
  clear z0
  generalize w.alloc (.cells #[.int .i64 (m : Int), .slice A n c] 24) = W0 at *
  go_loopg [3, 7] m (fun gg s3 s7 wr => ∃ (i : Nat) (ms : List (List Bool)) (A' : Option Addr) (c' : Nat), i + gg = m ∧ s7 = .int .i64 i ∧ s3 = .slice A' i c' ∧ Hid (∀ (j : Nat) (bs : List Bool), ms[j]? = some bs → bs.length = m ∧ ∀ u : Nat, bs[u]? = some true ↔ Leads zs (j : Int) u) ∧ Hid (Mat wr W0.heap.size m A' i c' ms) ∧ Hid (Below W0.heap.size W0 wr))
  case atStart => exact ⟨0, [], none, 0, by omega, rfl, rfl, fun j bs h => by simp at h, Mat.nil _ _ _, Below.refl _ _⟩
  case round =>
    obtain ⟨i, ms, A', c', hig, rfl, rfl, HM, HA, HB⟩ := hrel
    cases gk with
    | zero =>
      obtain rfl : i = m := by omega
      have hlt : ¬ (i : Int) < (i : Int) := by omega
      have HE : Hid (AllM zs i ms ∧ Mat wr w.heap.size i A' i c' ms ∧ Below w.heap.size w wr) := ⟨⟨HA.out.len, HM.out⟩, HA.out.base_ B0.out.size, B0.out.trans (HB.out.mono B0.out.size)⟩
      clear hig
      go_wp2_with fail
      go_ret
      exact ⟨ms, A', c', HE.out.1, rfl, HE.out.2⟩
    | succ g2 =>
      have hlt : (i : Int) < (m : Int) := by omega
      have him : i < m := by omega
      have hw1 : IntKind.i64.wrap ((i : Int) + 1) = ((i + 1 : Nat) : Int) := by rw [IntKind.wrap_i64]; omega
      have HIG : Hid (i + 1 + g2 = m) := by show _ = _; omega
      have HLI := Lib.hid (HL.out i him wr (B0.out.trans (HB.out.mono B0.out.size)))
      have bxo := BX.out.below HB.out BX.out.lt
      have z0 := bxo.cell 0
      have z1 := bxo.cell 1
      have HW1 := Lib.hid hw1
      clear hig bxo hw1
      go_wp2_with fail
      refine HLI.out.mono ?_
      rintro e w2 ⟨bs, hbl, hbs, Ab, cb, he, hb, h1, h2, h3⟩
      rw [HMZ.out] at hbl
      rw [hbl] at he hb h1
      subst he
      have HBS := Lib.hid (And.intro hbl hbs)
      have HA2 := Lib.hid (HA.out.on h3)
      have HB2 : Hid (Below W0.heap.size W0 w2) := HB.out.trans (h3.mono HB.out.size)
      have HOB := Lib.hid (own_base hb HB.out.size)
      clear hbl hbs hb h1 h2 h3 HLI z0 z1 HA HB
      have hw1 := HW1.out
      go_wp2_with (at_builtin; obtain ⟨rs, hr1, hr2, hr3, hr4⟩ := HA2.out; refine wpList_append_own_at _ rfl _ _ 97 rfl W0.heap.size 99 i0 _ 1 24 Try.underlying97 hi hz0 hz1 hz2 rfl (by decide) (.slice A' i c') i _ rfl (hr3.alloc _) ⟨w2.heap.size, 0, none⟩ 1 1 [.slice Ab m cb] rfl rfl (cell_one_new _ _ _) (by intro u hu; simp at hu; subst hu; rfl) (by unfold maxLen; omega) (by omega) (by have := HB2.out.size; simp; omega) ?_; intro v5 w5 hown5 hgrow5 _ _; obtain ⟨A5, c5, rfl, hm5⟩ := mat_more hr1 hr2 hr3 hr4 HBS.out.1 HOB.out hown5 hgrow5; have HA5 := Lib.hid hm5; have HB5 : Hid (Below W0.heap.size W0 w5) := (HB2.out.alloc HB2.out.size (.cells #[.slice Ab m cb] 99)).grown hgrow5 (by have := HB2.out.size; simp; omega) (fun k hk => (hr3.lt k hk).1); clear hown5 hgrow5 hm5 hr1 hr2 hr3 hr4)
      go_roundg g2
      case measure => omega
      case rel => exact ⟨i + 1, ms ++ [bs], A5, c5, HIG.out, rfl, rfl, (fun j b hj => by
        rcases Nat.lt_or_ge j ms.length with h | h
        · rw [List.getElem?_append_left h] at hj
          exact HM.out j b hj
        · have h2 := (List.getElem?_eq_some_iff.1 hj).1
          rw [List.length_append] at h2
          simp at h2
          obtain rfl : j = ms.length := by omega
          rw [List.getElem?_append_right (Nat.le_refl _), Nat.sub_self] at hj
          simp at hj
          subst hj
          rw [HA2.out.len]
          exact HBS.out), HA5, HB5⟩
end Go.Proofs.Ytkebeadaoiiokaa
namespace Go.Proofs.Ytkebeadaoiiokaa
open Go.RowKit

theorem store3 {W : World} {X : Nat} {t : TypeId} {a b c : Value} (h : Blk W X t #[a, b, c]) (u v x : Value) : Blk (((W.setCell ⟨X, 0, none⟩ u).setCell ⟨X, 1, none⟩ v).setCell ⟨X, 2, none⟩ x) X t #[u, v, x] := by
  have := ((h.set_ 0 u).set_ 1 v).set_ 2 x
  simpa using this
set_option maxHeartbeats 1000000 in
theorem rev1_any (p : Ed) (W : World) :
    Calls Try.prog 58 #[.agg #[.int .i64 p.1, .int .i64 p.2.1, .int .i64 p.2.2]] W fun e W' => e = .returned (.agg #[.int .i64 p.2.1, .int .i64 p.1, .int .i64 p.2.2]) ∧ Below W.heap.size W W' := by
  obtain ⟨_, k1, b0⟩ := two_new W #[.int .i64 p.1, .int .i64 p.2.1, .int .i64 p.2.2] #[.int .i64 p.2.1, .int .i64 p.1, .int .i64 p.2.2] 34 34
  have y0 := k1.cell 0
  have y1 := k1.cell 1
  have y2 := k1.cell 2
  have HB := Lib.hid b0
  clear k1 b0
  go_enter Try.func58, Try.ntmps58
  go_wp2_with fail
  exact bodyPost_ret (v := .agg #[.int .i64 p.2.1, .int .i64 p.1, .int .i64 p.2.2]) (by simp [results, Try.results58, go_sem]) rfl ⟨rfl, HB.out⟩

/-- those: the function value that it hands back. -/
theorem those_any (A : Option Addr) (n c : Nat) (g : Nat) (caps : Array Value) (w : World) :
    Calls Try.prog 62 #[.slice A n c, .func (.func g) #[] caps] w fun e w' => e = .returned (.func (.func 83) #[] #[.pointer (some ⟨w.heap.size, 0, none⟩), .pointer (some ⟨w.heap.size + 1, 0, none⟩)]) ∧
      w' = (w.alloc (.cells #[.slice A n c] 22)).alloc (.cells #[.func (.func g) #[] caps] 64) := by
  go_enter Try.func62, Try.ntmps62
  go_wp2_with fail
  go_ret
  exact ⟨rfl, rfl⟩
theorem values_any (A : Option Addr) (n c : Nat) (w : World) :
    Calls Try.prog 57 #[.slice A n c] w fun e w' => e = .returned (.func (.func 78) #[] #[.pointer (some ⟨w.heap.size, 0, none⟩)]) ∧
      w' = w.alloc (.cells #[.slice A n c] 22) := by
  go_enter Try.func57, Try.ntmps57
  go_wp2_with fail
  go_ret
  exact ⟨rfl, rfl⟩
end Go.Proofs.Ytkebeadaoiiokaa
