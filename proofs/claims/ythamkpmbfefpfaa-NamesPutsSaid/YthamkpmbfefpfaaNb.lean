/- Layer names: rows of texts, and of numbers, as they lie in memory; what the library's Clone and Equal give at them: contracts. -/
import Derived.Test.YthamkpmbfefpfaaNa
import Derived.Test.YthamkpmbfefpfaaMk
import Derived.Test.YthamkpmbfefpfaaShelf
import Derived.Test.YthamkpmbfefpfaaQz
import Derived.Lib.SliceRun
import Derived.Deep.Matrix
namespace Go.Proofs.Ythamkpmbfefpfaa
open Go.RowKit Go.Shelf

theorem below_drewN {B : Nat} {a w : World} (h : Below B a w) (n : Nat) : Below B a (w.drewN n) := ⟨h.os, h.tape, h.output, h.size, h.block⟩
theorem own_form2 {w : World} {base : Nat} {e : TypeId} {size : Nat} {v : Value} {n : Nat} {xs : List Value} (h : w.ownsRow base e size v n xs) : ∃ A c, v = .slice A n c ∧ n ≤ c ∧ c ≤ 9223372036854775807 := by
  rcases h.2 with ⟨rfl, rfl⟩ | ⟨g, cap, cur, rfl, _, _, hnc, hcm, _⟩
  · exact ⟨_, _, rfl, Nat.le_refl _, by decide⟩
  · exact ⟨_, _, rfl, hnc, by unfold maxLen at hcm; omega⟩
theorem own_mono {w : World} {base base' : Nat} {e : TypeId} {size : Nat} {v : Value} {n : Nat} {xs : List Value} (h : w.ownsRow base e size v n xs) (hb : base' ≤ base) : w.ownsRow base' e size v n xs := by
  refine ⟨h.1, ?_⟩
  rcases h.2 with h2 | ⟨g, cap, cur, h1, hg, rest⟩
  · exact .inl h2
  · exact .inr ⟨g, cap, cur, h1, Nat.le_trans hb hg, rest⟩
theorem own_block9 {w : World} {base : Nat} {e : TypeId} {v : Value} {n : Nat} {xs : List Value} (h : w.ownsRow base e 1 v n xs) : ∀ b, v.ownBlock = some b → base ≤ b := by
  intro b hb
  rcases h.2 with ⟨rfl, _⟩ | ⟨g, cap, cur, rfl, hg, _⟩
  · cases hb
  · have e : some g = some b := hb
    injection e with e
    omega
/-- A row of one's own lies as it lay, where memory goes on. -/
theorem own_on {w w' : World} {base : Nat} {e : TypeId} {size : Nat} {v : Value} {n : Nat} {xs : List Value} (h : w.ownsRow base e size v n xs) (hb : Below w.heap.size w w') : w'.ownsRow base e size v n xs :=
  (Keep.of_all (fun _ => True) hb).own h fun _ _ => trivial
theorem strs_append (xs ys : List ByteArray) : strs (xs ++ ys) = strs xs ++ strs ys := by unfold strs; rw [List.map_append]
theorem strs_take (xs : List ByteArray) (k : Nat) : (strs xs).take k = strs (xs.take k) := by unfold strs; rw [List.map_take]
theorem one_str (s : ByteArray) : ∀ x ∈ [Value.string s], x.oneCell' = true := by intro x hx; simp at hx; subst hx; rfl
theorem strs_one (ss : List ByteArray) : ∀ u ∈ strs ss, u.oneCell' = true := by
  intro u hu
  unfold strs at hu
  obtain ⟨s, _, rfl⟩ := List.mem_map.1 hu
  rfl
theorem strs_len {w : World} {B n : Nat} {A : Option Addr} {ss : List ByteArray} (h : Reads w B 1 A n (strs ss)) : ss.length = n := by
  have := h.1; rw [strs_length] at this; omega
theorem str_at {w : World} {B n k : Nat} {A : Option Addr} {s : ByteArray} {ss : List ByteArray} (h : Reads w B 1 A n (strs ss)) (hs : ss[k]? = some s) :
    ∃ b o, A = some ⟨b, o, none⟩ ∧ b < B ∧ w.cell? ⟨b, o + k, none⟩ = some (.string s) := by
  have hk := (List.getElem?_eq_some_iff.1 hs).1
  have hl := strs_len h
  obtain ⟨b, o, hA, hb, hc⟩ := reads_plain h (by omega)
  exact ⟨b, o, hA, hb, hc k _ (by unfold strs; rw [List.getElem?_map, hs]; rfl)⟩
theorem strs_get {w : World} {b o : Nat} {ss : List ByteArray} (hc : ∀ j u, (strs ss)[j]? = some u → w.cell? ⟨b, o + j, none⟩ = some u) : ∀ j, j < ss.length → w.cell? ⟨b, o + j, none⟩ = some (.string (ss.getD j ByteArray.empty)) := by
  intro j hj
  refine hc j _ ?_
  unfold strs
  rw [List.getElem?_map, List.getElem?_eq_getElem hj, List.getD_eq_getElem?_getD, List.getElem?_eq_getElem hj]
  rfl
theorem reads_take {w : World} {B size n k : Nat} {A : Option Addr} {xs : List Value} (h : Reads w B size A n xs) (hk : k ≤ n) : Reads w B size A k (xs.take (k * size)) :=
  ⟨by rw [List.length_take, h.1]; exact Nat.min_eq_left (Nat.mul_le_mul_right _ hk), fun hn => by
    obtain ⟨ad, hA, hb, hc⟩ := h.2 (by omega)
    exact ⟨ad, hA, hb, fun j u hu => hc j u (by
      rw [List.getElem?_take] at hu
      split at hu
      · exact hu
      · cases hu)⟩⟩
theorem strs_cut {w : World} {B n k : Nat} {A : Option Addr} {l : List ByteArray} (h : Reads w B 1 A n (strs l)) (hk : k ≤ n) : Reads w B 1 A k (strs (l.take k)) := by
  have := reads_take h hk
  rwa [Nat.mul_one, strs_take] at this
theorem str_lit (w : World) (ss : List ByteArray) (t : TypeId) (cs : Array Value) (h : cs = (strs ss).toArray) : Reads (w.alloc (.cells cs t)) (w.alloc (.cells cs t)).heap.size 1 (some ⟨w.heap.size, 0, none⟩) ss.length (strs ss) := by
  subst h
  exact ⟨by rw [strs_length, Nat.mul_one], fun _ => ⟨_, rfl, by simp, fun j u hu => by
    rw [Go.WideShapes.add_plain, Nat.zero_add, (Blk.new w t (strs ss).toArray).cell, List.getElem?_toArray]; exact hu⟩⟩
theorem int_at {w : World} {B n k : Nat} {A : Option Addr} {v : Int} {vs : List Int} (h : Reads w B 1 A n (ints vs)) (hv : vs[k]? = some v) :
    ∃ b o, A = some ⟨b, o, none⟩ ∧ b < B ∧ w.cell? ⟨b, o + k, none⟩ = some (.int .i64 v) := by
  have hk := (List.getElem?_eq_some_iff.1 hv).1
  have hl := h.1
  rw [ints_length] at hl
  obtain ⟨b, o, hA, hb, hc⟩ := reads_plain h (by omega)
  exact ⟨b, o, hA, hb, hc k _ (by unfold ints; rw [List.getElem?_map, hv]; rfl)⟩
theorem ints_len {w : World} {B n : Nat} {A : Option Addr} {vs : List Int} (h : Reads w B 1 A n (ints vs)) : vs.length = n := by
  have := h.1; rw [ints_length] at this; omega
theorem ints_get {w : World} {b o : Nat} {vs : List Int} (hc : ∀ j u, (ints vs)[j]? = some u → w.cell? ⟨b, o + j, none⟩ = some u) : ∀ j, j < vs.length → w.cell? ⟨b, o + j, none⟩ = some (.int .i64 (vs.getD j 0)) := by
  intro j hj
  refine hc j _ ?_
  unfold ints
  rw [List.getElem?_map, List.getElem?_eq_getElem hj, List.getD_eq_getElem?_getD, List.getElem?_eq_getElem hj]
  rfl
theorem int_lit (w : World) (vs : List Int) (t : TypeId) (cs : Array Value) (h : cs = (ints vs).toArray) : Reads (w.alloc (.cells cs t)) (w.alloc (.cells cs t)).heap.size 1 (some ⟨w.heap.size, 0, none⟩) vs.length (ints vs) := by
  subst h
  exact ⟨by rw [ints_length, Nat.mul_one], fun _ => ⟨_, rfl, by simp, fun j u hu => by
    rw [Go.WideShapes.add_plain, Nat.zero_add, (Blk.new w t (ints vs).toArray).cell, List.getElem?_toArray]; exact hu⟩⟩
theorem ints_take (zs : List Int) (k : Nat) : (ints zs).take k = ints (zs.take k) := by unfold ints; rw [List.map_take]
theorem ints_append (xs ys : List Int) : ints (xs ++ ys) = ints xs ++ ints ys := by unfold ints; rw [List.map_append]
theorem ints_set (xs : List Int) (i : Nat) (v : Int) : (ints xs).set i (.int .i64 v) = ints (xs.set i v) := by unfold ints; rw [List.map_set]
theorem int_one (v : Int) : ∀ x ∈ [Value.int .i64 v], x.oneCell' = true := by intro x hx; simp at hx; subst hx; rfl
theorem str_info : (Try.prog.info? 9).map (fun i => (i.zero, i.size, i.bytes)) = some (some (.string ⟨#[]⟩), 1, 16) := by kernel_rfl
theorem int9_info : (Try.prog.info? 3).map (fun i => (i.zero, i.size, i.bytes)) = some (some (.int .i64 0), 1, 8) := by kernel_rfl
/-- Where a row of one's own is written. -/
theorem own_at {w : World} {base n c k : Nat} {A : Option Addr} {t : TypeId} {xs : List Value} (h : w.ownsRow base t 1 (.slice A n c) n xs) (hk : k < n) :
    ∃ g, A = some ⟨g, 0, none⟩ ∧ base ≤ g ∧ g < w.heap.size ∧ w.frozen? ⟨g, k, none⟩ = false ∧ (∃ u, xs[k]? = some u ∧ w.cell? ⟨g, k, none⟩ = some u) := by
  have hl := h.1
  rcases h.2 with ⟨_, e2⟩ | ⟨g, cap, cur, e1, hb, hk2, h3, h4, h5, h6⟩
  · omega
  · injection e1 with e1 e3 e4
    subst e1; subst e4
    have hkx : k < xs.length := by omega
    refine ⟨g, rfl, hb, (Array.getElem?_eq_some_iff.1 hk2).1, h.frozenAt k, xs[k], List.getElem?_eq_getElem hkx, ?_⟩
    rw [cell_of_row w g k cur _ (0, 0) hk2]
    have : xs[k]? = some xs[k] := List.getElem?_eq_getElem hkx
    rw [← this, ← h6, List.getElem?_take, if_pos (by omega), Array.getElem?_toList]

/-- A row of texts, of numbers, in memory of its own. -/
def CopyS (ss : List ByteArray) (w : World) (e : Ending) (w' : World) : Prop := ∃ (A : Option Addr) (n c : Nat), e = .returned (.slice A n c) ∧ w'.ownsRow w.heap.size 9 1 (.slice A n c) n (strs ss) ∧ Below w.heap.size w w'
theorem clones_any (A : Option Addr) (n c : Nat) (zs : List ByteArray) (hn : n ≤ 1000000) (w : World) (hR : Reads w w.heap.size 1 A n (strs zs)) :
    Calls Try.prog 23 #[.slice A n c] w (CopyS zs w) := by
  have hl := strs_len hR
  rcases Nat.eq_zero_or_pos n with h | h
  · subst h
    obtain rfl : zs = [] := List.eq_nil_of_length_eq_zero hl
    cases A with
    | none =>
      refine (Try.slices_Clone_string_nil 0 c w).mono ?_
      rintro e w' ⟨rfl, rfl⟩
      exact ⟨none, 0, 0, rfl, World.ownsRow_nil _ _ _ _, Below.refl _ _⟩
    | some ad =>
      refine (Try.slices_Clone_string_zero ad c w).mono ?_
      rintro e w' ⟨v', rfl, ho, _, hb⟩
      obtain ⟨A', c', rfl, h1, h2⟩ := own_form2 ho
      exact ⟨A', 0, c', rfl, ho, hb⟩
  · obtain ⟨b, o, rfl, hb, hc⟩ := reads_plain hR h
    refine (Try.slices_Clone_string b o n c zs w (by omega) (by omega) (strs_get hc)).mono ?_
    rintro e w' ⟨v', rfl, ho, _, hb⟩
    rw [List.take_of_length_le (by omega)] at ho
    obtain ⟨A', c', rfl, h1, h2⟩ := own_form2 ho
    exact ⟨A', n, c', rfl, ho, hb⟩
theorem eqi_any (A A2 : Option Addr) (n m c d : Nat) (xs ys : List Int) (hn : n ≤ 1000000) (hm : m ≤ 1000000) (w : World) (hR : Reads w w.heap.size 1 A n (ints xs)) (hR2 : Reads w w.heap.size 1 A2 m (ints ys)) :
    Calls Try.prog 22 #[.slice A n c, .slice A2 m d] w fun e w' => e = .returned (.bool (decide (xs = ys))) ∧ Below w.heap.size w w' := by
  have hl := ints_len hR
  have hl2 := ints_len hR2
  rcases Nat.eq_zero_or_pos n with h0 | h0
  · subst h0
    refine (Try.slices_Equal_int_empty A A2 c m d w (by omega)).mono ?_
    rintro e w' ⟨rfl, rfl⟩
    refine ⟨?_, Below.refl _ _⟩
    obtain rfl : xs = [] := List.eq_nil_of_length_eq_zero hl
    cases ys with
    | nil => simp at hl2; subst hl2; rfl
    | cons y ys => simp at hl2; have : ¬ m = 0 := by omega
                   simp [this]
  · by_cases hnm : n = m
    · subst hnm
      obtain ⟨b, o, rfl, hb, hc⟩ := reads_plain hR h0
      obtain ⟨b2, o2, rfl, hb2, hc2⟩ := reads_plain hR2 h0
      refine (Try.slices_Equal_int b o n c b2 o2 n d xs ys w (by omega) (by omega) (by omega) (by omega) (ints_get hc) (ints_get hc2)).mono ?_
      rintro e w' ⟨rfl, q, rfl⟩
      refine ⟨?_, below_drewN (Below.refl _ _) _⟩
      rw [List.take_of_length_le (by omega), List.take_of_length_le (by omega)]
      have : (xs == ys) = decide (xs = ys) := by rw [Bool.eq_iff_iff]; simp
      rw [this]
    · refine (Try.slices_Equal_int_lens A A2 n c m d w hnm).mono ?_
      rintro e w' ⟨rfl, rfl⟩
      refine ⟨?_, Below.refl _ _⟩
      have : ¬ xs = ys := fun e => hnm (by rw [← hl, ← hl2, e])
      simp [this]
theorem eqs_any (A A2 : Option Addr) (n m c d : Nat) (xs ys : List ByteArray) (hn : n ≤ 1000000) (hm : m ≤ 1000000) (w : World) (hR : Reads w w.heap.size 1 A n (strs xs)) (hR2 : Reads w w.heap.size 1 A2 m (strs ys)) :
    Calls Try.prog 26 #[.slice A n c, .slice A2 m d] w fun e w' => e = .returned (.bool (decide (xs = ys))) ∧ Below w.heap.size w w' := by
  have hl := strs_len hR
  have hl2 := strs_len hR2
  rcases Nat.eq_zero_or_pos n with h0 | h0
  · subst h0
    refine (Try.slices_Equal_string_empty A A2 c m d w (by omega)).mono ?_
    rintro e w' ⟨rfl, rfl⟩
    refine ⟨?_, Below.refl _ _⟩
    obtain rfl : xs = [] := List.eq_nil_of_length_eq_zero hl
    cases ys with
    | nil => simp at hl2; subst hl2; rfl
    | cons y ys => simp at hl2; have : ¬ m = 0 := by omega
                   simp [this]
  · by_cases hnm : n = m
    · subst hnm
      obtain ⟨b, o, rfl, hb, hc⟩ := reads_plain hR h0
      obtain ⟨b2, o2, rfl, hb2, hc2⟩ := reads_plain hR2 h0
      refine (Try.slices_Equal_string b o n c b2 o2 n d xs ys w (by omega) (by omega) (by omega) (by omega) (strs_get hc) (strs_get hc2)).mono ?_
      rintro e w' ⟨rfl, q, rfl⟩
      refine ⟨?_, below_drewN (Below.refl _ _) _⟩
      rw [List.take_of_length_le (by omega), List.take_of_length_le (by omega)]
    · refine (Try.slices_Equal_string_lens A A2 n c m d w hnm).mono ?_
      rintro e w' ⟨rfl, rfl⟩
      refine ⟨?_, Below.refl _ _⟩
      have : ¬ xs = ys := fun e => hnm (by rw [← hl, ← hl2, e])
      simp [this]
theorem elemS_size (W : World) : (sizeOf (Try.prog.elem 22)).run Try.prog W = .ok 1 W := by kernel_rfl
theorem sliceS_h (A : Option Addr) (len cap h : Nat) (hh : h ≤ cap) (W : World) :
    (Instr.slice 22 (.slice A len cap) none (some (.int .i64 (h : Int))) none).run Try.prog W = .ok (.slice A h cap) W := by
  have e0 : Value.slice (if cap = 0 then A else A.map (·.add (0 * 1))) (h - 0) (cap - 0) = .slice A h cap := by
    have : (if cap = 0 then A else A.map (·.add (0 * 1))) = A := by
      split
      · rfl
      · cases A <;> simp [Addr.add]
    rw [this, Nat.sub_zero, Nat.sub_zero]
  rw [run_slice_h W 22 A len cap (show Try.prog.underlying 22 = some (.slice (Try.prog.elem 22)) by kernel_rfl) .i64 h (by omega) (by omega), elemS_size]
  exact congrArg (fun v => Result.ok v W) e0
set_option maxHeartbeats 400000 in
theorem sclone_any (s : ByteArray) (hs : s.size ≤ 100000) (w : World) : Calls Try.prog 32 #[.string s] w fun e w' => e = .returned (.string s) ∧ Below w.heap.size w w' := by
  have H := Lib.hid (Try.stringslite_Clone s w (by omega))
  go_enter Try.func32, Try.ntmps32
  go_wp2_with fail
  refine H.out.mono ?_
  rintro e w1 ⟨rfl, b⟩
  go_wp2_with fail
  go_ret
  exact ⟨rfl, b⟩
end Go.Proofs.Ythamkpmbfefpfaa
