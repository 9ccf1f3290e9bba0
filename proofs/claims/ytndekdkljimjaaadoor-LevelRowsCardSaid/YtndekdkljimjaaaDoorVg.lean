/- Layer level: Join and Meet of two assignments (through, handed a closure): contracts. -/
import Derived.Test.YtndekdkljimjaaaDoorVf
import Derived.Test.YtndekdkljimjaaaDoorVh
import Derived.Lib.SmallJoins
namespace Go.Proofs.YtndekdkljimjaaaDoor
open Go.RowKit Go.Shelf

/-- The first j places are done. -/
def pkL (p : Int → Int → Int) (xs ys : List Int) (j : Nat) : List Int := List.zipWith p (xs.take j) (ys.take j) ++ xs.drop j
section
variable {p : Int → Int → Int} {xs ys : List Int} {j n : Nat} {x y : Int}
theorem pkL_zero : pkL p xs ys 0 = xs := by unfold pkL; simp
theorem pkL_end (h1 : xs.length = n) (h2 : ys.length = n) : pkL p xs ys n = List.zipWith p xs ys := by
  unfold pkL
  rw [List.take_of_length_le (by omega), List.take_of_length_le (by omega), List.drop_eq_nil_of_le (by omega), List.append_nil]
theorem pkL_len (h : j ≤ ys.length) : (List.zipWith p (xs.take j) (ys.take j)).length = min j xs.length := by
  rw [List.length_zipWith, List.length_take, List.length_take]; omega
theorem pkL_at (hx : xs[j]? = some x) (hy : ys[j]? = some y) : (pkL p xs ys j)[j]? = some x := by
  have h1 := (List.getElem?_eq_some_iff.1 hx).1
  have h2 := (List.getElem?_eq_some_iff.1 hy).1
  unfold pkL
  rw [List.getElem?_append_right (by rw [pkL_len (by omega)]; omega), pkL_len (by omega), List.getElem?_drop, Nat.min_eq_left (by omega), Nat.sub_self, Nat.add_zero, hx]
theorem pkL_step (hx : xs[j]? = some x) (hy : ys[j]? = some y) : (pkL p xs ys j).set j (p x y) = pkL p xs ys (j + 1) := by
  obtain ⟨h1, e1⟩ := List.getElem?_eq_some_iff.1 hx
  obtain ⟨h2, e2⟩ := List.getElem?_eq_some_iff.1 hy
  unfold pkL
  rw [List.set_append_right _ _ (by rw [pkL_len (by omega)]; omega), pkL_len (by omega), Nat.min_eq_left (by omega), Nat.sub_self, List.drop_eq_getElem_cons h1, List.set_cons_zero, List.take_add_one, List.take_add_one, hx, hy,
    List.zipWith_append (by rw [List.length_take, List.length_take]; omega)]
  simp
end

theorem two9_slice (g : Nat) (W : World) : (Instr.slice 70 (.slice (some ⟨g, 0, none⟩) 2 2) (some (.int .i64 1)) none none).run Tryd.prog W = .ok (.slice (some ⟨g, 1, none⟩) 1 1) W := by kernel_rfl

/-- Two rows in one. -/
theorem rows9_both {w : World} {g : Nat} {A B : Option Addr} {n c m d : Nat} {xs ys : List Int} (hb : Blk w g 22 #[.slice A n c, .slice B m d]) (h1 : Reads w w.heap.size 1 A n (ints xs)) (h2 : Reads w w.heap.size 1 B m (ints ys)) :
    Rows9 w (some ⟨g, 0, none⟩) 2 [⟨A, n, c, xs⟩, ⟨B, m, d, ys⟩] :=
  ⟨⟨rfl, fun _ => ⟨_, rfl, hb.lt, fun j u hu => by rw [Go.WideShapes.add_plain, Nat.zero_add, hb.cell, ← hu, ← List.getElem?_toArray]; rfl⟩⟩, fun r hr => by
    simp only [List.mem_cons, List.not_mem_nil, or_false] at hr
    rcases hr with rfl | rfl
    · exact h1
    · exact h2⟩
/-- A row, and an error. -/
def RowE (zs : List Int) (k : Int) (w : World) (e : Ending) (w' : World) : Prop := ∃ (A : Option Addr) (n c : Nat), e = .returned (.tuple #[.slice A n c, .int .i64 k]) ∧ CopyI n zs w A c w'
theorem rowE_nil {k : Int} {w w' : World} (hb : Below w.heap.size w w') : RowE [] k w (.returned (.tuple #[.slice none 0 0, .int .i64 k])) w' := ⟨none, 0, 0, rfl, World.ownsRow_nil _ _ _ _, hb⟩

set_option maxRecDepth 100000 in
set_option maxHeartbeats 4000000 in
theorem through_no (f : Value) (g : Nat) (A B : Option Addr) (n c m d : Nat) (xs ys : List Int) (hn : n ≤ 1000000) (hm : m ≤ 1000000) (k : Int) (hk : alikeE [xs, ys] = k) (hk0 : (k != 0) = true) (w : World) (hb : Blk w g 22 #[.slice A n c, .slice B m d])
    (h1 : Reads w w.heap.size 1 A n (ints xs)) (h2 : Reads w w.heap.size 1 B m (ints ys)) :
    Calls Tryd.prog 34 #[f, .slice (some ⟨g, 0, none⟩) 2 2] w (RowE [] k w) := by
  have HA := Lib.hid (alike_any (some ⟨g, 0, none⟩) 2 2 [⟨A, n, c, xs⟩, ⟨B, m, d, ys⟩] (by decide) (fun r hr => by
    simp only [List.mem_cons, List.not_mem_nil, or_false] at hr
    rcases hr with rfl | rfl <;> assumption) w (rows9_both hb h1 h2))
  simp only [List.map_cons, List.map_nil] at HA
  rw [hk] at HA
  clear hb h1 h2 hk
  go_enter Tryd.func34, Tryd.ntmps34
  go_wp2_with fail
  refine HA.out.mono ?_
  rintro e w1 ⟨rfl, rfl⟩
  go_wp2_with fail
  go_ret2
  exact rowE_nil (Below.refl _ _)

set_option maxRecDepth 100000 in
set_option maxHeartbeats 4000000 in
theorem through_ok (pf : FuncId) (p : Int → Int → Int) (hp : ∀ (x y : Int) (w : World), Calls Tryd.prog pf #[.int .i64 x, .int .i64 y] w fun e w' => e = .returned (.int .i64 (p x y)) ∧ w = w') (eg : ∀ args w, (callFunc pf args).run Tryd.prog w = .ok (.enter pf args) w)
    (g : Nat) (A B : Option Addr) (n c d : Nat) (xs ys : List Int) (hn : n ≤ 1000000) (hk : alikeE [xs, ys] = 0) (w : World) (hb : Blk w g 22 #[.slice A n c, .slice B n d])
    (h1 : Reads w w.heap.size 1 A n (ints xs)) (h2 : Reads w w.heap.size 1 B n (ints ys)) :
    Calls Tryd.prog 34 #[.func (.func pf) #[] #[], .slice (some ⟨g, 0, none⟩) 2 2] w (RowE (List.zipWith p xs ys) 0 w) := by
  have HA := Lib.hid (alike_any (some ⟨g, 0, none⟩) 2 2 [⟨A, n, c, xs⟩, ⟨B, n, d, ys⟩] (by decide) (fun r hr => by
    simp only [List.mem_cons, List.not_mem_nil, or_false] at hr
    rcases hr with rfl | rfl <;> assumption) w (rows9_both hb h1 h2))
  simp only [List.map_cons, List.map_nil] at HA
  rw [hk] at HA
  have HCL := Lib.hid (clone9_any A n c xs hn w h1)
  have HLX := Lib.hid (ints_len h1)
  have HLY := Lib.hid (ints_len h2)
  have HB := Lib.hid hb
  have HY := Lib.hid h2
  have HP : Hid (∀ (x y : Int) (w : World), Calls Tryd.prog pf #[.int .i64 x, .int .i64 y] w fun e w' => e = .returned (.int .i64 (p x y)) ∧ w = w') := hp
  have hsl := two9_slice g
  have z0 := hb.cell 0
  clear hb h1 h2 hk hp
  go_enter Tryd.func34, Tryd.ntmps34
  go_wp2_with fail
  refine HA.out.mono ?_
  rintro e w1 ⟨rfl, rfl⟩
  go_wp2_with fail
  refine HCL.out.mono ?_
  rintro e w1 ⟨A5, n5, c5, rfl, h5⟩
  obtain rfl : n = n5 := by rw [← h5.len, HLX.out]
  have H5 : Hid (CopyI n (pkL p xs ys 0) w A5 c5 w1) := by rw [pkL_zero]; exact h5
  clear h5 HA HCL z0
  go_wp2_with fail
  go_loopw [24] (fun i wr => ∃ q : Nat, ((i = .int .i64 0 ∧ q = 0) ∨ (i = .int .i64 1 ∧ q = n)) ∧ Hid (CopyI n (pkL p xs ys q) w A5 c5 wr)) (fun i _ => 1 - (intOf i).toNat)
  case atStart => exact ⟨0, .inl ⟨rfl, rfl⟩, H5⟩
  case round =>
    clear H5
    obtain ⟨q, hkq, H5⟩ := hrel
    rcases hkq with ⟨rfl, rfl⟩ | ⟨rfl, rfl⟩
    · have z1 := (HB.out.below H5.out.below HB.out.lt).cell 1
      go_wp2_with fail
      rename World => w0
      go_loopw [30] (fun i wr => ∃ j : Nat, j ≤ n ∧ i = .int .i64 j ∧ Hid (CopyI n (pkL p xs ys j) w A5 c5 wr)) (fun i _ => n - (intOf i).toNat)
      case atStart => exact ⟨0, Nat.zero_le _, rfl, H5⟩
      case round =>
        clear H5 z1
        obtain ⟨j, hj, rfl, H5⟩ := hrel
        by_cases hjn : j < n
        · have hjlt : (j : Int) < (n : Int) := by omega
          obtain ⟨x, hx⟩ : ∃ x, xs[j]? = some x := ⟨xs[j]'(by rw [HLX.out]; exact hjn), List.getElem?_eq_getElem _⟩
          obtain ⟨y, hy⟩ : ∃ y, ys[j]? = some y := ⟨ys[j]'(by rw [HLY.out]; exact hjn), List.getElem?_eq_getElem _⟩
          obtain ⟨bb, oo, rfl, hbb, g0⟩ := int_at (HY.out.below H5.out.below) hy
          obtain ⟨g5, rfl, _, hg5, hcell, hfr⟩ := H5.out.form (by omega)
          have y0 := hcell _ _ (pkL_at hx hy)
          have f0 := hfr j
          have HN := H5.out.set hg5 j (p x y)
          rw [pkL_step hx hy] at HN
          have HN' := Lib.hid HN
          have HPX := Lib.hid (HP.out x y)
          clear HN hcell hfr hx hy
          generalize p x y = v at *
          go_wp2_with (go_at_fn pf; refine (HPX.out _).mono ?_; rintro e w2 ⟨rfl, rfl⟩)
          go_roundw
          case rel => exact ⟨j + 1, by omega, by go_num, HN'⟩
          case measure => simp [intOf]; omega
        · obtain rfl : j = n := by omega
          go_wp2_with fail
          go_roundw
          case rel => exact ⟨j, .inr ⟨rfl, rfl⟩, H5⟩
          case measure => simp [intOf]
    · have HZ : Hid (pkL p xs ys q = List.zipWith p xs ys) := pkL_end HLX.out HLY.out
      rw [HZ.out] at H5
      go_wp2_with fail
      go_ret2
      exact ⟨A5, q, c5, rfl, H5.out⟩
end Go.Proofs.YtndekdkljimjaaaDoor
