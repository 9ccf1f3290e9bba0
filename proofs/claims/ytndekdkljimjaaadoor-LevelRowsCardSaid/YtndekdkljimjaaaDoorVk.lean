/- Layer level: Join, Meet, Below, With: contracts. -/
import Derived.Test.YtndekdkljimjaaaDoorVg
import Derived.Test.YtndekdkljimjaaaDoorVi
namespace Go.Proofs.YtndekdkljimjaaaDoor
open Go.RowKit Go.Shelf

theorem own_base {w : World} {base base' : Nat} {e : TypeId} {size : Nat} {v : Value} {n : Nat} {xs : List Value} (h : w.ownsRow base e size v n xs) (hb : base' ≤ base) : w.ownsRow base' e size v n xs := by
  refine ⟨h.1, ?_⟩
  rcases h.2 with hn | ⟨g, cap, cur, hv, hbg, rest⟩
  · exact .inl hn
  · exact .inr ⟨g, cap, cur, hv, by omega, rest⟩
theorem CopyI.base {n : Nat} {xs : List Int} {w0 w w' : World} {A : Option Addr} {c : Nat} (h : CopyI n xs w A c w') (hb : Below w0.heap.size w0 w) : CopyI n xs w0 A c w' :=
  ⟨own_base h.own hb.size, hb.trans (h.below.mono hb.size)⟩
theorem RowE.base {zs : List Int} {k : Int} {w0 w w' : World} {e : Ending} (h : RowE zs k w e w') (hb : Below w0.heap.size w0 w) : RowE zs k w0 e w' := by
  obtain ⟨A, n, c, he, hc⟩ := h
  exact ⟨A, n, c, he, hc.base hb⟩

theorem eg_join1 : ∀ args w, (callFunc 35 args).run Tryd.prog w = .ok (.enter 35 args) w := enters_of Tryd.func35 (by kernel_rfl) rfl
theorem join1_any (x y : Int) (w : World) : Calls Tryd.prog 35 #[.int .i64 x, .int .i64 y] w fun e w' => e = .returned (.int .i64 (max x y)) ∧ w = w' := by
  go_enter Tryd.func35, Tryd.ntmps35
  go_wp2_with fail
  go_ret
  exact ⟨rfl, rfl⟩
set_option maxRecDepth 100000 in
set_option maxHeartbeats 1000000 in
theorem join_no (A B : Option Addr) (n c m d : Nat) (xs ys : List Int) (hn : n ≤ 1000000) (hm : m ≤ 1000000) (k : Int) (hk : alikeE [xs, ys] = k) (hk0 : (k != 0) = true) (w : World) (h1 : Reads w w.heap.size 1 A n (ints xs)) (h2 : Reads w w.heap.size 1 B m (ints ys)) :
    Calls Tryd.prog 25 #[.slice A n c, .slice B m d] w (RowE [] k w) := by
  have hb : Below w.heap.size w (w.alloc (.cells #[.slice A n c, .slice B m d] 22)) := (Below.refl _ _).alloc (Nat.le_refl _) _
  have HT := Lib.hid (through_no (.func (.func 35) #[] #[]) w.heap.size A B n c m d xs ys hn hm k hk hk0 _ (Blk.new w 22 #[.slice A n c, .slice B m d]) ((h1.below hb).more hb.size) ((h2.below hb).more hb.size))
  have HB := Lib.hid hb
  clear hb h1 h2 hk
  go_enter Tryd.func25, Tryd.ntmps25
  go_wp2_with fail
  refine HT.out.mono ?_
  rintro e w1 hx
  have HX := Lib.hid (hx.base HB.out)
  obtain ⟨A1, n1, c1, rfl, -⟩ := hx
  clear HT
  go_wp2_with fail
  go_ret2
  exact HX.out
set_option maxRecDepth 100000 in
set_option maxHeartbeats 1000000 in
theorem join_ok (A B : Option Addr) (n c d : Nat) (xs ys : List Int) (hn : n ≤ 1000000) (hk : alikeE [xs, ys] = 0) (w : World) (h1 : Reads w w.heap.size 1 A n (ints xs)) (h2 : Reads w w.heap.size 1 B n (ints ys)) :
    Calls Tryd.prog 25 #[.slice A n c, .slice B n d] w (RowE (List.zipWith max xs ys) 0 w) := by
  have hb : Below w.heap.size w (w.alloc (.cells #[.slice A n c, .slice B n d] 22)) := (Below.refl _ _).alloc (Nat.le_refl _) _
  have HT := Lib.hid (through_ok 35 max join1_any eg_join1 w.heap.size A B n c d xs ys hn hk _ (Blk.new w 22 #[.slice A n c, .slice B n d]) ((h1.below hb).more hb.size) ((h2.below hb).more hb.size))
  have HB := Lib.hid hb
  clear hb h1 h2 hk
  go_enter Tryd.func25, Tryd.ntmps25
  go_wp2_with fail
  refine HT.out.mono ?_
  rintro e w1 hx
  have HX := Lib.hid (hx.base HB.out)
  obtain ⟨A1, n1, c1, rfl, -⟩ := hx
  clear HT
  go_wp2_with fail
  go_ret2
  exact HX.out

theorem eg_meet1 : ∀ args w, (callFunc 36 args).run Tryd.prog w = .ok (.enter 36 args) w := enters_of Tryd.func36 (by kernel_rfl) rfl
theorem meet1_any (x y : Int) (w : World) : Calls Tryd.prog 36 #[.int .i64 x, .int .i64 y] w fun e w' => e = .returned (.int .i64 (min x y)) ∧ w = w' := by
  go_enter Tryd.func36, Tryd.ntmps36
  go_wp2_with fail
  go_ret
  exact ⟨rfl, rfl⟩
set_option maxRecDepth 100000 in
set_option maxHeartbeats 1000000 in
theorem meet_no (A B : Option Addr) (n c m d : Nat) (xs ys : List Int) (hn : n ≤ 1000000) (hm : m ≤ 1000000) (k : Int) (hk : alikeE [xs, ys] = k) (hk0 : (k != 0) = true) (w : World) (h1 : Reads w w.heap.size 1 A n (ints xs)) (h2 : Reads w w.heap.size 1 B m (ints ys)) :
    Calls Tryd.prog 26 #[.slice A n c, .slice B m d] w (RowE [] k w) := by
  have hb : Below w.heap.size w (w.alloc (.cells #[.slice A n c, .slice B m d] 22)) := (Below.refl _ _).alloc (Nat.le_refl _) _
  have HT := Lib.hid (through_no (.func (.func 36) #[] #[]) w.heap.size A B n c m d xs ys hn hm k hk hk0 _ (Blk.new w 22 #[.slice A n c, .slice B m d]) ((h1.below hb).more hb.size) ((h2.below hb).more hb.size))
  have HB := Lib.hid hb
  clear hb h1 h2 hk
  go_enter Tryd.func26, Tryd.ntmps26
  go_wp2_with fail
  refine HT.out.mono ?_
  rintro e w1 hx
  have HX := Lib.hid (hx.base HB.out)
  obtain ⟨A1, n1, c1, rfl, -⟩ := hx
  clear HT
  go_wp2_with fail
  go_ret2
  exact HX.out
set_option maxRecDepth 100000 in
set_option maxHeartbeats 1000000 in
theorem meet_ok (A B : Option Addr) (n c d : Nat) (xs ys : List Int) (hn : n ≤ 1000000) (hk : alikeE [xs, ys] = 0) (w : World) (h1 : Reads w w.heap.size 1 A n (ints xs)) (h2 : Reads w w.heap.size 1 B n (ints ys)) :
    Calls Tryd.prog 26 #[.slice A n c, .slice B n d] w (RowE (List.zipWith min xs ys) 0 w) := by
  have hb : Below w.heap.size w (w.alloc (.cells #[.slice A n c, .slice B n d] 22)) := (Below.refl _ _).alloc (Nat.le_refl _) _
  have HT := Lib.hid (through_ok 36 min meet1_any eg_meet1 w.heap.size A B n c d xs ys hn hk _ (Blk.new w 22 #[.slice A n c, .slice B n d]) ((h1.below hb).more hb.size) ((h2.below hb).more hb.size))
  have HB := Lib.hid hb
  clear hb h1 h2 hk
  go_enter Tryd.func26, Tryd.ntmps26
  go_wp2_with fail
  refine HT.out.mono ?_
  rintro e w1 hx
  have HX := Lib.hid (hx.base HB.out)
  obtain ⟨A1, n1, c1, rfl, -⟩ := hx
  clear HT
  go_wp2_with fail
  go_ret2
  exact HX.out

/-- Whether it is below, and an error. -/
def BelowE (b : Bool) (k : Int) (w : World) (e : Ending) (w' : World) : Prop := e = .returned (.tuple #[.bool b, .int .i64 k]) ∧ Below w.heap.size w w'
set_option maxRecDepth 100000 in
set_option maxHeartbeats 1000000 in
theorem below9_no (A B : Option Addr) (n c m d : Nat) (xs ys : List Int) (hn : n ≤ 1000000) (hm : m ≤ 1000000) (k : Int) (hk : alikeE [xs, ys] = k) (hk0 : (k != 0) = true) (w : World) (h1 : Reads w w.heap.size 1 A n (ints xs)) (h2 : Reads w w.heap.size 1 B m (ints ys)) :
    Calls Tryd.prog 24 #[.slice A n c, .slice B m d] w (BelowE false k w) := by
  have HJ := Lib.hid (join_no A B n c m d xs ys hn hm k hk hk0 w h1 h2)
  have hk1 : (k == 0) = false := by simpa using hk0
  clear h1 h2 hk
  go_enter Tryd.func24, Tryd.ntmps24
  go_wp2_with fail
  refine HJ.out.mono ?_
  rintro e w1 ⟨A1, n1, c1, rfl, h1⟩
  have HB := Lib.hid h1.below
  clear h1 HJ
  go_wp2_with fail
  go_ret2
  exact ⟨rfl, HB.out⟩
theorem zip_max {xs ys : List Int} (h : xs.length = ys.length) : decide (List.zipWith max xs ys = ys) = belowB xs ys := by
  rw [Bool.eq_iff_iff, decide_eq_true_eq, belowB_iff]
  constructor
  · intro e j x y hx hy
    have := zip_at (f := max) hx hy
    rw [e, hy] at this
    injection this with this
    omega
  · intro hall
    apply List.ext_getElem?
    intro j
    by_cases hj : j < ys.length
    · have hx : xs[j]? = some (xs[j]'(by omega)) := List.getElem?_eq_getElem _
      have hy : ys[j]? = some (ys[j]'hj) := List.getElem?_eq_getElem _
      have := hall j _ _ hx hy
      rw [zip_at (f := max) hx hy, hy]
      congr 1
      omega
    · rw [List.getElem?_eq_none (by rw [List.length_zipWith]; omega), List.getElem?_eq_none (by omega)]
theorem zip_min {xs ys : List Int} (h : xs.length = ys.length) : decide (List.zipWith min xs ys = xs) = belowB xs ys := by
  rw [Bool.eq_iff_iff, decide_eq_true_eq, belowB_iff]
  constructor
  · intro e j x y hx hy
    have := zip_at (f := min) hx hy
    rw [e, hx] at this
    injection this with this
    omega
  · intro hall
    apply List.ext_getElem?
    intro j
    by_cases hj : j < ys.length
    · have hx : xs[j]? = some (xs[j]'(by omega)) := List.getElem?_eq_getElem _
      have hy : ys[j]? = some (ys[j]'hj) := List.getElem?_eq_getElem _
      have := hall j _ _ hx hy
      rw [zip_at (f := min) hx hy, hx]
      congr 1
      omega
    · rw [List.getElem?_eq_none (by rw [List.length_zipWith]; omega), List.getElem?_eq_none (by omega)]
set_option maxRecDepth 100000 in
set_option maxHeartbeats 1000000 in
theorem below9_ok (A B : Option Addr) (n c d : Nat) (xs ys : List Int) (hn : n ≤ 1000000) (hk : alikeE [xs, ys] = 0) (w : World) (h1 : Reads w w.heap.size 1 A n (ints xs)) (h2 : Reads w w.heap.size 1 B n (ints ys)) :
    Calls Tryd.prog 24 #[.slice A n c, .slice B n d] w (BelowE (belowB xs ys) 0 w) := by
  have HJ := Lib.hid (join_ok A B n c d xs ys hn hk w h1 h2)
  have HZ := Lib.hid (zip_max (xs := xs) (ys := ys) (by rw [ints_len h1, ints_len h2]))
  have H2 := Lib.hid h2
  have HL : Hid ((List.zipWith max xs ys).length = n) := by show _ = _; rw [List.length_zipWith, ints_len h1, ints_len h2]; omega
  clear h1 h2 hk
  go_enter Tryd.func24, Tryd.ntmps24
  go_wp2_with fail
  refine HJ.out.mono ?_
  rintro e w1 ⟨A1, n1, c1, rfl, h1⟩
  obtain rfl : n = n1 := by rw [← h1.len, HL.out]
  have HB := Lib.hid h1.below
  have HE := Lib.hid (eqi_any A1 B n n c1 d _ ys hn hn w1 h1.reads ((H2.out.below h1.below).more h1.below.size))
  rw [HZ.out] at HE
  clear h1 HJ HZ
  generalize belowB xs ys = b at *
  go_wp2_with fail
  refine HE.out.mono ?_
  rintro e w2 ⟨rfl, b2⟩
  have HB2 := Lib.hid (HB.out.trans (b2.mono HB.out.size))
  clear b2
  go_wp2_with fail
  go_ret2
  exact ⟨rfl, HB2.out⟩
end Go.Proofs.YtndekdkljimjaaaDoor
