/- Layer digit: what widen, plus, times, narrow, Add and Mul give, as contracts of the translated calls. -/
import Derived.Test.YthccgpjbchlocaaDoorRows
import Derived.Test.YthccgpjbchlocaaDoorDs
import Derived.WalkKit
import Derived.WalkSpells
import Derived.WalkLawsBesides
import Derived.BigQuiet
import Derived.Deep.QuietTactic
import Derived.Lib.Hide
import Derived.Deep.RegionWith
namespace Go.Proofs.YthccgpjbchlocaaDoor
open Go.RowKit

theorem bcell {W w1 : World} (hb : Below W.heap.size W w1) : (∀ b o, b < W.heap.size → w1.cell? ⟨b, o, none⟩ = W.cell? ⟨b, o, none⟩) ∧ (∀ b o, b < W.heap.size → w1.frozen? ⟨b, o, none⟩ = W.frozen? ⟨b, o, none⟩) :=
  ⟨fun b o h => hb.cell (p := ⟨b, o, none⟩) h, fun b o h => hb.frozen (p := ⟨b, o, none⟩) h⟩

/-- The low 64 bits of a number, and what is above them. -/
def lo64 (x : Int) : Int := x % 18446744073709551616
def hi64 (x : Int) : Int := x / 18446744073709551616
/-- A number, to 128 bits, as the program's struct. -/
def wideV (z : Int) : Value := .agg #[.int .u64 (lo64 (hi64 z)), .int .u64 (lo64 z)]

theorem lo64_nonneg (x : Int) : 0 ≤ lo64 x := by unfold lo64; omega
theorem hi64_nonneg (x : Int) (h : 0 ≤ x) : 0 ≤ hi64 x := by unfold hi64; omega
theorem hi64_sum (x y : Int) : 0 ≤ hi64 (lo64 x + lo64 y) ∧ hi64 (lo64 x + lo64 y) ≤ 1 := by unfold hi64 lo64; omega
theorem lo64_plus (x y : Int) : lo64 (lo64 x + lo64 y) = lo64 (x + y) := by unfold lo64; omega
theorem hi64_plus (x y : Int) : lo64 (lo64 (hi64 x) + lo64 (hi64 y) + hi64 (lo64 x + lo64 y)) = lo64 (hi64 (x + y)) := by unfold lo64 hi64; omega

theorem add64_run (x y c : Int) (hx : 0 ≤ x) (hy : 0 ≤ y) (hc0 : 0 ≤ c) (hc : c ≤ 1) (w : World) :
    (callFunc 77 #[.int .u64 x, .int .u64 y, .int .u64 c]).run Tryd.prog w =
      .ok (.value (.tuple #[.int .u64 (lo64 (x + y + c)), .int .u64 (hi64 (x + y + c))])) w := by
  rw [run_callFunc_extern Tryd.func77 (by kernel_rfl) (by kernel_rfl) (by kernel_rfl) (e := add64Entry) (by kernel_rfl), run_add64 x y c hx hy hc0 hc]
  rfl

theorem widen_hi (n : Int) (h0 : -9223372036854775808 ≤ n) (h1 : n ≤ 9223372036854775807) : IntKind.u64.wrap (n / 9223372036854775808) = lo64 (hi64 n) := by
  unfold lo64 hi64 IntKind.wrap
  simp [IntKind.bits, IntKind.signed]
  omega
theorem widen_lo (n : Int) : IntKind.u64.wrap n = lo64 n := by
  unfold lo64 IntKind.wrap
  simp [IntKind.bits, IntKind.signed]

set_option maxHeartbeats 400000 in
theorem widen_any (n : Int) (h0 : -9223372036854775808 ≤ n) (h1 : n ≤ 9223372036854775807) (w : World) :
    Calls Tryd.prog 73 #[.int .i64 n] w fun e w' => e = .returned (wideV n) ∧ Below w.heap.size w w' := by
  have hv : Value.agg #[.int .u64 (IntKind.u64.wrap (n / 9223372036854775808)), .int .u64 (IntKind.u64.wrap n)] = wideV n := by
    unfold wideV; rw [widen_hi n h0 h1, widen_lo]
  have H := Lib.hid hv
  clear hv h0 h1
  go_enter Tryd.func73, Tryd.ntmps73
  go_wp2
  exact bodyPost_ret (v := .agg #[.int .u64 (IntKind.u64.wrap (n / 9223372036854775808)), .int .u64 (IntKind.u64.wrap n)]) (by simp [results, Tryd.results73, go_sem]) rfl ⟨by rw [H.out], (Below.refl _ _).alloc (Nat.le_refl _) _⟩

theorem add64_two (x y : Int) (hx : 0 ≤ x) (hy : 0 ≤ y) (w : World) :
    (callFunc 77 #[.int .u64 x, .int .u64 y, .int .u64 0]).run Tryd.prog w =
      .ok (.value (.tuple #[.int .u64 (lo64 (x + y)), .int .u64 (hi64 (x + y))])) w := by
  have := add64_run x y 0 hx hy (by decide) (by decide) w
  rwa [Int.add_zero] at this

set_option maxHeartbeats 400000 in
theorem plus_core (a b c d : Int) (ha : 0 ≤ a) (hb : 0 ≤ b) (hc : 0 ≤ c) (hd : 0 ≤ d) (h0 : 0 ≤ hi64 (b + d)) (h1 : hi64 (b + d) ≤ 1) (w : World) :
    Calls Tryd.prog 74 #[.agg #[.int .u64 a, .int .u64 b], .agg #[.int .u64 c, .int .u64 d]] w fun e w' => e = .returned (.agg #[.int .u64 (lo64 (a + c + hi64 (b + d))), .int .u64 (lo64 (b + d))]) ∧ Below w.heap.size w w' := by
  have A1 := fun W => add64_two b d hb hd W
  have A2 := fun W => add64_run a c (hi64 (b + d)) ha hc h0 h1 W
  clear ha hb hc hd h0 h1
  go_enter Tryd.func74, Tryd.ntmps74
  go_wp2
  exact bodyPost_ret (v := .agg #[.int .u64 (lo64 (a + c + hi64 (b + d))), .int .u64 (lo64 (b + d))]) (by simp [results, Tryd.results74, go_sem]) rfl ⟨rfl, (((Below.refl _ _).alloc (Nat.le_refl _) _).alloc (by simp) _).alloc (by simp; omega) _⟩

theorem plus_wide (x y : Int) (w : World) :
    Calls Tryd.prog 74 #[wideV x, wideV y] w fun e w' => e = .returned (wideV (x + y)) ∧ Below w.heap.size w w' := by
  have h := plus_core (lo64 (hi64 x)) (lo64 x) (lo64 (hi64 y)) (lo64 y) (lo64_nonneg _) (lo64_nonneg _) (lo64_nonneg _) (lo64_nonneg _) (hi64_sum x y).1 (hi64_sum x y).2 w
  refine h.mono fun e w' hp => ⟨?_, hp.2⟩
  rw [hp.1, lo64_plus, hi64_plus]
  rfl

theorem widen_raw (n : Int) (h0 : -9223372036854775808 ≤ n) (h1 : n ≤ 9223372036854775807) (w : World) :
    Calls Tryd.prog 73 #[.int .i64 n] w fun e w' => e = .returned (.agg #[.int .u64 (lo64 (hi64 n)), .int .u64 (lo64 n)]) ∧ Below w.heap.size w w' := widen_any n h0 h1 w

set_option maxHeartbeats 400000 in
theorem narrow_core (a b : Int) (hbb : (b == lo64 (wrap64 b)) = true) (haa : (a == lo64 (hi64 (wrap64 b))) = true) (w : World) :
    Calls Tryd.prog 72 #[.agg #[.int .u64 a, .int .u64 b]] w fun e w' => e = .returned (.tuple #[.int .i64 (wrap64 b), .bool true]) ∧ Below w.heap.size w w' := by
  have hw := fun W => widen_raw (wrap64 b) (by unfold wrap64; omega) (by unfold wrap64; omega) W
  have H := Lib.hid hw
  clear hw
  go_enter Tryd.func72, Tryd.ntmps72
  go_wp2_with fail
  go_region_with (go_at_call 73; refine (H.out _).mono ?_; rintro e w' ⟨rfl, hb⟩; obtain ⟨hc, hf⟩ := bcell hb)
  all_goals
    have hB : Below w.heap.size w w' := ((Below.refl _ _).alloc (Nat.le_refl _) _).drew.trans (hb.mono (by simp))
    clear hb
    go_wp2
    go_ret2
    exact ⟨rfl, hB⟩

set_option maxHeartbeats 400000 in
theorem narrow_not (a b : Int) (hbb : (b == lo64 (wrap64 b)) = true) (haa : (a == lo64 (hi64 (wrap64 b))) = false) (w : World) :
    Calls Tryd.prog 72 #[.agg #[.int .u64 a, .int .u64 b]] w fun e w' => e = .returned (.tuple #[.int .i64 0, .bool false]) ∧ Below w.heap.size w w' := by
  have hw := fun W => widen_raw (wrap64 b) (by unfold wrap64; omega) (by unfold wrap64; omega) W
  have H := Lib.hid hw
  clear hw
  go_enter Tryd.func72, Tryd.ntmps72
  go_wp2_with fail
  go_region_with (go_at_call 73; refine (H.out _).mono ?_; rintro e w' ⟨rfl, hb⟩; obtain ⟨hc, hf⟩ := bcell hb)
  all_goals
    have hB : Below w.heap.size w w' := ((Below.refl _ _).alloc (Nat.le_refl _) _).drew.trans (hb.mono (by simp))
    clear hb
    go_wp2
    go_ret2
    exact ⟨rfl, hB⟩

/-- A number that 128 bits hold. -/
def in128 (z : Int) : Prop := -170141183460469231731687303715884105728 ≤ z ∧ z < 170141183460469231731687303715884105728
theorem lo_wrap (z : Int) : lo64 (wrap64 (lo64 z)) = lo64 z := by unfold lo64 wrap64; omega
theorem hi_fits (z : Int) (h : fitB z = true) : wrap64 (lo64 z) = z ∧ lo64 (hi64 z) = lo64 (hi64 (wrap64 (lo64 z))) := by
  rw [fitB_iff] at h
  have e : wrap64 (lo64 z) = z := by unfold lo64 wrap64; omega
  exact ⟨e, by rw [e]⟩
theorem hi_not (z : Int) (hz : in128 z) (h : fitB z = false) : lo64 (hi64 z) ≠ lo64 (hi64 (wrap64 (lo64 z))) := by
  have h' : ¬ (-9223372036854775808 ≤ z ∧ z ≤ 9223372036854775807) := by rw [← fitB_iff]; simp [h]
  unfold in128 at hz
  unfold lo64 hi64 wrap64
  omega

theorem narrow_wide (z : Int) (hz : in128 z) (w : World) :
    Calls Tryd.prog 72 #[wideV z] w fun e w' => e = .returned (.tuple #[.int .i64 (fitN z), .bool (fitB z)]) ∧ Below w.heap.size w w' := by
  cases h : fitB z
  · have := narrow_not (lo64 (hi64 z)) (lo64 z) (by rw [lo_wrap]; simp) (beq_eq_false_iff_ne.2 (hi_not z hz h)) w
    rw [fitN_not h]
    exact this
  · have := narrow_core (lo64 (hi64 z)) (lo64 z) (by rw [lo_wrap]; simp) (beq_iff_eq.2 (hi_fits z h).2) w
    rw [fitN_of h]
    rw [(hi_fits z h).1] at this
    exact this

theorem ok64 {n : Int} (h0 : -9223372036854775808 ≤ n) (h1 : n ≤ 9223372036854775807) {m : Int} (g0 : -9223372036854775808 ≤ m) (g1 : m ≤ 9223372036854775807) : in128 (n + m) := by
  unfold in128; omega

set_option maxHeartbeats 400000 in
theorem add_any (a b : Int) (ha0 : -9223372036854775808 ≤ a) (ha1 : a ≤ 9223372036854775807) (hb0 : -9223372036854775808 ≤ b) (hb1 : b ≤ 9223372036854775807) (w : World) :
    Calls Tryd.prog 67 #[.int .i64 a, .int .i64 b] w fun e w' => e = .returned (.tuple #[.int .i64 (fitN (a + b)), .bool (fitB (a + b))]) ∧ Below w.heap.size w w' := by
  have H1 := Lib.hid fun W => widen_any a ha0 ha1 W
  have H2 := Lib.hid fun W => widen_any b hb0 hb1 W
  have H3 := Lib.hid fun W => plus_wide a b W
  have H4 := Lib.hid fun W => narrow_wide (a + b) (ok64 ha0 ha1 hb0 hb1) W
  clear ha0 ha1 hb0 hb1
  go_enter Tryd.func67, Tryd.ntmps67
  go_wp2_with fail
  refine (H1.out _).mono ?_
  rintro e w1 ⟨rfl, b1⟩
  go_wp2_with fail
  refine (H2.out _).mono ?_
  rintro e w2 ⟨rfl, b2⟩
  go_wp2_with fail
  refine (H3.out _).mono ?_
  rintro e w3 ⟨rfl, b3⟩
  go_wp2_with fail
  refine (H4.out _).mono ?_
  rintro e w4 ⟨rfl, b4⟩
  go_wp2_with fail
  go_ret2
  exact ⟨rfl, b1.trans ((b2.mono b1.size).trans ((b3.mono (Nat.le_trans b1.size b2.size)).trans (b4.mono (Nat.le_trans b1.size (Nat.le_trans b2.size b3.size)))))⟩
end Go.Proofs.YthccgpjbchlocaaDoor
