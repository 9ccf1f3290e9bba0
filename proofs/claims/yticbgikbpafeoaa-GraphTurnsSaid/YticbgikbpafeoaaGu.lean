/- Layer graph: closures that ask edges, and that turn them; those, Values: contracts. -/
import Derived.Test.YticbgikbpafeoaaGm
namespace Go.Proofs.Yticbgikbpafeoaa
open Go.RowKit

set_option maxHeartbeats 1000000 in
theorem in1_any (p : Ed) (v : Int) (B : Nat) (W : World) (hB : B < W.heap.size) (hc : W.cell? ⟨B, 0, none⟩ = some (.int .i64 v)) :
    Calls Try.prog 52 #[.agg #[.int .i64 p.1, .int .i64 p.2.1, .int .i64 p.2.2], .pointer (some ⟨B, 0, none⟩)] W fun e W' => e = .returned (.bool (p.2.1 == v)) ∧ Below W.heap.size W W' := by
  have hc2 : (W.alloc (.cells #[.int .i64 p.1, .int .i64 p.2.1, .int .i64 p.2.2] 35)).cell? ⟨B, 0, none⟩ = some (.int .i64 v) := (World.cell?_alloc_lt W _ ⟨B, 0, none⟩ hB).trans hc
  go_enter Try.func52, Try.ntmps52
  go_wp2_with fail
  go_ret
  exact ⟨rfl, (Below.refl _ _).alloc (Nat.le_refl _) _⟩
set_option maxHeartbeats 1000000 in
theorem kinds1_any (p : Ed) (v : Int) (B : Nat) (W : World) (hB : B < W.heap.size) (hc : W.cell? ⟨B, 0, none⟩ = some (.int .i64 v)) :
    Calls Try.prog 53 #[.agg #[.int .i64 p.1, .int .i64 p.2.1, .int .i64 p.2.2], .pointer (some ⟨B, 0, none⟩)] W fun e W' => e = .returned (.bool (p.2.1 == v)) ∧ Below W.heap.size W W' := by
  have hc2 : (W.alloc (.cells #[.int .i64 p.1, .int .i64 p.2.1, .int .i64 p.2.2] 35)).cell? ⟨B, 0, none⟩ = some (.int .i64 v) := (World.cell?_alloc_lt W _ ⟨B, 0, none⟩ hB).trans hc
  go_enter Try.func53, Try.ntmps53
  go_wp2_with fail
  go_ret
  exact ⟨rfl, (Below.refl _ _).alloc (Nat.le_refl _) _⟩
set_option maxHeartbeats 1000000 in
theorem parts1_any (p : Ed) (v : Int) (B : Nat) (W : World) (hB : B < W.heap.size) (hc : W.cell? ⟨B, 0, none⟩ = some (.int .i64 v)) :
    Calls Try.prog 35 #[.agg #[.int .i64 p.1, .int .i64 p.2.1, .int .i64 p.2.2], .pointer (some ⟨B, 0, none⟩)] W fun e W' => e = .returned (.bool (decide (p.2.2 < v))) ∧ Below W.heap.size W W' := by
  have hc2 : (W.alloc (.cells #[.int .i64 p.1, .int .i64 p.2.1, .int .i64 p.2.2] 35)).cell? ⟨B, 0, none⟩ = some (.int .i64 v) := (World.cell?_alloc_lt W _ ⟨B, 0, none⟩ hB).trans hc
  go_enter Try.func35, Try.ntmps35
  go_wp2_with fail
  go_ret
  exact ⟨rfl, (Below.refl _ _).alloc (Nat.le_refl _) _⟩
set_option maxHeartbeats 1000000 in
theorem parts2_any (p : Ed) (v : Int) (B : Nat) (W : World) (hB : B < W.heap.size) (hc : W.cell? ⟨B, 0, none⟩ = some (.int .i64 v)) :
    Calls Try.prog 36 #[.agg #[.int .i64 p.1, .int .i64 p.2.1, .int .i64 p.2.2], .pointer (some ⟨B, 0, none⟩)] W fun e W' => e = .returned (.bool (decide (p.2.2 ≥ v))) ∧ Below W.heap.size W W' := by
  have hc2 : (W.alloc (.cells #[.int .i64 p.1, .int .i64 p.2.1, .int .i64 p.2.2] 35)).cell? ⟨B, 0, none⟩ = some (.int .i64 v) := (World.cell?_alloc_lt W _ ⟨B, 0, none⟩ hB).trans hc
  go_enter Try.func36, Try.ntmps36
  go_wp2_with fail
  go_ret
  exact ⟨rfl, (Below.refl _ _).alloc (Nat.le_refl _) _⟩
set_option maxHeartbeats 1000000 in
theorem parts3_any (p : Ed) (W : World) :
    Calls Try.prog 37 #[.agg #[.int .i64 p.1, .int .i64 p.2.1, .int .i64 p.2.2]] W fun e W' => e = .returned (.bool true) ∧ Below W.heap.size W W' := by
  go_enter Try.func37, Try.ntmps37
  go_wp2_with fail
  go_ret
  exact ⟨rfl, (Below.refl _ _).alloc (Nat.le_refl _) _⟩
set_option maxHeartbeats 1000000 in
theorem kinds2_any (p : Ed) (W : World) :
    Calls Try.prog 55 #[.agg #[.int .i64 p.1, .int .i64 p.2.1, .int .i64 p.2.2]] W fun e W' => e = .returned (.int .i64 p.2.2) ∧ Below W.heap.size W W' := by
  go_enter Try.func55, Try.ntmps55
  go_wp2_with fail
  go_ret
  exact ⟨rfl, (Below.refl _ _).alloc (Nat.le_refl _) _⟩
theorem store3 {W : World} {X : Nat} {t : TypeId} {a b c : Value} (h : Blk W X t #[a, b, c]) (u v x : Value) : Blk (((W.setCell ⟨X, 0, none⟩ u).setCell ⟨X, 1, none⟩ v).setCell ⟨X, 2, none⟩ x) X t #[u, v, x] := by
  have := ((h.set_ 0 u).set_ 1 v).set_ 2 x
  simpa using this
set_option maxHeartbeats 1000000 in
theorem rev1_any (p : Ed) (W : World) :
    Calls Try.prog 58 #[.agg #[.int .i64 p.1, .int .i64 p.2.1, .int .i64 p.2.2]] W fun e W' => e = .returned (.agg #[.int .i64 p.2.1, .int .i64 p.1, .int .i64 p.2.2]) ∧ Below W.heap.size W W' := by
  obtain ⟨_, k1, b0⟩ := two_new W #[.int .i64 p.1, .int .i64 p.2.1, .int .i64 p.2.2] #[.int .i64 p.2.1, .int .i64 p.1, .int .i64 p.2.2] 35 35
  have y0 := k1.cell 0
  have y1 := k1.cell 1
  have y2 := k1.cell 2
  have HB := Lib.hid b0
  clear k1 b0
  go_enter Try.func58, Try.ntmps58
  go_wp2_with fail
  exact bodyPost_ret (v := .agg #[.int .i64 p.2.1, .int .i64 p.1, .int .i64 p.2.2]) (by simp [results, Try.results58, go_sem]) rfl ⟨rfl, HB.out⟩

/-- those: the function value that it hands back. -/
theorem those_any (A : Option Addr) (n c : Nat) (g : Nat) (caps : Array Value) (w : World) :
    Calls Try.prog 51 #[.slice A n c, .func (.func g) #[] caps] w fun e w' => e = .returned (.func (.func 67) #[] #[.pointer (some ⟨w.heap.size, 0, none⟩), .pointer (some ⟨w.heap.size + 1, 0, none⟩)]) ∧
      w' = (w.alloc (.cells #[.slice A n c] 22)).alloc (.cells #[.func (.func g) #[] caps] 54) := by
  go_enter Try.func51, Try.ntmps51
  go_wp2_with fail
  go_ret
  exact ⟨rfl, rfl⟩
theorem values_any (A : Option Addr) (n c : Nat) (w : World) :
    Calls Try.prog 57 #[.slice A n c] w fun e w' => e = .returned (.func (.func 68) #[] #[.pointer (some ⟨w.heap.size, 0, none⟩)]) ∧
      w' = w.alloc (.cells #[.slice A n c] 22) := by
  go_enter Try.func57, Try.ntmps57
  go_wp2_with fail
  go_ret
  exact ⟨rfl, rfl⟩
end Go.Proofs.Yticbgikbpafeoaa
