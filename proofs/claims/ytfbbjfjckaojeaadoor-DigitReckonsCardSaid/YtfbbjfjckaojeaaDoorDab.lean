/- The document's answers of layer digit: numbers in parts to the base 2^32: plain facts; no program. -/
import Derived.Test.YtfbbjfjckaojeaaDoorDs
namespace Go.Proofs.YtfbbjfjckaojeaaDoor

/-- What is left of a number above its lowest k parts; its part k. -/
def fl (z : Int) : Nat → Int
  | 0 => z
  | k + 1 => fl z k / 4294967296
def dg (z : Int) (k : Nat) : Int := fl z k % 4294967296
theorem dg_bd (z : Int) (k : Nat) : 0 ≤ dg z k ∧ dg z k ≤ 4294967295 := by unfold dg; omega
theorem fl_dg (z : Int) (k : Nat) : fl z k = 4294967296 * fl z (k + 1) + dg z k := by
  unfold dg
  show fl z k = 4294967296 * (fl z k / 4294967296) + _
  omega
/-- What is carried to the part k of a sum. -/
def cy (z y : Int) : Nat → Int
  | 0 => 0
  | k + 1 => (dg z k + dg y k + cy z y k) / 4294967296
theorem cy_bd (z y : Int) (k : Nat) : 0 ≤ cy z y k ∧ cy z y k ≤ 1 := by
  induction k with
  | zero => show 0 ≤ (0 : Int) ∧ (0 : Int) ≤ 1; omega
  | succ k ih =>
    have h1 := dg_bd z k
    have h2 := dg_bd y k
    show 0 ≤ (dg z k + dg y k + cy z y k) / 4294967296 ∧ (dg z k + dg y k + cy z y k) / 4294967296 ≤ 1
    omega
theorem fl_add (z y : Int) (k : Nat) : fl (z + y) k = fl z k + fl y k + cy z y k := by
  induction k with
  | zero => show z + y = z + y + 0; omega
  | succ k ih =>
    show fl (z + y) k / 4294967296 = fl z k / 4294967296 + fl y k / 4294967296 + (dg z k + dg y k + cy z y k) / 4294967296
    rw [ih]
    unfold dg
    omega
theorem dg_add (z y : Int) (k : Nat) : (dg z k + dg y k + cy z y k) % 4294967296 = dg (z + y) k := by
  show _ = fl (z + y) k % 4294967296
  rw [fl_add]
  unfold dg
  omega
/-- Two numbers of the same five parts, neither of which is more than these hold, are one. -/
theorem dg_same {z n : Int} (hz : -1 ≤ fl z 4 ∧ fl z 4 ≤ 0) (hn : -1 ≤ fl n 4 ∧ fl n 4 ≤ 0) (h0 : dg z 0 = dg n 0) (h1 : dg z 1 = dg n 1) (h2 : dg z 2 = dg n 2) (h3 : dg z 3 = dg n 3) (h4 : dg z 4 = dg n 4) : z = n := by
  have a0 : fl z 0 = 4294967296 * fl z 1 + dg z 0 := fl_dg z 0
  have a1 : fl z 1 = 4294967296 * fl z 2 + dg z 1 := fl_dg z 1
  have a2 : fl z 2 = 4294967296 * fl z 3 + dg z 2 := fl_dg z 2
  have a3 : fl z 3 = 4294967296 * fl z 4 + dg z 3 := fl_dg z 3
  have b0 : fl n 0 = 4294967296 * fl n 1 + dg n 0 := fl_dg n 0
  have b1 : fl n 1 = 4294967296 * fl n 2 + dg n 1 := fl_dg n 1
  have b2 : fl n 2 = 4294967296 * fl n 3 + dg n 2 := fl_dg n 2
  have b3 : fl n 3 = 4294967296 * fl n 4 + dg n 3 := fl_dg n 3
  have e0 : fl z 0 = z := rfl
  have e1 : fl n 0 = n := rfl
  unfold dg at h4
  omega
theorem fl4 {z : Int} (h0 : -170141183460469231731687303715884105728 ≤ z) (h1 : z < 170141183460469231731687303715884105728) : -1 ≤ fl z 4 ∧ fl z 4 ≤ 0 := by
  show -1 ≤ z / 4294967296 / 4294967296 / 4294967296 / 4294967296 ∧ z / 4294967296 / 4294967296 / 4294967296 / 4294967296 ≤ 0
  omega
theorem low_two (z : Int) : (dg z 1 * 4294967296 + dg z 0) = z % 18446744073709551616 := by
  show (z / 4294967296 % 4294967296) * 4294967296 + z % 4294967296 = _
  omega
end Go.Proofs.YtfbbjfjckaojeaaDoor
