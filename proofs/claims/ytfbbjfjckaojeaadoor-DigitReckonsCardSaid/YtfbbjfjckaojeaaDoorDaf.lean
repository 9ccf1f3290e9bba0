/- The document's answers of layer digit: products in parts to the base 2^32: plain facts; no program. -/
import Derived.Test.YtfbbjfjckaojeaaDoorDab
namespace Go.Proofs.YtfbbjfjckaojeaaDoor

def pw : Nat → Int
  | 0 => 1
  | j + 1 => 4294967296 * pw j
theorem pw1 : pw 1 = 4294967296 := rfl
theorem pw2 : pw 2 = 18446744073709551616 := rfl
theorem pw3 : pw 3 = 79228162514264337593543950336 := rfl
theorem pw4 : pw 4 = 340282366920938463463374607431768211456 := rfl
theorem pw5 : pw 5 = 1461501637330902918203684832716283019655932542976 := rfl

/-- The number that five parts are. -/
def val5 (o : Nat → Int) : Int := o 0 + o 1 * 4294967296 + o 2 * 18446744073709551616 + o 3 * 79228162514264337593543950336 + o 4 * 340282366920938463463374607431768211456
/-- Each part is one. -/
def parts (o : Nat → Int) : Prop := ∀ j, j < 5 → 0 ≤ o j ∧ o j ≤ 4294967295
/-- What one part times all the parts below k adds. -/
def acc (a : Int) (x : Nat → Int) (i : Nat) : Nat → Int
  | 0 => 0
  | k + 1 => acc a x i k + a * x k * pw (i + k)
/-- The number of the parts below i. -/
def low (u : Nat → Int) : Nat → Int
  | 0 => 0
  | i + 1 => low u i + u i * pw i

theorem val5_upd (o : Nat → Int) (j : Nat) (hj : j < 5) (v : Int) (g : Nat → Int) (hg : ∀ n, g n = if n = j then v else o n) : val5 g = val5 o + (v - o j) * pw j := by
  unfold val5
  rw [hg 0, hg 1, hg 2, hg 3, hg 4]
  match j, hj with
  | 0, _ => simp [pw]; omega
  | 1, _ => simp [pw]; omega
  | 2, _ => simp [pw]; omega
  | 3, _ => simp [pw]; omega
  | 4, _ => simp [pw]; omega

/-- One step of the inner round. -/
theorem mul_step {o g x : Nat → Int} {a c p V0 : Int} {i k : Nat} (hj : i + k < 5) (hp : p = a * x k) (h : val5 o + c * pw (i + k) = V0 + acc a x i k)
    (hg : ∀ n, g n = if n = i + k then (o (i + k) + p % 4294967296 + c) % 4294967296 else o n) :
    val5 g + ((o (i + k) + p % 4294967296 + c) / 4294967296 + p / 4294967296) * pw (i + (k + 1)) = V0 + acc a x i (k + 1) := by
  rw [val5_upd o (i + k) hj _ g hg]
  show _ = V0 + (acc a x i k + a * x k * pw (i + k))
  rw [← hp]
  have e : pw (i + (k + 1)) = 4294967296 * pw (i + k) := rfl
  rw [e]
  generalize acc a x i k = A at *
  generalize o (i + k) = q at *
  have hs : (q + p % 4294967296 + c) % 4294967296 = q + p % 4294967296 + c - 4294967296 * ((q + p % 4294967296 + c) / 4294967296) := by omega
  have hp2 : p % 4294967296 = p - 4294967296 * (p / 4294967296) := by omega
  rw [hs]
  generalize (q + p % 4294967296 + c) / 4294967296 = s at *
  rw [hp2]
  generalize p / 4294967296 = t at *
  generalize val5 o = V at *
  generalize pw (i + k) = P at *
  have e1 : (q + (p - 4294967296 * t) + c - 4294967296 * s - q) * P = p * P - 4294967296 * (t * P) + c * P - 4294967296 * (s * P) := by
    rw [show q + (p - 4294967296 * t) + c - 4294967296 * s - q = p + -(4294967296 * t) + c + -(4294967296 * s) by omega, Int.add_mul, Int.add_mul, Int.add_mul, Int.neg_mul, Int.neg_mul, Int.mul_assoc, Int.mul_assoc]
    omega
  have e2 : (s + t) * (4294967296 * P) = 4294967296 * (s * P) + 4294967296 * (t * P) := by
    rw [Int.add_mul, Int.mul_left_comm, Int.mul_left_comm t]
  rw [e1, e2]
  omega

/-- One part times all parts, but for what is beyond five. -/
theorem acc_all (a : Int) (x : Nat → Int) (i : Nat) (hi : i < 5) : ∃ s : Int, a * pw i * low x 5 = acc a x i (5 - i) + s * pw 5 := by
  have hl : low x 5 = x 0 * 1 + x 1 * 4294967296 + x 2 * 18446744073709551616 + x 3 * 79228162514264337593543950336 + x 4 * 340282366920938463463374607431768211456 := by
    show 0 + x 0 * pw 0 + x 1 * pw 1 + x 2 * pw 2 + x 3 * pw 3 + x 4 * pw 4 = _
    rw [pw1, pw2, pw3, pw4]
    show 0 + x 0 * 1 + _ + _ + _ + _ = _
    omega
  have hx : ∀ c : Int, a * c * low x 5 = c * (a * x 0) + c * 4294967296 * (a * x 1) + c * 18446744073709551616 * (a * x 2) + c * 79228162514264337593543950336 * (a * x 3) + c * 340282366920938463463374607431768211456 * (a * x 4) := by
    intro c
    rw [hl]
    simp only [Int.mul_add, Int.mul_one]
    simp only [Int.mul_assoc, Int.mul_comm, Int.mul_left_comm]
  rw [hx]
  generalize ha0 : a * x 0 = b0
  generalize ha1 : a * x 1 = b1
  generalize ha2 : a * x 2 = b2
  generalize ha3 : a * x 3 = b3
  generalize ha4 : a * x 4 = b4
  match i, hi with
  | 0, _ =>
    refine ⟨0, ?_⟩
    show _ = 0 + a * x 0 * pw 0 + a * x 1 * pw 1 + a * x 2 * pw 2 + a * x 3 * pw 3 + a * x 4 * pw 4 + _
    rw [ha0, ha1, ha2, ha3, ha4]
    simp only [pw]
    omega
  | 1, _ =>
    refine ⟨b4, ?_⟩
    show _ = 0 + a * x 0 * pw 1 + a * x 1 * pw 2 + a * x 2 * pw 3 + a * x 3 * pw 4 + _
    rw [ha0, ha1, ha2, ha3]
    simp only [pw]
    omega
  | 2, _ =>
    refine ⟨b3 + b4 * 4294967296, ?_⟩
    show _ = 0 + a * x 0 * pw 2 + a * x 1 * pw 3 + a * x 2 * pw 4 + _
    rw [ha0, ha1, ha2]
    simp only [pw]
    omega
  | 3, _ =>
    refine ⟨b2 + b3 * 4294967296 + b4 * 18446744073709551616, ?_⟩
    show _ = 0 + a * x 0 * pw 3 + a * x 1 * pw 4 + _
    rw [ha0, ha1]
    simp only [pw]
    omega
  | 4, _ =>
    refine ⟨b1 + b2 * 4294967296 + b3 * 18446744073709551616 + b4 * 79228162514264337593543950336, ?_⟩
    show _ = 0 + a * x 0 * pw 4 + _
    rw [ha0]
    simp only [pw]
    omega

/-- The parts of a number, and what is above them. -/
theorem low_dg (z : Int) : low (dg z) 5 = z - pw 5 * fl z 5 := by
  show 0 + dg z 0 * pw 0 + dg z 1 * pw 1 + dg z 2 * pw 2 + dg z 3 * pw 3 + dg z 4 * pw 4 = _
  have a0 : fl z 0 = 4294967296 * fl z 1 + dg z 0 := fl_dg z 0
  have a1 : fl z 1 = 4294967296 * fl z 2 + dg z 1 := fl_dg z 1
  have a2 : fl z 2 = 4294967296 * fl z 3 + dg z 2 := fl_dg z 2
  have a3 : fl z 3 = 4294967296 * fl z 4 + dg z 3 := fl_dg z 3
  have a4 : fl z 4 = 4294967296 * fl z 5 + dg z 4 := fl_dg z 4
  have e0 : fl z 0 = z := rfl
  simp only [pw]
  omega

/-- Parts that come to a number, but for what is beyond five, are its own. -/
theorem parts_dg {o : Nat → Int} {p t : Int} (ho : parts o) (h : val5 o + t * pw 5 = p) : ∀ j, j < 5 → o j = dg p j := by
  have h0 := ho 0 (by decide)
  have h1 := ho 1 (by decide)
  have h2 := ho 2 (by decide)
  have h3 := ho 3 (by decide)
  have h4 := ho 4 (by decide)
  have a0 : fl p 0 = 4294967296 * fl p 1 + dg p 0 := fl_dg p 0
  have a1 : fl p 1 = 4294967296 * fl p 2 + dg p 1 := fl_dg p 1
  have a2 : fl p 2 = 4294967296 * fl p 3 + dg p 2 := fl_dg p 2
  have a3 : fl p 3 = 4294967296 * fl p 4 + dg p 3 := fl_dg p 3
  have a4 : fl p 4 = 4294967296 * fl p 5 + dg p 4 := fl_dg p 4
  have b0 := dg_bd p 0
  have b1 := dg_bd p 1
  have b2 := dg_bd p 2
  have b3 := dg_bd p 3
  have b4 := dg_bd p 4
  have e0 : fl p 0 = p := rfl
  rw [pw5] at h
  unfold val5 at h
  intro j hj
  match j, hj with
  | 0, _ => omega
  | 1, _ => omega
  | 2, _ => omega
  | 3, _ => omega
  | 4, _ => omega

/-- The whole: what the rounds come to is the product. -/
theorem mul_end {o : Nat → Int} {z y t : Int} (ho : parts o) (h : val5 o + t * pw 5 = low (dg z) 5 * low (dg y) 5) : ∀ j, j < 5 → o j = dg (z * y) j := by
  rw [low_dg, low_dg] at h
  refine parts_dg (t := t + (z * fl y 5 + fl z 5 * y - pw 5 * (fl z 5 * fl y 5))) ho ?_
  have e : (z - pw 5 * fl z 5) * (y - pw 5 * fl y 5) = z * y - (z * fl y 5 + fl z 5 * y - pw 5 * (fl z 5 * fl y 5)) * pw 5 := by
    generalize fl z 5 = a
    generalize fl y 5 = b
    generalize pw 5 = P
    simp only [Int.sub_mul, Int.mul_sub, Int.add_mul]
    simp only [Int.mul_comm, Int.mul_left_comm]
    omega
  rw [Int.add_mul]
  omega
end Go.Proofs.YtfbbjfjckaojeaaDoor
