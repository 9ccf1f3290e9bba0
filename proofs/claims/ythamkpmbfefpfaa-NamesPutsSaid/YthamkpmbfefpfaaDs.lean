/- Layer digit: plain facts on texts of digits; no program. -/
import Derived.Lib.Strings
import Derived.Lib.ItoaNum
namespace Go.Proofs.Ythamkpmbfefpfaa

/-- A digit's byte. -/
def isD (c : UInt8) : Bool := decide (48 ≤ c.toNat ∧ c.toNat ≤ 57)
theorem isD_iff (c : UInt8) : isD c = true ↔ 48 ≤ c.toNat ∧ c.toNat ≤ 57 := by unfold isD; simp
/-- With how many digits a text begins. -/
def runL (l : List UInt8) : Nat := (l.takeWhile isD).length

theorem takeWhile_at {l : List UInt8} {p : Nat} (h : (l.take p).all isD = true) (hp : p < l.length) (hn : isD (l[p]) = false) : l.takeWhile isD = l.take p := by
  induction l generalizing p with
  | nil => simp at hp
  | cons c l ih =>
    cases p with
    | zero => simp at hn; simp [List.takeWhile, hn]
    | succ p =>
      simp at h hp hn
      simp only [List.takeWhile, h.1, List.take_succ_cons]
      rw [ih (by simpa using h.2) hp hn]
theorem runL_at {l : List UInt8} {p : Nat} (h : (l.take p).all isD = true) (hp : p < l.length) (hn : isD (l[p]) = false) : runL l = p := by
  unfold runL
  rw [takeWhile_at h hp hn, List.length_take]
  omega
theorem runL_all {l : List UInt8} (h : l.all isD = true) : runL l = l.length := by
  unfold runL
  congr 1
  induction l with
  | nil => rfl
  | cons c l ih =>
    simp at h
    simp only [List.takeWhile, h.1]
    rw [ih (by simpa using h.2)]
theorem all_step {l : List UInt8} {p : Nat} (h : (l.take p).all isD = true) (hp : p < l.length) (hn : isD (l[p]) = true) : (l.take (p + 1)).all isD = true := by
  rw [List.take_succ_eq_append_getElem hp, List.all_append, h]
  simp [hn]
theorem all_not {l : List UInt8} {p : Nat} (hp : p < l.length) (hn : isD (l[p]) = false) : l.all isD = false := by
  rw [List.all_eq_false]
  exact ⟨_, List.getElem_mem hp, by simp [hn]⟩

/-- Does a text that looks like a number have a nought too many ahead? -/
def leadL (l : List UInt8) (below : Bool) : Bool := decide (l.head? = some 48) && (below || decide (1 < l.length))
/-- Does a text, perhaps behind a minus, look like a number? -/
def looksL (l : List UInt8) (below : Bool) : Bool := !l.isEmpty && (l.all isD && !leadL l below)

theorem looksL_not {l : List UInt8} {below : Bool} {p : Nat} (hp : p < l.length) (hn : isD (l[p]) = false) : looksL l below = false := by
  unfold looksL; rw [all_not hp hn]; simp
theorem looksL_lead {l : List UInt8} {below : Bool} (h : leadL l below = true) : looksL l below = false := by
  unfold looksL; rw [h]; simp
theorem looksL_end {l : List UInt8} {below : Bool} (ha : l.all isD = true) (h : l.length = 0 ∨ leadL l below = false) : looksL l below = decide (0 < l.length) := by
  unfold looksL
  rw [ha]
  cases l with
  | nil => rfl
  | cons c l =>
    rcases h with h | h
    · simp at h
    · rw [h]; simp
theorem leadL_yes {l : List UInt8} {below : Bool} (h0 : 0 < l.length) (h : leadL l below = true) : (l[0]).toNat = 48 ∧ (below = true ∨ 1 < l.length) := by
  cases l with
  | nil => simp at h0
  | cons c l =>
    unfold leadL at h
    simp at h ⊢
    exact ⟨by rw [h.1]; rfl, h.2⟩
theorem leadL_no {l : List UInt8} {below : Bool} (h0 : 0 < l.length) (h : leadL l below = false) : (l[0]).toNat ≠ 48 ∨ (below = false ∧ l.length ≤ 1) := by
  cases l with
  | nil => simp at h0
  | cons c l =>
    unfold leadL at h
    simp at h ⊢
    by_cases hc : c = 48
    · exact Or.inr (h hc)
    · refine Or.inl fun e => hc ?_
      exact UInt8.toNat.inj e

/-- The number that digits come to. -/
def dvalFrom (a : Nat) (l : List UInt8) : Nat := l.foldl (fun a c => 10 * a + (c.toNat - 48)) a
def dval (l : List UInt8) : Nat := dvalFrom 0 l
theorem dval_snoc (l : List UInt8) (c : UInt8) : dval (l ++ [c]) = 10 * dval l + (c.toNat - 48) := by
  unfold dval dvalFrom
  rw [List.foldl_append]
  rfl
theorem dvalFrom_le (l : List UInt8) (a : Nat) : a ≤ dvalFrom a l := by
  induction l generalizing a with
  | nil => exact Nat.le_refl _
  | cons c l ih =>
    have := ih (10 * a + (c.toNat - 48))
    show a ≤ dvalFrom (10 * a + (c.toNat - 48)) l
    omega
theorem dval_append (l m : List UInt8) : dval (l ++ m) = dvalFrom (dval l) m := by
  unfold dval dvalFrom
  rw [List.foldl_append]
theorem dval_take (l : List UInt8) (p : Nat) : dval (l.take p) ≤ dval l := by
  have h := dval_append (l.take p) (l.drop p)
  rw [List.take_append_drop] at h
  rw [h]
  exact dvalFrom_le _ _
theorem dval_take10 (l : List UInt8) (p : Nat) (hp : p < l.length) : 10 * dval (l.take p) ≤ dval l := by
  have h := dval_take l (p + 1)
  rw [List.take_succ_eq_append_getElem hp, dval_snoc] at h
  omega
theorem dval_step (l : List UInt8) (p : Nat) (hp : p < l.length) : dval (l.take (p + 1)) = 10 * dval (l.take p) + ((l[p]).toNat - 48) := by
  rw [List.take_succ_eq_append_getElem hp, dval_snoc]

/-- The number that digits come to, behind a minus or not. -/
def sval (neg : Bool) (l : List UInt8) : Int := if neg = true then -(dval l : Int) else dval l
/-- Does a number fit? And the number that is answered. -/
def fitB (z : Int) : Bool := decide (-9223372036854775808 ≤ z ∧ z ≤ 9223372036854775807)
def fitN (z : Int) : Int := if fitB z = true then z else 0
theorem fitN_of {z : Int} (h : fitB z = true) : fitN z = z := by unfold fitN; rw [if_pos h]
theorem fitN_not {z : Int} (h : fitB z = false) : fitN z = 0 := by unfold fitN; rw [if_neg (by simp [h])]
theorem fitB_iff (z : Int) : fitB z = true ↔ (-9223372036854775808 ≤ z ∧ z ≤ 9223372036854775807) := by unfold fitB; simp
theorem fitB_no (z : Int) : fitB z = false ↔ ¬ (-9223372036854775808 ≤ z ∧ z ≤ 9223372036854775807) := by unfold fitB; simp
theorem fitB_small (z : Int) (h0 : -1000 ≤ z) (h1 : z ≤ 1000) : fitB z = true := by rw [fitB_iff]; omega

/-- What Read answers as its error of what looks like a number. -/
def rErr (z : Int) : Int := if fitB z = true then 0 else 111
theorem rErr_yes {z : Int} (h : fitB z = true) : rErr z = 0 := by unfold rErr; rw [if_pos h]
theorem rErr_no {z : Int} (h : fitB z = false) : rErr z = 111 := by unfold rErr; rw [if_neg (by simp [h])]

theorem sval_no10 {neg : Bool} {l : List UInt8} {p : Nat} (hp : p < l.length) (h : fitB (sval neg (l.take p) * 10) = false) : fitB (sval neg l) = false := by
  have := dval_take10 l p hp
  rw [fitB_no] at *
  unfold sval at *
  cases neg <;> simp at * <;> omega
theorem sval_step {neg : Bool} {l : List UInt8} {p : Nat} (hp : p < l.length) : sval neg (l.take (p + 1)) = sval neg (l.take p) * 10 + (if neg = true then -(((l[p]).toNat - 48 : Nat) : Int) else (((l[p]).toNat - 48 : Nat) : Int)) := by
  have := dval_step l p hp
  unfold sval
  cases neg <;> simp <;> omega
theorem sval_no {neg : Bool} {l : List UInt8} {p : Nat} (h : fitB (sval neg (l.take p)) = false) : fitB (sval neg l) = false := by
  have := dval_take l p
  rw [fitB_no] at *
  unfold sval at *
  cases neg <;> simp at * <;> omega
theorem looksL_all {l : List UInt8} {below : Bool} (h : looksL l below = true) : l.all isD = true := by
  unfold looksL at h
  simp at h
  simpa using h.2.1
end Go.Proofs.Ythamkpmbfefpfaa
