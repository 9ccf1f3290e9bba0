/- Layer digit: plain facts on rows of digits that are held against each other; no program. -/
import Derived.Test.YthccgpjbchlocaaDt
import Derived.Laws.Strings
namespace Go.Proofs.Ythccgpjbchlocaa
open Go.Lib

def digs (l : List UInt8) : Prop := ∀ c ∈ l, 48 ≤ c.toNat ∧ c.toNat ≤ 57
theorem digs_of {l : List UInt8} (h : l.all isD = true) : digs l := fun c hc => (isD_iff c).1 (List.all_eq_true.1 h c hc)

theorem dvalFrom_lt {x y : Nat} (h : x < y) : ∀ {a b : List UInt8}, a.length = b.length → digs a → digs b → dvalFrom x a < dvalFrom y b := by
  intro a
  induction a generalizing x y with
  | nil => intro b hl _ _; cases b with | nil => exact h | cons => cases hl
  | cons c a ih =>
    intro b hl ha hb
    cases b with
    | nil => cases hl
    | cons e b =>
      have hc := ha c (by simp)
      have he := hb e (by simp)
      exact ih (x := 10 * x + (c.toNat - 48)) (y := 10 * y + (e.toNat - 48)) (by omega) (by simpa using hl) (fun z hz => ha z (by simp [hz])) (fun z hz => hb z (by simp [hz]))

/-- Of two rows of as many digits the one that is less as a text is less as a number. -/
theorem less_dval {acc : Nat} : ∀ {a b : List UInt8}, a.length = b.length → digs a → digs b → (Op.bytesLess a b || a == b) = decide (dvalFrom acc a ≤ dvalFrom acc b) := by
  intro a
  induction a generalizing acc with
  | nil => intro b hl _ _; cases b with | nil => simp | cons => cases hl
  | cons c a ih =>
    intro b hl ha hb
    cases b with
    | nil => cases hl
    | cons e b =>
      have hc := ha c (by simp)
      have he := hb e (by simp)
      have hl' : a.length = b.length := by simpa using hl
      have ha' : digs a := fun z hz => ha z (by simp [hz])
      have hb' : digs b := fun z hz => hb z (by simp [hz])
      show _ = decide (dvalFrom (10 * acc + (c.toNat - 48)) a ≤ dvalFrom (10 * acc + (e.toNat - 48)) b)
      by_cases h1 : c < e
      · have h1' : c.toNat < e.toNat := h1
        have := dvalFrom_lt (x := 10 * acc + (c.toNat - 48)) (y := 10 * acc + (e.toNat - 48)) (by omega) hl' ha' hb'
        rw [decide_eq_true (by omega)]
        simp [Op.bytesLess, h1]
      · by_cases h2 : c = e
        · subst h2
          rw [← ih hl' ha' hb']
          simp [Op.bytesLess]
        · have h3 : e.toNat < c.toNat := by
            have h1' : ¬ c.toNat < e.toNat := h1
            have h2' : c.toNat ≠ e.toNat := fun e' => h2 (UInt8.toNat.inj e')
            omega
          have := dvalFrom_lt (x := 10 * acc + (e.toNat - 48)) (y := 10 * acc + (c.toNat - 48)) (by omega) hl'.symm hb' ha'
          rw [decide_eq_false (by omega)]
          simp [Op.bytesLess, h1, h2]

theorem dval_short {l : List UInt8} (h : l.length ≤ 18) (hd : digs l) : dval l < 10 ^ 18 := by
  have key : ∀ (m : List UInt8) (a : Nat), digs m → dvalFrom a m < (a + 1) * 10 ^ m.length := by
    intro m
    induction m with
    | nil => intro a _; show a < _; simp
    | cons c m ih =>
      intro a hm
      have hc := hm c (by simp)
      have := ih (10 * a + (c.toNat - 48)) (fun z hz => hm z (by simp [hz]))
      show dvalFrom (10 * a + (c.toNat - 48)) m < _
      rw [List.length_cons, Nat.pow_succ]
      refine Nat.lt_of_lt_of_le this ?_
      have h10 : 10 * a + (c.toNat - 48) + 1 ≤ (a + 1) * 10 := by omega
      calc (10 * a + (c.toNat - 48) + 1) * 10 ^ m.length ≤ ((a + 1) * 10) * 10 ^ m.length := Nat.mul_le_mul_right _ h10
        _ = (a + 1) * (10 ^ m.length * 10) := by rw [Nat.mul_assoc, Nat.mul_comm 10]
  have h1 := key l 0 hd
  have h2 : 10 ^ l.length ≤ 10 ^ 18 := Nat.pow_le_pow_right (by decide) h
  unfold dval
  omega

theorem dval_long {l : List UInt8} (hb : decDigits (dval l) = l) (h : 19 < l.length) : 10 ^ 19 ≤ dval l := by
  rcases Nat.lt_or_ge (dval l) (10 ^ 19) with h1 | h1
  · have := dec_len 18 (dval l) h1
    rw [hb] at this
    omega
  · exact h1

/-- Are digits, without a nought ahead, above a number of nineteen? -/
def aboveB (a b : ByteArray) : Bool := decide (b.size < a.size) || (decide (a.size = b.size) && !(Op.bytesLess a.toList b.toList || a.toList == b.toList))
theorem aboveB_dval {a b : ByteArray} (hb : b.size = 19) (hd : digs b.data.toList) (hl : 10 ^ 18 ≤ dval b.data.toList) (hl2 : dval b.data.toList < 10 ^ 19) (ha : digs a.data.toList) (hback : decDigits (dval a.data.toList) = a.data.toList) :
    aboveB a b = decide (dval b.data.toList < dval a.data.toList) := by
  unfold aboveB
  rw [ByteArray.toList_eq, ByteArray.toList_eq]
  have hsa := size_eq a
  have hsb := size_eq b
  rcases Nat.lt_trichotomy a.size 19 with h | h | h
  · have := dval_short (by omega) ha
    rw [decide_eq_false (by omega), decide_eq_false (by omega), decide_eq_false (by omega)]
    rfl
  · rw [decide_eq_false (by omega), decide_eq_true (by omega), less_dval (acc := 0) (by omega) ha hd]
    show (false || (true && !decide (dval a.data.toList ≤ dval b.data.toList))) = _
    by_cases h2 : dval a.data.toList ≤ dval b.data.toList
    · rw [decide_eq_true h2, decide_eq_false (by omega)]; rfl
    · rw [decide_eq_false h2, decide_eq_true (by omega)]; rfl
  · have := dval_long hback (by omega)
    rw [decide_eq_true (by omega), Bool.true_or, decide_eq_true (by omega)]
end Go.Proofs.Ythccgpjbchlocaa
