/- Layer lex: plain facts on what begins a text: its kind, how many bytes it has, what goes wrong; no program. -/
import Derived.Test.YthamkpmbfefpfaaLv
import Derived.Test.YthamkpmbfefpfaaDs
namespace Go.Proofs.Ythamkpmbfefpfaa

theorem isDg_items {c : UInt8} {m : List UInt8} : isDg (clsL (c :: m)) = isD c := by
  rcases Nat.lt_or_ge c.toNat 128 with h | h
  · have hd : decL (c :: m) = (c.toNat, 1) := by rw [decL_low (show bt (c :: m) 0 < 128 from h)]; rfl
    have hb : bad (c :: m) = false := by unfold bad; rw [hd]; simp; omega
    rw [cls_good hb, hd]
    unfold isDg isD
    rw [Bool.eq_iff_iff]
    simp
    omega
  · have hd : isD c = false := by
      cases he : isD c
      · rfl
      · rw [isD_iff] at he; omega
    rw [hd]
    cases hb : bad (c :: m)
    · rw [cls_good hb]
      have := decL_high (l := c :: m) h
      unfold isDg
      simp
      omega
    · rw [cls_bad hb]; rfl
theorem items_digit {c : UInt8} {m : List UInt8} (h : isD c = true) : items (c :: m) = ((c.toNat : Int), [c]) :: items m := by
  rw [isD_iff] at h
  exact items_low (by omega) m
theorem digI_items (l : List UInt8) : digI (items l) = l.takeWhile isD := by
  unfold digI
  induction l with
  | nil => rw [items_nil]; rfl
  | cons c m ih =>
    cases h : isD c
    · rw [items_cons (by simp), List.takeWhile_cons]
      simp only [isDg_items, h, List.takeWhile_cons]
      rfl
    · have hc : isDg (c.toNat : Int) = true := by
        rw [isD_iff] at h
        unfold isDg
        simp
        omega
      rw [items_digit h, List.takeWhile_cons, List.takeWhile_cons]
      simp only [hc, h, if_true]
      rw [bytesI_cons, ih]
      rfl

def numN (l : List UInt8) : Nat := if leadN (l.takeWhile isD) = true then 1 else if fitB (dval (l.takeWhile isD)) = true then (l.takeWhile isD).length else 0
def numErr (l : List UInt8) : Int := if leadN (l.takeWhile isD) = true then 120 else if fitB (dval (l.takeWhile isD)) = true then 0 else 121

/-- How many bytes word tells, and its error. -/
def wordN (l : List UInt8) : Nat := (wordI 0 (items l)).1
def wordBad (l : List UInt8) : Bool := decide (wordN l = 0) || (wordI 0 (items l)).2.1
def wordErr (l : List UInt8) : Int := if wordBad l = true then 120 else 0
theorem wordErr_yes {l : List UInt8} (h : wordBad l = true) : wordErr l = 120 := by unfold wordErr; rw [if_pos h]
theorem wordErr_no {l : List UInt8} (h : wordBad l = false) : wordErr l = 0 := by unfold wordErr; rw [if_neg (by simp [h])]

/-- What a text begins with: its kind, how many bytes it has or where it goes wrong, the error. -/
def measK (l : List UInt8) : Int := match l with
  | [] => 5
  | c :: _ => if c.toNat = 10 then 4 else if c.toNat = 46 ∨ c.toNat = 45 then 3 else if isD c = true then 2 else 1
def measN (l : List UInt8) : Nat := match l with
  | [] => 0
  | c :: m => if c.toNat = 10 then 1 else if c.toNat = 46 ∨ c.toNat = 45 then 1 else if isD c = true then numN (c :: m) else wordN (c :: m)
def measE (l : List UInt8) : Int := match l with
  | [] => 0
  | c :: m => if c.toNat = 10 then 0 else if c.toNat = 46 ∨ c.toNat = 45 then 0 else if isD c = true then numErr (c :: m) else wordErr (c :: m)

theorem cls_is {c : UInt8} {m : List UInt8} {n : Nat} (hn : n < 128) : clsL (c :: m) = (n : Int) ↔ c.toNat = n := by
  rcases Nat.lt_or_ge c.toNat 128 with h | h
  · have hd : decL (c :: m) = (c.toNat, 1) := by rw [decL_low (show bt (c :: m) 0 < 128 from h)]; rfl
    have hb : bad (c :: m) = false := by unfold bad; rw [hd]; simp; omega
    rw [cls_good hb, hd]
    simp
    omega
  · cases hb : bad (c :: m)
    · rw [cls_good hb]
      have := decL_high (l := c :: m) h
      omega
    · rw [cls_bad hb]
      omega

/-- What a reading answers, as a row: kind, place, text, glued; the place behind it; the error. -/
structure Ans where
  k : Int
  a : Nat
  tx : List UInt8
  gl : Bool
  p : Nat
  e : Int
def Res.ans : Res → Ans
  | .err p e => ⟨0, 0, [], false, p, e⟩
  | .stop p => ⟨5, p, [], false, p, 0⟩
  | .tok t p _ => ⟨t.k, t.a, t.tx, t.gl, p, 0⟩
def measA (l : List UInt8) (q : Nat) (gl : Bool) : Ans :=
  if measE l = 0 then ⟨measK l, q, l.take (measN l), decide (measK l < 4) && gl, q + measN l, 0⟩ else ⟨0, 0, [], false, q + measN l, measE l⟩

theorem numErr_zero {l : List UInt8} : numErr l = 0 ↔ (leadN (l.takeWhile isD) = false ∧ fitB (dval (l.takeWhile isD)) = true) := by
  unfold numErr
  cases leadN (l.takeWhile isD)
  · cases fitB (dval (l.takeWhile isD) : Int) <;> simp
  · simp
theorem take_while {l : List UInt8} : l.take (l.takeWhile isD).length = l.takeWhile isD := by
  conv => lhs; rw [← List.takeWhile_append_dropWhile (p := isD) (l := l)]
  rw [List.takeWhile_append_dropWhile]
  exact List.prefix_iff_eq_take.1 (List.takeWhile_prefix _) |>.symm
theorem startI_meas (l : List UInt8) (q : Nat) (gl : Bool) : (startI q gl (items l)).ans = measA l q gl := by
  cases l with
  | nil => rw [items_nil]; rfl
  | cons c m =>
    have hd := decL_width (c :: m)
    unfold measA measE measK measN
    by_cases h1 : c.toNat = 10
    · have hl : decL (c :: m) = (10, 1) := by rw [decL_low (show bt (c :: m) 0 < 128 by show c.toNat < 128; omega)]; show (c.toNat, 1) = _; rw [h1]
      rw [items_cons (by simp), startI_lf ((cls_is (n := 10) (by decide)).2 h1)]
      simp only [h1, if_pos, hl]
      rfl
    have c1 : ¬ clsL (c :: m) = 10 := fun e => h1 ((cls_is (n := 10) (by decide)).1 e)
    by_cases h2 : c.toNat = 46 ∨ c.toNat = 45
    · have hl : decL (c :: m) = (c.toNat, 1) := by rw [decL_low (show bt (c :: m) 0 < 128 by show c.toNat < 128; omega)]; rfl
      have c2 : clsL (c :: m) = 46 ∨ clsL (c :: m) = 45 := h2.imp (cls_is (n := 46) (by decide)).2 (cls_is (n := 45) (by decide)).2
      rw [items_cons (by simp), startI_sg c1 c2]
      simp only [if_neg h1, if_pos h2, hl]
      rfl
    have c2 : ¬ (clsL (c :: m) = 46 ∨ clsL (c :: m) = 45) := fun e => h2 (e.imp (cls_is (n := 46) (by decide)).1 (cls_is (n := 45) (by decide)).1)
    simp only [if_neg h1, if_neg h2]
    have hdi := digI_items (c :: m)
    have hit := items_cons (l := c :: m) (by simp)
    by_cases h3 : isD c = true
    · have c3 : isDg (clsL (c :: m)) = true := by rw [isDg_items]; exact h3
      simp only [if_pos h3]
      rw [hit, startI_nm c1 c2 c3, ← hit, hdi]
      unfold numErr numN
      cases hl : leadN ((c :: m).takeWhile isD)
      · cases hf : fitB (dval ((c :: m).takeWhile isD) : Int)
        · simp [Res.ans]
        · simp only [if_true, Bool.false_eq_true, if_false, Res.ans, take_while]
          simp
      · simp [Res.ans]
    · have c3 : ¬ isDg (clsL (c :: m)) = true := by rw [isDg_items]; exact h3
      simp only [if_neg h3]
      rw [hit, startI_wd c1 c2 c3, ← hit, items_bytes]
      show Res.ans (if wordN (c :: m) = 0 ∨ (wordI 0 (items (c :: m))).2.1 = true then _ else _) = _
      have hbe : (wordN (c :: m) = 0 ∨ (wordI 0 (items (c :: m))).2.1 = true) ↔ wordBad (c :: m) = true := by unfold wordBad; simp
      cases hb : wordBad (c :: m)
      · rw [if_neg (by rw [hbe, hb]; simp), wordErr_no hb]
        rfl
      · rw [if_pos (by rw [hbe, hb]), wordErr_yes hb]
        rfl

/-- What Next answers, by the text. -/
def gapN (l : List UInt8) : Nat := (gapI false (items l)).1
def gapB (l : List UInt8) : Bool := (gapI false (items l)).2.1
def gapE (l : List UInt8) : Int := if gapB l = true then 120 else 0
theorem gapE_yes {l : List UInt8} (h : gapB l = true) : gapE l = 120 := by unfold gapE; rw [if_pos h]
theorem gapE_no {l : List UInt8} (h : gapB l = false) : gapE l = 0 := by unfold gapE; rw [if_neg (by simp [h])]
theorem gap_rest (l : List UInt8) : (gapI false (items l)).2.2 = items (l.drop (gapN l)) ∧ gapN l ≤ l.length := by
  obtain ⟨G, h1, h2, _⟩ := gapI_split (items l) false
  have := items_drop h1
  unfold gapN
  rw [h2]
  refine ⟨this.symm, ?_⟩
  have hb := congrArg bytesI h1
  rw [items_bytes, bytesI_append] at hb
  have := congrArg List.length hb
  rw [List.length_append] at this
  omega
theorem nextL_ans (l : List UInt8) (p : Nat) : (nextL l p).ans =
    if gapB (l.drop p) = true then ⟨0, 0, [], false, p + gapN (l.drop p), 120⟩
    else measA (l.drop (p + gapN (l.drop p))) (p + gapN (l.drop p)) (touchL (l.take p) && decide (gapN (l.drop p) = 0)) := by
  unfold nextL nextI
  show Res.ans (if gapB (l.drop p) = true then Res.err (p + gapN (l.drop p)) 120 else startI (p + gapN (l.drop p)) (touchL (l.take p) && decide (gapN (l.drop p) = 0)) (gapI false (items (l.drop p))).2.2) = _
  by_cases h : gapB (l.drop p) = true
  · rw [if_pos h, if_pos h]
    rfl
  · rw [if_neg h, if_neg h, (gap_rest (l.drop p)).1, List.drop_drop]
    exact startI_meas _ _ _
theorem wordN_le (l : List UInt8) : wordN l ≤ l.length := by
  obtain ⟨T, h1, h2, _⟩ := wordI_split (items l) 0
  have hb := congrArg bytesI h1
  rw [items_bytes, bytesI_append] at hb
  have := congrArg List.length hb
  rw [List.length_append] at this
  unfold wordN
  omega
theorem measN_le (l : List UInt8) : measN l ≤ l.length := by
  cases l with
  | nil => exact Nat.le_refl _
  | cons c m =>
    have h1 := wordN_le (c :: m)
    have h2 : ((c :: m).takeWhile isD).length ≤ (c :: m).length := (List.takeWhile_prefix _).length_le
    unfold measN numN
    simp only [List.length_cons] at *
    repeat' split
    all_goals omega
end Go.Proofs.Ythamkpmbfefpfaa
