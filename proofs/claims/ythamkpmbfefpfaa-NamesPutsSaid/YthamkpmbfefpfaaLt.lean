/- Layer lex: plain facts on tokens, told of rows of runes; no program. -/
import Derived.Test.YthamkpmbfefpfaaLs
namespace Go.Proofs.Ythamkpmbfefpfaa

def isBl (c : Int) : Bool := c == 32 || c == 9
def isDg (c : Int) : Bool := decide (48 ≤ c) && decide (c ≤ 57)
def isLt (c : Int) : Bool := (decide (97 ≤ c) && decide (c ≤ 122)) || ((decide (65 ≤ c) && decide (c ≤ 90)) || (c == 95 || decide (128 ≤ c)))

/-- Does a gap go on with a rune, in a remark or not? -/
def gapGo (rem : Bool) (r : Int) : Bool := isBl r || ((rem || r == 35) && decide (32 ≤ r))
/-- Does a word go on with a rune, u bytes of it being there? -/
def wordGo (u : Nat) (r : Int) : Bool := isLt r || (u != 0 && isDg r)
/-- Over blanks and remarks: how many bytes they have; does something stand there that may not be in a remark; what is left. -/
def gapI : Bool → List It → Nat × Bool × List It
  | _, [] => (0, false, [])
  | rem, x :: I =>
    if gapGo rem x.1 = true then
      (x.2.length + (gapI (rem || x.1 == 35) I).1, (gapI (rem || x.1 == 35) I).2)
    else (0, (rem && x.1 != 10), x :: I)
/-- Over a word: how many bytes it has, told from u on; is it too long there; what is left. -/
def wordI : Nat → List It → Nat × Bool × List It
  | u, [] => (u, false, [])
  | u, x :: I =>
    if wordGo u x.1 = true then
      if 24 < u + x.2.length then (u, true, x :: I) else wordI (u + x.2.length) I
    else (u, false, x :: I)

structure Tk where
  k : Int
  a : Nat
  tx : List UInt8
  gl : Bool
inductive Res where
  | err (p : Nat) (e : Int)
  | stop (p : Nat)
  | tok (t : Tk) (p : Nat) (rest : List It)

def leadN (ds : List UInt8) : Bool := decide (ds.head? = some 48) && decide (1 < ds.length)
def digI (I : List It) : List UInt8 := bytesI (I.takeWhile fun x => isDg x.1)
/-- The token that begins at once. -/
def startI (p : Nat) (gl : Bool) : List It → Res
  | [] => .stop p
  | x :: I =>
    if x.1 = 10 then .tok ⟨4, p, x.2, false⟩ (p + 1) I
    else if x.1 = 46 ∨ x.1 = 45 then .tok ⟨3, p, x.2, gl⟩ (p + 1) I
    else if isDg x.1 = true then
      if leadN (digI (x :: I)) = true then .err (p + 1) 120
      else if fitB (dval (digI (x :: I))) = true then .tok ⟨2, p, digI (x :: I), gl⟩ (p + (digI (x :: I)).length) ((x :: I).dropWhile fun x => isDg x.1)
      else .err p 121
    else if (wordI 0 (x :: I)).1 = 0 ∨ (wordI 0 (x :: I)).2.1 = true then .err (p + (wordI 0 (x :: I)).1) 120
    else .tok ⟨1, p, (bytesI (x :: I)).take (wordI 0 (x :: I)).1, gl⟩ (p + (wordI 0 (x :: I)).1) (wordI 0 (x :: I)).2.2
def nextI (p : Nat) (touch : Bool) (I : List It) : Res :=
  if (gapI false I).2.1 = true then .err (p + (gapI false I).1) 120
  else startI (p + (gapI false I).1) (touch && decide ((gapI false I).1 = 0)) (gapI false I).2.2
/-- All tokens; the place; the error. -/
def allI : Nat → Nat → Bool → List It → List Tk × Nat × Int
  | 0, p, _, _ => ([], p, 0)
  | f + 1, p, touch, I =>
    match nextI p touch I with
    | .err q e => ([], q, e)
    | .stop q => ([], q, 0)
    | .tok t q R => if (allI f q (t.k != 4) R).2.2 = 0 then (t :: (allI f q (t.k != 4) R).1, (allI f q (t.k != 4) R).2) else ([], (allI f q (t.k != 4) R).2)
def allL (l : List UInt8) : List Tk × Nat × Int := allI (l.length + 1) 0 false (items l)
/-- Does a text end in what a token can be glued to? -/
def touchL (l : List UInt8) : Bool :=
  match l.getLast? with
  | none => false
  | some c => !(c.toNat == 32 || c.toNat == 9) && c.toNat != 10
def nextL (l : List UInt8) (p : Nat) : Res := nextI p (touchL (l.take p)) (items (l.drop p))

theorem startI_lf {p : Nat} {gl : Bool} {c : Int} {bs : List UInt8} {I : List It} (h : c = 10) : startI p gl ((c, bs) :: I) = .tok ⟨4, p, bs, false⟩ (p + 1) I := by
  rw [startI]; exact if_pos h
theorem startI_sg {p : Nat} {gl : Bool} {c : Int} {bs : List UInt8} {I : List It} (h1 : ¬ c = 10) (h2 : c = 46 ∨ c = 45) : startI p gl ((c, bs) :: I) = .tok ⟨3, p, bs, gl⟩ (p + 1) I := by
  rw [startI]; exact (if_neg h1).trans (if_pos h2)
theorem startI_nm {p : Nat} {gl : Bool} {c : Int} {bs : List UInt8} {I : List It} (h1 : ¬ c = 10) (h2 : ¬ (c = 46 ∨ c = 45)) (h3 : isDg c = true) : startI p gl ((c, bs) :: I) =
    if leadN (digI ((c, bs) :: I)) = true then .err (p + 1) 120
    else if fitB (dval (digI ((c, bs) :: I))) = true then .tok ⟨2, p, digI ((c, bs) :: I), gl⟩ (p + (digI ((c, bs) :: I)).length) (((c, bs) :: I).dropWhile fun x => isDg x.1)
    else .err p 121 := by
  rw [startI]; exact (if_neg h1).trans ((if_neg h2).trans (if_pos h3))
theorem startI_wd {p : Nat} {gl : Bool} {c : Int} {bs : List UInt8} {I : List It} (h1 : ¬ c = 10) (h2 : ¬ (c = 46 ∨ c = 45)) (h3 : ¬ isDg c = true) : startI p gl ((c, bs) :: I) =
    if (wordI 0 ((c, bs) :: I)).1 = 0 ∨ (wordI 0 ((c, bs) :: I)).2.1 = true then .err (p + (wordI 0 ((c, bs) :: I)).1) 120
    else .tok ⟨1, p, (bytesI ((c, bs) :: I)).take (wordI 0 ((c, bs) :: I)).1, gl⟩ (p + (wordI 0 ((c, bs) :: I)).1) (wordI 0 ((c, bs) :: I)).2.2 := by
  rw [startI]; exact (if_neg h1).trans ((if_neg h2).trans (if_neg h3))

theorem gapI_nil (rem : Bool) : gapI rem [] = (0, false, []) := rfl
theorem gapI_go {rem : Bool} {c : Int} {bs : List UInt8} {I : List It} (h : gapGo rem c = true) :
    gapI rem ((c, bs) :: I) = (bs.length + (gapI (rem || c == 35) I).1, (gapI (rem || c == 35) I).2) := by rw [gapI, if_pos h]
theorem gapI_no {rem : Bool} {c : Int} {bs : List UInt8} {I : List It} (h : gapGo rem c = false) :
    gapI rem ((c, bs) :: I) = (0, (rem && c != 10), (c, bs) :: I) := by rw [gapI, if_neg (by simp [h])]
theorem wordI_go {u : Nat} {c : Int} {bs : List UInt8} {I : List It} (h : wordGo u c = true) (h24 : ¬ 24 < u + bs.length) :
    wordI u ((c, bs) :: I) = wordI (u + bs.length) I := by rw [wordI, if_pos h, if_neg h24]
theorem wordI_full {u : Nat} {c : Int} {bs : List UInt8} {I : List It} (h : wordGo u c = true) (h24 : 24 < u + bs.length) :
    wordI u ((c, bs) :: I) = (u, true, (c, bs) :: I) := by rw [wordI, if_pos h, if_pos h24]
theorem wordI_no {u : Nat} {c : Int} {bs : List UInt8} {I : List It} (h : wordGo u c = false) :
    wordI u ((c, bs) :: I) = (u, false, (c, bs) :: I) := by rw [wordI, if_neg (by simp [h])]

theorem gapI_split : ∀ (I : List It) (rem : Bool), ∃ G, I = G ++ (gapI rem I).2.2 ∧ (gapI rem I).1 = (bytesI G).length ∧ (G = [] ↔ (gapI rem I).2.2 = I)
  | [], rem => ⟨[], rfl, rfl, by simp [gapI]⟩
  | (c, bs) :: I, rem => by
    cases h : gapGo rem c
    · rw [gapI_no h]
      exact ⟨[], rfl, rfl, by simp⟩
    · rw [gapI_go h]
      obtain ⟨G, h1, h2, _⟩ := gapI_split I (rem || c == 35)
      refine ⟨(c, bs) :: G, by simp only [List.cons_append]; rw [← h1], by rw [bytesI_cons, List.length_append, ← h2], ⟨by simp, fun e => ?_⟩⟩
      have := congrArg List.length e
      have h3 := congrArg List.length h1
      simp at this h3
      omega
theorem wordI_split : ∀ (I : List It) (u : Nat), ∃ T, I = T ++ (wordI u I).2.2 ∧ (wordI u I).1 = u + (bytesI T).length ∧ (∀ x ∈ T, (isLt x.1 || isDg x.1) = true)
  | [], u => ⟨[], rfl, rfl, by simp⟩
  | x :: I, u => by
    rw [wordI]
    by_cases h : wordGo u x.1 = true
    · rw [if_pos h]
      by_cases h2 : 24 < u + x.2.length
      · rw [if_pos h2]; exact ⟨[], rfl, rfl, by simp⟩
      · rw [if_neg h2]
        obtain ⟨T, h3, h4, h5⟩ := wordI_split I (u + x.2.length)
        refine ⟨x :: T, by simp only [List.cons_append]; rw [← h3], by rw [bytesI_cons, List.length_append, h4]; omega, ?_⟩
        intro y hy
        rcases List.mem_cons.1 hy with rfl | hy
        · unfold wordGo at h
          simp at h ⊢
          rcases h with h | h
          · exact .inl h
          · exact .inr h.2
        · exact h5 y hy
    · rw [if_neg h]; exact ⟨[], rfl, rfl, by simp⟩

/-- What a token's reading goes over: a gap, the token's own runes, the rest. -/
theorem startI_split {p q : Nat} {gl : Bool} {I R : List It} {t : Tk} (hw : ∀ x ∈ I, wf1 x) (h : startI p gl I = .tok t q R) :
    ∃ T, I = T ++ R ∧ t.a = p ∧ t.tx = bytesI T ∧ q = p + t.tx.length ∧ T ≠ [] := by
  cases I with
  | nil => rw [startI] at h; cases h
  | cons x I =>
    have hx := hw x (by simp)
    rw [startI] at h
    by_cases h1 : x.1 = 10
    · rw [if_pos h1] at h
      injection h with h2 h3 h4
      obtain ⟨_, c, hc, _⟩ := hx.2 (by omega)
      subst h2; subst h3; subst h4
      exact ⟨[x], rfl, rfl, by simp [bytesI], by simp [hc], by simp⟩
    rw [if_neg h1] at h
    by_cases h2 : x.1 = 46 ∨ x.1 = 45
    · rw [if_pos h2] at h
      injection h with h3 h4 h5
      obtain ⟨_, c, hc, _⟩ := hx.2 (by omega)
      subst h3; subst h4; subst h5
      exact ⟨[x], rfl, rfl, by simp [bytesI], by simp [hc], by simp⟩
    rw [if_neg h2] at h
    by_cases h3 : isDg x.1 = true
    · rw [if_pos h3] at h
      by_cases h4 : leadN (digI (x :: I)) = true
      · rw [if_pos h4] at h; cases h
      rw [if_neg h4] at h
      by_cases h5 : fitB (dval (digI (x :: I))) = true
      · rw [if_pos h5] at h
        injection h with h6 h7 h8
        subst h6; subst h7; subst h8
        exact ⟨(x :: I).takeWhile fun x => isDg x.1, (List.takeWhile_append_dropWhile).symm, rfl, rfl, rfl, by simp [h3]⟩
      · rw [if_neg h5] at h; cases h
    rw [if_neg h3] at h
    by_cases h4 : (wordI 0 (x :: I)).1 = 0 ∨ (wordI 0 (x :: I)).2.1 = true
    · rw [if_pos h4] at h; cases h
    rw [if_neg h4] at h
    injection h with h6 h7 h8
    obtain ⟨T, h9, h10, _⟩ := wordI_split (x :: I) 0
    rw [h8] at h9
    rw [Nat.zero_add] at h10
    have hT : (bytesI (x :: I)).take (wordI 0 (x :: I)).1 = bytesI T := by
      rw [h10, h9, bytesI_append]
      exact List.take_left
    rw [hT] at h6
    rw [h10] at h7 h4
    subst h6; subst h7
    refine ⟨T, h9, rfl, rfl, rfl, ?_⟩
    intro e
    subst e
    exact h4 (.inl rfl)
theorem nextI_split {p q : Nat} {touch : Bool} {I R : List It} {t : Tk} (hw : ∀ x ∈ I, wf1 x) (h : nextI p touch I = .tok t q R) :
    ∃ G T, I = G ++ (T ++ R) ∧ t.a = p + (bytesI G).length ∧ t.tx = bytesI T ∧ q = t.a + t.tx.length ∧ T ≠ [] ∧
      gapI false I = ((bytesI G).length, false, T ++ R) ∧ startI t.a (touch && decide (G = [])) (T ++ R) = .tok t q R := by
  unfold nextI at h
  by_cases h1 : (gapI false I).2.1 = true
  · rw [if_pos h1] at h; cases h
  rw [if_neg h1] at h
  obtain ⟨G, h2, h3, h4⟩ := gapI_split I false
  have hw' : ∀ x ∈ (gapI false I).2.2, wf1 x := fun x hx => hw x (by rw [h2]; exact List.mem_append_right _ hx)
  obtain ⟨T, h5, h6, h7, h8, h9⟩ := startI_split hw' h
  have hg : decide ((gapI false I).1 = 0) = decide (G = []) := by
    rw [decide_eq_decide, h3]
    constructor
    · intro e
      cases G with
      | nil => rfl
      | cons x G =>
        have := (hw x (by rw [h2]; simp)).1
        rw [bytesI_cons, List.length_append] at e
        omega
    · intro e; rw [e]; rfl
  rw [hg, h3, ← h3, h5] at h
  refine ⟨G, T, by rw [← h5]; exact h2, by rw [h6, h3], h7, by rw [h8, h6], h9, ?_, ?_⟩
  · rw [← h5, ← h3]
    cases hb : (gapI false I).2.1
    · exact (Prod.ext rfl (Prod.ext hb rfl))
    · exact absurd hb h1
  · rw [h6]; exact h
theorem tok_less {p q : Nat} {touch : Bool} {I R : List It} {t : Tk} (hw : ∀ x ∈ I, wf1 x) (h : nextI p touch I = .tok t q R) : R.length < I.length := by
  obtain ⟨G, T, h1, _, _, _, h2, _⟩ := nextI_split hw h
  rw [h1, List.length_append, List.length_append]
  have : 0 < T.length := by cases T with | nil => exact absurd rfl h2 | cons => simp
  omega
theorem tok_wf {p q : Nat} {touch : Bool} {I R : List It} {t : Tk} (hw : ∀ x ∈ I, wf1 x) (h : nextI p touch I = .tok t q R) : ∀ x ∈ R, wf1 x := by
  obtain ⟨G, T, h1, _⟩ := nextI_split hw h
  intro x hx
  exact hw x (by rw [h1]; simp [hx])

/-- More fuel than is needed changes nothing. -/
theorem allI_fuel : ∀ (f g : Nat) (p : Nat) (touch : Bool) (I : List It), (∀ x ∈ I, wf1 x) → I.length < f → I.length < g → allI f p touch I = allI g p touch I
  | 0, _, _, _, _, _, h, _ => by omega
  | _ + 1, 0, _, _, _, _, _, h => by omega
  | f + 1, g + 1, p, touch, I, hw, hf, hg => by
    rw [allI, allI]
    cases h : nextI p touch I with
    | err => rfl
    | stop => rfl
    | tok t q R =>
      have := tok_less hw h
      have e := allI_fuel f g q (t.k != 4) R (tok_wf hw h) (by omega) (by omega)
      simp only [e]
theorem items_len (l : List UInt8) : (items l).length ≤ l.length := by
  refine items_ind (P := fun l => (items l).length ≤ l.length) ?_ ?_ l
  · rw [items_nil]; exact Nat.le_refl _
  · intro l h ih
    rw [items_cons h, List.length_cons]
    have := drop_less h
    omega
theorem allL_fuel (l : List UInt8) (f : Nat) (h : l.length < f) : allI f 0 false (items l) = allL l :=
  allI_fuel _ _ _ _ _ (items_wf l) (by have := items_len l; omega) (by have := items_len l; omega)
end Go.Proofs.Ythamkpmbfefpfaa
