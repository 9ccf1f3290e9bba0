/- Layer lex: plain facts on where tokens stand, and on what stands between them; no program but the text of Word's answer. -/
import Derived.Lib.SlTrimSet
import Derived.Test.YthccgpjbchlocaaDoorLd
import Derived.Test.YthccgpjbchlocaaDoorLq
namespace Go.Proofs.YthccgpjbchlocaaDoor

/-- From a place on the tokens are these, up to the end. -/
def Chain (l : List UInt8) : Nat → List Tk → Prop
  | p, [] => p ≤ l.length ∧ nextL l p = .stop l.length
  | p, t :: ts => p ≤ l.length ∧ (∃ R, nextL l p = .tok t (t.a + t.tx.length) R) ∧ Chain l (t.a + t.tx.length) ts

def tkA2 (x : Ans) : Tk := ⟨x.k, x.a, x.tx, x.gl⟩
theorem next_stop {l : List UInt8} {p : Nat} (hp : p ≤ l.length) (h : (nextL l p).ans.k = 5) : nextL l p = .stop l.length := by
  cases hr : nextL l p with
  | err q e => rw [hr] at h; simp [Res.ans] at h
  | stop q => rw [stop_end hp hr]
  | tok t q R =>
    obtain ⟨_, _, _, _, h6⟩ := tok_after hp hr
    rw [hr] at h
    have : t.k = 5 := h
    omega
theorem next_tok {l : List UInt8} {p : Nat} (h : (nextL l p).ans.k ≠ 5) (he : (nextL l p).ans.e = 0) :
    ∃ t R, nextL l p = .tok t (t.a + t.tx.length) R ∧ (nextL l p).ans.p = t.a + t.tx.length ∧ tkA2 (nextL l p).ans = t := by
  cases hr : nextL l p with
  | err q e =>
    rw [hr] at he
    have h0 : e = 0 := he
    rcases nextI_err hr with h | h <;> omega
  | stop q => rw [hr] at h; exact absurd rfl h
  | tok t q R =>
    obtain ⟨G, T, _, ha, htx, hq, _⟩ := nextI_split (next_wf l p) hr
    exact ⟨t, R, by rw [hq], hq, rfl⟩
theorem chain_seq (l : List UInt8) : ∀ (d f p : Nat), l.length - p ≤ d → p ≤ l.length → l.length < f + p → (resOf l.length (seqF l f p)).2.2 = 0 → Chain l p (resOf l.length (seqF l f p)).1 := by
  intro d
  induction d with
  | zero =>
    intro f p hd h1 h2 h
    rcases seq_step h1 h2 with ⟨hk, hs⟩ | ⟨hk, he, hs⟩ | ⟨hk, he, h3, h4, g, hg, hs⟩
    · rw [hs, resOf]; exact ⟨h1, next_stop h1 hk⟩
    · rw [hs, resOf, if_pos he] at h; exact absurd h he
    · omega
  | succ d ih =>
    intro f p hd h1 h2 h
    rcases seq_step h1 h2 with ⟨hk, hs⟩ | ⟨hk, he, hs⟩ | ⟨hk, he, h3, h4, g, hg, hs⟩
    · rw [hs, resOf]; exact ⟨h1, next_stop h1 hk⟩
    · rw [hs, resOf, if_pos he] at h; exact absurd h he
    · obtain ⟨t, R, hr, hp, ht⟩ := next_tok hk he
      have hn : ¬ (nextL l p).ans.e ≠ 0 := by simpa using he
      rw [hs, resOf, if_neg hn] at h ⊢
      by_cases h0 : (resOf l.length (seqF l g (nextL l p).ans.p)).2.2 = 0
      · rw [if_pos h0]
        have := ih g (nextL l p).ans.p (by omega) h4 hg h0
        show Chain l p (tkA2 (nextL l p).ans :: _)
        rw [ht]
        rw [hp] at this ⊢
        exact ⟨h1, ⟨R, hr⟩, this⟩
      · rw [if_neg h0] at h
        exact absurd h h0
theorem chain_all {l : List UInt8} (h : (allL l).2.2 = 0) : Chain l 0 (allL l).1 := by
  rw [allL_seq] at h ⊢
  exact chain_seq l _ _ 0 (Nat.le_refl _) (Nat.zero_le _) (by omega) h
theorem gap_left : ∀ (I : List It) (rem : Bool), (gapI rem I).2.1 = true → (gapI rem I).2.2 ≠ []
  | [], rem, h => by rw [gapI_nil] at h; cases h
  | (c, bs) :: I, rem, h => by
    cases hg : gapGo rem c
    · rw [gapI_no hg]; simp
    · rw [gapI_go hg] at h ⊢
      exact gap_left I _ h
theorem word_left : ∀ (I : List It) (u : Nat), (wordI u I).2.1 = true → (wordI u I).2.2 ≠ []
  | [], u, h => by rw [wordI] at h; cases h
  | (c, bs) :: I, u, h => by
    cases hg : wordGo u c
    · rw [wordI_no hg]; simp
    · by_cases h24 : 24 < u + bs.length
      · rw [wordI_full hg h24]; simp
      · rw [wordI_go hg h24] at h ⊢
        exact word_left I _ h
theorem bytes_pos {R : List It} (hw : ∀ x ∈ R, wf1 x) (h : R ≠ []) : 1 ≤ (bytesI R).length := by
  cases R with
  | nil => exact absurd rfl h
  | cons x R =>
    rw [bytesI_cons, List.length_append]
    have := (hw x (by simp)).1
    omega
theorem start_err_lt {p q : Nat} {gl : Bool} {I : List It} {e : Int} (hw : ∀ x ∈ I, wf1 x) (h : startI p gl I = .err q e) : q < p + (bytesI I).length := by
  cases I with
  | nil => rw [startI] at h; cases h
  | cons x I =>
    have hpos := bytes_pos hw (by simp)
    rw [startI] at h
    split at h
    · cases h
    · split at h
      · cases h
      · split at h
        · split at h
          · rename_i hl
            injection h with h1 h2
            have h3 : 1 < (digI (x :: I)).length := by
              unfold leadN at hl
              simp at hl
              exact hl.2
            have h4 : bytesI (x :: I) = digI (x :: I) ++ bytesI ((x :: I).dropWhile fun x => isDg x.1) := by
              unfold digI
              rw [← bytesI_append, List.takeWhile_append_dropWhile]
            have := congrArg List.length h4
            rw [List.length_append] at this
            omega
          · split at h
            · cases h
            · injection h with h1 h2
              omega
        · split at h
          · rename_i hx
            injection h with h1 h2
            rcases hx with hx | hx
            · omega
            · obtain ⟨T, e1, e2, _⟩ := wordI_split (x :: I) 0
              have hl := word_left _ _ hx
              have hb := bytes_pos (R := (wordI 0 (x :: I)).2.2) (fun y hy => hw y (by rw [e1]; exact List.mem_append_right _ hy)) hl
              have := congrArg (fun l => (bytesI l).length) e1
              simp only [bytesI_append, List.length_append] at this
              omega
          · cases h
theorem next_err_lt {l : List UInt8} {p : Nat} (hp : p ≤ l.length) (he : (nextL l p).ans.e ≠ 0) : (nextL l p).ans.p < l.length ∧ ((nextL l p).ans.e = 120 ∨ (nextL l p).ans.e = 121) := by
  cases hr : nextL l p with
  | err q e =>
    refine ⟨?_, nextI_err hr⟩
    show q < l.length
    have hw := next_wf l p
    have hlen : (bytesI (items (l.drop p))).length = l.length - p := by rw [items_bytes, List.length_drop]
    obtain ⟨G, e1, e2, _⟩ := gapI_split (items (l.drop p)) false
    have e3 := congrArg (fun l => (bytesI l).length) e1
    simp only [bytesI_append, List.length_append] at e3
    have hwR : ∀ y ∈ (gapI false (items (l.drop p))).2.2, wf1 y := fun y hy => hw y (by rw [e1]; exact List.mem_append_right _ hy)
    unfold nextL nextI at hr
    split at hr
    · rename_i hb
      injection hr with h1 h2
      have := bytes_pos hwR (gap_left _ _ hb)
      omega
    · have := start_err_lt hwR hr
      omega
  | stop q => rw [hr] at he; exact absurd rfl he
  | tok t q R => rw [hr] at he; exact absurd rfl he
/-- Where something is wrong: the place, and the error. -/
theorem err_seq (l : List UInt8) : ∀ (d f p : Nat), l.length - p ≤ d → p ≤ l.length → l.length < f + p → (resOf l.length (seqF l f p)).2.2 ≠ 0 → (resOf l.length (seqF l f p)).2.1 < l.length ∧ ((resOf l.length (seqF l f p)).2.2 = 120 ∨ (resOf l.length (seqF l f p)).2.2 = 121) := by
  intro d
  induction d with
  | zero =>
    intro f p hd h1 h2 h
    rcases seq_step h1 h2 with ⟨hk, hs⟩ | ⟨hk, he, hs⟩ | ⟨hk, he, h3, h4, g, hg, hs⟩
    · rw [hs, resOf] at h; exact absurd rfl h
    · rw [hs, resOf, if_pos he]; exact next_err_lt h1 he
    · omega
  | succ d ih =>
    intro f p hd h1 h2 h
    rcases seq_step h1 h2 with ⟨hk, hs⟩ | ⟨hk, he, hs⟩ | ⟨hk, he, h3, h4, g, hg, hs⟩
    · rw [hs, resOf] at h; exact absurd rfl h
    · rw [hs, resOf, if_pos he]; exact next_err_lt h1 he
    · have hn : ¬ (nextL l p).ans.e ≠ 0 := by simpa using he
      rw [hs, resOf, if_neg hn] at h ⊢
      by_cases h0 : (resOf l.length (seqF l g (nextL l p).ans.p)).2.2 = 0
      · rw [if_pos h0] at h
        exact absurd h0 h
      · rw [if_neg h0]
        exact ih g (nextL l p).ans.p (by omega) h4 hg h0
theorem err_place {l : List UInt8} (h : (allL l).2.2 ≠ 0) : (allL l).2.1 < l.length ∧ ((allL l).2.2 = 120 ∨ (allL l).2.2 = 121) := by
  rw [allL_seq] at h ⊢
  exact err_seq l _ _ 0 (Nat.le_refl _) (Nat.zero_le _) (by omega) h

theorem gap_in : ∀ {I R : List It} {n : Nat}, gapI true I = (n, false, R) → ∃ C, I = C ++ R ∧ (∀ x ∈ C, 32 ≤ x.1 ∨ x.1 = 9) ∧ (R = [] ∨ ∃ bs S, R = (10, bs) :: S)
  | [], R, n, h => by
    rw [gapI_nil] at h
    injection h with h1 h2
    injection h2 with h2 h3
    exact ⟨[], by simpa using h3, by simp, .inl h3.symm⟩
  | (c, bs) :: I, R, n, h => by
    cases hg : gapGo true c
    · rw [gapI_no hg] at h
      injection h with h1 h2
      injection h2 with h2 h3
      have hc : c = 10 := by simpa using h2
      exact ⟨[], by simpa using h3, by simp, .inr ⟨bs, I, by rw [← h3, hc]⟩⟩
    · rw [gapI_go hg] at h
      injection h with h1 h2
      obtain ⟨C, e1, e2, e3⟩ := gap_in (I := I) (R := R) (n := (gapI (true || c == 35) I).1) (by rw [Bool.true_or] at h2 ⊢; rw [← h2])
      refine ⟨(c, bs) :: C, by rw [e1]; rfl, fun x hx => ?_, e3⟩
      rcases List.mem_cons.1 hx with rfl | hx
      · unfold gapGo isBl at hg
        simp at hg
        omega
      · exact e2 x hx
/-- What a gap is: blanks, and perhaps a remark, which goes to the end of the line. -/
theorem gap_shape : ∀ {I R : List It} {n : Nat}, gapI false I = (n, false, R) →
    (∃ B, I = B ++ R ∧ ∀ x ∈ B, isBl x.1 = true) ∨ (∃ B bs C, I = B ++ ((35, bs) :: C ++ R) ∧ (∀ x ∈ B, isBl x.1 = true) ∧ (∀ x ∈ C, 32 ≤ x.1 ∨ x.1 = 9) ∧ (R = [] ∨ ∃ bs S, R = (10, bs) :: S))
  | [], R, n, h => by
    rw [gapI_nil] at h
    injection h with h1 h2
    injection h2 with h2 h3
    exact .inl ⟨[], by simpa using h3, by simp⟩
  | (c, bs) :: I, R, n, h => by
    cases hg : gapGo false c
    · rw [gapI_no hg] at h
      injection h with h1 h2
      injection h2 with h2 h3
      exact .inl ⟨[], by simpa using h3, by simp⟩
    · rw [gapI_go hg] at h
      injection h with h1 h2
      by_cases h35 : c = 35
      · subst h35
        obtain ⟨C, e1, e2, e3⟩ := gap_in (I := I) (R := R) (n := (gapI (false || (35 : Int) == 35) I).1) (by rw [show (false || (35 : Int) == 35) = true from rfl] at h2 ⊢; rw [← h2])
        exact .inr ⟨[], bs, C, by rw [e1]; rfl, by simp, e2, e3⟩
      · have hf : (false || c == 35) = false := by simpa using h35
        rw [hf] at h2
        have hb : isBl c = true := by
          unfold gapGo at hg
          simp [h35] at hg
          exact hg
        rcases gap_shape (I := I) (R := R) (n := (gapI false I).1) (by rw [← h2]) with ⟨B, e1, e2⟩ | ⟨B, bs', C, e1, e2, e3⟩
        · exact .inl ⟨(c, bs) :: B, by rw [e1]; rfl, fun x hx => by
            rcases List.mem_cons.1 hx with rfl | hx
            · exact hb
            · exact e2 x hx⟩
        · exact .inr ⟨(c, bs) :: B, bs', C, by rw [e1]; rfl, fun x hx => by
            rcases List.mem_cons.1 hx with rfl | hx
            · exact hb
            · exact e2 x hx, e3⟩

def bl2 : List UInt8 := [32, 9]
theorem blank_byte {c : UInt8} (h : c.toNat = 32 ∨ c.toNat = 9) : bl2.contains c = true := by
  have h2 : c = 32 ∨ c = 9 := h.imp (fun e => UInt8.toNat.inj e) (fun e => UInt8.toNat.inj e)
  rcases h2 with rfl | rfl <;> decide
theorem blank_bytes {B : List It} (hw : ∀ x ∈ B, wf1 x) (h : ∀ x ∈ B, isBl x.1 = true) : ∀ c ∈ bytesI B, bl2.contains c = true := by
  intro c hc
  unfold bytesI at hc
  obtain ⟨x, hx, hcx⟩ := List.mem_flatMap.1 hc
  have hb := h x hx
  unfold isBl at hb
  simp at hb
  obtain ⟨_, d, hd, he⟩ := (hw x hx).2 (by omega)
  rw [hd] at hcx
  simp at hcx
  subst hcx
  exact blank_byte (by omega)
theorem sharp_bytes {bs : List UInt8} (h : wf1 ((35 : Int), bs)) : bs = [35] := by
  obtain ⟨_, d, hd, he⟩ := h.2 (by simp)
  simp only at hd he
  rw [hd]
  congr 1
  exact UInt8.toNat.inj (by show d.toNat = 35; omega)
theorem line_bytes {C : List It} (hw : ∀ x ∈ C, wf1 x ∧ (x.1 ≠ -1 → isRune x)) (h : ∀ x ∈ C, 32 ≤ x.1 ∨ x.1 = 9) : ∀ c ∈ bytesI C, c ≠ 10 := by
  intro c hc e
  unfold bytesI at hc
  obtain ⟨x, hx, hcx⟩ := List.mem_flatMap.1 hc
  have hb := h x hx
  rcases Int.lt_or_le x.1 128 with h1 | h1
  · obtain ⟨_, d, hd, he⟩ := (hw x hx).1.2 (by omega)
    rw [hd] at hcx
    simp at hcx
    subst hcx
    subst e
    have : x.1 = 10 := he
    omega
  · have := rune_high ((hw x hx).2 (by omega)) h1 c hcx
    subst e
    exact absurd this (by decide)

theorem mem_dropWhile {p : UInt8 → Bool} {x : UInt8} : ∀ {l : List UInt8}, x ∈ l → p x = false → x ∈ l.dropWhile p
  | [], h, _ => h
  | c :: l, h, hp => by
    rw [List.dropWhile_cons]
    split
    · rename_i hc
      rcases List.mem_cons.1 h with rfl | h
      · rw [hp] at hc; cases hc
      · exact mem_dropWhile h hp
    · exact h
theorem drop_all {p : UInt8 → Bool} : ∀ {l : List UInt8}, (∀ c ∈ l, p c = true) → l.dropWhile p = []
  | [], _ => rfl
  | c :: l, h => by
    rw [List.dropWhile_cons, if_pos (h c (by simp))]
    exact drop_all fun d hd => h d (by simp [hd])
theorem drop_to {p : UInt8 → Bool} {x : UInt8} (hx : p x = false) {m : List UInt8} : ∀ {l : List UInt8}, (∀ c ∈ l, p c = true) → (l ++ x :: m).dropWhile p = x :: m
  | [], _ => by rw [List.nil_append, List.dropWhile_cons, if_neg (by simp [hx])]
  | c :: l, h => by
    rw [List.cons_append, List.dropWhile_cons, if_pos (h c (by simp))]
    exact drop_to hx fun d hd => h d (by simp [hd])
theorem trim_blank {l : List UInt8} (h : ∀ c ∈ l, bl2.contains c = true) : Lib.trimS l bl2 = [] ∧ Lib.trimLeftS l bl2 = [] := by
  unfold Lib.trimS Lib.trimLeftS Lib.trimRightS
  rw [drop_all (l := l.reverse) (fun c hc => h c (List.mem_reverse.1 hc))]
  exact ⟨rfl, drop_all h⟩
theorem trim_sharp {l m : List UInt8} (h : ∀ c ∈ l, bl2.contains c = true) : Lib.trimS (l ++ 35 :: m) bl2 ≠ [] ∧ Lib.trimLeftS (l ++ 35 :: m) bl2 = 35 :: m := by
  refine ⟨fun e => ?_, drop_to (by decide) h⟩
  unfold Lib.trimS Lib.trimLeftS Lib.trimRightS at e
  have h1 : (35 : UInt8) ∈ ((l ++ 35 :: m).reverse.dropWhile (bl2.contains ·)) := mem_dropWhile (by simp) (by decide)
  have h2 : (35 : UInt8) ∈ (((l ++ 35 :: m).reverse.dropWhile (bl2.contains ·)).reverse.dropWhile (bl2.contains ·)) := mem_dropWhile (List.mem_reverse.2 h1) (by decide)
  rw [e] at h2
  cases h2

/-- What is known of a token that is read from the place p on. -/
structure TokOk (l : List UInt8) (p : Nat) (t : Tk) : Prop where
  le : p ≤ t.a
  len : t.a + t.tx.length ≤ l.length
  txt : (l.drop t.a).take t.tx.length = t.tx
  ne : t.tx ≠ []
  glue : t.gl = true → t.a = p ∧ p ≠ 0
  gap : (∀ c ∈ (l.drop p).take (t.a - p), bl2.contains c = true) ∨ (t.k = 4 ∧ ∃ B C, (l.drop p).take (t.a - p) = B ++ 35 :: C ∧ ∀ c ∈ B, bl2.contains c = true)
  word : decide (t.k = 1) = wordB t.tx
  line : decide (t.k = 4) = decide (t.tx = [10])
theorem word_no {c : Int} {bs : List UInt8} {I : List It} {l : List UInt8} (h : items l = (c, bs) :: I) (hc : isLt c = false) : wordB l = false := by
  have hg : wordGo 0 c = false := by unfold wordGo; rw [hc]; rfl
  have hn : wordN l = 0 := by unfold wordN; rw [h, wordI_no hg]
  have hb : wordBad l = true := by unfold wordBad; rw [hn]; rfl
  unfold wordB
  rw [wordErr_yes hb]
  rfl
theorem tok_words {t : Tk} {T R : List It} (hT : ∀ x ∈ T, wf1 x ∧ (x.1 ≠ -1 → isRune x)) (h : TokIs t T R) (htx : t.tx = bytesI T) : decide (t.k = 1) = wordB t.tx ∧ decide (t.k = 4) = decide (t.tx = [10]) := by
  have hs := tok_first h
  have hit : items t.tx = T := by
    have := runes_items (T := T) (fun x hx => (hT x hx).2 (hs.1 x hx)) []
    rw [List.append_nil, items_nil, List.append_nil, ← htx] at this
    exact this
  rcases h with ⟨hk, hTe, _⟩ | ⟨hk, c, b, hTe, hc⟩ | ⟨hk, hne, hall, _⟩ | ⟨hk, ⟨c, bs, U, hTe, c1, c2, c3⟩, hw, h0⟩
  · have h10 : t.tx = [10] := by rw [htx, hTe]; rfl
    refine ⟨?_, by rw [hk, h10]; rfl⟩
    rw [word_no (hit.trans hTe) (by decide), hk]
    rfl
  · have hwb := (hT (c, [b]) (by rw [hTe]; simp)).1.2 (by show c < 128 ∧ c ≠ -1; omega)
    obtain ⟨_, d, hd, he⟩ := hwb
    injection hd with hd _
    refine ⟨?_, ?_⟩
    · rw [word_no (hit.trans hTe) (by unfold isLt; simp; omega), hk]
      rfl
    · rw [hk, decide_eq_false (by decide), decide_eq_false]
      intro e
      rw [htx, hTe] at e
      simp [bytesI] at e
      subst e
      subst hd
      have : c = 10 := he
      omega
  · cases T with
    | nil => exact absurd rfl hne
    | cons x T =>
      have hd := hall x (by simp)
      have hb : 48 ≤ x.1 ∧ x.1 ≤ 57 := by unfold isDg at hd; simpa using hd
      obtain ⟨_, d, hd2, he⟩ := (hT x (by simp)).1.2 (by omega)
      refine ⟨?_, ?_⟩
      · rw [word_no (c := x.1) (bs := x.2) (I := T) hit (by unfold isLt; simp; omega), hk]
        rfl
      · rw [hk, decide_eq_false (by decide), decide_eq_false]
        intro e
        rw [htx, bytesI_cons, hd2] at e
        injection e with e _
        subst e
        have : x.1 = 10 := he
        omega
  · have hw2 := wordI_again T R [] 0 _ (Nat.zero_add _) h0 hw rfl
    rw [List.append_nil] at hw2
    have hn : wordN t.tx = (bytesI T).length := by unfold wordN; rw [hit, hw2]
    have hb : wordBad t.tx = false := by unfold wordBad; rw [hn, hit, hw2, decide_eq_false h0]; rfl
    refine ⟨?_, ?_⟩
    · unfold wordB
      rw [wordErr_no hb, hn, htx, hk]
      simp
    · rw [hk, decide_eq_false (by decide), decide_eq_false]
      intro e
      have := hit
      rw [e, items_low (by decide) [], items_nil, hTe] at this
      injection this with this _
      injection this with this _
      exact c1 this.symm
theorem tok_ok {l : List UInt8} {p q : Nat} {R : List It} {t : Tk} (hp : p ≤ l.length) (h : nextL l p = .tok t q R) : TokOk l p t := by
  have hw := next_wf l p
  obtain ⟨G, T, hI, ha, htx, hq, hT, hg, hs⟩ := nextI_split hw h
  have hb : bytesI G ++ (bytesI T ++ bytesI R) = l.drop p := by
    rw [← bytesI_append, ← bytesI_append, ← hI, items_bytes]
  have hlen := congrArg List.length hb
  rw [List.length_append, List.length_append, List.length_drop, ← htx] at hlen
  have hwT : ∀ x ∈ T ++ R, wf1 x := fun x hx => hw x (by rw [hI]; exact List.mem_append_right _ hx)
  have hwG : ∀ x ∈ G, wf1 x := fun x hx => hw x (by rw [hI]; exact List.mem_append_left _ hx)
  have hrT : ∀ x ∈ T, wf1 x ∧ (x.1 ≠ -1 → isRune x) := fun x hx => ⟨hwT x (List.mem_append_left _ hx), items_rune (l.drop p) x (by rw [hI]; exact List.mem_append_right _ (List.mem_append_left _ hx))⟩
  have hrG : ∀ x ∈ G, wf1 x ∧ (x.1 ≠ -1 → isRune x) := fun x hx => ⟨hwG x hx, items_rune (l.drop p) x (by rw [hI]; exact List.mem_append_left _ hx)⟩
  obtain ⟨hti, _, hgl⟩ := tok_is hwT hT hs
  have hgap : (l.drop p).take (t.a - p) = bytesI G := by
    rw [← hb, ha, Nat.add_sub_cancel_left, List.take_left]
  obtain ⟨w1, w2⟩ := tok_words hrT hti htx
  refine ⟨by omega, by omega, ?_, ?_, fun hgt => ?_, ?_, w1, w2⟩
  · rw [ha, ← List.drop_drop, ← hb, List.drop_left, htx, List.take_left]
  · intro e
    have := bytes_pos (fun x hx => (hrT x hx).1) hT
    rw [← htx, e] at this
    simp at this
  · have hk4 : t.k ≠ 4 := by
      intro e
      rcases hti with ⟨_, _, h3⟩ | ⟨hk, _⟩ | ⟨hk, _⟩ | ⟨hk, _⟩
      · rw [h3] at hgt; cases hgt
      all_goals omega
    have := hgl hk4
    rw [hgt] at this
    have hh : touchL (l.take p) = true ∧ G = [] := by
      have h2 := this.symm
      simp at h2
      exact h2
    refine ⟨by rw [ha, hh.2]; rfl, fun e => ?_⟩
    rw [e] at hh
    exact absurd hh.1 (by rw [List.take_zero]; decide)
  · rw [hgap]
    rcases gap_shape hg with ⟨B, e1, e2⟩ | ⟨B, bs, C, e1, e2, e3, e4⟩
    · have hB : G = B := List.append_cancel_right (hI ▸ e1 : G ++ (T ++ R) = B ++ (T ++ R))
      subst hB
      exact .inl (blank_bytes hwG e2)
    · have hG : G = B ++ (35, bs) :: C := by
        have : G ++ (T ++ R) = (B ++ (35, bs) :: C) ++ (T ++ R) := by rw [List.append_assoc, ← hI]; exact e1
        exact List.append_cancel_right this
      right
      constructor
      · rcases e4 with e4 | ⟨bs', S, e4⟩
        · exact absurd (List.append_eq_nil_iff.1 e4).1 hT
        · rcases hti with ⟨hk, _⟩ | ⟨_, c, b, hTe, hc⟩ | ⟨_, hne, hall, _⟩ | ⟨_, ⟨c, bs2, U, hTe, c1, _⟩, _⟩
          · exact hk
          · rw [hTe] at e4
            injection e4 with e4 _
            injection e4 with e4 _
            omega
          · cases T with
            | nil => exact absurd rfl hne
            | cons x T =>
              have hd := hall x (by simp)
              injection e4 with e4 _
              rw [e4] at hd
              cases hd
          · rw [hTe] at e4
            injection e4 with e4 _
            injection e4 with e4 _
            exact absurd e4 c1
      · refine ⟨bytesI B, bytesI C, ?_, blank_bytes (fun x hx => hwG x (by rw [hG]; exact List.mem_append_left _ hx)) e2⟩
        rw [hG, bytesI_append, bytesI_cons, sharp_bytes (hwG (35, bs) (by rw [hG]; simp))]
        rfl
/-- What is left behind the last token. -/
theorem stop_ok2 {l : List UInt8} {p q : Nat} (h : nextL l p = .stop q) : (∀ c ∈ l.drop p, bl2.contains c = true) ∨ ∃ B C, l.drop p = B ++ 35 :: C ∧ (∀ c ∈ B, bl2.contains c = true) ∧ ∀ c ∈ C, c ≠ 10 := by
  have hw := next_wf l p
  have hb := items_bytes (l.drop p)
  unfold nextL nextI at h
  split at h
  · cases h
  · rename_i hf
    have hR : (gapI false (items (l.drop p))).2.2 = [] := by
      generalize (gapI false (items (l.drop p))).2.2 = R at h
      cases R with
      | nil => rfl
      | cons x R =>
        rw [startI] at h
        repeat' split at h
        all_goals cases h
    have hg : gapI false (items (l.drop p)) = ((gapI false (items (l.drop p))).1, false, []) := by
      have hf' : (gapI false (items (l.drop p))).2.1 = false := by simpa using hf
      exact Prod.ext rfl (Prod.ext hf' hR)
    rcases gap_shape hg with ⟨B, e1, e2⟩ | ⟨B, bs, C, e1, e2, e3, e4⟩
    · rw [List.append_nil] at e1
      rw [← hb, e1]
      exact .inl (blank_bytes (fun x hx => hw x (by rw [e1]; exact hx)) e2)
    · rw [List.append_nil] at e1
      right
      refine ⟨bytesI B, bytesI C, ?_, blank_bytes (fun x hx => hw x (by rw [e1]; exact List.mem_append_left _ hx)) e2, line_bytes (fun x hx => ?_) e3⟩
      · rw [← hb, e1, bytesI_append, bytesI_cons, sharp_bytes (hw (35, bs) (by rw [e1]; simp))]
        rfl
      · have hm : x ∈ items (l.drop p) := by rw [e1]; simp [hx]
        exact ⟨hw x hm, items_rune (l.drop p) x hm⟩
end Go.Proofs.YthccgpjbchlocaaDoor
