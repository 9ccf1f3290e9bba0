/- Layer lex: plain facts on tokens that are spelled and read again; no program. -/
import Derived.Test.YthccgpjbchlocaaDoorLp
namespace Go.Proofs.YthccgpjbchlocaaDoor

/-- Does a row go on with what a token of a kind would take in? -/
def contK (k : Int) : List It → Bool
  | [] => false
  | x :: _ => (k == 2 && isDg x.1) || (k == 1 && (isLt x.1 || isDg x.1))

/-- What a token's own runes are. -/
def TokIs (t : Tk) (T R : List It) : Prop :=
  (t.k = 4 ∧ T = [LF] ∧ t.gl = false) ∨ (t.k = 3 ∧ ∃ c b, T = [(c, [b])] ∧ (c = 46 ∨ c = 45)) ∨
  (t.k = 2 ∧ T ≠ [] ∧ (∀ x ∈ T, isDg x.1 = true) ∧ leadN (bytesI T) = false ∧ fitB (dval (bytesI T)) = true ∧ contK 2 R = false) ∨
  (t.k = 1 ∧ (∃ c bs U, T = (c, bs) :: U ∧ c ≠ 10 ∧ ¬ (c = 46 ∨ c = 45) ∧ isDg c = false) ∧ wordI 0 (T ++ R) = ((bytesI T).length, false, R) ∧ (bytesI T).length ≠ 0)

theorem wordI_rest : ∀ (T R : List It) (u n : Nat), u + (bytesI T).length = n → n ≠ 0 → wordI u (T ++ R) = (n, false, R) → contK 1 R = false
  | [], [], _, _, _, _, _ => rfl
  | [], (c, bs) :: R, u, n, h, h0, hw => by
    rw [List.nil_append] at hw
    simp [bytesI] at h
    subst h
    cases hg : wordGo u c
    · unfold wordGo at hg
      unfold contK
      have : (u != 0) = true := by simpa using h0
      rw [this] at hg
      simp at hg ⊢
      exact hg
    · by_cases h24 : 24 < u + bs.length
      · rw [wordI_full hg h24] at hw; injection hw with _ hw; injection hw with hw; cases hw
      · rw [wordI_go hg h24] at hw
        obtain ⟨V, h1, _⟩ := wordI_split R (u + bs.length)
        rw [hw] at h1
        have := congrArg List.length h1
        rw [List.length_append, List.length_cons] at this
        omega
  | (c, bs) :: T, R, u, n, h, h0, hw => by
    rw [List.cons_append] at hw
    rw [bytesI_cons, List.length_append] at h
    cases hg : wordGo u c
    · rw [wordI_no hg] at hw
      injection hw with _ hw
      injection hw with _ hw
      have := congrArg List.length hw
      rw [List.length_cons, List.length_append] at this
      omega
    · by_cases h24 : 24 < u + bs.length
      · rw [wordI_full hg h24] at hw; injection hw with _ hw; injection hw with hw; cases hw
      · rw [wordI_go hg h24] at hw
        exact wordI_rest T R (u + bs.length) n (by simp only at h ⊢; omega) h0 hw
theorem wordI_again : ∀ (T R S : List It) (u n : Nat), u + (bytesI T).length = n → n ≠ 0 → wordI u (T ++ R) = (n, false, R) → contK 1 S = false → wordI u (T ++ S) = (n, false, S)
  | [], R, [], u, n, h, _, _, _ => by
    simp [bytesI] at h
    rw [List.nil_append, wordI, h]
  | [], R, (c, bs) :: S, u, n, h, h0, _, hs => by
    simp [bytesI] at h
    subst h
    have hg : wordGo u c = false := by
      unfold contK at hs
      unfold wordGo
      simp at hs ⊢
      exact ⟨hs.1, fun _ => hs.2⟩
    rw [List.nil_append, wordI_no hg]
  | (c, bs) :: T, R, S, u, n, h, h0, hw, hs => by
    rw [List.cons_append] at hw ⊢
    rw [bytesI_cons, List.length_append] at h
    cases hg : wordGo u c
    · rw [wordI_no hg] at hw
      injection hw with _ hw
      injection hw with _ hw
      have := congrArg List.length hw
      rw [List.length_cons, List.length_append] at this
      omega
    · by_cases h24 : 24 < u + bs.length
      · rw [wordI_full hg h24] at hw; injection hw with _ hw; injection hw with hw; cases hw
      · rw [wordI_go hg h24] at hw ⊢
        exact wordI_again T R S (u + bs.length) n (by simp only at h ⊢; omega) h0 hw hs

theorem tok_is {p q : Nat} {gl : Bool} {T R : List It} {t : Tk} (hw : ∀ x ∈ T ++ R, wf1 x) (hT : T ≠ []) (h : startI p gl (T ++ R) = .tok t q R) : TokIs t T R ∧ t.tx = bytesI T ∧ (t.k ≠ 4 → t.gl = gl) := by
  have htx : t.tx = bytesI T := by
    obtain ⟨T', h1, _, h2, _⟩ := startI_split hw h
    have : T = T' := List.append_cancel_right h1
    rw [this]; exact h2
  cases T with
  | nil => exact absurd rfl hT
  | cons x T =>
    rcases x with ⟨c, bs⟩
    have hx := hw (c, bs) (by simp)
    rw [List.cons_append] at h
    by_cases c1 : c = 10
    · rw [startI_lf c1] at h
      injection h with e1 e2 e3
      have hT0 : T = [] := by
        have := congrArg List.length e3
        rw [List.length_append] at this
        exact List.eq_nil_of_length_eq_zero (by omega)
      subst hT0
      obtain ⟨_, b, hb, hcb⟩ := hx.2 (by simp only; omega)
      simp only at hb hcb
      have hb10 : b = 10 := by
        apply UInt8.toNat.inj
        show b.toNat = 10
        omega
      refine ⟨.inl ⟨by rw [← e1], by rw [hb, hb10, c1], by rw [← e1]⟩, htx, fun hk => absurd (by rw [← e1]) hk⟩
    by_cases c2 : c = 46 ∨ c = 45
    · rw [startI_sg c1 c2] at h
      injection h with e1 e2 e3
      have hT0 : T = [] := by
        have := congrArg List.length e3
        rw [List.length_append] at this
        exact List.eq_nil_of_length_eq_zero (by omega)
      subst hT0
      obtain ⟨_, b, hb, hcb⟩ := hx.2 (by simp only; omega)
      simp only at hb hcb
      exact ⟨.inr (.inl ⟨by rw [← e1], c, b, by rw [hb], c2⟩), htx, fun _ => by rw [← e1]⟩
    by_cases c3 : isDg c = true
    · rw [startI_nm c1 c2 c3] at h
      split at h
      · cases h
      rename_i hl
      split at h
      · rename_i hf
        injection h with e1 e2 e3
        have hs := List.takeWhile_append_dropWhile (p := fun x : It => isDg x.1) (l := (c, bs) :: (T ++ R))
        rw [e3] at hs
        have hTw : ((c, bs) :: (T ++ R)).takeWhile (fun x => isDg x.1) = (c, bs) :: T := List.append_cancel_right (hs.trans (List.cons_append).symm)
        unfold digI at hl hf
        rw [hTw] at hl hf
        refine ⟨.inr (.inr (.inl ⟨by rw [← e1], by simp, ?_, by simpa using hl, hf, ?_⟩)), htx, fun _ => by rw [← e1]⟩
        · intro y hy
          rw [← hTw] at hy
          have := List.all_takeWhile (p := fun x : It => isDg x.1) (l := (c, bs) :: (T ++ R))
          rw [List.all_eq_true] at this
          exact this y hy
        · cases hR : R with
          | nil => rfl
          | cons y R' =>
            have hd : isDg y.1 = false := by
              have h2 := List.head?_dropWhile_not (p := fun x : It => isDg x.1) (l := (c, bs) :: (T ++ R))
              rw [e3, hR] at h2
              simpa using h2
            unfold contK
            simp [hd]
      · cases h
    · rw [startI_wd c1 c2 c3] at h
      split at h
      · cases h
      · rename_i hno
        injection h with e1 e2 e3
        obtain ⟨V, v1, v2, _⟩ := wordI_split ((c, bs) :: (T ++ R)) 0
        have hV : (c, bs) :: T = V := by
          rw [e3] at v1
          exact List.append_cancel_right ((List.cons_append).trans v1)
        rw [Nat.zero_add] at v2
        rw [← hV] at v2
        refine ⟨.inr (.inr (.inr ⟨by rw [← e1], ⟨c, bs, T, rfl, c1, c2, by simpa using c3⟩, ?_, ?_⟩)), htx, fun _ => by rw [← e1]⟩
        · rw [List.cons_append]
          exact Prod.ext v2 (Prod.ext (by simpa using fun e => hno (.inr e)) e3)
        · rw [← v2]
          exact fun e => hno (.inl e)

/-- A token's runes, with what is behind them changed, are read as the same token. -/
theorem startI_again {T R S : List It} {t : Tk} (h : TokIs t T R) (htx : t.tx = bytesI T) (p : Nat) (gl : Bool) (hS : contK t.k S = false) :
    ∃ u q, startI p gl (T ++ S) = .tok u q S ∧ u.k = t.k ∧ u.tx = t.tx ∧ (u.k ≠ 4 → u.gl = gl) ∧ (u.k = 4 → u.gl = false) := by
  rcases h with ⟨hk, rfl, _⟩ | ⟨hk, c, b, rfl, hc⟩ | ⟨hk, hne, hall, hl, hf, _⟩ | ⟨hk, ⟨c, bs, U, rfl, c1, c2, c3⟩, hw, h0⟩
  · exact ⟨⟨4, p, [10], false⟩, p + 1, by rw [List.singleton_append, startI_lf rfl], hk.symm, by rw [htx]; rfl, fun h => absurd rfl h, fun _ => rfl⟩
  · exact ⟨⟨3, p, [b], gl⟩, p + 1, by rw [List.singleton_append, startI_sg (by omega) hc], hk.symm, by rw [htx]; rfl, fun _ => rfl, fun h => by cases h⟩
  · cases T with
    | nil => exact absurd rfl hne
    | cons x U =>
      rcases x with ⟨c, bs⟩
      have hd := hall (c, bs) (by simp)
      simp only at hd
      have hb : 48 ≤ c ∧ c ≤ 57 := by unfold isDg at hd; simpa using hd
      have htw : ((c, bs) :: U ++ S).takeWhile (fun x => isDg x.1) = (c, bs) :: U ∧ ((c, bs) :: U ++ S).dropWhile (fun x => isDg x.1) = S := by
        have hS' : S.takeWhile (fun x => isDg x.1) = [] ∧ S.dropWhile (fun x => isDg x.1) = S := by
          cases S with
          | nil => exact ⟨rfl, rfl⟩
          | cons y S =>
            have hy : isDg y.1 = false := by
              rw [hk] at hS
              unfold contK at hS
              simpa using hS
            simp [hy]
        have key : ∀ V : List It, (∀ x ∈ V, isDg x.1 = true) → (V ++ S).takeWhile (fun x => isDg x.1) = V ∧ (V ++ S).dropWhile (fun x => isDg x.1) = S := by
          intro V
          induction V with
          | nil => intro _; exact hS'
          | cons y V ih =>
            intro hV
            have h1 := hV y (by simp)
            have h2 := ih (fun z hz => hV z (by simp [hz]))
            simp [h1, h2.1, h2.2]
        exact key _ hall
      rw [List.cons_append] at htw ⊢
      refine ⟨⟨2, p, bytesI ((c, bs) :: U), gl⟩, p + (bytesI ((c, bs) :: U)).length, ?_, hk.symm, htx.symm, fun _ => rfl, fun h => by cases h⟩
      rw [startI_nm (by omega) (by omega) hd]
      unfold digI
      rw [htw.1, htw.2, if_neg (by rw [hl]; simp), if_pos hf]
  · rw [hk] at hS
    have hw2 := wordI_again ((c, bs) :: U) R S 0 _ (Nat.zero_add _) h0 hw hS
    refine ⟨⟨1, p, bytesI ((c, bs) :: U), gl⟩, p + (bytesI ((c, bs) :: U)).length, ?_, hk.symm, htx.symm, fun _ => rfl, fun h => by cases h⟩
    rw [List.cons_append] at hw2 ⊢
    rw [startI_wd c1 c2 (by rw [c3]; simp), hw2, if_neg (by simp only; rintro (h | h); exact h0 h; cases h)]
    simp only
    rw [← List.cons_append, bytesI_append, List.take_left]
theorem tok_rest {t : Tk} {T R : List It} (h : TokIs t T R) : contK t.k R = false := by
  rcases h with ⟨hk, _⟩ | ⟨hk, _⟩ | ⟨hk, _, _, _, _, hc⟩ | ⟨hk, _, hw, h0⟩
  · rw [hk]; cases R <;> rfl
  · rw [hk]; cases R <;> rfl
  · rw [hk]; exact hc
  · rw [hk]; exact wordI_rest T R 0 _ (Nat.zero_add _) h0 hw
/-- A token's runes are runes, and its first one is none of a gap's. -/
theorem tok_first {t : Tk} {T R : List It} (h : TokIs t T R) : (∀ x ∈ T, x.1 ≠ -1) ∧ ∃ c bs U, T = (c, bs) :: U ∧ gapGo false c = false := by
  rcases h with ⟨hk, rfl, _⟩ | ⟨hk, c, b, rfl, hc⟩ | ⟨hk, hne, hall, _⟩ | ⟨hk, ⟨c, bs, U, rfl, c1, c2, c3⟩, hw, h0⟩
  · exact ⟨fun x hx => by simp at hx; subst hx; decide, 10, [10], [], rfl, rfl⟩
  · refine ⟨fun x hx => by simp at hx; subst hx; simp only; omega, c, [b], [], rfl, ?_⟩
    rcases hc with rfl | rfl <;> rfl
  · refine ⟨fun x hx => ?_, ?_⟩
    · have := hall x hx
      unfold isDg at this
      simp at this
      omega
    · cases T with
      | nil => exact absurd rfl hne
      | cons x U =>
        rcases x with ⟨c, bs⟩
        have := hall (c, bs) (by simp)
        unfold isDg at this
        simp at this
        refine ⟨c, bs, U, rfl, ?_⟩
        unfold gapGo isBl
        simp
        omega
  · have key : ∀ (T R : List It) (u n : Nat), u + (bytesI T).length = n → wordI u (T ++ R) = (n, false, R) → ∀ x ∈ T, (isLt x.1 || isDg x.1) = true := by
      intro T R u n hn hw
      obtain ⟨V, v1, _, v3⟩ := wordI_split (T ++ R) u
      rw [hw] at v1
      have : T = V := List.append_cancel_right v1
      rw [this]; exact v3
    have ha := key _ _ 0 _ (Nat.zero_add _) hw
    have hlt : isLt c = true := by
      have := ha (c, bs) (by simp)
      simp only [c3, Bool.or_false] at this
      exact this
    refine ⟨fun x hx e => ?_, c, bs, U, rfl, ?_⟩
    · have := ha x hx
      rw [e] at this
      revert this
      decide
    · unfold isLt at hlt
      unfold gapGo isBl
      simp at hlt ⊢
      omega
end Go.Proofs.YthccgpjbchlocaaDoor
