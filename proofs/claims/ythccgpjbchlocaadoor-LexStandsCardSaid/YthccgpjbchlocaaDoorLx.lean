/- Layer lex: plain facts on the tokens of a text, one behind the other; no program. -/
import Derived.Test.YthccgpjbchlocaaDoorLw
namespace Go.Proofs.YthccgpjbchlocaaDoor

theorem bt_same {l m : List UInt8} {k : Nat} (h : m[k]? = l[k]?) : bt m k = bt l k := by
  unfold bt
  rw [List.getD_eq_getElem?_getD, List.getD_eq_getElem?_getD, h]
theorem ct_same {l m : List UInt8} {k : Nat} (h : m[k]? = l[k]?) (hc : ct l k = true) : ct m k = true := by
  have hl := ct_len hc
  have hm : k < m.length := by
    rcases Nat.lt_or_ge k m.length with h1 | h1
    · exact h1
    · rw [List.getElem?_eq_none h1, List.getElem?_eq_getElem hl] at h
      cases h
  unfold ct at hc ⊢
  rw [bt_same h]
  simp only [Bool.and_eq_true] at hc ⊢
  exact ⟨by simpa using hm, hc.2⟩
/-- A rune that is one hangs on its own bytes alone; and those behind the first are from 128 on. -/
theorem decL_same {l m : List UInt8} (hb : bad l = false) (hs : ∀ k, k < (decL l).2 → m[k]? = l[k]?) : decL m = decL l ∧ (128 ≤ (decL l).1 → ∀ k, k < (decL l).2 → 128 ≤ bt l k) := by
  have hb' : decL l ≠ (65533, 1) := by unfold bad at hb; simpa using hb
  have e0 : bt m 0 = bt l 0 := bt_same (hs 0 (decL_width l).1)
  have cc : ∀ k, ct l k = true → 128 ≤ bt l k := fun k h => by
    unfold ct at h
    simp only [Bool.and_eq_true, beq_iff_eq] at h
    omega
  by_cases g0 : bt l 0 < 0x80
  · rw [decL_low g0, decL_low (by omega), e0]
    exact ⟨rfl, fun h => by simp only at h; omega⟩
  have w1 : (if bt l 0 < 0x80 then (bt l 0, 1) else (0, 0)) = ((0, 0) : Nat × Nat) := if_neg g0
  clear w1
  by_cases g1 : (bt l 0 / 32 == 6 && ct l 1) = true
  · have k1 : ct l 1 = true := by simp at g1; exact g1.2
    by_cases i1 : (bt l 0 % 32) * 64 + bt l 1 % 64 ≥ 0x80
    · have hd : decL l = ((bt l 0 % 32) * 64 + bt l 1 % 64, 2) := by unfold decL; rw [if_neg g0, if_pos g1, if_pos i1]
      rw [hd] at hs ⊢
      have s1 := hs 1 (by simp)
      have a1 : (bt m 0 / 32 == 6 && ct m 1) = true := by rw [e0, ct_same s1 k1]; simp at g1 ⊢; exact g1.1
      refine ⟨?_, fun _ k hk => ?_⟩
      · unfold decL
        rw [if_neg (by omega), if_pos a1, e0, bt_same s1, if_pos i1]
      · match k, hk with
        | 0, _ => omega
        | 1, _ => exact cc 1 k1
    · exact absurd (by unfold decL; rw [if_neg g0, if_pos g1, if_neg i1]) hb'
  by_cases g2 : (bt l 0 / 16 == 14 && ct l 1 && ct l 2) = true
  · have k1 : ct l 1 = true := by simp at g2; exact g2.1.2
    have k2 : ct l 2 = true := by simp at g2; exact g2.2
    by_cases i1 : ((bt l 0 % 16) * 4096 + (bt l 1 % 64) * 64 + bt l 2 % 64 ≥ 0x800 && Utf8.valid ((bt l 0 % 16) * 4096 + (bt l 1 % 64) * 64 + bt l 2 % 64 : Nat)) = true
    · have hd : decL l = ((bt l 0 % 16) * 4096 + (bt l 1 % 64) * 64 + bt l 2 % 64, 3) := by unfold decL; rw [if_neg g0, if_neg g1, if_pos g2, if_pos i1]
      rw [hd] at hs ⊢
      have s1 := hs 1 (by simp)
      have s2 := hs 2 (by simp)
      have a2 : (bt m 0 / 16 == 14 && ct m 1 && ct m 2) = true := by rw [e0, ct_same s1 k1, ct_same s2 k2]; simp at g2 ⊢; exact g2.1.1
      have a1 : ¬ (bt m 0 / 32 == 6 && ct m 1) = true := by rw [e0]; simp at g2 ⊢; omega
      refine ⟨?_, fun _ k hk => ?_⟩
      · unfold decL
        rw [if_neg (by omega), if_neg a1, if_pos a2, e0, bt_same s1, bt_same s2, if_pos i1]
      · match k, hk with
        | 0, _ => omega
        | 1, _ => exact cc 1 k1
        | 2, _ => exact cc 2 k2
    · exact absurd (by unfold decL; rw [if_neg g0, if_neg g1, if_pos g2, if_neg i1]) hb'
  by_cases g3 : (bt l 0 / 8 == 30 && ct l 1 && ct l 2 && ct l 3) = true
  · have k1 : ct l 1 = true := by simp at g3; exact g3.1.1.2
    have k2 : ct l 2 = true := by simp at g3; exact g3.1.2
    have k3 : ct l 3 = true := by simp at g3; exact g3.2
    by_cases i1 : ((bt l 0 % 8) * 262144 + (bt l 1 % 64) * 4096 + (bt l 2 % 64) * 64 + bt l 3 % 64 ≥ 0x10000 && Utf8.valid ((bt l 0 % 8) * 262144 + (bt l 1 % 64) * 4096 + (bt l 2 % 64) * 64 + bt l 3 % 64 : Nat)) = true
    · have hd : decL l = ((bt l 0 % 8) * 262144 + (bt l 1 % 64) * 4096 + (bt l 2 % 64) * 64 + bt l 3 % 64, 4) := by unfold decL; rw [if_neg g0, if_neg g1, if_neg g2, if_pos g3, if_pos i1]
      rw [hd] at hs ⊢
      have s1 := hs 1 (by simp)
      have s2 := hs 2 (by simp)
      have s3 := hs 3 (by simp)
      have a3 : (bt m 0 / 8 == 30 && ct m 1 && ct m 2 && ct m 3) = true := by rw [e0, ct_same s1 k1, ct_same s2 k2, ct_same s3 k3]; simp at g3 ⊢; exact g3.1.1.1
      have a1 : ¬ (bt m 0 / 32 == 6 && ct m 1) = true := by rw [e0]; simp at g3 ⊢; omega
      have a2 : ¬ (bt m 0 / 16 == 14 && ct m 1 && ct m 2) = true := by rw [e0]; simp at g3 ⊢; omega
      refine ⟨?_, fun _ k hk => ?_⟩
      · unfold decL
        rw [if_neg (by omega), if_neg a1, if_neg a2, if_pos a3, e0, bt_same s1, bt_same s2, bt_same s3, if_pos i1]
      · match k, hk with
        | 0, _ => omega
        | 1, _ => exact cc 1 k1
        | 2, _ => exact cc 2 k2
        | 3, _ => exact cc 3 k3
    · exact absurd (by unfold decL; rw [if_neg g0, if_neg g1, if_neg g2, if_pos g3, if_neg i1]) hb'
  exact absurd (by unfold decL; rw [if_neg g0, if_neg g1, if_neg g2, if_neg g3]) hb'

/-- A rune of a text, with its bytes. -/
def isRune (x : It) : Prop := ∃ l, l ≠ [] ∧ bad l = false ∧ x = (((decL l).1 : Int), l.take (decL l).2)
theorem items_rune (l : List UInt8) : ∀ x ∈ items l, x.1 ≠ -1 → isRune x := by
  refine items_ind (P := fun l => ∀ x ∈ items l, x.1 ≠ -1 → isRune x) ?_ ?_ l
  · rw [items_nil]; intro x hx; cases hx
  · intro l h ih x hx hn
    rw [items_cons h] at hx
    rcases List.mem_cons.1 hx with rfl | hx
    · have hb := clsL_bad hn
      exact ⟨l, h, hb, by rw [cls_good hb]⟩
    · exact ih x hx hn
theorem rune_dec {x : It} (h : isRune x) (m : List UInt8) : decL (x.2 ++ m) = (x.1.toNat, x.2.length) ∧ bad (x.2 ++ m) = false ∧ x.2 ≠ [] ∧ 0 ≤ x.1 := by
  obtain ⟨l, hl, hb, rfl⟩ := h
  have hle := decL_le hl
  have hw := (decL_width l).1
  have htl := take_width hl
  have hd := (decL_same (m := l.take (decL l).2 ++ m) hb (fun k hk => by
    rw [List.getElem?_append_left (by omega), List.getElem?_take, if_pos hk])).1
  refine ⟨by rw [hd, htl]; rfl, by unfold bad at hb ⊢; rw [hd]; exact hb, ?_, by simp only; omega⟩
  intro e
  simp only at e
  rw [e] at htl
  simp at htl
  omega
theorem rune_items {x : It} (h : isRune x) (m : List UInt8) : items (x.2 ++ m) = x :: items m := by
  obtain ⟨h1, h2, h3, h4⟩ := rune_dec h m
  rw [items_cons (by simp [h3]), cls_good h2, h1]
  simp only [List.take_left, List.drop_left]
  congr 1
  apply Prod.ext
  · simp only; omega
  · rfl
theorem runes_items {T : List It} (h : ∀ x ∈ T, isRune x) (m : List UInt8) : items (bytesI T ++ m) = T ++ items m := by
  induction T with
  | nil => rfl
  | cons x T ih =>
    rw [bytesI_cons, List.append_assoc, rune_items (h x (by simp)), ih (fun y hy => h y (by simp [hy]))]
    rfl
theorem rune_high {x : It} (h : isRune x) (h1 : 128 ≤ x.1) : ∀ c ∈ x.2, 128 ≤ c.toNat := by
  obtain ⟨l, hl, hb, rfl⟩ := h
  intro c hc
  obtain ⟨k, hk, rfl⟩ := List.getElem_of_mem hc
  have hk' : k < (decL l).2 := by rw [take_width hl] at hk; exact hk
  have := (decL_same (m := l) hb (fun _ _ => rfl)).2 (by simp only at h1; omega) k hk'
  unfold bt at this
  rw [List.getD_eq_getElem?_getD] at this
  simp only [List.getElem_take]
  have hle := decL_le hl
  rw [List.getElem?_eq_getElem (by omega)] at this
  exact this

/-- Is a byte one to which nothing is glued? -/
def apart (c : UInt8) : Bool := (c.toNat == 32 || c.toNat == 9) || c.toNat == 10
theorem touchL_append {l m : List UInt8} {c : UInt8} (h : m.getLast? = some c) : touchL (l ++ m) = !apart c := by
  unfold touchL
  rw [List.getLast?_append, h]
  unfold apart
  simp only [Option.some_or]
  cases (c.toNat == 32 || c.toNat == 9) <;> cases hc : (c.toNat == 10) <;> simp_all
theorem last_bytes {T : List It} {x : It} {c : UInt8} (h : x.2.getLast? = some c) : (bytesI (T ++ [x])).getLast? = some c := by
  rw [bytesI_append, bytesI_cons, bytesI_nil, List.append_nil, List.getLast?_append, h]
  rfl
/-- The last byte of a row of letters and digits. -/
theorem last_letter {T : List It} (hr : ∀ x ∈ T, wf1 x ∧ (x.1 ≠ -1 → isRune x)) (hg : ∀ x ∈ T, (isLt x.1 || isDg x.1) = true) (hne : T ≠ []) : ∃ c, (bytesI T).getLast? = some c ∧ apart c = false := by
  obtain ⟨U, x, rfl⟩ : ∃ U x, T = U ++ [x] := ⟨T.dropLast, T.getLast hne, (List.dropLast_concat_getLast hne).symm⟩
  have hx := hr x (by simp)
  have hl := hg x (by simp)
  have hn : x.1 ≠ -1 := by
    intro e; rw [e] at hl; unfold isLt isDg at hl; simp at hl
  rcases (show x.1 < 128 ∨ 128 ≤ x.1 by omega) with h | h
  · obtain ⟨h0, c, hc, hxc⟩ := hx.1.2 ⟨h, hn⟩
    refine ⟨c, last_bytes (by rw [hc]; rfl), ?_⟩
    unfold isLt isDg at hl
    unfold apart
    simp at hl ⊢
    omega
  · have hh := rune_high (hx.2 hn) h
    have hlen := hx.1.1
    obtain ⟨c, hc⟩ : ∃ c, x.2.getLast? = some c := by
      cases he : x.2.getLast? with
      | none => rw [List.getLast?_eq_none_iff] at he; rw [he] at hlen; simp at hlen
      | some c => exact ⟨c, rfl⟩
    refine ⟨c, last_bytes hc, ?_⟩
    have := hh c (List.mem_of_getLast? hc)
    unfold apart
    simp
    omega

/-- What a reading answers, one behind the other, from a place on; fuel f. -/
def seqF (l : List UInt8) : Nat → Nat → List Ans
  | 0, _ => []
  | f + 1, p => if (nextL l p).ans.k = 5 then [] else (nextL l p).ans :: (if (nextL l p).ans.e ≠ 0 then [] else seqF l f (nextL l p).ans.p)
def seqL (l : List UInt8) : List Ans := seqF l (l.length + 1) 0

theorem next_wf (l : List UInt8) (p : Nat) : ∀ x ∈ items (l.drop p), wf1 x := items_wf _
/-- Of a token: where it ends, and what is read from there on. -/
theorem tok_after {l : List UInt8} {p q : Nat} {R : List It} {t : Tk} (hp : p ≤ l.length) (h : nextL l p = .tok t q R) :
    p < q ∧ q ≤ l.length ∧ items (l.drop q) = R ∧ touchL (l.take q) = (t.k != 4) ∧ (1 ≤ t.k ∧ t.k ≤ 4) := by
  unfold nextL at h
  obtain ⟨G, T, h1, h2, h3, h4, h5, h6, h7⟩ := nextI_split (next_wf l p) h
  have hq : q = p + (bytesI (G ++ T)).length := by rw [h4, h2, h3, bytesI_append, List.length_append]; omega
  have hby : l.drop p = bytesI (G ++ T) ++ bytesI R := by
    have := congrArg bytesI h1
    rw [items_bytes] at this
    rw [this, ← List.append_assoc, bytesI_append]
  have hlen := congrArg List.length hby
  rw [List.length_drop, List.length_append] at hlen
  have hwT : ∀ x ∈ T, wf1 x ∧ (x.1 ≠ -1 → isRune x) := fun x hx => by
    have hm : x ∈ items (l.drop p) := by rw [h1]; simp [hx]
    exact ⟨items_wf _ x hm, items_rune _ x hm⟩
  have hT1 : 1 ≤ (bytesI T).length := by
    cases T with
    | nil => exact absurd rfl h5
    | cons x T =>
      have := (hwT x (by simp)).1.1
      rw [bytesI_cons, List.length_append]
      omega
  have hGT : (bytesI (G ++ T)).length = (bytesI G).length + (bytesI T).length := by rw [bytesI_append, List.length_append]
  refine ⟨by omega, by omega, ?_, ?_, ?_⟩
  · rw [hq, ← List.drop_drop]
    exact items_drop (A := G ++ T) (by rw [h1, List.append_assoc])
  · have htk : l.take q = (l.take p ++ bytesI G) ++ bytesI T := by
      rw [hq, List.take_add, hby, List.take_left, bytesI_append, List.append_assoc]
    rw [htk]
    cases T with
    | nil => exact absurd rfl h5
    | cons x T =>
      have hx := (hwT x (by simp)).1
      rw [List.cons_append] at h7
      rcases x with ⟨c, bs⟩
      by_cases c1 : c = 10
      · rw [startI_lf c1] at h7
        injection h7 with e1 e2 e3
        have hT : T = [] := by
          have := congrArg List.length e3
          rw [List.length_append] at this
          exact List.eq_nil_of_length_eq_zero (by omega)
        subst hT
        obtain ⟨_, b, hb, hcb⟩ := hx.2 (by simp only; omega)
        simp only at hb hcb
        rw [touchL_append (c := b) (by rw [hb]; rfl), ← e1]
        unfold apart
        simp
        omega
      by_cases c2 : c = 46 ∨ c = 45
      · rw [startI_sg c1 c2] at h7
        injection h7 with e1 e2 e3
        have hT : T = [] := by
          have := congrArg List.length e3
          rw [List.length_append] at this
          exact List.eq_nil_of_length_eq_zero (by omega)
        subst hT
        obtain ⟨_, b, hb, hcb⟩ := hx.2 (by simp only; omega)
        simp only at hb hcb
        rw [touchL_append (c := b) (by rw [hb]; rfl), ← e1]
        unfold apart
        simp
        omega
      by_cases c3 : isDg c = true
      · rw [startI_nm c1 c2 c3] at h7
        split at h7
        · cases h7
        split at h7
        · injection h7 with e1 e2 e3
          have hall : ∀ y ∈ (c, bs) :: T, (isLt y.1 || isDg y.1) = true := by
            have hT : ((c, bs) :: (T ++ R)).takeWhile (fun x => isDg x.1) = (c, bs) :: T := by
              have hs := List.takeWhile_append_dropWhile (p := fun x : It => isDg x.1) (l := (c, bs) :: (T ++ R))
              rw [e3] at hs
              exact List.append_cancel_right (hs.trans (List.cons_append).symm)
            intro y hy
            rw [← hT] at hy
            have := List.all_takeWhile (p := fun x : It => isDg x.1) (l := (c, bs) :: (T ++ R))
            rw [List.all_eq_true] at this
            rw [this y hy, Bool.or_true]
          obtain ⟨b, hb, ha⟩ := last_letter hwT hall (by simp)
          rw [touchL_append hb, ha, ← e1]
          rfl
        · cases h7
      · rw [startI_wd c1 c2 c3] at h7
        split at h7
        · cases h7
        · injection h7 with e1 e2 e3
          obtain ⟨U, u1, u2, u3⟩ := wordI_split ((c, bs) :: (T ++ R)) 0
          have hU : U = (c, bs) :: T := by
            rw [e3] at u1
            exact List.append_cancel_right (u1.symm.trans (List.cons_append).symm)
          rw [hU] at u3
          obtain ⟨b, hb, ha⟩ := last_letter hwT u3 (by simp)
          rw [touchL_append hb, ha, ← e1]
          rfl
  · cases T with
    | nil => exact absurd rfl h5
    | cons x T =>
      rcases x with ⟨c, bs⟩
      rw [List.cons_append] at h7
      by_cases c1 : c = 10
      · rw [startI_lf c1] at h7
        injection h7 with e1 e2 e3
        rw [← e1]; simp
      by_cases c2 : c = 46 ∨ c = 45
      · rw [startI_sg c1 c2] at h7
        injection h7 with e1 e2 e3
        rw [← e1]; simp
      by_cases c3 : isDg c = true
      · rw [startI_nm c1 c2 c3] at h7
        split at h7
        · cases h7
        split at h7
        · injection h7 with e1 e2 e3
          rw [← e1]; simp
        · cases h7
      · rw [startI_wd c1 c2 c3] at h7
        split at h7
        · cases h7
        · injection h7 with e1 e2 e3
          rw [← e1]; simp

/-- What All tells, out of what was read: the tokens, the place, the error; n: how many bytes the text has. -/
def resOf (n : Nat) : List Ans → List Tk × Nat × Int
  | [] => ([], n, 0)
  | x :: xs => if x.e ≠ 0 then ([], x.p, x.e) else if (resOf n xs).2.2 = 0 then (⟨x.k, x.a, x.tx, x.gl⟩ :: (resOf n xs).1, (resOf n xs).2) else ([], (resOf n xs).2)
theorem stop_end {l : List UInt8} {p q : Nat} (hp : p ≤ l.length) (h : nextL l p = .stop q) : q = l.length := by
  unfold nextL nextI at h
  split at h
  · cases h
  · have hr := gap_rest (l.drop p)
    rw [hr.1, List.drop_drop] at h
    have hle := hr.2
    rw [List.length_drop] at hle
    cases hd : l.drop (p + gapN (l.drop p)) with
    | nil =>
      rw [hd, items_nil, startI] at h
      injection h with h
      rw [List.drop_eq_nil_iff] at hd
      have : (gapI false (items (l.drop p))).1 = gapN (l.drop p) := rfl
      omega
    | cons c m =>
      rw [hd, items_cons (l := c :: m) (by simp)] at h
      by_cases c1 : clsL (c :: m) = 10
      · rw [startI_lf c1] at h; cases h
      by_cases c2 : clsL (c :: m) = 46 ∨ clsL (c :: m) = 45
      · rw [startI_sg c1 c2] at h; cases h
      by_cases c3 : isDg (clsL (c :: m)) = true
      · rw [startI_nm c1 c2 c3] at h
        split at h
        · cases h
        split at h
        · cases h
        · cases h
      · rw [startI_wd c1 c2 c3] at h
        split at h
        · cases h
        · cases h
theorem startI_err {p q : Nat} {gl : Bool} {I : List It} {e : Int} (h : startI p gl I = .err q e) : e = 120 ∨ e = 121 := by
  cases I with
  | nil => rw [startI] at h; cases h
  | cons x I =>
    rcases x with ⟨c, bs⟩
    by_cases c1 : c = 10
    · rw [startI_lf c1] at h; cases h
    by_cases c2 : c = 46 ∨ c = 45
    · rw [startI_sg c1 c2] at h; cases h
    by_cases c3 : isDg c = true
    · rw [startI_nm c1 c2 c3] at h
      split at h
      · injection h with h1 h2; exact .inl h2.symm
      split at h
      · cases h
      · injection h with h1 h2; exact .inr h2.symm
    · rw [startI_wd c1 c2 c3] at h
      split at h
      · injection h with h1 h2; exact .inl h2.symm
      · cases h
theorem nextI_err {p q : Nat} {touch : Bool} {I : List It} {e : Int} (h : nextI p touch I = .err q e) : e = 120 ∨ e = 121 := by
  unfold nextI at h
  split at h
  · injection h with h1 h2; exact .inl h2.symm
  · exact startI_err h
theorem all_seq (l : List UInt8) : ∀ (f p : Nat), p ≤ l.length → l.length < f + p → allI f p (touchL (l.take p)) (items (l.drop p)) = resOf l.length (seqF l f p)
  | 0, p, h1, h2 => by omega
  | f + 1, p, h1, h2 => by
    rw [allI, seqF]
    show (match nextL l p with | .err q e => ([], q, e) | .stop q => ([], q, 0) | .tok t q R => _) = _
    cases h : nextL l p with
    | err q e =>
      have he := nextI_err h
      have : e ≠ 0 := by omega
      simp [Res.ans, resOf, this]
    | stop q =>
      rw [stop_end h1 h]
      simp [Res.ans, resOf]
    | tok t q R =>
      obtain ⟨a1, a2, a3, a4, a5⟩ := tok_after h1 h
      have ih := all_seq l f q a2 (by omega)
      rw [a3, a4] at ih
      have hk : ¬ t.k = 5 := by omega
      simp [Res.ans, resOf, hk, ih]
theorem allL_seq (l : List UInt8) : allL l = resOf l.length (seqL l) := by
  have := all_seq l (l.length + 1) 0 (Nat.zero_le _) (by omega)
  rw [List.take_zero, List.drop_zero] at this
  exact this
/-- One step: what is answered at a place, and what follows. -/
theorem seq_step {l : List UInt8} {f p : Nat} (hp : p ≤ l.length) (hf : l.length < f + p) :
    ((nextL l p).ans.k = 5 ∧ seqF l f p = []) ∨ ((nextL l p).ans.k ≠ 5 ∧ (nextL l p).ans.e ≠ 0 ∧ seqF l f p = [(nextL l p).ans]) ∨
    ((nextL l p).ans.k ≠ 5 ∧ (nextL l p).ans.e = 0 ∧ p < (nextL l p).ans.p ∧ (nextL l p).ans.p ≤ l.length ∧ ∃ g, l.length < g + (nextL l p).ans.p ∧ seqF l f p = (nextL l p).ans :: seqF l g (nextL l p).ans.p) := by
  obtain ⟨g, rfl⟩ : ∃ g, f = g + 1 := ⟨f - 1, by omega⟩
  rw [seqF]
  by_cases h5 : (nextL l p).ans.k = 5
  · rw [if_pos h5]; exact .inl ⟨h5, rfl⟩
  rw [if_neg h5]
  by_cases he : (nextL l p).ans.e = 0
  · rw [if_neg (by simpa using he)]
    refine .inr (.inr ⟨h5, he, ?_⟩)
    cases h : nextL l p with
    | err q e =>
      have := nextI_err h
      rw [h] at he
      simp only [Res.ans] at he
      omega
    | stop q => rw [h] at h5; exact absurd rfl h5
    | tok t q R =>
      obtain ⟨a1, a2, _⟩ := tok_after hp h
      exact ⟨a1, a2, g, by simp only [Res.ans]; omega, rfl⟩
  · rw [if_pos he]; exact .inr (.inl ⟨h5, he, rfl⟩)
theorem next_p_le (l : List UInt8) (p : Nat) (hp : p ≤ l.length) : (nextL l p).ans.p ≤ l.length := by
  rw [nextL_ans]
  have hg := (gap_rest (l.drop p)).2
  rw [List.length_drop] at hg
  split
  · simp only; omega
  · have hm := measN_le (l.drop (p + gapN (l.drop p)))
    rw [List.length_drop] at hm
    unfold measA
    split <;> simp only <;> omega
theorem seqF_len (l : List UInt8) : ∀ (f p : Nat), p ≤ l.length → l.length < f + p → (seqF l f p).length ≤ l.length + 1 - p
  | 0, p, h1, h2 => by omega
  | f + 1, p, h1, h2 => by
    rw [seqF]
    split
    · simp
    · split
      · simp; omega
      · rename_i h5 he
        rcases seq_step h1 h2 with h | h | h
        · exact absurd h.1 h5
        · exact absurd h.2.1 he
        · have := seqF_len l f _ h.2.2.2.1 (by omega)
          rw [List.length_cons]
          omega
theorem seqL_len (l : List UInt8) : (seqL l).length ≤ l.length + 1 := by
  have := seqF_len l (l.length + 1) 0 (Nat.zero_le _) (by omega)
  unfold seqL
  omega
end Go.Proofs.YthccgpjbchlocaaDoor
