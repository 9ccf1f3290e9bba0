/- Layer lex: what is spelled is read again as the same; no program but the text of Spell's answer. -/
import Derived.Test.YthccgpjbchlocaaLk
import Derived.Test.YthccgpjbchlocaaLq
namespace Go.Proofs.Ythccgpjbchlocaa

theorem allI_step {f p q : Nat} {touch : Bool} {I : List It} {ts : List Tk} (h : allI (f + 1) p touch I = (ts, q, 0)) :
    ts = [] ∨ ∃ t q1 R ts1, nextI p touch I = .tok t q1 R ∧ ts = t :: ts1 ∧ allI f q1 (t.k != 4) R = (ts1, q, 0) := by
  rw [allI] at h
  cases hn : nextI p touch I with
  | err q1 e => rw [hn] at h; injection h with h1; exact .inl h1.symm
  | stop q1 => rw [hn] at h; injection h with h1; exact .inl h1.symm
  | tok t q1 R =>
    rw [hn] at h
    simp only at h
    split at h
    · rename_i h0
      injection h with h1 h2
      exact .inr ⟨t, q1, R, _, rfl, h1.symm, Prod.ext rfl h2⟩
    · injection h with h1; exact .inl h1.symm
theorem allI_nil (g p : Nat) (touch : Bool) (hg : 0 < g) : allI g p touch [] = ([], p, 0) := by
  obtain ⟨g, rfl⟩ : ∃ k, g = k + 1 := ⟨g - 1, by omega⟩
  rw [allI]
  rfl

def wfR (I : List It) : Prop := ∀ x ∈ I, wf1 x ∧ (x.1 ≠ -1 → isRune x)
theorem items_wfR (l : List UInt8) : wfR (items l) := fun x hx => ⟨items_wf l x hx, items_rune l x hx⟩

/-- What a token of a row is, with what is ahead and behind. -/
theorem next_is {p q : Nat} {touch : Bool} {I R : List It} {t : Tk} (hw : wfR I) (h : nextI p touch I = .tok t q R) :
    ∃ G T, I = G ++ (T ++ R) ∧ TokIs t T R ∧ t.tx = bytesI T ∧ (t.k ≠ 4 → t.gl = (touch && decide (G = []))) ∧ (∀ m, items (t.tx ++ m) = T ++ items m) ∧ wfR R := by
  obtain ⟨G, T, h1, _, _, _, h5, _, h7⟩ := nextI_split (fun x hx => (hw x hx).1) h
  have hwT : ∀ x ∈ T ++ R, wf1 x := fun x hx => (hw x (by rw [h1]; exact List.mem_append_right _ hx)).1
  obtain ⟨a1, a2, a3⟩ := tok_is hwT h5 h7
  refine ⟨G, T, h1, a1, a2, a3, fun m => ?_, fun x hx => hw x (by rw [h1]; simp [hx])⟩
  rw [a2]
  have hf := (tok_first a1).1
  exact runes_items (fun x hx => (hw x (by rw [h1]; simp [hx])).2 (hf x hx)) m

/-- What is spelled behind a token begins with nothing that the token would take in. -/
theorem head_ok {f q q2 : Nat} {R : List It} {ts : List Tk} (hw : wfR R) (k : Int) (hk4 : k ≠ 4) (h : allI f q true R = (ts, q2, 0)) (hc : contK k R = false) : contK k (items (spellF k ts)) = false := by
  cases ts with
  | nil => rw [spellF, items_nil]; rfl
  | cons t ts =>
    cases f with
    | zero => rw [allI] at h; injection h with h; cases h
    | succ f =>
      rcases allI_step h with h0 | ⟨t', q1, R1, ts1, hn, he, hr⟩
      · cases h0
      · injection he with he1 he2
        subst he1; subst he2
        obtain ⟨G, T, h1, a1, a2, a3, a4, _⟩ := next_is hw hn
        obtain ⟨c, bs, U, hT, _⟩ := (tok_first a1).2
        rw [spellF]
        by_cases hb : (!t.gl && t.k != 4 && k != 4) = true
        · rw [if_pos hb, List.singleton_append, items_low (by decide)]
          unfold contK isLt isDg
          simp
        · rw [if_neg hb, List.nil_append, a4, hT]
          by_cases ht4 : t.k = 4
          · rcases a1 with ⟨_, hT2, _⟩ | ⟨hk, _⟩ | ⟨hk, _⟩ | ⟨hk, _⟩
            · rw [hT] at hT2
              injection hT2 with e1 e2
              injection e1 with e1
              subst e1
              unfold contK isLt isDg
              simp
            · omega
            · omega
            · omega
          · have hgl : t.gl = true := by
              cases hg : t.gl
              · rw [hg] at hb; simp at hb; exact absurd (hb ht4) hk4
              · rfl
            have := a3 ht4
            rw [hgl] at this
            have hG : G = [] := by simpa using this.symm
            rw [hG, List.nil_append, hT] at h1
            rw [h1] at hc
            exact hc

def strip (t : Tk) : Int × List UInt8 × Bool := (t.k, t.tx, t.gl)
theorem spell_again : ∀ (f p q : Nat) (touch : Bool) (I : List It) (ts : List Tk), wfR I → allI f p touch I = (ts, q, 0) → ∀ ah : Int, touch = (ah != 4) → ∀ (g p' : Nat), (items (spellF ah ts)).length < g →
    ∃ us q', allI g p' (ah != 4) (items (spellF ah ts)) = (us, q', 0) ∧ us.map strip = ts.map strip
  | 0, p, q, touch, I, ts, _, h, ah, _, g, p', hg => by
    rw [allI] at h
    injection h with h
    subst h
    rw [spellF, items_nil] at hg ⊢
    exact ⟨[], p', allI_nil g p' _ (by simpa using hg), rfl⟩
  | f + 1, p, q, touch, I, ts, hw, h, ah, hah, g, p', hg => by
    rcases allI_step h with rfl | ⟨t, q1, R, ts1, hn, rfl, hr⟩
    · rw [spellF, items_nil] at hg ⊢
      exact ⟨[], p', allI_nil g p' _ (by simpa using hg), rfl⟩
    · obtain ⟨G, T, h1, a1, a2, a3, a4, a5⟩ := next_is hw hn
      obtain ⟨c, bs, U, hT, hgo⟩ := (tok_first a1).2
      have hS : contK t.k (items (spellF t.k ts1)) = false := by
        by_cases hk4 : t.k = 4
        · rw [hk4]
          cases items (spellF 4 ts1) <;> rfl
        · have : (t.k != 4) = true := by simpa using hk4
          rw [this] at hr
          exact head_ok a5 t.k hk4 hr (tok_rest a1)
      obtain ⟨g', rfl⟩ : ∃ g', g = g' + 1 := ⟨g - 1, by omega⟩
      rw [spellF] at hg ⊢
      -- the next token of what is spelled
      have hnx : ∃ u qq, nextI p' (ah != 4) (items ((if (!t.gl && t.k != 4 && ah != 4) = true then [32] else []) ++ (t.tx ++ spellF t.k ts1))) = .tok u qq (items (spellF t.k ts1)) ∧ strip u = strip t ∧ u.k = t.k := by
        by_cases hb : (!t.gl && t.k != 4 && ah != 4) = true
        · rw [if_pos hb, List.singleton_append, items_low (by decide), a4]
          obtain ⟨u, qq, u1, u2, u3, u4, u5⟩ := startI_again a1 a2 (p' + 1) false hS
          simp only [Bool.and_eq_true, Bool.not_eq_true', bne_iff_ne, ne_eq] at hb
          refine ⟨u, qq, ?_, ?_, u2⟩
          · unfold nextI
            rw [gapI_go (by decide), hT, List.cons_append, gapI_no (by simpa using hgo)]
            simp only [Bool.false_or]
            rw [← List.cons_append, ← hT]
            simpa using u1
          · unfold strip
            rw [u2, u3, u4 (by rw [u2]; exact hb.1.2), hb.1.1]
        · rw [if_neg hb, List.nil_append, a4]
          obtain ⟨u, qq, u1, u2, u3, u4, u5⟩ := startI_again a1 a2 p' (ah != 4) hS
          refine ⟨u, qq, ?_, ?_, u2⟩
          · unfold nextI
            rw [hT, List.cons_append, gapI_no hgo]
            rw [← List.cons_append, ← hT]
            simpa using u1
          · unfold strip
            rw [u2, u3]
            by_cases hk4 : t.k = 4
            · rw [u5 (by rw [u2]; exact hk4)]
              rcases a1 with ⟨_, _, hg4⟩ | ⟨hk, _⟩ | ⟨hk, _⟩ | ⟨hk, _⟩
              · rw [hg4]
              · omega
              · omega
              · omega
            · rw [u4 (by rw [u2]; exact hk4), a3 hk4, hah]
              have h3 := a3 hk4
              rw [hah] at h3
              have hkb : (t.k != 4) = true := by simpa using hk4
              rw [hkb, Bool.and_true] at hb
              cases ha : (ah != 4)
              · rfl
              · rw [ha, Bool.and_true] at hb
                rw [ha] at h3
                simp at hb
                rw [← h3, hb]
      obtain ⟨u, qq, n1, n2, n3⟩ := hnx
      have hlen : (items (spellF t.k ts1)).length < g' := by
        have hw2 : ∀ x ∈ items ((if (!t.gl && t.k != 4 && ah != 4) = true then [32] else []) ++ (t.tx ++ spellF t.k ts1)), wf1 x := items_wf _
        have := tok_less hw2 n1
        omega
      obtain ⟨us, q', i1, i2⟩ := spell_again f q1 q (t.k != 4) R ts1 a5 hr t.k rfl g' qq hlen
      refine ⟨u :: us, q', ?_, by rw [List.map_cons, List.map_cons, n2, i2]⟩
      rw [allI, n1]
      simp only
      rw [n3, i1]
      simp

/-- The tokens of a text that may be, spelled, are read as the same kinds and texts, and glued. -/
theorem again_all {l : List UInt8} (h : (allL l).2.2 = 0) : ∃ us, allL (spellL (allL l).1) = (us, (spellL (allL l).1).length, 0) ∧ us.map strip = (allL l).1.map strip := by
  have h1 : allI (l.length + 1) 0 false (items l) = ((allL l).1, (allL l).2.1, 0) := by
    show allL l = _
    rw [← h]
  obtain ⟨us, q', h2, h3⟩ := spell_again _ _ _ _ _ _ (items_wfR l) h1 4 rfl ((spellL (allL l).1).length + 1) 0 (by
    have := items_len (spellF 4 (allL l).1)
    show _ < (spellF 4 (allL l).1).length + 1
    omega)
  have h4 : allL (spellL (allL l).1) = (us, q', 0) := h2
  have h5 := all_place (l := spellL (allL l).1) (by rw [h4])
  rw [h4] at h5
  simp only at h5
  exact ⟨us, by rw [h4, h5], h3⟩
theorem spell_strip : ∀ (us ts : List Tk) (ah : Int), us.map strip = ts.map strip → spellF ah us = spellF ah ts
  | [], [], _, _ => rfl
  | [], _ :: _, _, h => by cases h
  | _ :: _, [], _, h => by cases h
  | u :: us, t :: ts, ah, h => by
    rw [List.map_cons, List.map_cons] at h
    injection h with h1 h2
    unfold strip at h1
    injection h1 with e1 h1
    injection h1 with e2 e3
    rw [spellF, spellF, e1, e2, e3, spell_strip us ts t.k h2]
/-- How long what is spelled can be. -/
theorem spell_bound (ah : Int) (ts : List Tk) : (spellF ah ts).length ≤ ts.length + (ts.map fun t => t.tx.length).sum := by
  induction ts generalizing ah with
  | nil => exact Nat.zero_le _
  | cons t ts ih =>
    have := ih t.k
    rw [spellF, List.length_append, List.length_append, List.length_cons, List.map_cons, List.sum_cons]
    split
    · simp; omega
    · simp; omega
theorem texts_bound : ∀ (f p : Nat) (touch : Bool) (I : List It), (∀ x ∈ I, wf1 x) → ((allI f p touch I).1.map fun t => t.tx.length).sum ≤ (bytesI I).length
  | 0, _, _, _, _ => by rw [allI]; exact Nat.zero_le _
  | f + 1, p, touch, I, hw => by
    rw [allI]
    cases hn : nextI p touch I with
    | err q e => exact Nat.zero_le _
    | stop q => exact Nat.zero_le _
    | tok u q R =>
      simp only
      obtain ⟨G, T, h1, _, h3, _⟩ := nextI_split hw hn
      have hb := congrArg (fun x => (bytesI x).length) h1
      simp only [bytesI_append, List.length_append] at hb
      have ih := texts_bound f q (u.k != 4) R (tok_wf hw hn)
      split
      · rw [List.map_cons, List.sum_cons, h3]
        omega
      · exact Nat.zero_le _
theorem spell_size {l : List UInt8} : (spellL (allL l).1).length ≤ (allL l).1.length + l.length := by
  have h1 := spell_bound 4 (allL l).1
  have h2 := texts_bound (l.length + 1) 0 false (items l) (items_wf l)
  rw [items_bytes] at h2
  have h3 : ((allL l).1.map fun t => t.tx.length).sum ≤ l.length := h2
  unfold spellL
  omega
end Go.Proofs.Ythccgpjbchlocaa
