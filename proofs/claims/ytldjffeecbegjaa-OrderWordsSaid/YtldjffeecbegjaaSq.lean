/- Layer order: what a row of texts without its repeats holds, where a text lies in it, the least one, and a map of texts already met: plain facts. -/
import Derived.Test.YtldjffeecbegjaaSk
import Derived.Test.YtldjffeecbegjaaSp
import Derived.Test.YtldjffeecbegjaaOr
import Derived.Maps.Own
import Derived.StringKeys
import Derived.Test.YtldjffeecbegjaaOm
namespace Go.Proofs.Ytldjffeecbegjaa.Str
open Go.RowKit Go.Maps

/-- A row in order, repeats gone: each stands ahead of all that follow. -/
theorem uniq_facts {S : List Tx} (hS : InOrder ltS S) : ∀ k, k ≤ S.length → (uniqK S k).Pairwise (fun a b => ltS a b = true) ∧ ∀ x, x ∈ uniqK S k ↔ x ∈ S.take k
  | 0, _ => ⟨List.Pairwise.nil, fun x => by simp [uniqK]⟩
  | k + 1, hk => by
    obtain ⟨h1, h2⟩ := uniq_facts hS k (by omega)
    obtain ⟨p, hp⟩ : ∃ p, S[k]? = some p := ⟨S[k]'(by omega), List.getElem?_eq_getElem _⟩
    have htk : S.take (k + 1) = S.take k ++ [p] := by
      obtain ⟨hl, rfl⟩ := List.getElem?_eq_some_iff.1 hp
      exact List.take_succ_eq_append_getElem hl
    by_cases hsk : 0 < k ∧ S[k - 1]? = some p
    · rw [uniqK_skip hp hsk]
      refine ⟨h1, fun x => ?_⟩
      rw [htk, List.mem_append, List.mem_singleton, h2]
      refine ⟨.inl, fun h => ?_⟩
      rcases h with h | rfl
      · exact h
      · exact List.mem_of_getElem? (show (S.take k)[k - 1]? = some x by rw [List.getElem?_take, if_pos (by omega)]; exact hsk.2)
    · rw [uniqK_keep hp hsk]
      refine ⟨?_, fun x => by rw [htk, List.mem_append, List.mem_append, h2]⟩
      rw [List.pairwise_append]
      refine ⟨h1, List.pairwise_singleton _ _, fun y hy z hz => ?_⟩
      rw [List.mem_singleton] at hz
      subst hz
      rw [h2] at hy
      obtain ⟨i, hi⟩ := List.mem_iff_getElem?.1 hy
      rw [List.getElem?_take] at hi
      split at hi
      · rename_i hik
        obtain ⟨e1, g1⟩ := List.getElem?_eq_some_iff.1 hi
        obtain ⟨e2, g2⟩ := List.getElem?_eq_some_iff.1 hp
        have o1 := List.pairwise_iff_getElem.1 hS i k e1 e2 hik
        rw [g1, g2] at o1
        cases hyz : ltS y z
        · have hyz2 := ltS_eq hyz o1
          subst hyz2
          exfalso
          apply hsk
          refine ⟨by omega, ?_⟩
          have e3 : k - 1 < S.length := by omega
          have o2 := List.pairwise_iff_getElem.1 hS (k - 1) k e3 e2 (by omega)
          rw [g2] at o2
          have o3 : ltS S[k - 1] y = false := by
            by_cases hi1 : i = k - 1
            · subst hi1; rw [g1]; exact ltS_ahead.irrefl y
            · have := List.pairwise_iff_getElem.1 hS i (k - 1) e1 e3 (by omega)
              rw [g1] at this
              exact this
          rw [List.getElem?_eq_getElem e3, ltS_eq o3 o2]
        · rfl
      · cases hi
theorem strict_order {Q : List Tx} (h : Q.Pairwise fun a b => ltS a b = true) : InOrder ltS Q := h.imp fun h => less_asym _ _ h
theorem strict_new {Q : List Tx} (h : Q.Pairwise fun a b => ltS a b = true) {i : Nat} {p : Tx} (hp : Q[i]? = some p) : p ∉ Q.take i := fun hm => by
  obtain ⟨j, hj⟩ := List.mem_iff_getElem?.1 hm
  rw [List.getElem?_take] at hj
  split at hj
  · rename_i hji
    obtain ⟨e1, g1⟩ := List.getElem?_eq_some_iff.1 hj
    obtain ⟨e2, g2⟩ := List.getElem?_eq_some_iff.1 hp
    have := List.pairwise_iff_getElem.1 h j i e1 e2 hji
    rw [g1, g2, ltS_ahead.irrefl] at this
    cases this
  · cases hj

/-- Where a text lies, or would lie. -/
theorem seek : ∀ (Q : List Tx) (s : Tx), InOrder ltS Q → ∃ j, j ≤ Q.length ∧ (∀ i p, Q[i]? = some p → i < j → ltS p s = true) ∧ (∀ i p, Q[i]? = some p → j ≤ i → ltS p s = false)
  | [], s, _ => ⟨0, Nat.le_refl _, fun i p h => by simp at h, fun i p h => by simp at h⟩
  | y :: Q, s, h => by
    cases hy : ltS y s
    · refine ⟨0, Nat.zero_le _, fun i p _ hi => absurd hi (by omega), fun i p hp _ => ?_⟩
      exact less_trans _ _ _ hy (order_all ltS_ahead h p (List.mem_of_getElem? hp))
    · obtain ⟨j, h1, h2, h3⟩ := seek Q s (order_tail h)
      refine ⟨j + 1, by simp; omega, fun i p hp hi => ?_, fun i p hp hi => ?_⟩
      · cases i with
        | zero => simp at hp; subst hp; exact hy
        | succ i => exact h2 i p (by simpa using hp) (by omega)
      · cases i with
        | zero => omega
        | succ i => exact h3 i p (by simpa using hp) (by omega)
theorem cmpS_zero (a b : Tx) : (cmpS a b == 0) = true ↔ a = b := by
  unfold cmpS
  cases h1 : ltS a b
  · cases h2 : ltS b a
    · simp [ltS_eq h1 h2]
    · have : a ≠ b := fun e => by subst e; rw [ltS_ahead.irrefl] at h2; cases h2
      simp [this]
  · have : a ≠ b := fun e => by subst e; rw [ltS_ahead.irrefl] at h1; cases h1
    simp [this]
/-- What a search for a text gives. -/
structure Sought (Q : List Tx) (s : Tx) (j : Nat) : Prop where
  le : j ≤ Q.length
  lo : ∀ i p, Q[i]? = some p → i < j → cmpS p s < 0
  hi : ∀ i p, Q[i]? = some p → j ≤ i → ¬ cmpS p s < 0
  at_ : s ∈ Q → Q[j]? = some s
  yes : ∀ bb : Bool, (bb = true ↔ s ∈ Q) → (j < Q.length → ∀ p, Q[j]? = some p → bb = (cmpS p s == 0)) ∧ (¬ j < Q.length → bb = false)
theorem sought (Q : List Tx) (s : Tx) (h : InOrder ltS Q) : ∃ j, Sought Q s j := by
  obtain ⟨j, h1, h2, h3⟩ := seek Q s h
  have hat : s ∈ Q → Q[j]? = some s := fun hm => by
    obtain ⟨i, hi⟩ := List.mem_iff_getElem?.1 hm
    have hji : j ≤ i := Nat.le_of_not_lt fun hlt => by
      have := h2 i s hi hlt
      rw [ltS_ahead.irrefl] at this
      cases this
    obtain ⟨e1, g1⟩ := List.getElem?_eq_some_iff.1 hi
    have e2 : j < Q.length := by omega
    have a1 := h3 j Q[j] (List.getElem?_eq_getElem e2) (Nat.le_refl _)
    have a2 : ltS s Q[j] = false := by
      by_cases hij : i = j
      · subst hij; rw [g1]; exact ltS_ahead.irrefl s
      · have := List.pairwise_iff_getElem.1 h j i e2 e1 (by omega)
        rw [g1] at this
        exact this
    rw [List.getElem?_eq_getElem e2, ltS_eq a1 a2]
  refine ⟨j, h1, fun i p hp hi => by rw [cmpS_neg]; exact h2 i p hp hi, fun i p hp hi => by rw [cmpS_neg, h3 i p hp hi]; decide, hat, fun bb hb => ⟨fun _ p hp => ?_, fun hj => ?_⟩⟩
  · rw [Bool.eq_iff_iff, hb, cmpS_zero]
    refine ⟨fun hm => ?_, fun e => by subst e; exact List.mem_of_getElem? hp⟩
    have := hat hm
    rw [hp] at this
    injection this
  · refine Bool.eq_false_iff.2 fun e => ?_
    have := hat (hb.1 e)
    have := (List.getElem?_eq_some_iff.1 this).1
    omega

/-- The first one that none stands ahead of. -/
theorem lst_min (xs : List Tx) : ∀ k, k ≤ xs.length → 0 < k → ∀ y, xs[lstK ltS xs k]? = some y → ∀ p ∈ xs.take k, ltS p y = false
  | 0, _, h, _, _, _, _ => absurd h (by omega)
  | k + 1, hk, _, y', hy', p, hp => by
    obtain ⟨x, hx⟩ : ∃ x, xs[k]? = some x := ⟨xs[k]'(by omega), List.getElem?_eq_getElem _⟩
    have htk : xs.take (k + 1) = xs.take k ++ [x] := by
      obtain ⟨hl, rfl⟩ := List.getElem?_eq_some_iff.1 hx
      exact List.take_succ_eq_append_getElem hl
    rw [htk, List.mem_append, List.mem_singleton] at hp
    by_cases h0 : k = 0
    · subst h0
      rw [lstK_one, hx] at hy'
      injection hy' with e
      subst e
      rcases hp with hp | rfl
      · simp at hp
      · exact ltS_ahead.irrefl p
    · have hlt := lstK_lt ltS xs k (by omega)
      obtain ⟨y, hy⟩ : ∃ y, xs[lstK ltS xs k]? = some y := ⟨xs[lstK ltS xs k]'(by omega), List.getElem?_eq_getElem _⟩
      have ih := lst_min xs k (by omega) (by omega) y hy
      cases hxy : ltS x y
      · rw [lstK_stay hx hy (fun h => by rw [hxy] at h; exact absurd h.2 (by decide)), hy] at hy'
        injection hy' with e
        subst e
        rcases hp with hp | rfl
        · exact ih p hp
        · exact hxy
      · rw [lstK_turn hx hy (by omega) hxy, hx] at hy'
        injection hy' with e
        subst e
        rcases hp with hp | rfl
        · exact less_trans _ _ _ (less_asym _ _ hxy) (ih p hp)
        · exact ltS_ahead.irrefl p
theorem least_first {L Q : List Tx} {n : Nat} (hn : L.length = n) (h0 : 0 < n) (hQ : InOrder ltS Q) (hm : ∀ x, x ∈ Q ↔ x ∈ L) : ∃ y, L[lstK ltS L n]? = some y ∧ Q[0]? = some y ∧ lstK ltS L n < n := by
  have hlt := lstK_lt ltS L n h0
  obtain ⟨y, hy⟩ : ∃ y, L[lstK ltS L n]? = some y := ⟨L[lstK ltS L n]'(by omega), List.getElem?_eq_getElem _⟩
  refine ⟨y, hy, ?_, hlt⟩
  have hmin := lst_min L n (by omega) h0 y hy
  rw [List.take_of_length_le (by omega)] at hmin
  have hyQ : y ∈ Q := (hm y).2 (List.mem_of_getElem? hy)
  match Q, hQ, hm, hyQ with
  | z :: Q, hQ, hm, hyQ =>
    have a1 := order_all ltS_ahead hQ y hyQ
    have a2 := hmin z ((hm z).1 (List.mem_cons_self ..))
    simp [ltS_eq a2 a1]

/-- What a map tells of texts not met. -/
def SeenIs (D : DataW Unit) (l : List Tx) : Prop := ∀ p : Tx, p ∉ l → D.atKey (.string p.data.toList) (.lit (.bool false)) = .lit (.bool false)
theorem seen_none : SeenIs (.map []) [] := fun _ _ => rfl
theorem key_ne {p q : Tx} (h : p ≠ q) : Lit.string p.data.toList ≠ Lit.string q.data.toList := fun e => h (by
  injection e with e
  cases p; cases q
  congr 1
  exact Array.toList_inj.1 e)
theorem seen_put {D : DataW Unit} {l : List Tx} {y : Tx} (h : SeenIs D l) : SeenIs (D.put (.string y.data.toList) (.lit (.bool true))) (l ++ [y]) := fun p hp => by
  rw [List.mem_append, List.mem_singleton] at hp
  have h1 : p ∉ l := fun e => hp (.inl e)
  have h2 : p ≠ y := fun e => hp (.inr e)
  rw [atKey_put_other (key_ne h2), h p h1]

section
variable {P : Program} {w : World} {t k e : TypeId} {b n : Nat} {D : DataW Unit}
theorem look_not (h : w.ownsMap P k (plainElem P e) b n D) (K : Keyed P k) (ht : P.underlying t = some (.map k e)) (he : P.underlying e = some .bool) (hz : (zeroValue e).run P w = .ok (.bool false) w)
    {key : Value} {kl : Lit} (hkey : keyOf P k key = some kl) (hat : D.atKey kl (.lit (.bool false)) = .lit (.bool false)) : (Instr.lookup t (.map (some b)) key false).run P w = .ok (.bool false) w := by
  obtain ⟨v, ps, hrun, hv⟩ := h.lookup K ht hz (plainElem_bool he false) hkey
  rw [hat] at hv
  unfold plainElem at hv
  rw [he] at hv
  cases v <;> simp at hv
  obtain ⟨rfl, _⟩ := hv
  exact hrun
end
end Go.Proofs.Ytldjffeecbegjaa.Str
