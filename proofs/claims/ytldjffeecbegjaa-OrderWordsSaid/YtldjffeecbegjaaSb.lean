/- Layer order: texts as cells, and how they stand; the contracts of cmp.Compare at texts. -/
import Derived.Test.YtldjffeecbegjaaOc
import Derived.WalkLawsBesides
namespace Go.Proofs.Ytldjffeecbegjaa.Str
open Go.RowKit

abbrev Tx := ByteArray
theorem strs_append (a b : List Tx) : strs (a ++ b) = strs a ++ strs b := by unfold strs; rw [List.map_append]
theorem strs_take (ps : List Tx) (k : Nat) : strs (ps.take k) = (strs ps).take k := by unfold strs; rw [List.map_take]
theorem strs_drop (ps : List Tx) (k : Nat) : strs (ps.drop k) = (strs ps).drop k := by unfold strs; rw [List.map_drop]
theorem strs_set (ps : List Tx) (k : Nat) (p : Tx) : (strs ps).set k (.string p) = strs (ps.set k p) := by unfold strs; rw [List.map_set]
theorem strs_at {ps : List Tx} {k : Nat} {p : Tx} (h : ps[k]? = some p) : (strs ps)[k]? = some (.string p) := by unfold strs; rw [List.getElem?_map, h]; rfl
theorem strs_one (ps : List Tx) : ∀ u ∈ strs ps, u.oneCell' = true := by
  intro u hu
  unfold strs at hu
  obtain ⟨x, _, rfl⟩ := List.mem_map.1 hu
  rfl

theorem less_asym : ∀ (a b : List UInt8), Op.bytesLess a b = true → Op.bytesLess b a = false
  | [], [], h => by simp [Op.bytesLess] at h
  | [], _ :: _, _ => by simp [Op.bytesLess]
  | _ :: _, [], h => by simp [Op.bytesLess] at h
  | x :: a, y :: b, h => by
    simp only [Op.bytesLess, Bool.or_eq_true, Bool.and_eq_true, decide_eq_true_eq, beq_iff_eq] at h
    simp only [Op.bytesLess, Bool.or_eq_false_iff, Bool.and_eq_false_iff, decide_eq_false_iff_not, beq_eq_false_iff_ne, ne_eq]
    rcases h with h | ⟨rfl, h⟩
    · exact ⟨fun h2 => UInt8.lt_asymm h h2, .inl fun e => by subst e; exact UInt8.lt_irrefl _ h⟩
    · exact ⟨UInt8.lt_irrefl _, .inr (less_asym a b h)⟩
theorem less_trans : ∀ (x y z : List UInt8), Op.bytesLess y x = false → Op.bytesLess z y = false → Op.bytesLess z x = false
  | [], _, [], _, _ => by simp [Op.bytesLess]
  | [], _, _ :: _, _, _ => by simp [Op.bytesLess]
  | _ :: _, [], _, h, _ => by simp [Op.bytesLess] at h
  | _ :: _, _ :: _, [], _, h => by simp [Op.bytesLess] at h
  | a :: x, b :: y, c :: z, h1, h2 => by
    simp only [Op.bytesLess, Bool.or_eq_false_iff, Bool.and_eq_false_iff, decide_eq_false_iff_not, beq_eq_false_iff_ne, ne_eq] at h1 h2 ⊢
    obtain ⟨h1, h3⟩ := h1
    obtain ⟨h2, h4⟩ := h2
    have hab : a ≤ b := UInt8.not_lt.1 h1
    have hbc : b ≤ c := UInt8.not_lt.1 h2
    refine ⟨UInt8.not_lt.2 (UInt8.le_trans hab hbc), ?_⟩
    by_cases hca : c = a
    · subst hca
      have hb : b = c := UInt8.le_antisymm hbc hab
      subst hb
      refine .inr (less_trans x y z ?_ ?_)
      · rcases h3 with h3 | h3
        · exact absurd rfl h3
        · exact h3
      · rcases h4 with h4 | h4
        · exact absurd rfl h4
        · exact h4
    · exact .inl hca
theorem less_eq : ∀ (a b : List UInt8), Op.bytesLess a b = false → Op.bytesLess b a = false → a = b
  | [], [], _, _ => rfl
  | [], _ :: _, h, _ => by simp [Op.bytesLess] at h
  | _ :: _, [], _, h => by simp [Op.bytesLess] at h
  | x :: a, y :: b, h1, h2 => by
    simp only [Op.bytesLess, Bool.or_eq_false_iff, Bool.and_eq_false_iff, decide_eq_false_iff_not, beq_eq_false_iff_ne, ne_eq] at h1 h2
    have hxy : x = y := UInt8.le_antisymm (UInt8.not_lt.1 h2.1) (UInt8.not_lt.1 h1.1)
    subst hxy
    congr 1
    refine less_eq a b ?_ ?_
    · rcases h1.2 with h | h
      · exact absurd rfl h
      · exact h
    · rcases h2.2 with h | h
      · exact absurd rfl h
      · exact h
/-- Does p stand ahead of q, byte by byte? -/
def ltS (p q : Tx) : Bool := Op.bytesLess p.toList q.toList
theorem ltS_ahead : Ahead ltS := ⟨fun h => less_asym _ _ h, fun h1 h2 => less_trans _ _ _ h1 h2⟩
theorem ltS_eq {p q : Tx} (h1 : ltS p q = false) (h2 : ltS q p = false) : p = q := by
  have := less_eq _ _ h1 h2
  rw [ByteArray.toList_eq, ByteArray.toList_eq] at this
  cases p; cases q
  congr 1
  exact Array.toList_inj.1 this

/-- How two texts stand. -/
def cmpS (a b : Tx) : Int := if ltS a b = true then -1 else if ltS b a = true then 1 else 0
theorem cmpS_neg (a b : Tx) : (cmpS a b < 0) = (ltS a b = true) := by unfold cmpS; split <;> simp_all; split <;> simp_all

set_option maxHeartbeats 400000 in
theorem compare_str (a b : Tx) (w : World) : Calls Try.prog 26 #[.string a, .string b] w fun e w' => e = .returned (.int .i64 (cmpS a b)) ∧ Below w.heap.size w w' := by
  have hn : ∀ (x : Tx) (w : World), Calls Try.prog 44 #[.string x] w fun e w' => e = .returned (.bool false) ∧ w = w' := by
    intro x w
    go_enter Try.func44, Try.ntmps44
    go_wp2_with fail
    go_ret
    exact ⟨by simp, rfl⟩
  have H := Lib.hid hn
  clear hn
  cases h : Op.bytesLess a.toList b.toList
  · cases h2 : (a.toList == b.toList)
    · have hba : Op.bytesLess b.toList a.toList = true := by
        cases e : Op.bytesLess b.toList a.toList
        · rw [less_eq _ _ h e] at h2
          simp at h2
        · rfl
      have HR : Hid (cmpS a b = 1) := by unfold cmpS ltS; rw [h, hba]; exact rfl
      clear hba
      go_enter Try.func26, Try.ntmps26
      go_wp2_with fail
      refine (H.out _ _).mono ?_
      rintro e w1 ⟨rfl, rfl⟩
      go_wp2_with fail
      refine (H.out _ _).mono ?_
      rintro e w1 ⟨rfl, rfl⟩
      go_wp2_with fail
      go_ret
      exact ⟨by rw [HR.out]; rfl, Below.refl _ _⟩
    · have hab : a.toList = b.toList := by simpa using h2
      have HR : Hid (cmpS a b = 0) := by
        unfold cmpS ltS
        rw [hab] at h ⊢
        rw [h]
        exact rfl
      clear hab
      go_enter Try.func26, Try.ntmps26
      go_wp2_with fail
      refine (H.out _ _).mono ?_
      rintro e w1 ⟨rfl, rfl⟩
      go_wp2_with fail
      refine (H.out _ _).mono ?_
      rintro e w1 ⟨rfl, rfl⟩
      go_wp2_with fail
      go_ret
      exact ⟨by rw [HR.out]; rfl, Below.refl _ _⟩
  · have HR : Hid (cmpS a b = -1) := by unfold cmpS ltS; rw [h]; exact rfl
    go_enter Try.func26, Try.ntmps26
    go_wp2_with fail
    refine (H.out _ _).mono ?_
    rintro e w1 ⟨rfl, rfl⟩
    go_wp2_with fail
    refine (H.out _ _).mono ?_
    rintro e w1 ⟨rfl, rfl⟩
    go_wp2_with fail
    go_ret
    exact ⟨by rw [HR.out]; rfl, Below.refl _ _⟩
end Go.Proofs.Ytldjffeecbegjaa.Str
