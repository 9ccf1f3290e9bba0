/- Layer lex: plain facts on texts as rows of runes; no program. -/
import Derived.Lib.Strings
import Derived.Laws.RangeAny
import Derived.Test.YthamkpmbfefpfaaDs
namespace Go.Proofs.Ythamkpmbfefpfaa

/-- The byte at a place, 0 behind the end. -/
def bt (l : List UInt8) (k : Nat) : Nat := (l.getD k 0).toNat
def ct (l : List UInt8) (k : Nat) : Bool := decide (k < l.length) && bt l k / 64 == 2
/-- The first rune of a row of bytes, and how many bytes it has. -/
def decL (l : List UInt8) : Nat × Nat :=
  if bt l 0 < 0x80 then (bt l 0, 1)
  else if bt l 0 / 32 == 6 && ct l 1 then
    if (bt l 0 % 32) * 64 + bt l 1 % 64 ≥ 0x80 then ((bt l 0 % 32) * 64 + bt l 1 % 64, 2) else (65533, 1)
  else if bt l 0 / 16 == 14 && ct l 1 && ct l 2 then
    if (bt l 0 % 16) * 4096 + (bt l 1 % 64) * 64 + bt l 2 % 64 ≥ 0x800 && Utf8.valid ((bt l 0 % 16) * 4096 + (bt l 1 % 64) * 64 + bt l 2 % 64 : Nat) then ((bt l 0 % 16) * 4096 + (bt l 1 % 64) * 64 + bt l 2 % 64, 3) else (65533, 1)
  else if bt l 0 / 8 == 30 && ct l 1 && ct l 2 && ct l 3 then
    if (bt l 0 % 8) * 262144 + (bt l 1 % 64) * 4096 + (bt l 2 % 64) * 64 + bt l 3 % 64 ≥ 0x10000 && Utf8.valid ((bt l 0 % 8) * 262144 + (bt l 1 % 64) * 4096 + (bt l 2 % 64) * 64 + bt l 3 % 64 : Nat) then ((bt l 0 % 8) * 262144 + (bt l 1 % 64) * 4096 + (bt l 2 % 64) * 64 + bt l 3 % 64, 4) else (65533, 1)
  else (65533, 1)

theorem get_drop (s : ByteArray) (p k : Nat) : (s.get! (p + k)).toNat = bt (s.data.toList.drop p) k := by
  unfold bt
  show (s.data[p + k]!).toNat = _
  rw [Array.getElem!_eq_getD, Array.getD_eq_getD_getElem?, List.getD_eq_getElem?_getD, List.getElem?_drop, Array.getElem?_toList]
  rfl
theorem cont_drop (s : ByteArray) (p k : Nat) : (decide (p + k < s.size) && (s.get! (p + k)).toNat / 64 == 2) = ct (s.data.toList.drop p) k := by
  unfold ct
  rw [get_drop, List.length_drop, ← Lib.size_eq]
  congr 1
  rw [decide_eq_decide]
  omega
theorem decode_drop (s : ByteArray) (p : Nat) : Utf8.decode s p = decL (s.data.toList.drop p) := by
  unfold Utf8.decode decL
  simp only [cont_drop]
  simp only [get_drop, Utf8.runeError]

theorem bt_lt (l : List UInt8) (k : Nat) : bt l k < 256 := (l.getD k 0).toNat_lt

theorem decL_width (l : List UInt8) : 1 ≤ (decL l).2 ∧ (decL l).2 ≤ 4 := by
  unfold decL
  repeat' split
  all_goals simp
theorem ct_len {l : List UInt8} {k : Nat} (h : ct l k = true) : k < l.length := by
  unfold ct at h
  simp at h
  exact h.1
theorem decL_le {l : List UInt8} (h : l ≠ []) : (decL l).2 ≤ l.length := by
  have h0 : 1 ≤ l.length := by cases l with | nil => exact absurd rfl h | cons => simp
  have h1 : ct l 1 = true → 2 ≤ l.length := fun e => ct_len e
  have h2 : ct l 2 = true → 3 ≤ l.length := fun e => ct_len e
  have h3 : ct l 3 = true → 4 ≤ l.length := fun e => ct_len e
  unfold decL
  repeat' split
  all_goals simp only
  all_goals first | exact h0 | skip
  all_goals simp only [Bool.and_eq_true] at *
  · exact h1 (by simp_all)
  · exact h2 (by simp_all)
  · exact h3 (by simp_all)
/-- Does a byte that is no rune's stand first? -/
def bad (l : List UInt8) : Bool := decL l == (65533, 1)
theorem bt_append {l : List UInt8} (m : List UInt8) {k : Nat} (h : k < l.length) : bt (l ++ m) k = bt l k := by
  unfold bt
  rw [List.getD_eq_getElem?_getD, List.getD_eq_getElem?_getD, List.getElem?_append_left h]
theorem ct_append {l : List UInt8} (m : List UInt8) {k : Nat} (h : k < l.length) : ct (l ++ m) k = ct l k := by
  unfold ct
  rw [bt_append m h, List.length_append, decide_eq_true h, decide_eq_true (by omega : k < l.length + m.length)]
/-- What is ahead of an ASCII byte is read as if it were the end. -/
theorem ct_ascii {l : List UInt8} {c : UInt8} (m : List UInt8) (hc : c.toNat < 128) (k : Nat) : ct (l ++ c :: m) k = true → k ≠ l.length := by
  intro h e
  subst e
  unfold ct bt at h
  simp at h
  omega
theorem decL_ascii {l : List UInt8} {c : UInt8} (m : List UInt8) (h : l ≠ []) (hc : c.toNat < 128) : decL (l ++ c :: m) = decL l := by
  have no : ∀ k, l.length = k → ct (l ++ c :: m) k = false := fun k e => by
    cases h' : ct (l ++ c :: m) k
    · rfl
    · exact absurd e.symm (ct_ascii m hc k h')
  have no' : ∀ k, l.length ≤ k → ct l k = false := fun k e => by
    unfold ct; rw [decide_eq_false (by omega)]; rfl
  match l, h with
  | [a], _ =>
    have e0 : bt ([a] ++ c :: m) 0 = bt [a] 0 := bt_append _ (by simp)
    unfold decL
    rw [e0, no 1 rfl, no' 1 (by simp)]
    simp
  | [a, b], _ =>
    have e0 : bt ([a, b] ++ c :: m) 0 = bt [a, b] 0 := bt_append _ (by simp)
    have e1 : bt ([a, b] ++ c :: m) 1 = bt [a, b] 1 := bt_append _ (by simp)
    have f1 : ct ([a, b] ++ c :: m) 1 = ct [a, b] 1 := ct_append _ (by simp)
    unfold decL
    rw [e0, e1, f1, no 2 rfl, no' 2 (by simp)]
    simp
  | [a, b, d], _ =>
    have e0 : bt ([a, b, d] ++ c :: m) 0 = bt [a, b, d] 0 := bt_append _ (by simp)
    have e1 : bt ([a, b, d] ++ c :: m) 1 = bt [a, b, d] 1 := bt_append _ (by simp)
    have e2 : bt ([a, b, d] ++ c :: m) 2 = bt [a, b, d] 2 := bt_append _ (by simp)
    have f1 : ct ([a, b, d] ++ c :: m) 1 = ct [a, b, d] 1 := ct_append _ (by simp)
    have f2 : ct ([a, b, d] ++ c :: m) 2 = ct [a, b, d] 2 := ct_append _ (by simp)
    unfold decL
    rw [e0, e1, e2, f1, f2, no 3 rfl, no' 3 (by simp)]
    simp
  | a :: b :: d :: e :: t, _ =>
    unfold decL
    rw [bt_append (k := 0) _ (by simp), bt_append (k := 1) _ (by simp), bt_append (k := 2) _ (by simp), bt_append (k := 3) _ (by simp), ct_append (k := 1) _ (by simp), ct_append (k := 2) _ (by simp), ct_append (k := 3) _ (by simp)]
/-- A rune that is one is read so whatever stands behind it. -/
theorem ct_more {l : List UInt8} (m : List UInt8) {k : Nat} (h : ct l k = true) : ct (l ++ m) k = true := by
  rw [ct_append m (ct_len h)]; exact h
theorem decL_more {l : List UInt8} (m : List UInt8) (h : l ≠ []) (hb : bad l = false) : decL (l ++ m) = decL l := by
  have h0 : 0 < l.length := by cases l with | nil => exact absurd rfl h | cons => simp
  have hb' : decL l ≠ (65533, 1) := by unfold bad at hb; simpa using hb
  have e0 := bt_append m h0
  unfold decL at hb' ⊢
  rw [e0]
  by_cases g0 : bt l 0 < 0x80
  · rw [if_pos g0, if_pos g0]
  rw [if_neg g0] at hb' ⊢
  rw [if_neg g0]
  by_cases g1 : (bt l 0 / 32 == 6 && ct l 1) = true
  · have k1 : ct l 1 = true := by simp at g1; exact g1.2
    have a1 : (bt l 0 / 32 == 6 && ct (l ++ m) 1) = true := by rw [ct_more m k1]; simp at g1 ⊢; exact g1.1
    rw [if_pos g1, if_pos a1, bt_append m (ct_len k1)]
  rw [if_neg g1] at hb' ⊢
  by_cases g2 : (bt l 0 / 16 == 14 && ct l 1 && ct l 2) = true
  · have k1 : ct l 1 = true := by simp at g2; exact g2.1.2
    have k2 : ct l 2 = true := by simp at g2; exact g2.2
    have a2 : (bt l 0 / 16 == 14 && ct (l ++ m) 1 && ct (l ++ m) 2) = true := by rw [ct_more m k1, ct_more m k2]; simp at g2 ⊢; exact g2.1.1
    have a1 : ¬ (bt l 0 / 32 == 6 && ct (l ++ m) 1) = true := by rw [ct_more m k1]; simp at g2 ⊢; omega
    rw [if_pos g2, if_neg a1, if_pos a2, bt_append m (ct_len k1), bt_append m (ct_len k2)]
  rw [if_neg g2] at hb' ⊢
  by_cases g3 : (bt l 0 / 8 == 30 && ct l 1 && ct l 2 && ct l 3) = true
  · have k1 : ct l 1 = true := by simp at g3; exact g3.1.1.2
    have k2 : ct l 2 = true := by simp at g3; exact g3.1.2
    have k3 : ct l 3 = true := by simp at g3; exact g3.2
    have a3 : (bt l 0 / 8 == 30 && ct (l ++ m) 1 && ct (l ++ m) 2 && ct (l ++ m) 3) = true := by rw [ct_more m k1, ct_more m k2, ct_more m k3]; simp at g3 ⊢; exact g3.1.1.1
    have a1 : ¬ (bt l 0 / 32 == 6 && ct (l ++ m) 1) = true := by rw [ct_more m k1]; simp at g3 ⊢; omega
    have a2 : ¬ (bt l 0 / 16 == 14 && ct (l ++ m) 1 && ct (l ++ m) 2) = true := by rw [ct_more m k1, ct_more m k2]; simp at g3 ⊢; omega
    rw [if_pos g3, if_neg a1, if_neg a2, if_pos a3, bt_append m (ct_len k1), bt_append m (ct_len k2), bt_append m (ct_len k3)]
  rw [if_neg g3] at hb'
  exact absurd rfl hb'
theorem decL_high {l : List UInt8} (h : 128 ≤ bt l 0) : 128 ≤ (decL l).1 := by
  unfold decL
  repeat' split
  all_goals simp only [Bool.and_eq_true, decide_eq_true_eq, ge_iff_le] at *
  all_goals omega
theorem decL_low {l : List UInt8} (h : bt l 0 < 128) : decL l = (bt l 0, 1) := by
  unfold decL
  rw [if_pos h]

/-- The first of a text: its rune, -1 if that is a wrong byte. -/
def clsL (l : List UInt8) : Int := if bad l = true then -1 else (decL l).1
/-- A text as a row of runes, each with its bytes; a wrong byte's rune is -1. -/
abbrev It := Int × List UInt8
def items (l : List UInt8) : List It :=
  if _h : l = [] then [] else (clsL l, l.take (decL l).2) :: items (l.drop (decL l).2)
termination_by l.length
decreasing_by
  have := decL_width l
  have : 0 < l.length := by cases l with | nil => exact absurd rfl _h | cons => simp
  rw [List.length_drop]
  omega
theorem items_nil : items [] = [] := by rw [items]; rfl
theorem items_cons {l : List UInt8} (h : l ≠ []) : items l = (clsL l, l.take (decL l).2) :: items (l.drop (decL l).2) := by
  rw [items, dif_neg h]
def bytesI (I : List It) : List UInt8 := I.flatMap (·.2)
theorem bytesI_nil : bytesI [] = [] := rfl
theorem bytesI_cons (x : It) (I : List It) : bytesI (x :: I) = x.2 ++ bytesI I := by simp [bytesI]
theorem bytesI_append (I J : List It) : bytesI (I ++ J) = bytesI I ++ bytesI J := by simp [bytesI]
theorem drop_less {l : List UInt8} (h : l ≠ []) : (l.drop (decL l).2).length < l.length := by
  have := decL_width l
  have : 0 < l.length := by cases l with | nil => exact absurd rfl h | cons => simp
  rw [List.length_drop]
  omega
theorem items_ind {P : List UInt8 → Prop} (h0 : P []) (h1 : ∀ l, l ≠ [] → P (l.drop (decL l).2) → P l) (l : List UInt8) : P l := by
  have key : ∀ n (l : List UInt8), l.length < n → P l := by
    intro n
    induction n with
    | zero => intro l h; omega
    | succ n ih =>
      intro l hl
      by_cases h : l = []
      · subst h; exact h0
      · exact h1 l h (ih _ (by have := drop_less h; omega))
  exact key _ l (Nat.lt_succ_self _)
theorem items_bytes (l : List UInt8) : bytesI (items l) = l := by
  refine items_ind (P := fun l => bytesI (items l) = l) ?_ ?_ l
  · rw [items_nil]; rfl
  · intro l h ih
    rw [items_cons h, bytesI_cons, ih]
    exact List.take_append_drop _ _
theorem items_ascii {c : UInt8} (hc : c.toNat < 128) (m l : List UInt8) : items (l ++ c :: m) = items l ++ items (c :: m) := by
  refine items_ind (P := fun l => items (l ++ c :: m) = items l ++ items (c :: m)) ?_ ?_ l
  · rw [items_nil]; rfl
  · intro l h ih
    have hle := decL_le h
    have hd := decL_ascii m h hc
    rw [items_cons h, items_cons (l := l ++ c :: m) (by simp), List.cons_append]
    unfold clsL bad
    rw [hd, List.take_append_of_le_length hle, List.drop_append_of_le_length hle, ih]
/-- No wrong byte is in a row. -/
def sound (I : List It) : Bool := I.all fun x => decide (x.1 ≠ -1)
theorem sound_cons (x : It) (I : List It) : sound (x :: I) = (decide (x.1 ≠ -1) && sound I) := rfl
theorem clsL_bad {l : List UInt8} (h : clsL l ≠ -1) : bad l = false := by
  unfold clsL at h
  cases hb : bad l
  · rfl
  · rw [hb] at h; simp at h
theorem items_more (m l : List UInt8) : sound (items l) = true → items (l ++ m) = items l ++ items m := by
  refine items_ind (P := fun l => sound (items l) = true → items (l ++ m) = items l ++ items m) ?_ ?_ l
  · rw [items_nil]; intro _; rfl
  · intro l h ih hs
    rw [items_cons h, sound_cons] at hs
    simp at hs
    have hle := decL_le h
    have hd := decL_more m h (clsL_bad hs.1)
    rw [items_cons h, items_cons (l := l ++ m) (by simp [h]), List.cons_append]
    unfold clsL bad
    rw [hd, List.take_append_of_le_length hle, List.drop_append_of_le_length hle, ih hs.2]
/-- A low byte is a rune by itself. -/
theorem items_low {c : UInt8} (hc : c.toNat < 128) (m : List UInt8) : items (c :: m) = ((c.toNat : Int), [c]) :: items m := by
  have hb : bt (c :: m) 0 = c.toNat := rfl
  have hd : decL (c :: m) = (c.toNat, 1) := by rw [decL_low (by omega)]; rfl
  rw [items_cons (by simp)]
  have hbad : bad (c :: m) = false := by unfold bad; rw [hd]; simp; omega
  unfold clsL
  rw [hbad, hd]
  rfl
theorem items_drop {l : List UInt8} {A B : List It} (h : items l = A ++ B) : items (l.drop (bytesI A).length) = B := by
  induction A generalizing l with
  | nil => simpa [bytesI] using h
  | cons x A ih =>
    have hl : l ≠ [] := by intro e; subst e; rw [items_nil] at h; cases h
    have hle := decL_le hl
    rw [items_cons hl, List.cons_append] at h
    injection h with h1 h2
    subst h1
    rw [bytesI_cons, List.length_append, ← List.drop_drop]
    have : (l.take (decL l).2).length = (decL l).2 := by rw [List.length_take]; omega
    rw [this]
    exact ih h2
/-- What each one of a row is. -/
def wf1 (x : It) : Prop := 1 ≤ x.2.length ∧ (x.1 < 128 ∧ x.1 ≠ -1 → 0 ≤ x.1 ∧ ∃ c : UInt8, x.2 = [c] ∧ x.1 = (c.toNat : Int))
theorem items_wf (l : List UInt8) : ∀ x ∈ items l, wf1 x := by
  refine items_ind (P := fun l => ∀ x ∈ items l, wf1 x) ?_ ?_ l
  · rw [items_nil]; intro x hx; cases hx
  · intro l h ih x hx
    rw [items_cons h] at hx
    rcases List.mem_cons.1 hx with rfl | hx
    · have hle := decL_le h
      have hw := decL_width l
      refine ⟨by simp only [List.length_take]; omega, fun hx => ?_⟩
      have hb := clsL_bad hx.2
      have hc : clsL l = (decL l).1 := by unfold clsL; rw [hb]; rfl
      rcases Nat.lt_or_ge (bt l 0) 128 with h1 | h1
      · have hd := decL_low h1
        cases l with
        | nil => exact absurd rfl h
        | cons c l =>
          rw [hd] at hc
          simp only [hd, hc]
          exact ⟨by omega, c, rfl, rfl⟩
      · have := decL_high h1
        simp only [hc] at hx
        omega
    · exact ih x hx
end Go.Proofs.Ythamkpmbfefpfaa
