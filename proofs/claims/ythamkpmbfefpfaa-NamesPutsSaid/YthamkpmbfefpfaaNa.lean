/- Layer names: rows of names, their numbers, and what becomes of them name by name: plain facts. -/
import Derived.Test.YthamkpmbfefpfaaRows
import Derived.WalkKit
import Derived.WalkSpells
import Derived.WalkLawsBesides
import Derived.BigQuiet
import Derived.Deep.QuietTactic
import Derived.Lib.Hide
namespace Go.Proofs.Ythamkpmbfefpfaa
open Go.RowKit

/-- How texts are asked to be the same. -/
theorem str_eq (a b : ByteArray) : (a.toList == b.toList) = decide (a = b) := by
  rw [Bool.eq_iff_iff, beq_iff_eq, decide_eq_true_eq, ByteArray.toList_eq, ByteArray.toList_eq]
  exact ⟨fun h => ByteArray.ext (Array.ext' h), fun h => by rw [h]⟩
theorem str_yes {a b : ByteArray} (h : a = b) : (a.toList == b.toList) = true := by rw [str_eq, decide_eq_true h]
theorem str_no {a b : ByteArray} (h : a ≠ b) : (a.toList == b.toList) = false := by rw [str_eq, decide_eq_false h]
theorem str_list (l : Array UInt8) : (⟨l⟩ : ByteArray).toList = l.toList := ByteArray.toList_eq _

/-- The number of a name; of what is not there: how many there are. -/
def idxN : List ByteArray → ByteArray → Nat
  | [], _ => 0
  | x :: xs, s => if x = s then 0 else idxN xs s + 1
section
variable {ns ms : List ByteArray} {s t : ByteArray} {i k : Nat}
theorem idx_le : ∀ (ns : List ByteArray) (s : ByteArray), idxN ns s ≤ ns.length
  | [], _ => Nat.le_refl _
  | x :: xs, s => by
    unfold idxN
    split
    · exact Nat.zero_le _
    · exact Nat.succ_le_succ (idx_le xs s)
theorem idx_in : ∀ {ns : List ByteArray} {s : ByteArray}, s ∈ ns → ns[idxN ns s]? = some s
  | x :: xs, s, h => by
    unfold idxN
    split
    · rename_i e; subst e; rfl
    · rename_i e
      rcases List.mem_cons.1 h with rfl | h
      · exact absurd rfl e
      · simpa using idx_in h
theorem idx_lt (h : s ∈ ns) : idxN ns s < ns.length := (List.getElem?_eq_some_iff.1 (idx_in h)).1
theorem idx_out : ∀ {ns : List ByteArray} {s : ByteArray}, s ∉ ns → idxN ns s = ns.length
  | [], _, _ => rfl
  | x :: xs, s, h => by
    unfold idxN
    rw [if_neg (fun e => h (by simp [e])), idx_out (fun e => h (by simp [e]))]
    rfl
theorem idx_iff : idxN ns s = ns.length ↔ s ∉ ns := ⟨fun h hm => by have := idx_lt hm; omega, idx_out⟩
theorem idx_at : ∀ {ns : List ByteArray} {s : ByteArray} {i : Nat}, ns.Nodup → ns[i]? = some s → idxN ns s = i
  | x :: xs, s, 0, _, h => by
    simp at h
    unfold idxN
    rw [if_pos h]
  | x :: xs, s, i + 1, hn, h => by
    have h1 : xs[i]? = some s := by simpa using h
    have h2 := List.nodup_cons.1 hn
    unfold idxN
    rw [if_neg (fun e => h2.1 (by rw [e]; exact List.mem_of_getElem? h1)), idx_at h2.2 h1]
theorem idx_first : ∀ {ns : List ByteArray} {s : ByteArray} {i : Nat}, i < idxN ns s → ns[i]? ≠ some s
  | [], _, _, h => by unfold idxN at h; omega
  | x :: xs, s, i, h => by
    unfold idxN at h
    split at h
    · omega
    · rename_i e
      cases i with
      | zero => simpa using e
      | succ i => simpa using idx_first (ns := xs) (s := s) (i := i) (by omega)
theorem idx_of (h : ns[i]? = some s) (hf : ∀ j, j < i → ns[j]? ≠ some s) : idxN ns s = i := by
  have hm := List.mem_of_getElem? h
  have h1 := idx_in hm
  rcases Nat.lt_or_ge (idxN ns s) i with h2 | h2
  · exact absurd h1 (hf _ h2)
  · rcases Nat.lt_or_ge i (idxN ns s) with h3 | h3
    · exact absurd h (idx_first h3)
    · omega
theorem idx_more : ∀ {ns : List ByteArray} {s : ByteArray} (ms : List ByteArray), s ∈ ns → idxN (ns ++ ms) s = idxN ns s
  | x :: xs, s, ms, h => by
    rw [List.cons_append]
    unfold idxN
    split
    · rfl
    · rename_i e
      rcases List.mem_cons.1 h with rfl | h
      · exact absurd rfl e
      · rw [idx_more ms h]

instance decIn (s : ByteArray) (ns : List ByteArray) : Decidable (s ∈ ns) := decidable_of_iff (idxN ns s < ns.length) ⟨fun h => Classical.byContradiction fun hn => by rw [idx_out hn] at h; omega, idx_lt⟩
/-- A table with one name more, if it has it not yet. -/
def addN (ns : List ByteArray) (s : ByteArray) : List ByteArray := if s ∈ ns then ns else ns ++ [s]
theorem add_in (h : s ∈ ns) : addN ns s = ns := by unfold addN; rw [if_pos h]
theorem add_out (h : s ∉ ns) : addN ns s = ns ++ [s] := by unfold addN; rw [if_neg h]
theorem mem_add : t ∈ addN ns s ↔ t ∈ ns ∨ t = s := by
  unfold addN
  split
  · rename_i h
    exact ⟨.inl, fun h2 => h2.elim id fun e => e ▸ h⟩
  · simp
theorem add_nodup (h : ns.Nodup) : (addN ns s).Nodup := by
  by_cases hs : s ∈ ns
  · rw [add_in hs]; exact h
  · rw [add_out hs, List.nodup_append]
    exact ⟨h, by simp, fun a ha b hb e => hs (by simp at hb; rw [← hb, ← e]; exact ha)⟩
theorem add_at : (addN ns s)[idxN ns s]? = some s := by
  by_cases hs : s ∈ ns
  · rw [add_in hs, idx_in hs]
  · rw [add_out hs, idx_out hs]; simp
theorem add_len_le : (addN ns s).length ≤ ns.length + 1 := by
  unfold addN
  split
  · omega
  · simp
theorem add_len_ge : ns.length ≤ (addN ns s).length := by
  unfold addN
  split
  · omega
  · simp
theorem add_take : (addN ns s).take ns.length = ns := by
  unfold addN
  split
  · exact List.take_length
  · simp
end

section
variable (p : ByteArray → Bool) {ns l : List ByteArray} {s : ByteArray} {k : Nat}
/-- May these names be a table? -/
def goodB (ns : List ByteArray) : Bool := decide (ns.length ≤ 300 ∧ ns.Nodup ∧ ∀ s ∈ ns, p s = true)
def fineE (ns : List ByteArray) : Int := if goodB p ns = true then 0 else 201
def chkE (s : ByteArray) : Int := if p s = true then 0 else 200
variable {p}
theorem good_iff : goodB p ns = true ↔ ns.length ≤ 300 ∧ ns.Nodup ∧ ∀ s ∈ ns, p s = true := decide_eq_true_iff
theorem fine_ok (h : goodB p ns = true) : fineE p ns = 0 := by unfold fineE; rw [if_pos h]
theorem fine_no (h : goodB p ns = false) : fineE p ns = 201 := by unfold fineE; rw [h]; rfl
theorem chk_ok (h : p s = true) : chkE p s = 0 := by unfold chkE; rw [if_pos h]
theorem chk_no (h : p s = false) : chkE p s = 200 := by unfold chkE; rw [h]; rfl
/-- The first k names are a table, so far. -/
def GoodTo (p : ByteArray → Bool) (ns : List ByteArray) (k : Nat) : Prop := k ≤ 300 ∧ (ns.take k).Nodup ∧ ∀ s ∈ ns.take k, p s = true
theorem GoodTo.zero : GoodTo p ns 0 := ⟨by omega, by simp, fun s h => by simp at h⟩
theorem take_snoc (h : ns[k]? = some s) : ns.take (k + 1) = ns.take k ++ [s] := by rw [List.take_add_one, h]; rfl
theorem GoodTo.step (h : GoodTo p ns k) (hs : ns[k]? = some s) (hk : k ≠ 300) (hp : p s = true) (hn : s ∉ ns.take k) : GoodTo p ns (k + 1) := by
  have h0 := h.1
  refine ⟨by omega, ?_, fun t ht => ?_⟩
  · have := add_nodup (s := s) h.2.1
    rwa [add_out hn, ← take_snoc hs] at this
  · rw [take_snoc hs, List.mem_append] at ht
    rcases ht with ht | ht
    · exact h.2.2 t ht
    · simp at ht; rw [ht]; exact hp
theorem GoodTo.all (h : GoodTo p ns ns.length) : goodB p ns = true := good_iff.2 (by
  obtain ⟨h1, h2, h3⟩ := h
  rw [List.take_length] at h2 h3
  exact ⟨h1, h2, h3⟩)
theorem not_good_long (hs : ns[300]? = some s) : goodB p ns = false := Bool.eq_false_iff.2 fun h => by
  have := (good_iff.1 h).1
  have := (List.getElem?_eq_some_iff.1 hs).1
  omega
theorem not_good_name (hs : ns[k]? = some s) (hp : p s = false) : goodB p ns = false := Bool.eq_false_iff.2 fun h => by
  rw [(good_iff.1 h).2.2 s (List.mem_of_getElem? hs)] at hp
  cases hp
theorem not_good_twice (hs : ns[k]? = some s) (hn : s ∈ ns.take k) : goodB p ns = false := Bool.eq_false_iff.2 fun h => by
  obtain ⟨j, hj⟩ := List.mem_iff_getElem?.1 hn
  rw [List.getElem?_take] at hj
  split at hj
  · rename_i hjk
    have h1 := idx_at (good_iff.1 h).2.1 hs
    have h2 := idx_at (good_iff.1 h).2.1 hj
    omega
  · cases hj

/-- What is wrong with a name that is put, and with rows of them. -/
def putE (p : ByteArray → Bool) (ns : List ByteArray) (s : ByteArray) : Int := if p s = true then (if s ∈ ns then 0 else if ns.length = 300 then 6 else 0) else 200
theorem putE_name (h : p s = false) : putE p ns s = 200 := by unfold putE; rw [h]; rfl
theorem putE_in (h : p s = true) (hs : s ∈ ns) : putE p ns s = 0 := by unfold putE; rw [if_pos h, if_pos hs]
theorem putE_full (h : p s = true) (hs : s ∉ ns) (hl : ns.length = 300) : putE p ns s = 6 := by unfold putE; rw [if_pos h, if_neg hs, if_pos hl]
theorem putE_new (h : p s = true) (hs : s ∉ ns) (hl : ns.length ≠ 300) : putE p ns s = 0 := by unfold putE; rw [if_pos h, if_neg hs, if_neg hl]
theorem putE_cases (p : ByteArray → Bool) (ns : List ByteArray) (s : ByteArray) : putE p ns s = 0 ∨ putE p ns s = 200 ∨ putE p ns s = 6 := by
  unfold putE
  split
  · split
    · exact .inl rfl
    · split
      · exact .inr (.inr rfl)
      · exact .inl rfl
  · exact .inr (.inl rfl)
theorem putE_good (h : goodB p ns = true) (he : putE p ns s = 0) : goodB p (addN ns s) = true := by
  obtain ⟨h1, h2, h3⟩ := good_iff.1 h
  unfold putE at he
  split at he
  · rename_i hp
    split at he
    · rename_i hs
      rw [add_in hs]; exact h
    · rename_i hs
      split at he
      · cases he
      · rename_i hl
        refine good_iff.2 ⟨?_, add_nodup h2, fun t ht => ?_⟩
        · rw [add_out hs]; simp; omega
        · rcases mem_add.1 ht with ht | rfl
          · exact h3 t ht
          · exact hp
  · cases he
def allE (p : ByteArray → Bool) (ns : List ByteArray) : List ByteArray → Int
  | [] => 0
  | s :: l => if putE p ns s = 0 then allE p (addN ns s) l else putE p ns s
def addsN (ns : List ByteArray) (l : List ByteArray) : List ByteArray := l.foldl addN ns
def allN (ns : List ByteArray) : List ByteArray → List Int
  | [] => []
  | s :: l => (idxN ns s : Int) :: allN (addN ns s) l
theorem adds_snoc (ns l : List ByteArray) (s : ByteArray) : addsN ns (l ++ [s]) = addN (addsN ns l) s := by unfold addsN; rw [List.foldl_append]; rfl
theorem allN_len : ∀ (l ns : List ByteArray), (allN ns l).length = l.length
  | [], _ => rfl
  | s :: l, ns => by unfold allN; rw [List.length_cons, List.length_cons, allN_len l]
theorem allN_snoc : ∀ (l ns : List ByteArray) (s : ByteArray), allN ns (l ++ [s]) = allN ns l ++ [(idxN (addsN ns l) s : Int)]
  | [], ns, s => rfl
  | t :: l, ns, s => by
    rw [List.cons_append]
    show _ :: allN (addN ns t) (l ++ [s]) = _
    rw [allN_snoc l]
    rfl
/-- So far nothing is wrong: of a row the first k names. -/
def FineTo (p : ByteArray → Bool) (ns l : List ByteArray) (k : Nat) : Prop := allE p ns l = allE p (addsN ns (l.take k)) (l.drop k) ∧ goodB p (addsN ns (l.take k)) = true
theorem FineTo.zero (h : goodB p ns = true) : FineTo p ns l 0 := ⟨rfl, h⟩
theorem FineTo.err (h : FineTo p ns l k) (hs : l[k]? = some s) (he : putE p (addsN ns (l.take k)) s ≠ 0) : allE p ns l = putE p (addsN ns (l.take k)) s := by
  obtain ⟨hk, rfl⟩ := List.getElem?_eq_some_iff.1 hs
  rw [h.1, List.drop_eq_getElem_cons hk]
  unfold allE
  rw [if_neg he]
theorem FineTo.step (h : FineTo p ns l k) (hs : l[k]? = some s) (he : putE p (addsN ns (l.take k)) s = 0) : FineTo p ns l (k + 1) := by
  obtain ⟨hk, rfl⟩ := List.getElem?_eq_some_iff.1 hs
  have e : addsN ns (l.take (k + 1)) = addN (addsN ns (l.take k)) l[k] := by rw [take_snoc (List.getElem?_eq_getElem hk), adds_snoc]
  refine ⟨?_, by rw [e]; exact putE_good h.2 he⟩
  rw [h.1, List.drop_eq_getElem_cons hk, e]
  show (if _ then _ else _) = _
  rw [if_pos he]
theorem FineTo.end_ (h : FineTo p ns l l.length) : allE p ns l = 0 := by
  rw [h.1, List.drop_length]; rfl
theorem adds_len_le : ∀ (l ns : List ByteArray), (addsN ns l).length ≤ ns.length + l.length
  | [], ns => Nat.le_refl _
  | s :: l, ns => by
    have h1 := adds_len_le l (addN ns s)
    have h2 := add_len_le (ns := ns) (s := s)
    have : addsN ns (s :: l) = addsN (addN ns s) l := rfl
    rw [this, List.length_cons]
    omega

/-- A table's names, put one by one, are the table. -/
theorem all_self_go : ∀ (l ns : List ByteArray), goodB p (ns ++ l) = true → allE p ns l = 0 ∧ addsN ns l = ns ++ l ∧ allN ns l = (List.range' ns.length l.length).map fun (k : Nat) => (k : Int)
  | [], ns, _ => ⟨rfl, by simp [addsN], rfl⟩
  | s :: l, ns, h => by
    obtain ⟨h1, h2, h3⟩ := good_iff.1 h
    have hs : s ∉ ns := fun hm => by
      have := (List.nodup_append.1 h2).2.2 s hm s (by simp)
      exact this rfl
    have hps := h3 s (by simp)
    have hl : ns.length ≠ 300 := by simp at h1; omega
    have e : addN ns s = ns ++ [s] := add_out hs
    obtain ⟨i1, i2, i3⟩ := all_self_go l (ns ++ [s]) (by rw [List.append_assoc]; exact h)
    refine ⟨?_, ?_, ?_⟩
    · unfold allE
      rw [if_pos (putE_new hps hs hl), e]
      exact i1
    · show addsN (addN ns s) l = _
      rw [e, i2, List.append_assoc]; rfl
    · show _ :: allN (addN ns s) l = _
      rw [e, i3, idx_out hs]
      simp [List.range'_succ]
theorem all_self (h : goodB p ns = true) : allE p [] ns = 0 ∧ addsN [] ns = ns ∧ allN [] ns = (List.range ns.length).map fun (k : Nat) => (k : Int) := by
  obtain ⟨h1, h2, h3⟩ := all_self_go ns [] (by simpa using h)
  refine ⟨h1, by simpa using h2, ?_⟩
  rw [h3, List.range_eq_range']
  rfl

/-- How names move to another table. -/
def moveE (p : ByteArray → Bool) (a b : List ByteArray) : Int := if goodB p a = true ∧ goodB p b = true then (if ∀ s ∈ a, s ∈ b then 0 else 4) else 201
def numsN (a b : List ByteArray) : List Int := a.map fun s => (idxN b s : Int)
end
end Go.Proofs.Ythamkpmbfefpfaa
