/- Layer level: levels and guarantees as texts: plain facts; what the listed tables hold. -/
import Derived.Test.YtndekdkljimjaaaDoorRows
import Derived.WalkKit
import Derived.WalkSpells
import Derived.WalkLawsBesides
import Derived.BigQuiet
import Derived.Deep.QuietTactic
import Derived.Lib.Hide
import Derived.Lib.Join
namespace Go.Proofs.YtndekdkljimjaaaDoor
open Go.RowKit

/-- How texts are asked to be the same. -/
theorem str_eq (a b : ByteArray) : (a.toList == b.toList) = decide (a = b) := by
  rw [Bool.eq_iff_iff, beq_iff_eq, decide_eq_true_eq, ByteArray.toList_eq, ByteArray.toList_eq]
  exact ⟨fun h => ByteArray.ext (Array.ext' h), fun h => by rw [h]⟩
theorem str_yes {a b : ByteArray} (h : a = b) : (a.toList == b.toList) = true := by rw [str_eq, decide_eq_true h]
theorem str_no {a b : ByteArray} (h : a ≠ b) : (a.toList == b.toList) = false := by rw [str_eq, decide_eq_false h]
theorem str_list (l : Array UInt8) : (⟨l⟩ : ByteArray).toList = l.toList := ByteArray.toList_eq _
/-- The text of a level; of what is none nothing. -/
def lvT (l : Nat) : ByteArray := match l with
  | 1 => ⟨#[49]⟩
  | 2 => ⟨#[50]⟩
  | 3 => ⟨#[50, 46, 57, 57]⟩
  | 4 => ⟨#[51]⟩
  | _ => ⟨#[]⟩
theorem lvT_1 : lvT 1 = ⟨#[49]⟩ := rfl
theorem lvT_2 : lvT 2 = ⟨#[50]⟩ := rfl
theorem lvT_3 : lvT 3 = ⟨#[50, 46, 57, 57]⟩ := rfl
theorem lvT_4 : lvT 4 = ⟨#[51]⟩ := rfl
/-- Is it a level? -/
def levB (l : Int) : Bool := decide (1 ≤ l ∧ l ≤ 4)
theorem levB_iff {l : Int} : levB l = true ↔ 1 ≤ l ∧ l ≤ 4 := by unfold levB; simp
/-- What is wrong with it. -/
def levE (l : Int) : Int := if levB l then 0 else 190
theorem levE_ok {l : Int} (h : levB l = true) : levE l = 0 := by unfold levE; rw [h]; rfl
theorem levE_no {l : Int} (h : levB l = false) : levE l = 190 := by unfold levE; rw [h]; rfl
/-- The text of a level. -/
def levT (l : Int) : ByteArray := if levB l then lvT l.toNat else ⟨#[]⟩
theorem levT_ok {l : Int} (h : levB l = true) : levT l = lvT l.toNat := by unfold levT; rw [h]; rfl
theorem levT_no {l : Int} (h : levB l = false) : levT l = ⟨#[]⟩ := by unfold levT; rw [h]; rfl
/-- The level of a text. -/
def readI (s : ByteArray) : Nat := if lvT 1 = s then 1 else if lvT 2 = s then 2 else if lvT 3 = s then 3 else if lvT 4 = s then 4 else 0
theorem readI_le (s : ByteArray) : readI s ≤ 4 := by unfold readI; (repeat' split) <;> omega
theorem readI_at {k : Nat} {s : ByteArray} (h : 1 ≤ k ∧ k ≤ 4) (hs : lvT k = s) : readI s = k := by
  subst hs
  have : k = 1 ∨ k = 2 ∨ k = 3 ∨ k = 4 := by omega
  rcases this with rfl | rfl | rfl | rfl <;> decide
theorem readI_no {s : ByteArray} (h : ∀ k, 1 ≤ k → k ≤ 4 → lvT k ≠ s) : readI s = 0 := by
  unfold readI
  rw [if_neg (h 1 (by omega) (by omega)), if_neg (h 2 (by omega) (by omega)), if_neg (h 3 (by omega) (by omega)), if_neg (h 4 (by omega) (by omega))]
theorem readI_is {s : ByteArray} (h : readI s ≠ 0) : lvT (readI s) = s := by
  by_cases h1 : lvT 1 = s
  · rw [readI_at ⟨by omega, by omega⟩ h1]; exact h1
  · by_cases h2 : lvT 2 = s
    · rw [readI_at ⟨by omega, by omega⟩ h2]; exact h2
    · by_cases h3 : lvT 3 = s
      · rw [readI_at ⟨by omega, by omega⟩ h3]; exact h3
      · by_cases h4 : lvT 4 = s
        · rw [readI_at ⟨by omega, by omega⟩ h4]; exact h4
        · refine absurd (readI_no fun k hk1 hk4 => ?_) h
          have : k = 1 ∨ k = 2 ∨ k = 3 ∨ k = 4 := by omega
          rcases this with rfl | rfl | rfl | rfl <;> assumption
def readE (s : ByteArray) : Int := if readI s = 0 then 190 else 0

/-- The guarantees' words. -/
def guW : List ByteArray := [⟨#[114, 121, 119]⟩, ⟨#[109, 114]⟩, ⟨#[109, 119]⟩, ⟨#[119, 102, 114]⟩]
def guAt (k : Nat) : ByteArray := guW.getD k ⟨#[]⟩
/-- Those of the first k that are in g. -/
def guSel (g : Nat) : Nat → List ByteArray
  | 0 => []
  | k + 1 => if g / 2 ^ k % 2 = 1 then guSel g k ++ [guAt k] else guSel g k
/-- Their text. -/
def guJoin (xs : List ByteArray) : ByteArray := ⟨(Lib.join (xs.map (·.data.toList)) [32]).toArray⟩
def guPre (g k : Nat) : ByteArray := guJoin (guSel g k)
def guT (g : Nat) : ByteArray := guPre g 4
def guB (g : Int) : Bool := decide (0 ≤ g ∧ g ≤ 15)
theorem guB_iff {l : Int} : guB l = true ↔ 0 ≤ l ∧ l ≤ 15 := by unfold guB; simp
def wordsT (g : Int) : ByteArray := if guB g then guT g.toNat else ⟨#[]⟩
def wordsE (g : Int) : Int := if guB g then 0 else 190
theorem wordsT_ok {l : Int} (h : guB l = true) : wordsT l = guT l.toNat := by unfold wordsT; rw [h]; rfl
theorem wordsT_no {l : Int} (h : guB l = false) : wordsT l = ⟨#[]⟩ := by unfold wordsT; rw [h]; rfl
theorem wordsE_ok {l : Int} (h : guB l = true) : wordsE l = 0 := by unfold wordsE; rw [h]; rfl
theorem wordsE_no {l : Int} (h : guB l = false) : wordsE l = 190 := by unfold wordsE; rw [h]; rfl
theorem guSel_on {g k : Nat} (h : g / 2 ^ k % 2 = 1) : guSel g (k + 1) = guSel g k ++ [guAt k] := by show (if _ then _ else _) = _; rw [if_pos h]
theorem guSel_off {g k : Nat} (h : ¬ g / 2 ^ k % 2 = 1) : guSel g (k + 1) = guSel g k := by show (if _ then _ else _) = _; rw [if_neg h]
theorem guSel_len (g k : Nat) : (guSel g k).length ≤ k := by
  induction k with
  | zero => exact Nat.le_refl _
  | succ k ih =>
    unfold guSel
    split
    · rw [List.length_append]; exact Nat.succ_le_succ ih
    · omega
/-- How the text goes on. -/
theorem guPre_on : ∀ g, g < 16 → ∀ k, k < 4 → g / 2 ^ k % 2 = 1 → guPre g (k + 1) = if guPre g k = ⟨#[]⟩ then guAt k else guPre g k ++ ⟨#[32]⟩ ++ guAt k := by decide +kernel
theorem guPre_off {g k : Nat} (h : ¬ g / 2 ^ k % 2 = 1) : guPre g (k + 1) = guPre g k := by unfold guPre; rw [guSel_off h]
theorem guT_size : ∀ g, g < 16 → (Lib.join ((guSel g 4).map (·.data.toList)) [32]).length ≤ 20 := by decide +kernel
theorem guPre_size : ∀ g, g < 16 → ∀ k, k < 4 → (guPre g k).size ≤ 20 := by decide +kernel
theorem guT_inj : ∀ g, g < 16 → ∀ h, h < 16 → guT g = guT h → g = h := by decide +kernel
/-- The guarantees of a text. -/
def guarO (s : ByteArray) : Option Nat := (List.range 16).find? fun g => decide (guT g = s)
theorem guarO_at {g : Nat} {s : ByteArray} (hg : g < 16) (h : guT g = s) : guarO s = some g := by
  unfold guarO
  rw [List.find?_eq_some_iff_append]
  refine ⟨by simp [h], List.range g, (List.range (16 - g - 1)).map (· + g + 1), ?_, fun k hk => ?_⟩
  · have : ∀ g, g < 16 → List.range 16 = List.range g ++ g :: (List.range (16 - g - 1)).map (· + g + 1) := by decide
    exact this g hg
  · have hk : k < g := by simpa using hk
    simp only [Bool.not_eq_true', decide_eq_false_iff_not]
    intro h2
    have := guT_inj k (by omega) g hg (h2.trans h.symm)
    omega
theorem guarO_no {s : ByteArray} (h : ∀ g, g < 16 → guT g ≠ s) : guarO s = none := by
  unfold guarO
  rw [List.find?_eq_none]
  intro g hg
  simpa using h g (by simpa using hg)
theorem guarO_is {g : Nat} {s : ByteArray} (h : guarO s = some g) : g < 16 ∧ guT g = s := by
  unfold guarO at h
  have h1 := List.mem_of_find?_eq_some h
  have h2 := List.find?_some h
  exact ⟨by simpa using h1, by simpa using h2⟩
def guarI (s : ByteArray) : Int := match guarO s with | some g => (g : Int) | none => 0
def guarE (s : ByteArray) : Int := match guarO s with | some _ => 0 | none => 190
def guarR (s : ByteArray) : Int := match guarO s with | some g => (g : Int) | none => -1

/-- What the listed tables hold. -/
structure Tabs (W : World) : Prop where
  t0 : W.cell? ⟨0, 0, none⟩ = some (.string ⟨#[49]⟩)
  t1 : W.cell? ⟨0, 1, none⟩ = some (.string ⟨#[50]⟩)
  t2 : W.cell? ⟨0, 2, none⟩ = some (.string ⟨#[50, 46, 57, 57]⟩)
  t3 : W.cell? ⟨0, 3, none⟩ = some (.string ⟨#[51]⟩)
  u : ∀ k, k < 4 → W.cell? ⟨1, k, none⟩ = some (.string (guAt k))
  lt : 0 < W.heap.size ∧ 1 < W.heap.size
theorem Tabs.on {W W' : World} {B : Nat} (h : Tabs W) (hb : Below B W W') (hB : W.heap.size ≤ B) : Tabs W' :=
  ⟨(hb.cell (p := ⟨_, 0, none⟩) (Nat.lt_of_lt_of_le h.lt.1 hB)).trans h.t0, (hb.cell (p := ⟨_, 1, none⟩) (Nat.lt_of_lt_of_le h.lt.1 hB)).trans h.t1,
   (hb.cell (p := ⟨_, 2, none⟩) (Nat.lt_of_lt_of_le h.lt.1 hB)).trans h.t2, (hb.cell (p := ⟨_, 3, none⟩) (Nat.lt_of_lt_of_le h.lt.1 hB)).trans h.t3,
   fun k hk => (hb.cell (p := ⟨_, k, none⟩) (Nat.lt_of_lt_of_le h.lt.2 hB)).trans (h.u k hk),
   Nat.lt_of_lt_of_le h.lt.1 hb.size, Nat.lt_of_lt_of_le h.lt.2 hb.size⟩
end Go.Proofs.YtndekdkljimjaaaDoor
