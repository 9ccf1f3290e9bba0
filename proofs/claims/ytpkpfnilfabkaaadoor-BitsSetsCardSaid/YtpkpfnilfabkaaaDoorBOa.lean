/- Layer bits: facts for BitsOnes, BitsSets: the first number from one on; lists that make the same set; words that are gone through and raised. -/
import Derived.Test.YtpkpfnilfabkaaaDoorBRh
import Derived.Test.YtpkpfnilfabkaaaDoorBw
import Derived.Test.YtpkpfnilfabkaaaDoorBt
namespace Go.Proofs.YtpkpfnilfabkaaaDoor
open Go.RowKit

/-- What the law's loop has found after so many numbers. -/
def FirstIs (l : List Nat) (z : Int) (j q : Nat) (th : Bool) : Prop := q = firstN ((l.take j).filter fun x : Nat => decide (z ≤ (x : Int))) ∧ th = someN ((l.take j).filter fun x : Nat => decide (z ≤ (x : Int)))
theorem first_start (l : List Nat) (z : Int) : FirstIs l z 0 0 false := ⟨rfl, rfl⟩
theorem first_less {l : List Nat} {z : Int} {j q x : Nat} {th : Bool} (h : FirstIs l z j q th) (hj : j < l.length) (hx : l.getD j 0 = x) (hz : ¬ z ≤ (x : Int)) : FirstIs l z (j + 1) q th := by
  unfold FirstIs
  rw [take_snoc' (d := 0) hj, hx, List.filter_append, show ([x].filter fun x : Nat => decide (z ≤ (x : Int))) = [] by simp; omega, List.append_nil]
  exact h
theorem first_more {l : List Nat} {z : Int} {j q x : Nat} {th : Bool} (h : FirstIs l z j q th) (hj : j < l.length) (hx : l.getD j 0 = x) (hz : z ≤ (x : Int)) : (th = true → FirstIs l z (j + 1) q true) ∧ (th = false → FirstIs l z (j + 1) x true) := by
  unfold FirstIs
  rw [take_snoc' (d := 0) hj, hx, List.filter_append, show ([x].filter fun x : Nat => decide (z ≤ (x : Int))) = [x] by simp [hz]]
  obtain ⟨h1, h2⟩ := h
  generalize ((l.take j).filter fun x : Nat => decide (z ≤ (x : Int))) = F at *
  cases F with
  | nil => exact ⟨fun e => by rw [e] at h2; exact Bool.noConfusion h2, fun _ => ⟨rfl, rfl⟩⟩
  | cons y F => exact ⟨fun _ => ⟨h1, rfl⟩, fun e => by rw [e] at h2; exact Bool.noConfusion h2⟩
theorem first_end {l : List Nat} {z : Int} {f q : Nat} {th : Bool} (hf : max z 0 = (f : Int)) (h : FirstIs l z l.length q th) : firstN (l.filter fun n => decide (f ≤ n)) = q ∧ someN (l.filter fun n => decide (f ≤ n)) = th := by
  have e : (l.filter fun n => decide (f ≤ n)) = l.filter fun x : Nat => decide (z ≤ (x : Int)) := by
    congr 1
    funext n
    exact decide_eq_decide.2 (by omega)
  rw [e]
  unfold FirstIs at h
  rw [List.take_of_length_le (Nat.le_refl _)] at h
  exact ⟨h.1.symm, h.2.symm⟩
theorem may_snoc {l : List Int} {z : Int} (hl : mayL l) (hz : mayB z = true) : mayL (l ++ [z]) := fun y hy => by
  rcases List.mem_append.1 hy with hy | hy
  · exact hl y hy
  · simp at hy; subst hy; exact hz
theorem of_with (s : SV) (m : Nat) : setW (ofF (laS s ++ [(m : Int)])) = setW fun n => inW s.ws n || decide (n = m) := set_congr fun n hn => by
  have e1 := ofF_intsN (numsF (inW s.ws)) n
  have m1 := @mem_nums (inW s.ws) n
  unfold ofF at e1 ⊢
  unfold laS
  rw [Bool.eq_iff_iff, decide_eq_true_iff]
  have := decide_eq_decide.1 e1
  simp only [List.mem_append, List.mem_singleton, Bool.or_eq_true, decide_eq_true_eq]
  rw [this, m1]
  constructor
  · rintro (h | h)
    · exact .inl h.2
    · exact .inr (by omega)
  · rintro (h | h)
    · exact .inl ⟨hn, h⟩
    · exact .inr (by omega)
/-- A list of some of a set's numbers. -/
def someL (s : SV) (lb : List Int) (t : Bool) : List Nat := (numsF (inW s.ws)).filter fun x : Nat => decide ((x : Int) ∈ lb) == t
theorem some_len (s : SV) (lb : List Int) (t : Bool) : (someL s lb t).length ≤ 10048 := Nat.le_trans (List.length_filter_le _ _) (nums_len _)
theorem may_some (s : SV) (lb : List Int) (t : Bool) : mayL (intsN (someL s lb t)) := may_intsN fun _ hn => in_lt (mem_nums.1 (List.mem_filter.1 hn).1).2
theorem of_some (s : SV) (lb : List Int) (t : Bool) (g : Nat → Bool) (hg : ∀ n, n < 10048 → g n = (inW s.ws n && (decide ((n : Int) ∈ lb) == t))) : setW (ofF (intsN (someL s lb t))) = setW g := set_congr fun n hn => by
  rw [ofF_intsN, hg n hn, Bool.eq_iff_iff, decide_eq_true_iff]
  unfold someL
  rw [List.mem_filter, mem_nums, Bool.and_eq_true]
  exact ⟨fun h => ⟨h.1.2, h.2⟩, fun h => ⟨⟨hn, h.1⟩, h.2⟩⟩
theorem has_la (s : SV) (z : Int) : decide (z ∈ laS s) = hasZ s.ws z := by
  unfold hasZ laS
  rw [Bool.eq_iff_iff, decide_eq_true_iff, Bool.and_eq_true]
  constructor
  · intro h
    unfold intsN at h
    obtain ⟨n, hn, rfl⟩ := List.mem_map.1 h
    have h1 := (mem_nums.1 hn).2
    have h2 := in_lt h1
    exact ⟨by unfold mayB; simp; omega, by simpa using h1⟩
  · rintro ⟨h1, h2⟩
    obtain ⟨m, rfl, hm⟩ := may_nat h1
    exact mem_intsN.2 (mem_nums.2 ⟨by omega, by simpa using h2⟩)
section
variable (s : SV) (w : World)
theorem get_rsome {A B : Option Addr} {n c m d : Nat} {lb : List Int} (t : Bool) (hn : n ≤ 100000) (hm : m ≤ 100000) (hA : RI w w.heap.size A n (laS s)) (hB : RI w w.heap.size B m lb) :
    Calls Tryd.prog 30 #[.slice A n c, .slice B m d, .bool t] w (GotList (intsN (someL s lb t)) w) :=
  (rsome_any A n c (numsF (inW s.ws)) B m d lb t hn hm w hA hB).mono fun _ _ h => gotList_of h
theorem get_rhas {A : Option Addr} {n c : Nat} (z : Int) (hn : n ≤ 1000000) (hA : RI w w.heap.size A n (laS s)) :
    Calls Tryd.prog 29 #[.slice A n c, .int .i64 z] w fun e w' => e = .returned (.bool (hasZ s.ws z)) ∧ w' = w := by
  have := rhas_any A n c (laS s) z hn w hA
  rwa [has_la] at this
end

/-- Words of a call's own, as numbers of 64 bits. -/
def U64Row (base : Nat) (w : World) (A : Option Addr) (n : Nat) : Prop :=
  0 < n → ∃ g cs, A = some ⟨g, 0, none⟩ ∧ base ≤ g ∧ Blk w g 51 cs ∧ ∀ j, j < n → ∃ x : Nat, cs[j]? = some (.int .u64 (x : Int))
theorem U64Row.of_ow {base n : Nat} {w : World} {A : Option Addr} {ws : List Nat} (h : OW base w A n ws) : U64Row base w A n := fun hn => by
  obtain ⟨g, cs, hA, hg, hb, hc⟩ := h.2 hn
  exact ⟨g, cs, hA, hg, hb, fun j hj => ⟨_, hc j _ (wcells_at (by have := h.1; omega))⟩⟩
theorem U64Row.less {base base' n : Nat} {w : World} {A : Option Addr} (h : U64Row base w A n) (hb : base' ≤ base) : U64Row base' w A n := fun hn => by
  obtain ⟨g, cs, hA, hg, hk, hc⟩ := h hn
  exact ⟨g, cs, hA, by omega, hk, hc⟩
theorem U64Row.on {base n : Nat} {w w' : World} {A : Option Addr} (h : U64Row base w A n) (hb : Below w.heap.size w w') : U64Row base w' A n := fun hn => by
  obtain ⟨g, cs, hA, hg, hk, hc⟩ := h hn
  exact ⟨g, cs, hA, hg, hk.below hb hk.lt, hc⟩
theorem U64Row.at_ {base n j : Nat} {w : World} {A : Option Addr} (h : U64Row base w A n) (hj : j < n) :
    ∃ (g : Nat) (cs : Array Value) (x : Nat), A = some ⟨g, 0, none⟩ ∧ base ≤ g ∧ Blk w g 51 cs ∧ w.cell? ⟨g, j, none⟩ = some (.int .u64 (x : Int)) ∧ w.frozen? ⟨g, j, none⟩ = false := by
  obtain ⟨g, cs, hA, hg, hk, hc⟩ := h (by omega)
  obtain ⟨x, hx⟩ := hc j hj
  exact ⟨g, cs, x, hA, hg, hk, by rw [hk.cell]; exact hx, hk.frozen j⟩
theorem U64Row.store {base n i y g : Nat} {w : World} {A : Option Addr} (h : U64Row base w A n) : U64Row base (w.setCell ⟨g, i, none⟩ (.int .u64 (y : Int))) A n := fun hn => by
  obtain ⟨g', cs, hA, hg, hk, hc⟩ := h hn
  by_cases e : g' = g
  · subst e
    refine ⟨g', _, hA, hg, hk.set_ i _, fun j hj => ?_⟩
    obtain ⟨x, hx⟩ := hc j hj
    rw [Array.getElem?_setIfInBounds]
    have hjs : j < cs.size := by
      rcases Nat.lt_or_ge j cs.size with h1 | h1
      · exact h1
      · rw [Array.getElem?_eq_none h1] at hx; cases hx
    by_cases e : i = j
    · rw [if_pos e, if_pos (by omega)]; exact ⟨y, rfl⟩
    · rw [if_neg e]; exact ⟨x, hx⟩
  · exact ⟨g', cs, hA, hg, hk.far (p := ⟨g, i, none⟩) e _, hc⟩
theorem box_not_words {w : World} {b g : Nat} {cs cs' : Array Value} (h : Blk w b 24 cs) (h' : Blk w g 51 cs') : b ≠ g := fun e => by
  subst e
  unfold Blk at h h'
  rw [h] at h'
  injection h' with h'
  injection h' with _ h2 _
  cases h2
theorem inc_u64 (x : Nat) : ∃ y : Nat, IntKind.u64.wrap ((x : Int) + 1) = (y : Int) := ⟨(x + 1) % 18446744073709551616, by rw [IntKind.wrap_u64]; omega⟩
end Go.Proofs.YtpkpfnilfabkaaaDoor
