/- Plain facts on the document's Of: how many words, and which. -/
import Derived.Test.YtpkpfnilfabkaaaDoorBl
namespace Go.Proofs.YtpkpfnilfabkaaaDoor

/-- So many words do for the first numbers, and no fewer. -/
def TopIs (l : List Int) (k N : Nat) : Prop := (∀ z ∈ l.take k, ∀ m : Nat, z = m → m / 64 < N) ∧ (N = 0 ∨ ∃ m : Nat, ((m : Int)) ∈ l.take k ∧ m / 64 + 1 = N)
theorem top_start (l : List Int) : TopIs l 0 0 := ⟨fun z hz => by simp at hz, .inl rfl⟩
theorem top_step {l : List Int} {k N m M : Nat} (h : TopIs l k N) (hk : k < l.length) (hm : l.getD k 0 = (m : Int)) (hN : N ≤ M) (hM : m / 64 + 1 ≤ M) (hle : M = N ∨ M = m / 64 + 1) : TopIs l (k + 1) M := by
  have e := take_snoc' (d := (0 : Int)) hk
  rw [hm] at e
  refine ⟨fun z hz a ha => ?_, ?_⟩
  · rw [e] at hz
    rcases List.mem_append.1 hz with hz | hz
    · have := h.1 z hz a ha; omega
    · simp at hz
      have : a = m := by omega
      subst this; omega
  · rcases hle with rfl | rfl
    · rcases h.2 with h0 | ⟨a, ha, he⟩
      · exact .inl h0
      · exact .inr ⟨a, by rw [e]; exact List.mem_append_left _ ha, he⟩
    · exact .inr ⟨m, by rw [e]; simp, rfl⟩
def fillW (l : List Int) (N : Nat) : List Nat := (List.range N).map fun i => bitsF (fun k => ofF l (64 * i + k)) 64
theorem fill_len (l : List Int) (N : Nat) : (fillW l N).length = N := by unfold fillW; simp
theorem fill_at {l : List Int} {N i : Nat} (h : i < N) : (fillW l N).getD i 0 = bitsF (fun k => ofF l (64 * i + k)) 64 := by
  unfold fillW
  rw [List.getD_eq_getElem?_getD, List.getElem?_map, List.getElem?_range h]; rfl
theorem fill_64 (l : List Int) (N : Nat) : W64 (fillW l N) := by
  intro x hx
  unfold fillW at hx
  obtain ⟨i, _, rfl⟩ := List.mem_map.1 hx
  exact bitsF_lt _ 64
theorem has_fill (l : List Int) (N n : Nat) : hasW (fillW l N) n = (decide (n / 64 < N) && ofF l n) := by
  unfold hasW
  by_cases h : n / 64 < N
  · rw [fill_at h, bitsF_bit, show 64 * (n / 64) + n % 64 = n by omega]
    simp [Nat.mod_lt, h]
  · rw [List.getD_eq_getElem?_getD, List.getElem?_eq_none (by rw [fill_len]; omega)]
    simp [h]
theorem fill_set {l : List Int} {N : Nat} (h : TopIs l l.length N) (hl : mayL l) : fillW l N = setW (ofF l) := by
  have ht := h.1
  rw [List.take_of_length_le (Nat.le_refl _)] at ht
  have h2 := h.2
  rw [List.take_of_length_le (Nat.le_refl _)] at h2
  refine set_of ⟨fill_64 l N, ?_⟩ fun n => ?_
  · rw [fill_len]
    rcases h2 with h0 | ⟨m, hm, he⟩
    · exact .inl h0
    · refine .inr fun h0 => ?_
      have h1 := has_fill l N m
      unfold hasW at h1
      rw [show m / 64 = N - 1 by omega, h0] at h1
      have : ofF l m = true := by unfold ofF; exact decide_eq_true hm
      rw [this] at h1
      simp at h1
      omega
  · rw [has_fill]
    cases hf : ofF l n with
    | false => simp
    | true =>
      have h3 := of_in hl hf
      have h4 := ht (n : Int) (by unfold ofF at hf; exact of_decide_eq_true hf) n rfl
      simp [h4]; omega
/-- The words while they are being filled. -/
def partW (l : List Int) (N i : Nat) : List Nat := (fillW l N).take i ++ List.replicate (N - i) 0
theorem part_zero (l : List Int) (N : Nat) : partW l N 0 = List.replicate N 0 := by unfold partW; simp
theorem part_len {l : List Int} {N i : Nat} (h : i ≤ N) : (partW l N i).length = N := by unfold partW; simp [fill_len]; omega
theorem part_set {l : List Int} {N i x : Nat} (h : i < N) (hx : bitsF (fun k => ofF l (64 * i + k)) 64 = x) : (partW l N i).set i x = partW l N (i + 1) := by
  have e : (fillW l N).take (i + 1) = (fillW l N).take i ++ [x] := by
    rw [take_snoc' (d := 0) (by rw [fill_len]; exact h), fill_at h, hx]
  unfold partW
  rw [e, List.set_append_right _ _ (by rw [List.length_take, fill_len]; omega), List.length_take, fill_len, Nat.min_eq_left (by omega), Nat.sub_self, show N - i = (N - (i + 1)) + 1 by omega, List.replicate_succ, List.set_cons_zero, List.append_assoc]
  rfl
theorem part_end (l : List Int) (N : Nat) : partW l N N = fillW l N := by
  unfold partW
  rw [List.take_of_length_le (by rw [fill_len]; exact Nat.le_refl _)]; simp
/-- The word while it is being made: its low bits come in at the top. -/
theorem word_step {f : Nat → Bool} {k y : Nat} (hk : k < 64) (h : y = 2 ^ (64 - k) * bitsF f k) : y / 2 + (if f k then 9223372036854775808 else 0) = 2 ^ (64 - (k + 1)) * bitsF f (k + 1) := by
  have e : 2 ^ (64 - k) = 2 * 2 ^ (64 - (k + 1)) := by rw [← Nat.pow_succ']; congr 1; omega
  have e2 : y / 2 = 2 ^ (64 - (k + 1)) * bitsF f k := by rw [h, e, Nat.mul_assoc, Nat.mul_div_cancel_left _ (by decide)]
  have e3 : 2 ^ (64 - (k + 1)) * 2 ^ k = 9223372036854775808 := by
    rw [← Nat.pow_add, show 64 - (k + 1) + k = 63 by omega]
  rw [e2, show bitsF f (k + 1) = (if f k then 2 ^ k else 0) + bitsF f k from rfl]
  cases f k with
  | true => rw [if_pos rfl, if_pos rfl, Nat.mul_add, e3]; omega
  | false => simp
theorem word_lt {f : Nat → Bool} {k y : Nat} (hk : k ≤ 64) (h : y = 2 ^ (64 - k) * bitsF f k) : y < 18446744073709551616 := by
  have h1 := bitsF_lt f k
  have e3 : 2 ^ (64 - k) * 2 ^ k = 18446744073709551616 := by
    rw [← Nat.pow_add, show 64 - k + k = 64 by omega]
  rw [h, ← e3]
  exact Nat.mul_lt_mul_of_pos_left h1 (Nat.two_pow_pos _)
theorem of_nat_mem (l : List Int) (n : Nat) : decide ((n : Int) ∈ l) = ofF l n := rfl
end Go.Proofs.YtpkpfnilfabkaaaDoor
