/- Layer bits: what BitsParts, BitsSets hold between their calls: boxed sets, sets at hand; contracts by numbers. -/
import Derived.Test.YtpkpfnilfabkaaaDoorBya
import Derived.Test.YtpkpfnilfabkaaaDoorBu
import Derived.Deep.RegionHeld3
namespace Go.Proofs.YtpkpfnilfabkaaaDoor
open Go.RowKit

theorem in_union (S : List SV) (n : Nat) : inW (setW (unionF S)) n = unionF S n := in_set (fun _ hk => union_in hk) n
theorem in_meet {xs ys : List Nat} (n : Nat) : inW (setW fun n => inW xs n && inW ys n) n = (inW xs n && inW ys n) :=
  in_set (fun k hk => by
    simp only [Bool.and_eq_true] at hk
    exact in_lt hk.1) n
theorem in_minus {xs ys : List Nat} (n : Nat) : inW (setW fun n => inW xs n && !inW ys n) n = (inW xs n && !inW ys n) :=
  in_set (fun k hk => by
    simp only [Bool.and_eq_true] at hk
    exact in_lt hk.1) n

/-- Boxed sets, and sets at hand. -/
structure Held (w : World) (L : List (Nat × SV)) (M : List SV) (W : World) : Prop where
  env : Env w L W
  got : ∀ s ∈ M, s.ok W W.heap.size
theorem Held.on {w W W' : World} {L : List (Nat × SV)} {M : List SV} (h : Held w L M W) (hb : Below W.heap.size W W') : Held w L M W' := ⟨h.env.on hb, fun s hs => (h.got s hs).on hb⟩
theorem Held.drew {w W : World} {L : List (Nat × SV)} {M : List SV} (h : Held w L M W) : Held w L M W.drew := ⟨h.env.drew, fun s hs => ⟨RW.drew (h.got s hs).1, (h.got s hs).2.1, (h.got s hs).2.2⟩⟩
theorem Held.more {w W W' : World} {L : List (Nat × SV)} {M : List SV} (h : Held w L M W) (hb : Below W.heap.size W W') {s : SV} (hs : s.ok W' W'.heap.size) : Held w L (s :: M) W' :=
  ⟨h.env.on hb, fun t ht => by
    rcases List.mem_cons.1 ht with rfl | ht
    · exact hs
    · exact (h.got t ht).on hb⟩
theorem Held.cell {w W : World} {L : List (Nat × SV)} {M : List SV} (h : Held w L M W) {b : Nat} {s : SV} (hm : (b, s) ∈ L) : W.cell? ⟨b, 0, none⟩ = some (.slice s.A s.n s.c) := h.env.cell hm
theorem Held.ok {w W : World} {L : List (Nat × SV)} {M : List SV} (h : Held w L M W) {b : Nat} {s : SV} (hm : (b, s) ∈ L) : s.ok W W.heap.size := h.env.ok hm
theorem Held.start {w W : World} {L : List (Nat × SV)} (h : Env w L W) : Held w L [] W := ⟨h, fun s hs => by simp at hs⟩

/-- A row of sets, laid by the call. -/
theorem built_s (W : World) (S : List SV) : Reads (W.alloc (.cells (svs S).toArray 24)) (W.alloc (.cells (svs S).toArray 24)).heap.size 1 (some ⟨W.heap.size, 0, none⟩) S.length (svs S) :=
  ⟨by unfold svs; simp, fun _ => ⟨_, rfl, by show W.heap.size < _; simp, fun j u hu => by
    rw [Go.WideShapes.add_plain, (Blk.new W 24 (svs S).toArray).cell, Nat.zero_add, List.getElem?_toArray]; exact hu⟩⟩
def GotAt (ws : List Nat) (w : World) (e : Ending) (w' : World) : Prop :=
  ∃ s : SV, e = .returned (.agg #[.slice s.A s.n s.c]) ∧ s.ws = ws ∧ s.ok w' w'.heap.size ∧ Below w.heap.size w w'
theorem GotSet.at_ {ws : List Nat} {w w' : World} {e : Ending} (h : GotSet ws w e w') : GotAt ws w e w' := by
  obtain ⟨s, h1, h2, h3, _, h5⟩ := h
  exact ⟨s, h1, h2, h3, h5⟩
theorem s_union (S : List SV) (W : World) (hn : S.length ≤ 100000) (hS : ∀ s ∈ S, s.ok W W.heap.size) :
    Calls Tryd.prog 31 #[.slice (some ⟨W.heap.size, 0, none⟩) S.length S.length] (W.alloc (.cells (svs S).toArray 24)) (GotAt (setW (unionF S)) W) :=
  (union_any _ S.length S.length S hn _ (built_s W S) fun s hs => (hS s hs).on (one_more W _)).mono fun _ _ h => by
    obtain ⟨s, h1, h2, h3, _, h5⟩ := got_of (can_set _).1 (setW_le _) h
    exact ⟨s, h1, h2, h3, (one_more W _).trans (h5.mono (by simp))⟩
theorem union_two (s t : SV) (W : World) (hs : s.ok W W.heap.size) (ht : t.ok W W.heap.size) :
    Calls Tryd.prog 31 #[.slice (some ⟨W.heap.size, 0, none⟩) 2 2] (W.alloc (.cells #[.slice s.A s.n s.c, .slice t.A t.n t.c] 24)) (fun e w' => ∃ u : SV, e = .returned (.agg #[.slice u.A u.n u.c]) ∧ (∀ n, inW u.ws n = (inW s.ws n || inW t.ws n)) ∧ u.ok w' w'.heap.size ∧ Below W.heap.size W w') :=
  (s_union [s, t] W (by simp) (by
    intro x hx
    simp only [List.mem_cons, List.not_mem_nil, or_false] at hx
    rcases hx with rfl | rfl
    · exact hs
    · exact ht)).mono fun _ _ h => by
    obtain ⟨u, h1, h2, h3, h4⟩ := h
    exact ⟨u, h1, fun n => by rw [h2, in_union]; simp [unionF], h3, h4⟩
theorem union_three (s t v : SV) (W : World) (hs : s.ok W W.heap.size) (ht : t.ok W W.heap.size) (hv : v.ok W W.heap.size) :
    Calls Tryd.prog 31 #[.slice (some ⟨W.heap.size, 0, none⟩) 3 3] (W.alloc (.cells #[.slice s.A s.n s.c, .slice t.A t.n t.c, .slice v.A v.n v.c] 24)) (fun e w' => ∃ u : SV, e = .returned (.agg #[.slice u.A u.n u.c]) ∧ (∀ n, inW u.ws n = (inW s.ws n || (inW t.ws n || inW v.ws n))) ∧ u.ok w' w'.heap.size ∧ Below W.heap.size W w') :=
  (s_union [s, t, v] W (by simp) (by
    intro x hx
    simp only [List.mem_cons, List.not_mem_nil, or_false] at hx
    rcases hx with rfl | rfl | rfl
    · exact hs
    · exact ht
    · exact hv)).mono fun _ _ h => by
    obtain ⟨u, h1, h2, h3, h4⟩ := h
    exact ⟨u, h1, fun n => by rw [h2, in_union]; simp [unionF], h3, h4⟩
section
variable (s t : SV) (w : World)
theorem two_meet (hs : s.ok w w.heap.size) (ht : t.ok w w.heap.size) :
    Calls Tryd.prog 32 #[.agg #[.slice s.A s.n s.c], .agg #[.slice t.A t.n t.c]] w (fun e w' => ∃ u : SV, e = .returned (.agg #[.slice u.A u.n u.c]) ∧ (∀ n, inW u.ws n = (inW s.ws n && inW t.ws n)) ∧ u.ok w' w'.heap.size ∧ Below w.heap.size w w') :=
  (s_meet s t w hs ht).mono fun _ _ h => by
    obtain ⟨u, h1, h2, h3, _, h5⟩ := h
    exact ⟨u, h1, fun n => by rw [h2, in_meet], h3, h5⟩
theorem two_minus (hs : s.ok w w.heap.size) (ht : t.ok w w.heap.size) :
    Calls Tryd.prog 33 #[.agg #[.slice s.A s.n s.c], .agg #[.slice t.A t.n t.c]] w (fun e w' => ∃ u : SV, e = .returned (.agg #[.slice u.A u.n u.c]) ∧ (∀ n, inW u.ws n = (inW s.ws n && !inW t.ws n)) ∧ u.ok w' w'.heap.size ∧ Below w.heap.size w w') :=
  (s_minus s t w hs ht).mono fun _ _ h => by
    obtain ⟨u, h1, h2, h3, _, h5⟩ := h
    exact ⟨u, h1, fun n => by rw [h2, in_minus], h3, h5⟩
theorem same_yes (hs : s.ok w w.heap.size) (ht : t.ok w w.heap.size) (h : ∀ n, inW s.ws n = inW t.ws n) :
    Calls Tryd.prog 14 #[.agg #[.slice s.A s.n s.c], .agg #[.slice t.A t.n t.c]] w fun e w' => e = .returned (.bool true) ∧ Below w.heap.size w w' := by
  have := s_same s t w hs ht
  rwa [show sameF (inW s.ws) (inW t.ws) = true from sameF_iff.2 fun n _ => h n] at this
theorem within_yes (hs : s.ok w w.heap.size) (ht : t.ok w w.heap.size) (h : ∀ n, inW s.ws n = true → inW t.ws n = true) :
    Calls Tryd.prog 35 #[.agg #[.slice s.A s.n s.c], .agg #[.slice t.A t.n t.c]] w fun e w' => e = .returned (.bool true) ∧ Below w.heap.size w w' := by
  have := s_within s t w hs ht
  rwa [show withinF (inW s.ws) (inW t.ws) = true from withinF_iff.2 fun n _ => h n] at this
theorem count_is (k : Nat) (hs : s.ok w w.heap.size) (h : cN (inW s.ws) = k) :
    Calls Tryd.prog 17 #[.agg #[.slice s.A s.n s.c]] w fun e w' => e = .returned (.int .i64 (k : Int)) ∧ Below w.heap.size w w' := by
  have := s_count s w hs
  rwa [show (numsF (inW s.ws)).length = k from h] at this
theorem count_zero (hs : s.ok w w.heap.size) (h : ∀ n, inW s.ws n = false) :
    Calls Tryd.prog 17 #[.agg #[.slice s.A s.n s.c]] w fun e w' => e = .returned (.int .i64 0) ∧ Below w.heap.size w w' :=
  (count_is s w 0 hs (cN_none fun n _ => h n)).mono fun _ _ h => ⟨h.1.trans rfl, h.2⟩
end
end Go.Proofs.YtpkpfnilfabkaaaDoor
