/- Layer graph: may, node, between, Check, asked: contracts. -/
import Derived.Test.YticbgikbpafeoaaGg
import Derived.Test.YticbgikbpafeoaaGp
namespace Go.Proofs.Yticbgikbpafeoaa
open Go.RowKit

def nodeB (nodes v : Int) : Bool := decide (0 ≤ v ∧ v < nodes)
set_option maxHeartbeats 1000000 in
theorem node_yes (v nodes : Int) (h : 0 ≤ v ∧ v < nodes) (w : World) : Calls Try.prog 60 #[.int .i64 v, .int .i64 nodes] w fun e w' => e = .returned (.bool true) ∧ w = w' := by
  obtain ⟨h1, h2⟩ := h
  go_enter Try.func60, Try.ntmps60
  go_wp2_with fail
  go_ret
  exact ⟨rfl, rfl⟩
set_option maxHeartbeats 1000000 in
theorem node_no (v nodes : Int) (h : ¬ (0 ≤ v ∧ v < nodes)) (w : World) : Calls Try.prog 60 #[.int .i64 v, .int .i64 nodes] w fun e w' => e = .returned (.bool false) ∧ w = w' := by
  by_cases h1 : 0 ≤ v
  · have h2 : ¬ v < nodes := fun c => h ⟨h1, c⟩
    clear h
    go_enter Try.func60, Try.ntmps60
    go_wp2_with fail
    go_ret
    exact ⟨rfl, rfl⟩
  · have h2 : decide (0 ≤ v) = false := by simpa using h1
    clear h
    go_enter Try.func60, Try.ntmps60
    go_wp2_with fail
    go_ret
    exact ⟨rfl, rfl⟩
theorem node_any (v nodes : Int) (w : World) : Calls Try.prog 60 #[.int .i64 v, .int .i64 nodes] w fun e w' => e = .returned (.bool (nodeB nodes v)) ∧ w = w' := by
  unfold nodeB
  by_cases h : 0 ≤ v ∧ v < nodes
  · rw [decide_eq_true h]; exact node_yes v nodes h w
  · rw [decide_eq_false h]; exact node_no v nodes h w
set_option maxHeartbeats 1000000 in
theorem may_any (nodes : Int) (w : World) : Calls Try.prog 39 #[.int .i64 nodes] w fun e w' => e = .returned (.bool (mayN nodes)) ∧ w = w' := by
  by_cases h1 : 0 ≤ nodes
  · by_cases h2 : nodes ≤ 300
    · have HE : Hid (mayN nodes = true) := by show _ = _; unfold mayN; simp [h1, h2]
      go_enter Try.func39, Try.ntmps39
      go_wp2_with fail
      go_ret
      exact ⟨by rw [HE.out]; rfl, rfl⟩
    · have HE : Hid (mayN nodes = false) := by show _ = _; unfold mayN; simp [h1, h2]
      go_enter Try.func39, Try.ntmps39
      go_wp2_with fail
      go_ret
      exact ⟨by rw [HE.out]; rfl, rfl⟩
  · have h2 : decide (0 ≤ nodes) = false := by simpa using h1
    have HE : Hid (mayN nodes = false) := by show _ = _; unfold mayN; simp [h1]
    go_enter Try.func39, Try.ntmps39
    go_wp2_with fail
    go_ret
    exact ⟨by rw [HE.out]; rfl, rfl⟩

theorem box_new (w : World) (cs : Array Value) (t : TypeId) : Blk (w.alloc (.cells cs t)) w.heap.size t cs ∧ Below w.heap.size w (w.alloc (.cells cs t)) := ⟨Blk.new w t cs, (Below.refl _ _).alloc (Nat.le_refl _) _⟩

theorem edge_ways {nodes : Int} {p : Ed} (h : rightE nodes p = false) : ¬ (0 ≤ p.1 ∧ p.1 < nodes) ∨ ((0 ≤ p.1 ∧ p.1 < nodes) ∧ ¬ (0 ≤ p.2.1 ∧ p.2.1 < nodes)) ∨ ((0 ≤ p.1 ∧ p.1 < nodes) ∧ (0 ≤ p.2.1 ∧ p.2.1 < nodes) ∧ (p.1 == p.2.1) = true) ∨
    ((0 ≤ p.1 ∧ p.1 < nodes) ∧ (0 ≤ p.2.1 ∧ p.2.1 < nodes) ∧ (p.1 == p.2.1) = false ∧ p.2.2 < 0) ∨ ((0 ≤ p.1 ∧ p.1 < nodes) ∧ (0 ≤ p.2.1 ∧ p.2.1 < nodes) ∧ (p.1 == p.2.1) = false ∧ ¬ p.2.2 < 0 ∧ p.2.2 > 9) := by
  unfold rightE at h
  rw [decide_eq_false_iff_not] at h
  by_cases h1 : 0 ≤ p.1 ∧ p.1 < nodes
  · by_cases h2 : 0 ≤ p.2.1 ∧ p.2.1 < nodes
    · by_cases h3 : p.1 = p.2.1
      · exact .inr (.inr (.inl ⟨h1, h2, by simpa using h3⟩))
      · by_cases h4 : p.2.2 < 0
        · exact .inr (.inr (.inr (.inl ⟨h1, h2, by simpa using h3, h4⟩)))
        · exact .inr (.inr (.inr (.inr ⟨h1, h2, by simpa using h3, h4, by
            rcases Int.lt_or_le 9 p.2.2 with h5 | h5
            · exact h5
            · exact absurd ⟨h1, h2, h3, by omega, h5⟩ h⟩)))
    · exact .inr (.inl ⟨h1, h2⟩)
  · exact .inl h1
theorem all_take {l : List Ed} {q : Ed → Bool} {k : Nat} {x : Ed} (h : ∀ p ∈ l.take k, q p = true) (hx : l[k]? = some x) (hq : q x = true) : ∀ p ∈ l.take (k + 1), q p = true := by
  rw [List.take_add_one, hx]
  intro p hp
  rcases List.mem_append.1 hp with hp | hp
  · exact h p hp
  · simp at hp; subst hp; exact hq
theorem all_no {l : List Ed} {q : Ed → Bool} {x : Ed} (hx : x ∈ l) (hq : q x = false) : l.all q = false := by
  rw [List.all_eq_false]
  exact ⟨x, hx, by rw [hq]; decide⟩

set_option maxRecDepth 100000 in
set_option maxHeartbeats 4000000 in
theorem between_any (nodes : Int) (A : Option Addr) (n c : Nat) (zs : List Ed) (hn : n ≤ 1000000) (w : World) (hR : Reads w w.heap.size 3 A n (cellsE zs)) :
    Calls Try.prog 40 #[.int .i64 nodes, .slice A n c] w fun e w' => e = .returned (.bool (zs.all (rightE nodes))) ∧ Below w.heap.size w w' := by
  have HR := Lib.hid hR
  have HL := Lib.hid (reads_len hR)
  clear hR
  go_enter Try.func40, Try.ntmps40
  go_wp2_with fail
  go_loopg [9] n (fun gg i wr => ∃ k : Nat, k + gg = n ∧ i = .int .i64 k ∧ Hid (∀ p ∈ zs.take k, rightE nodes p = true) ∧ Hid (Below w.heap.size w wr))
  case atStart => exact ⟨0, by omega, rfl, fun _ h => by simp at h, Below.refl _ _⟩
  case round =>
    obtain ⟨k, hk, rfl, ht, bk⟩ := hrel
    cases gk with
    | succ g2 =>
      have hlt : (k : Int) < (n : Int) := by omega
      obtain ⟨p, hp⟩ : ∃ p, zs[k]? = some p := ⟨zs[k]'(by rw [HL.out]; omega), List.getElem?_eq_getElem _⟩
      obtain ⟨b, o, rfl, hb, g0, g1, g2'⟩ := ed_at (HR.out.below bk.out) hp
      have HK := Lib.hid hk
      have HB1 : Hid (Below w.heap.size w (wr.alloc (.cells #[.int .i64 p.1, .int .i64 p.2.1, .int .i64 p.2.2] 35))) := bk.out.alloc bk.out.size _
      cases he : rightE nodes p
      · have HF : Hid (zs.all (rightE nodes) = false) := all_no (List.mem_of_getElem? hp) he
        have hw := edge_ways he
        clear hp hk he
        rcases hw with h1 | ⟨h1, h2⟩ | ⟨h1, h2, h3⟩ | ⟨h1, h2, h3, h4⟩ | ⟨h1, h2, h3, h4, h5⟩
        · have H1 := Lib.hid h1
          clear h1
          go_wp2_with fail
          refine (node_no _ _ H1.out _).mono ?_
          rintro e w1 ⟨rfl, rfl⟩
          go_wp2_with fail
          go_ret
          exact ⟨by rw [HF.out]; rfl, HB1.out⟩
        · have H1 := Lib.hid h1
          have H2 := Lib.hid h2
          clear h1 h2
          go_wp2_with fail
          refine (node_yes _ _ H1.out _).mono ?_
          rintro e w1 ⟨rfl, rfl⟩
          go_wp2_with fail
          refine (node_no _ _ H2.out _).mono ?_
          rintro e w1 ⟨rfl, rfl⟩
          go_wp2_with fail
          go_ret
          exact ⟨by rw [HF.out]; rfl, HB1.out⟩
        all_goals
          have H1 := Lib.hid h1
          have H2 := Lib.hid h2
          clear h1 h2
          go_wp2_with fail
          refine (node_yes _ _ H1.out _).mono ?_
          rintro e w1 ⟨rfl, rfl⟩
          go_wp2_with fail
          refine (node_yes _ _ H2.out _).mono ?_
          rintro e w1 ⟨rfl, rfl⟩
          go_wp2_with fail
          go_ret
          exact ⟨by rw [HF.out]; rfl, HB1.out⟩
      · have HT := Lib.hid (all_take ht.out hp he)
        unfold rightE at he
        rw [decide_eq_true_eq] at he
        obtain ⟨h1, h2, h3, h4, h5⟩ := he
        have H1 := Lib.hid h1
        have H2 := Lib.hid h2
        have h3b : (p.1 == p.2.1) = false := by simpa using h3
        have h4b : ¬ p.2.2 < 0 := by omega
        have h5b : ¬ p.2.2 > 9 := by omega
        clear hp hk h1 h2 h3 h4 h5
        go_wp2_with fail
        refine (node_yes _ _ H1.out _).mono ?_
        rintro e w1 ⟨rfl, rfl⟩
        go_wp2_with fail
        refine (node_yes _ _ H2.out _).mono ?_
        rintro e w1 ⟨rfl, rfl⟩
        go_wp2_with fail
        go_roundg g2
        case measure => omega
        case rel => exact ⟨k + 1, by have := HK.out; omega, by go_num, HT, HB1⟩
    | zero =>
      have hge : ¬ (k : Int) < (n : Int) := by omega
      have HF : Hid (zs.all (rightE nodes) = true) := by
        show _ = _
        rw [List.all_eq_true]
        have := ht.out
        rwa [List.take_of_length_le (by rw [HL.out]; omega)] at this
      have HK := Lib.hid hk
      clear hk
      go_wp2_with fail
      go_ret
      exact ⟨by rw [HF.out]; rfl, bk.out⟩
end Go.Proofs.Yticbgikbpafeoaa
