/- The document's path: Is: contract. -/
import Derived.Test.YtgbpaiffnhpafaaDoorU2
import Derived.Test.YtgbpaiffnhpafaaDoorM13
-- holds: YtgbpaiffnhpafaaDoorUf
namespace Go.Proofs.YtgbpaiffnhpafaaDoor
open Go.RowKit

/-- So many nodes are looked at, and all are as they must be. -/
structure OkTo (zs : List Ed) (m : Nat) (round : Bool) (l : List Int) (i : Nat) : Prop where
  once : (l.take i).Nodup
  ends : ∀ x ∈ l.take i, 0 ≤ x ∧ x < (m : Int)
  least : round = true → ∀ x ∈ l.take i, l.headD 0 ≤ x
  on : ∀ (j : Nat) x y, j + 1 < i → l[j]? = some x → l[j + 1]? = some y → EdR zs x y
section
variable {zs : List Ed} {m i : Nat} {round : Bool} {l : List Int} {v u : Int}
theorem OkTo.start : OkTo zs m round l 0 := ⟨by simp, fun x hx => by simp at hx, fun _ x hx => by simp at hx, fun j x y h => by omega⟩
theorem OkTo.next (h : OkTo zs m round l i) (hv : l[i]? = some v) (h0 : 0 ≤ v ∧ v < (m : Int)) (hl : round = true → l.headD 0 ≤ v) (hn : ∀ (j : Nat) x, j < i → l[j]? = some x → x ≠ v) (ho : ∀ x, 0 < i → l[i - 1]? = some x → EdR zs x v) : OkTo zs m round l (i + 1) := by
  have e : l.take (i + 1) = l.take i ++ [v] := by rw [List.take_add_one, hv]; rfl
  have hnot : v ∉ l.take i := fun hm => by
    obtain ⟨j, hj⟩ := List.mem_iff_getElem?.1 hm
    rw [List.getElem?_take] at hj
    split at hj
    · rename_i hji; exact hn j v hji hj rfl
    · cases hj
  refine ⟨?_, ?_, ?_, ?_⟩
  · rw [e, List.nodup_append]
    refine ⟨h.once, by simp, fun a ha b hb => ?_⟩
    simp at hb
    subst hb
    rintro rfl
    exact hnot ha
  · intro x hx
    rw [e, List.mem_append, List.mem_singleton] at hx
    rcases hx with hx | rfl
    · exact h.ends x hx
    · exact h0
  · intro hr x hx
    rw [e, List.mem_append, List.mem_singleton] at hx
    rcases hx with hx | rfl
    · exact h.least hr x hx
    · exact hl hr
  · intro j x y hj hx hy
    rcases Nat.lt_or_eq_of_le (Nat.le_of_lt_succ hj) with h1 | h1
    · exact h.on j x y h1 hx hy
    · rw [h1, hv] at hy
      injection hy with hy
      subst hy
      exact ho x (by omega) (by rw [show i - 1 = j by omega]; exact hx)
theorem OkTo.way (h : OkTo zs m round l l.length) (hl : l ≠ []) : IsW zs m l := by
  have e : l.take l.length = l := List.take_length
  have h1 := h.once
  have h2 := h.ends
  rw [e] at h1 h2
  exact ⟨hl, h1, h2, fun j x y hx hy => h.on j x y (List.getElem?_eq_some_iff.1 hy).1 hx hy⟩
theorem OkTo.cyc (h : OkTo zs m true l l.length) (h2 : 1 < l.length) (hb : EdR zs (endO l) (l.headD 0)) : IsC zs m l := by
  have hl : l ≠ [] := fun e => by rw [e] at h2; simp at h2
  have h3 := h.least rfl
  rw [List.take_length] at h3
  exact ⟨h.way hl, h2, h3, hb⟩
theorem isP_ends (h : IsP zs m l round) (hv : l[i]? = some v) : 0 ≤ v ∧ v < (m : Int) := by
  unfold IsP at h
  split at h
  · exact h.way.ends v (List.mem_of_getElem? hv)
  · exact h.ends v (List.mem_of_getElem? hv)
theorem isP_way (h : IsP zs m l round) : IsW zs m l := by
  unfold IsP at h
  split at h
  · exact h.way
  · exact h
theorem isP_least (h : IsP zs m l true) (hv : l[i]? = some v) : l.headD 0 ≤ v := by
  have h : IsC zs m l := h
  exact h.least v (List.mem_of_getElem? hv)
theorem isP_once (h : IsP zs m l round) {j : Nat} (hj : j < i) (h1 : l[j]? = some v) (h2 : l[i]? = some v) : False := by
  have hn := (isP_way h).once
  have := (List.getElem?_inj (List.getElem?_eq_some_iff.1 h1).1 hn).1 (h1.trans h2.symm)
  omega
end
theorem row_cell2 {w : World} {B n k g o : Nat} {vs : List Int} {v : Int} (h : Reads w B 1 (some ⟨g, o, none⟩) n (ints vs)) (hv : vs[k]? = some v) : w.cell? ⟨g, o + k, none⟩ = some (.int .i64 v) := by
  obtain ⟨b, o', e, _, hc⟩ := row_at h hv
  injection e with e
  injection e with e1 e2
  subst e1; subst e2
  exact hc
def RIs (zs : List Ed) (m : Nat) (l : List Int) (round : Bool) (w : World) (e : Ending) (w' : World) : Prop := ∃ b : Bool, e = .returned (.bool b) ∧ Below w.heap.size w w' ∧ (b = true ↔ IsP zs m l round)

set_option maxRecDepth 100000 in
set_option maxHeartbeats 16000000 in
theorem rpathis8_any (m : Nat) (A A2 : Option Addr) (n c k c2 : Nat) (zs : List Ed) (l : List Int) (round : Bool) (hg : IsG (m : Int) zs) (hn : n ≤ 900) (hk : k ≤ 1000) (hkc : k ≤ c2) (w : World) (hR : Reads w w.heap.size 3 A n (cellsE zs)) (hL : Reads w w.heap.size 1 A2 k (ints l)) :
    Calls Tryd.prog 25 #[.agg #[.int .i64 (m : Int), .slice A n c], .slice A2 k c2, .bool round] w (RIs zs m l round w) := by
  have hmn := hg.nodes
  obtain ⟨k0, b0⟩ := box_new w #[.int .i64 (m : Int), .slice A n c] 24
  have B0 := Lib.hid b0
  have K0 := Lib.hid k0
  have HLL := Lib.hid (ints_len hL)
  have hm3 : m ≤ 300 := by omega
  have HRS : Hid (∀ W, Below w.heap.size w W → Reads W W.heap.size 3 A n (cellsE zs) ∧ Reads W W.heap.size 1 A2 k (ints l)) := fun W h => ⟨(hR.below h).more h.size, (hL.below h).more h.size⟩
  clear hR hL b0 k0 hmn
  go_enter Tryd.func25, Tryd.ntmps25
  go_wp2_with fail
  generalize w.alloc (.cells #[.int .i64 (m : Int), .slice A n c] 24) = W1 at *
  go_loopg [13] k (fun gg s13 wo => ∃ i : Nat, s13 = .int .i64 i ∧ i + gg = k ∧ Hid (OkTo zs m round l i) ∧ Hid (Below w.heap.size w wo) ∧ Hid (Blk wo w.heap.size 24 #[.int .i64 (m : Int), .slice A n c]))
  case atStart => exact ⟨0, rfl, by omega, OkTo.start, B0.out, K0.out⟩
  case round =>
    clear B0 K0
    obtain ⟨i, rfl, hik, HOK, HB, KB⟩ := hrel
    rename World => wo
    have HIK := Lib.hid hik
    cases gk with
    | zero =>
      have hge : ¬ (i : Int) < (k : Int) := by omega
      obtain rfl : i = k := by omega
      clear hik
      cases round
      · have HE : Hid (RIs zs m l false w (.returned (.bool (decide (0 < i)))) wo) := by
          refine ⟨_, rfl, HB.out, ?_⟩
          rw [decide_eq_true_eq]
          constructor
          · intro h
            have h1 := HOK.out
            rw [← HLL.out] at h1
            exact h1.way (fun e => by have := HLL.out; rw [e] at this; simp at this; omega)
          · intro h
            have := h.any
            have h2 := List.length_pos_iff.2 this
            have := HLL.out
            omega
        by_cases h0 : 0 < i
        · rw [decide_eq_true h0] at HE
          have hi0 : (i : Int) > 0 := by omega
          go_wp2_with fail
          go_ret
          exact HE.out
        · rw [decide_eq_false h0] at HE
          have hi0 : ¬ (i : Int) > 0 := by omega
          go_wp2_with fail
          go_ret
          exact HE.out
      · by_cases h1 : 1 < i
        · have hi1 : (i : Int) > 1 := by omega
          obtain ⟨x, hx⟩ : ∃ x, l[0]? = some x := ⟨_, List.getElem?_eq_getElem (by rw [HLL.out]; omega)⟩
          obtain ⟨y, hy⟩ : ∃ y, l[i - 1]? = some y := ⟨_, List.getElem?_eq_getElem (by rw [HLL.out]; omega)⟩
          have hhd : l.headD 0 = x := by
            cases l with
            | nil => simp at hx
            | cons a l => simpa using hx
          have hend : endO l = y := by
            unfold endO
            rw [List.getLastD_eq_getLast?, List.getLast?_eq_getElem?, HLL.out, hy]
            rfl
          have HE : Hid (∀ wz, Below w.heap.size w wz → RIs zs m l true w (.returned (.bool (edB zs y x))) wz) := fun wz hb => by
            refine ⟨_, rfl, hb, ?_⟩
            rw [edB_iff]
            have h3 := HOK.out
            rw [← HLL.out] at h3
            constructor
            · intro h
              exact h3.cyc (by rw [HLL.out]; exact h1) (by rw [hend, hhd]; exact h)
            · intro h
              have h : IsC zs m l := h
              have := h.back
              rwa [hend, hhd] at this
          obtain ⟨gl, ol, rfl, _, c0⟩ := row_at (HRS.out wo HB.out).2 hx
          have c1 := row_cell2 (HRS.out wo HB.out).2 hy
          rw [Nat.add_zero] at c0
          obtain ⟨i1, hi1'⟩ : ∃ i1, i - 1 = i1 := ⟨_, rfl⟩
          rw [hi1'] at c1
          have hw1 : IntKind.i64.wrap ((i : Int) - 1) = (i1 : Int) := by rw [IntKind.wrap_i64]; omega
          have hi2 : i1 < i := by omega
          have hi3 : 0 < i := by omega
          have hi5 : (0 : Int) < (i : Int) := by omega
          have hi4 : (i1 : Int) < (i : Int) := by omega
          have x0 := KB.out.cell 0
          have x1 := KB.out.cell 1
          have HED := Lib.hid (redge8_any (m : Int) y x A n c zs (by omega) wo.drew (by have h2 : Below w.heap.size w wo.drew := HB.out.drew; exact (HRS.out _ h2).1))
          have HD := Lib.hid (HB.out.drew)
          clear hx hy hhd hend hi1' h1
          go_upto_region 14 with fail
          go_still_tail 14, (by kernel_rfl)
          change wpList _ _ _ _ _ wo.drew
          clear c0 c1 x0 x1 HB KB
          generalize wo.drew = wd at *
          go_wp2_with fail
          refine HED.out.mono ?_
          rintro e2 w3 ⟨rfl, b3⟩
          have HE2 := Lib.hid (HE.out w3 (HD.out.trans (b3.mono HD.out.size)))
          clear b3 HED HD HE
          go_wp2_with fail
          go_ret
          exact HE2.out
        · have hi1 : ¬ (i : Int) > 1 := by omega
          have HE : Hid (∀ q, RIs zs m l true w (.returned (.bool false)) (wo.drewN q)) := fun q => by
            refine ⟨_, rfl, below_drewN HB.out q, ?_⟩
            constructor
            · intro h; cases h
            · intro h
              have h : IsC zs m l := h
              have := h.two
              have := HLL.out
              omega
          clear h1
          go_upto_region 14 with fail
          go_quiet (fail)
          have HE2 := Lib.hid (HE.out nq)
          clear HE
          generalize wo.drewN nq = wj at *
          go_wp2_with fail
          go_ret
          exact HE2.out
    | succ g2 =>
      have hlt : (i : Int) < (k : Int) := by omega
      have hik2 : i ≤ c2 := by omega
      have hik3 : i < k := by omega
      obtain ⟨v, hv⟩ : ∃ v, l[i]? = some v := ⟨_, List.getElem?_eq_getElem (by rw [HLL.out]; omega)⟩
      have HV := Lib.hid hv
      obtain ⟨gl, ol, rfl, _, c0⟩ := row_at (HRS.out wo HB.out).2 hv
      clear hv hik
      go_upto_region 4 with fail
      clear c0
      have x0 := KB.out.cell 0
      by_cases hneg : v < 0
      · skip
        have HE : Hid (∀ q, RIs zs m l round w (.returned (.bool false)) (wo.drewN q)) := fun q => by
          refine ⟨_, rfl, below_drewN HB.out q, ?_⟩
          constructor
          · intro h; cases h
          · intro h
            have := isP_ends h HV.out
            omega
        go_quiet (fail)
        have HE2 := Lib.hid (HE.out nq)
        clear HE
        generalize wo.drewN nq = wj at *
        go_wp2_with fail
        go_ret
        exact HE2.out
      · have hn0 : ¬ v < 0 := hneg
        by_cases hbig : v ≥ (m : Int)
        · skip
          have HE : Hid (∀ q, RIs zs m l round w (.returned (.bool false)) (wo.drewN q)) := fun q => by
            refine ⟨_, rfl, below_drewN HB.out q, ?_⟩
            constructor
            · intro h; cases h
            · intro h
              have := isP_ends h HV.out
              omega
          go_quiet (fail)
          have HE2 := Lib.hid (HE.out nq)
          clear HE
          generalize wo.drewN nq = wj at *
          go_wp2_with fail
          go_ret
          exact HE2.out
        · have hvn : 0 ≤ v ∧ v < (m : Int) := by omega
          have hnb : ¬ (m : Int) ≤ v := by omega
          rcases Nat.eq_zero_or_pos i with hi | hi
          · subst hi
            have HNX : Hid ((∀ (q : Nat) x, q < 0 → l[q]? = some x → x ≠ v) → OkTo zs m round l (0 + 1)) := fun h => HOK.out.next HV.out hvn (fun _ => by
              have h1 := HV.out
              cases l with
              | nil => simp at h1
              | cons a l => simp at h1; subst h1; exact Int.le_refl _) h fun x h0 => by omega
            have c1 := row_cell2 (HRS.out wo HB.out).2 HV.out
            rw [Nat.add_zero] at c1
            have hvv : ¬ v < v := by omega
            cases round
            · go_quiet (fail)
              have J1 := Lib.hid (below_drewN HB.out nq)
              have KB1 : Hid (Blk (wo.drewN nq) w.heap.size 24 #[.int .i64 (m : Int), .slice A n c]) := KB.out
              clear x0 c1 HB KB
              generalize wo.drewN nq = wj at *
              go_wp2_with fail
              go_loopg [55] 0 (fun gg s55 wi => ∃ j : Nat, s55 = .int .i64 j ∧ j + gg = 0 ∧ Hid (∀ (q : Nat) x, q < j → l[q]? = some x → x ≠ v) ∧ Hid (Below w.heap.size w wi) ∧ Hid (Blk wi w.heap.size 24 #[.int .i64 (m : Int), .slice A n c]))
              case atStart => exact ⟨0, rfl, by omega, fun q x h => absurd h (Nat.not_lt_zero q), J1, KB1⟩
              case round =>
                clear J1 KB1
                obtain ⟨j, rfl, hji, HNE, JW, KW⟩ := hrel
                rename World => wi
                have HJI := Lib.hid hji
                cases gk with
                | zero =>
                  have hge : ¬ (j : Int) < ((0 : Nat) : Int) := by omega
                  obtain rfl : j = 0 := by omega
                  have HOK2 := Lib.hid (HNX.out HNE.out)
                  clear hji
                  go_wp2_with fail
                  go_roundg g2
                  case measure => omega
                  case rel => exact ⟨0 + 1, by go_num, by have := HIK.out; omega, HOK2, JW, KW⟩
                | succ g3 => omega
            · go_quiet (fail)
              have J1 := Lib.hid (below_drewN HB.out nq)
              have KB1 : Hid (Blk (wo.drewN nq) w.heap.size 24 #[.int .i64 (m : Int), .slice A n c]) := KB.out
              clear x0 c1 HB KB
              generalize wo.drewN nq = wj at *
              go_wp2_with fail
              go_loopg [55] 0 (fun gg s55 wi => ∃ j : Nat, s55 = .int .i64 j ∧ j + gg = 0 ∧ Hid (∀ (q : Nat) x, q < j → l[q]? = some x → x ≠ v) ∧ Hid (Below w.heap.size w wi) ∧ Hid (Blk wi w.heap.size 24 #[.int .i64 (m : Int), .slice A n c]))
              case atStart => exact ⟨0, rfl, by omega, fun q x h => absurd h (Nat.not_lt_zero q), J1, KB1⟩
              case round =>
                clear J1 KB1
                obtain ⟨j, rfl, hji, HNE, JW, KW⟩ := hrel
                rename World => wi
                have HJI := Lib.hid hji
                cases gk with
                | zero =>
                  have hge : ¬ (j : Int) < ((0 : Nat) : Int) := by omega
                  obtain rfl : j = 0 := by omega
                  have HOK2 := Lib.hid (HNX.out HNE.out)
                  clear hji
                  go_wp2_with fail
                  go_roundg g2
                  case measure => omega
                  case rel => exact ⟨0 + 1, by go_num, by have := HIK.out; omega, HOK2, JW, KW⟩
                | succ g3 => omega
          · obtain ⟨i1, hi1⟩ : ∃ i1, i - 1 = i1 := ⟨_, rfl⟩
            obtain ⟨u, hu⟩ : ∃ u, l[i1]? = some u := ⟨_, List.getElem?_eq_getElem (by rw [HLL.out]; omega)⟩
            obtain ⟨p0, hp0⟩ : ∃ p0, l[0]? = some p0 := ⟨_, List.getElem?_eq_getElem (by rw [HLL.out]; omega)⟩
            have HU := Lib.hid hu
            have HP0 := Lib.hid hp0
            have hhd : l.headD 0 = p0 := by
              cases l with
              | nil => simp at hp0
              | cons a l => simpa using hp0
            have HHD := Lib.hid hhd
            have HI1 : Hid (i1 + 1 = i) := by show _ = _; omega
            have hw1 : IntKind.i64.wrap ((i : Int) - 1) = (i1 : Int) := by rw [IntKind.wrap_i64]; omega
            have hi2 : i1 < k := by omega
            have hi4 : (i1 : Int) < (k : Int) := by omega
            have hi5 : (0 : Int) < (i : Int) := by omega
            have hk0 : 0 < k := by omega
            have J0 : Hid (Below w.heap.size w wo.drew) := HB.out.drew
            have KB0 : Hid (Blk wo.drew w.heap.size 24 #[.int .i64 (m : Int), .slice A n c]) := KB.out
            have HED := Lib.hid (redge8_any (m : Int) u v A n c zs (by omega) wo.drew (HRS.out _ J0.out).1)
            clear hu hp0 hhd hi1 x0 HB KB
            cases hed : edB zs u v
            · rw [hed] at HED
              have HNE : Hid (¬ EdR zs u v) := fun h => by have := edB_iff.2 h; rw [hed] at this; cases this
              clear hed
              refine wp_region_noPanic ?_
              refine wp_region_held_drew (S := fun w' => w'.cell? ⟨w.heap.size, 0, none⟩ = some (.int .i64 (m : Int)) ∧ w'.cell? ⟨w.heap.size, 1, none⟩ = some (.slice A n c) ∧ w'.cell? ⟨gl, ol + i1, none⟩ = some (.int .i64 u) ∧ w'.cell? ⟨gl, ol, none⟩ = some (.int .i64 p0)) (by kernel_rfl) ⟨KB0.out.cell 0, KB0.out.cell 1, row_cell2 (HRS.out _ J0.out).2 HU.out, (by have h := row_cell2 (HRS.out _ J0.out).2 HP0.out; rwa [Nat.add_zero] at h)⟩ (fun hHeld => ?_)
              refine wpAnyH_take (i := 0) (oi := { dst := some 18, op := Op.move (Operand.tmp 8), type := 3, pos := "ref.go:103", after := #[], guard := none }) (v := .int .i64 v) rfl (by kernel_rfl) (by kernel_rfl) (by kernel_rfl) (fun _ _ _ h => h) (Or.inl ⟨by kernel_rfl, fun w' hSw => by (try dsimp only at hSw); go_simp⟩) (by assumption) ?_
              try simp only [Act.put, List.setIfInBounds_toArray, List.set_cons_zero, List.set_cons_succ]
              refine wpAnyH_take (i := 1) (oi := { dst := some 19, op := Op.binOp BinOp.lss 3 (Operand.tmp 18) (Operand.const (Value.int IntKind.i64 0)) 3, type := 4, pos := "ref.go:103", after := #[{ on := 0, ground := Ground.data }], guard := none }) (v := .bool false) rfl (by kernel_rfl) (by kernel_rfl) (by kernel_rfl) (fun _ _ _ h => h) (Or.inl ⟨by kernel_rfl, fun w' hSw => by (try dsimp only at hSw); go_simp⟩) (by assumption) ?_
              try simp only [Act.put, List.setIfInBounds_toArray, List.set_cons_zero, List.set_cons_succ]
              refine wpAnyH_take (i := 2) (oi := { dst := some 20, op := Op.move (Operand.tmp 19), type := 4, pos := "ref.go:103", after := #[{ on := 1, ground := Ground.data }], guard := none }) (v := .bool false) rfl (by kernel_rfl) (by kernel_rfl) (by kernel_rfl) (fun _ _ _ h => h) (Or.inl ⟨by kernel_rfl, fun w' hSw => by (try dsimp only at hSw); go_simp⟩) (by assumption) ?_
              try simp only [Act.put, List.setIfInBounds_toArray, List.set_cons_zero, List.set_cons_succ]
              refine wpAnyH_take (i := 3) (oi := { dst := some 21, op := Op.move (Operand.tmp 8), type := 3, pos := "ref.go:103", after := #[{ on := 2, ground := Ground.guard }], guard := some (2, false) }) (v := .int .i64 v) rfl (by kernel_rfl) (by kernel_rfl) (by kernel_rfl) (fun _ _ _ h => h) (Or.inl ⟨by kernel_rfl, fun w' hSw => by (try dsimp only at hSw); go_simp⟩) (by assumption) ?_
              try simp only [Act.put, List.setIfInBounds_toArray, List.set_cons_zero, List.set_cons_succ]
              refine wpAnyH_take (i := 4) (oi := { dst := some 22, op := Op.fieldAddr 24 (Operand.tmp 3) 0, type := 0, pos := "ref.go:103", after := #[{ on := 2, ground := Ground.guard }], guard := some (2, false) }) (v := .pointer (some ⟨w.heap.size, 0, none⟩)) rfl (by kernel_rfl) (by kernel_rfl) (by kernel_rfl) (fun _ _ _ h => h) (Or.inl ⟨by kernel_rfl, fun w' hSw => by (try dsimp only at hSw); go_simp⟩) (by assumption) ?_
              try simp only [Act.put, List.setIfInBounds_toArray, List.set_cons_zero, List.set_cons_succ]
              refine wpAnyH_take (i := 5) (oi := { dst := some 23, op := Op.load 3 (Operand.tmp 22), type := 3, pos := "ref.go:103", after := #[{ on := 4, ground := Ground.data }, { on := 2, ground := Ground.guard }], guard := some (2, false) }) (v := .int .i64 (m : Int)) rfl (by kernel_rfl) (by kernel_rfl) (by kernel_rfl) (fun _ _ _ h => h) (Or.inl ⟨by kernel_rfl, fun w' hSw => by (try dsimp only at hSw); go_simp⟩) (by assumption) ?_
              try simp only [Act.put, List.setIfInBounds_toArray, List.set_cons_zero, List.set_cons_succ]
              refine wpAnyH_take (i := 6) (oi := { dst := some 24, op := Op.binOp BinOp.geq 3 (Operand.tmp 21) (Operand.tmp 23) 3, type := 4, pos := "ref.go:103", after := #[{ on := 3, ground := Ground.data }, { on := 5, ground := Ground.data }, { on := 2, ground := Ground.guard }], guard := some (2, false) }) (v := .bool false) rfl (by kernel_rfl) (by kernel_rfl) (by kernel_rfl) (fun _ _ _ h => h) (Or.inl ⟨by kernel_rfl, fun w' hSw => by (try dsimp only at hSw); go_simp⟩) (by assumption) ?_
              try simp only [Act.put, List.setIfInBounds_toArray, List.set_cons_zero, List.set_cons_succ]
              refine wpAnyH_take (i := 7) (oi := { dst := some 25, op := Op.pick (Operand.tmp 20) (Operand.const (Value.bool true)) (Operand.tmp 24), type := 4, pos := "ref.go:103", after := #[{ on := 2, ground := Ground.data }, { on := 6, ground := Ground.data }], guard := none }) (v := .bool false) rfl (by kernel_rfl) (by kernel_rfl) (by kernel_rfl) (fun _ _ _ h => h) (Or.inl ⟨by kernel_rfl, fun w' hSw => by (try dsimp only at hSw); go_simp⟩) (by assumption) ?_
              try simp only [Act.put, List.setIfInBounds_toArray, List.set_cons_zero, List.set_cons_succ]
              refine wpAnyH_take (i := 8) (oi := { dst := some 26, op := Op.move (Operand.tmp 25), type := 4, pos := "ref.go:103", after := #[{ on := 7, ground := Ground.data }, { on := 2, ground := Ground.chain }], guard := none }) (v := .bool false) rfl (by kernel_rfl) (by kernel_rfl) (by kernel_rfl) (fun _ _ _ h => h) (Or.inl ⟨by kernel_rfl, fun w' hSw => by (try dsimp only at hSw); go_simp⟩) (by assumption) ?_
              try simp only [Act.put, List.setIfInBounds_toArray, List.set_cons_zero, List.set_cons_succ]
              refine wpAnyH_take (i := 9) (oi := { dst := some 27, op := Op.move (Operand.tmp 7), type := 3, pos := "ref.go:103", after := #[{ on := 8, ground := Ground.guard }], guard := some (8, false) }) (v := .int .i64 (i : Int)) rfl (by kernel_rfl) (by kernel_rfl) (by kernel_rfl) (fun _ _ _ h => h) (Or.inl ⟨by kernel_rfl, fun w' hSw => by (try dsimp only at hSw); go_simp⟩) (by assumption) ?_
              try simp only [Act.put, List.setIfInBounds_toArray, List.set_cons_zero, List.set_cons_succ]
              refine wpAnyH_take (i := 10) (oi := { dst := some 28, op := Op.binOp BinOp.gtr 3 (Operand.tmp 27) (Operand.const (Value.int IntKind.i64 0)) 3, type := 4, pos := "ref.go:103", after := #[{ on := 9, ground := Ground.data }, { on := 8, ground := Ground.guard }], guard := some (8, false) }) (v := .bool true) rfl (by kernel_rfl) (by kernel_rfl) (by kernel_rfl) (fun _ _ _ h => h) (Or.inl ⟨by kernel_rfl, fun w' hSw => by (try dsimp only at hSw); go_simp⟩) (by assumption) ?_
              try simp only [Act.put, List.setIfInBounds_toArray, List.set_cons_zero, List.set_cons_succ]
              refine wpAnyH_take (i := 11) (oi := { dst := some 29, op := Op.move (Operand.tmp 28), type := 4, pos := "ref.go:103", after := #[{ on := 10, ground := Ground.data }, { on := 8, ground := Ground.chain }, { on := 8, ground := Ground.guard }], guard := some (8, false) }) (v := .bool true) rfl (by kernel_rfl) (by kernel_rfl) (by kernel_rfl) (fun _ _ _ h => h) (Or.inl ⟨by kernel_rfl, fun w' hSw => by (try dsimp only at hSw); go_simp⟩) (by assumption) ?_
              try simp only [Act.put, List.setIfInBounds_toArray, List.set_cons_zero, List.set_cons_succ]
              refine wpAnyH_take (i := 12) (oi := { dst := some 30, op := Op.load 24 (Operand.tmp 3), type := 24, pos := "ref.go:103", after := #[{ on := 11, ground := Ground.guard }], guard := some (11, true) }) (v := .agg #[.int .i64 (m : Int), .slice A n c]) rfl (by kernel_rfl) (by kernel_rfl) (by kernel_rfl) (fun _ _ _ h => h) (Or.inl ⟨by kernel_rfl, fun w' hSw => by (try dsimp only at hSw); go_simp⟩) (by assumption) ?_
              try simp only [Act.put, List.setIfInBounds_toArray, List.set_cons_zero, List.set_cons_succ]
              refine wpAnyH_take (i := 13) (oi := { dst := some 31, op := Op.move (Operand.tmp 1), type := 30, pos := "ref.go:103", after := #[{ on := 11, ground := Ground.guard }], guard := some (11, true) }) (v := .slice (some ⟨gl, ol, none⟩) k c2) rfl (by kernel_rfl) (by kernel_rfl) (by kernel_rfl) (fun _ _ _ h => h) (Or.inl ⟨by kernel_rfl, fun w' hSw => by (try dsimp only at hSw); go_simp⟩) (by assumption) ?_
              try simp only [Act.put, List.setIfInBounds_toArray, List.set_cons_zero, List.set_cons_succ]
              refine wpAnyH_take (i := 14) (oi := { dst := some 32, op := Op.move (Operand.tmp 7), type := 3, pos := "ref.go:103", after := #[{ on := 11, ground := Ground.guard }], guard := some (11, true) }) (v := .int .i64 (i : Int)) rfl (by kernel_rfl) (by kernel_rfl) (by kernel_rfl) (fun _ _ _ h => h) (Or.inl ⟨by kernel_rfl, fun w' hSw => by (try dsimp only at hSw); go_simp⟩) (by assumption) ?_
              try simp only [Act.put, List.setIfInBounds_toArray, List.set_cons_zero, List.set_cons_succ]
              refine wpAnyH_take (i := 15) (oi := { dst := some 33, op := Op.binOp BinOp.sub 3 (Operand.tmp 32) (Operand.const (Value.int IntKind.i64 1)) 3, type := 3, pos := "ref.go:103", after := #[{ on := 14, ground := Ground.data }, { on := 11, ground := Ground.guard }], guard := some (11, true) }) (v := .int .i64 (i1 : Int)) rfl (by kernel_rfl) (by kernel_rfl) (by kernel_rfl) (fun _ _ _ h => h) (Or.inl ⟨by kernel_rfl, fun w' hSw => by (try dsimp only at hSw); go_simp⟩) (by assumption) ?_
              try simp only [Act.put, List.setIfInBounds_toArray, List.set_cons_zero, List.set_cons_succ]
              refine wpAnyH_take (i := 16) (oi := { dst := some 34, op := Op.indexAddr 30 (Operand.tmp 31) (Operand.tmp 33), type := 0, pos := "ref.go:103", after := #[{ on := 13, ground := Ground.data }, { on := 15, ground := Ground.data }, { on := 11, ground := Ground.guard }], guard := some (11, true) }) (v := .pointer (some ⟨gl, ol + i1, none⟩)) rfl (by kernel_rfl) (by kernel_rfl) (by kernel_rfl) (fun _ _ _ h => h) (Or.inl ⟨by kernel_rfl, fun w' hSw => by (try dsimp only at hSw); go_simp⟩) (by assumption) ?_
              try simp only [Act.put, List.setIfInBounds_toArray, List.set_cons_zero, List.set_cons_succ]
              refine wpAnyH_take (i := 17) (oi := { dst := some 35, op := Op.load 3 (Operand.tmp 34), type := 3, pos := "ref.go:103", after := #[{ on := 16, ground := Ground.data }, { on := 11, ground := Ground.guard }], guard := some (11, true) }) (v := .int .i64 u) rfl (by kernel_rfl) (by kernel_rfl) (by kernel_rfl) (fun _ _ _ h => h) (Or.inl ⟨by kernel_rfl, fun w' hSw => by (try dsimp only at hSw); go_simp⟩) (by assumption) ?_
              try simp only [Act.put, List.setIfInBounds_toArray, List.set_cons_zero, List.set_cons_succ]
              refine wpAnyH_take (i := 18) (oi := { dst := some 36, op := Op.move (Operand.tmp 8), type := 3, pos := "ref.go:103", after := #[{ on := 11, ground := Ground.guard }], guard := some (11, true) }) (v := .int .i64 v) rfl (by kernel_rfl) (by kernel_rfl) (by kernel_rfl) (fun _ _ _ h => h) (Or.inl ⟨by kernel_rfl, fun w' hSw => by (try dsimp only at hSw); go_simp⟩) (by assumption) ?_
              try simp only [Act.put, List.setIfInBounds_toArray, List.set_cons_zero, List.set_cons_succ]
              refine wpAnyH_ready (rs := [19]) (by kernel_rfl) (by simp) ?_
              refine AllReadyH.cons (o := { dst := some 37, op := Op.call { callee := Callee.value (Operand.func 57), args := #[Operand.tmp 30, Operand.tmp 35, Operand.tmp 36], argTypes := #[24, 3, 3] }, type := 4, pos := "ref.go:103", after := #[{ on := 12, ground := Ground.data }, { on := 17, ground := Ground.data }, { on := 18, ground := Ground.data }, { on := 11, ground := Ground.chain }, { on := 11, ground := Ground.guard }], guard := some (11, true) }) rfl (fun K hK => ?_) AllReadyH.nil
              go_simp
              refine HED.out.mono ?_
              rintro e v1 ⟨rfl, b⟩
              have J1 : Hid (Below w.heap.size w v1) := J0.out.trans (b.mono J0.out.size)
              have KB1 := Lib.hid (KB0.out.below b KB0.out.lt)
              clear b J0 KB0 HED hHeld
              refine hK.out _ _ ⟨KB1.out.cell 0, KB1.out.cell 1, row_cell2 (HRS.out _ J1.out).2 HU.out, (by have h := row_cell2 (HRS.out _ J1.out).2 HP0.out; rwa [Nat.add_zero] at h)⟩ (fun hHeld => ?_)
              clear hK K
              try simp only [Act.put, List.setIfInBounds_toArray, List.set_cons_zero, List.set_cons_succ]
              refine wpAnyH_take (i := 20) (oi := { dst := some 38, op := Op.unOp UnOp.not 4 (Operand.tmp 37), type := 4, pos := "ref.go:103", after := #[{ on := 19, ground := Ground.data }, { on := 11, ground := Ground.guard }], guard := some (11, true) }) (v := .bool true) rfl (by kernel_rfl) (by kernel_rfl) (by kernel_rfl) (fun _ _ _ h => h) (Or.inl ⟨by kernel_rfl, fun w' hSw => by (try dsimp only at hSw); go_simp⟩) (by assumption) ?_
              try simp only [Act.put, List.setIfInBounds_toArray, List.set_cons_zero, List.set_cons_succ]
              refine wpAnyH_take (i := 21) (oi := { dst := some 39, op := Op.pick (Operand.tmp 29) (Operand.tmp 38) (Operand.const (Value.bool false)), type := 4, pos := "ref.go:103", after := #[{ on := 11, ground := Ground.data }, { on := 20, ground := Ground.data }, { on := 8, ground := Ground.guard }], guard := some (8, false) }) (v := .bool true) rfl (by kernel_rfl) (by kernel_rfl) (by kernel_rfl) (fun _ _ _ h => h) (Or.inl ⟨by kernel_rfl, fun w' hSw => by (try dsimp only at hSw); go_simp⟩) (by assumption) ?_
              try simp only [Act.put, List.setIfInBounds_toArray, List.set_cons_zero, List.set_cons_succ]
              refine wpAnyH_take (i := 22) (oi := { dst := some 40, op := Op.pick (Operand.tmp 26) (Operand.const (Value.bool true)) (Operand.tmp 39), type := 4, pos := "ref.go:103", after := #[{ on := 8, ground := Ground.data }, { on := 21, ground := Ground.data }], guard := none }) (v := .bool true) rfl (by kernel_rfl) (by kernel_rfl) (by kernel_rfl) (fun _ _ _ h => h) (Or.inl ⟨by kernel_rfl, fun w' hSw => by (try dsimp only at hSw); go_simp⟩) (by assumption) ?_
              try simp only [Act.put, List.setIfInBounds_toArray, List.set_cons_zero, List.set_cons_succ]
              refine wpAnyH_take (i := 23) (oi := { dst := some 41, op := Op.move (Operand.tmp 40), type := 4, pos := "ref.go:103", after := #[{ on := 22, ground := Ground.data }, { on := 19, ground := Ground.chain }], guard := none }) (v := .bool true) rfl (by kernel_rfl) (by kernel_rfl) (by kernel_rfl) (fun _ _ _ h => h) (Or.inl ⟨by kernel_rfl, fun w' hSw => by (try dsimp only at hSw); go_simp⟩) (by assumption) ?_
              try simp only [Act.put, List.setIfInBounds_toArray, List.set_cons_zero, List.set_cons_succ]
              refine wpAnyH_take (i := 24) (oi := { dst := some 42, op := Op.move (Operand.tmp 2), type := 4, pos := "ref.go:103", after := #[{ on := 23, ground := Ground.guard }], guard := some (23, false) }) (v := undef) rfl (by kernel_rfl) (by kernel_rfl) (by kernel_rfl) (fun _ _ _ h => h) (Or.inr ⟨by kernel_rfl, rfl⟩) (by assumption) ?_
              try simp only [Act.put, List.setIfInBounds_toArray, List.set_cons_zero, List.set_cons_succ]
              refine wpAnyH_take (i := 25) (oi := { dst := some 43, op := Op.move (Operand.tmp 42), type := 4, pos := "ref.go:103", after := #[{ on := 24, ground := Ground.data }, { on := 23, ground := Ground.chain }, { on := 23, ground := Ground.guard }], guard := some (23, false) }) (v := undef) rfl (by kernel_rfl) (by kernel_rfl) (by kernel_rfl) (fun _ _ _ h => h) (Or.inr ⟨by kernel_rfl, rfl⟩) (by assumption) ?_
              try simp only [Act.put, List.setIfInBounds_toArray, List.set_cons_zero, List.set_cons_succ]
              refine wpAnyH_take (i := 26) (oi := { dst := some 44, op := Op.move (Operand.tmp 8), type := 3, pos := "ref.go:103", after := #[{ on := 25, ground := Ground.guard }], guard := some (25, true) }) (v := undef) rfl (by kernel_rfl) (by kernel_rfl) (by kernel_rfl) (fun _ _ _ h => h) (Or.inr ⟨by kernel_rfl, rfl⟩) (by assumption) ?_
              try simp only [Act.put, List.setIfInBounds_toArray, List.set_cons_zero, List.set_cons_succ]
              refine wpAnyH_take (i := 27) (oi := { dst := some 45, op := Op.move (Operand.tmp 1), type := 30, pos := "ref.go:103", after := #[{ on := 25, ground := Ground.guard }], guard := some (25, true) }) (v := undef) rfl (by kernel_rfl) (by kernel_rfl) (by kernel_rfl) (fun _ _ _ h => h) (Or.inr ⟨by kernel_rfl, rfl⟩) (by assumption) ?_
              try simp only [Act.put, List.setIfInBounds_toArray, List.set_cons_zero, List.set_cons_succ]
              refine wpAnyH_take (i := 28) (oi := { dst := some 46, op := Op.indexAddr 30 (Operand.tmp 45) (Operand.const (Value.int IntKind.i64 0)), type := 0, pos := "ref.go:103", after := #[{ on := 27, ground := Ground.data }, { on := 25, ground := Ground.guard }], guard := some (25, true) }) (v := undef) rfl (by kernel_rfl) (by kernel_rfl) (by kernel_rfl) (fun _ _ _ h => h) (Or.inr ⟨by kernel_rfl, rfl⟩) (by assumption) ?_
              try simp only [Act.put, List.setIfInBounds_toArray, List.set_cons_zero, List.set_cons_succ]
              refine wpAnyH_take (i := 29) (oi := { dst := some 47, op := Op.load 3 (Operand.tmp 46), type := 3, pos := "ref.go:103", after := #[{ on := 28, ground := Ground.data }, { on := 25, ground := Ground.guard }], guard := some (25, true) }) (v := undef) rfl (by kernel_rfl) (by kernel_rfl) (by kernel_rfl) (fun _ _ _ h => h) (Or.inr ⟨by kernel_rfl, rfl⟩) (by assumption) ?_
              try simp only [Act.put, List.setIfInBounds_toArray, List.set_cons_zero, List.set_cons_succ]
              refine wpAnyH_take (i := 30) (oi := { dst := some 48, op := Op.binOp BinOp.lss 3 (Operand.tmp 44) (Operand.tmp 47) 3, type := 4, pos := "ref.go:103", after := #[{ on := 26, ground := Ground.data }, { on := 29, ground := Ground.data }, { on := 25, ground := Ground.guard }], guard := some (25, true) }) (v := undef) rfl (by kernel_rfl) (by kernel_rfl) (by kernel_rfl) (fun _ _ _ h => h) (Or.inr ⟨by kernel_rfl, rfl⟩) (by assumption) ?_
              try simp only [Act.put, List.setIfInBounds_toArray, List.set_cons_zero, List.set_cons_succ]
              refine wpAnyH_take (i := 31) (oi := { dst := some 49, op := Op.pick (Operand.tmp 43) (Operand.tmp 48) (Operand.const (Value.bool false)), type := 4, pos := "ref.go:103", after := #[{ on := 25, ground := Ground.data }, { on := 30, ground := Ground.data }, { on := 23, ground := Ground.guard }], guard := some (23, false) }) (v := undef) rfl (by kernel_rfl) (by kernel_rfl) (by kernel_rfl) (fun _ _ _ h => h) (Or.inr ⟨by kernel_rfl, rfl⟩) (by assumption) ?_
              try simp only [Act.put, List.setIfInBounds_toArray, List.set_cons_zero, List.set_cons_succ]
              refine wpAnyH_take (i := 32) (oi := { dst := some 50, op := Op.pick (Operand.tmp 41) (Operand.const (Value.bool true)) (Operand.tmp 49), type := 4, pos := "ref.go:103", after := #[{ on := 23, ground := Ground.data }, { on := 31, ground := Ground.data }], guard := none }) (v := .bool true) rfl (by kernel_rfl) (by kernel_rfl) (by kernel_rfl) (fun _ _ _ h => h) (Or.inl ⟨by kernel_rfl, fun w' hSw => by (try dsimp only at hSw); go_simp⟩) (by assumption) ?_
              try simp only [Act.put, List.setIfInBounds_toArray, List.set_cons_zero, List.set_cons_succ]
              refine wpAnyH_done (by kernel_rfl) ?_ _
              refine NoPanic.normal ?_
              have HE : Hid (RIs zs m l round w (.returned (.bool false)) v1) := by
                refine ⟨_, rfl, J1.out, ?_⟩
                constructor
                · intro h; cases h
                · intro h
                  exact absurd ((isP_way h).on i1 u v HU.out (by rw [HI1.out]; exact HV.out)) HNE.out
              go_wp2_with fail
              go_ret
              exact HE.out
            · rw [hed] at HED
              have HEY : Hid (EdR zs u v) := edB_iff.1 hed
              clear hed
              cases round
              · skip
                refine wp_region_noPanic ?_
                refine wp_region_held_drew (S := fun w' => w'.cell? ⟨w.heap.size, 0, none⟩ = some (.int .i64 (m : Int)) ∧ w'.cell? ⟨w.heap.size, 1, none⟩ = some (.slice A n c) ∧ w'.cell? ⟨gl, ol + i1, none⟩ = some (.int .i64 u) ∧ w'.cell? ⟨gl, ol, none⟩ = some (.int .i64 p0)) (by kernel_rfl) ⟨KB0.out.cell 0, KB0.out.cell 1, row_cell2 (HRS.out _ J0.out).2 HU.out, (by have h := row_cell2 (HRS.out _ J0.out).2 HP0.out; rwa [Nat.add_zero] at h)⟩ (fun hHeld => ?_)
                refine wpAnyH_take (i := 0) (oi := { dst := some 18, op := Op.move (Operand.tmp 8), type := 3, pos := "ref.go:103", after := #[], guard := none }) (v := .int .i64 v) rfl (by kernel_rfl) (by kernel_rfl) (by kernel_rfl) (fun _ _ _ h => h) (Or.inl ⟨by kernel_rfl, fun w' hSw => by (try dsimp only at hSw); go_simp⟩) (by assumption) ?_
                try simp only [Act.put, List.setIfInBounds_toArray, List.set_cons_zero, List.set_cons_succ]
                refine wpAnyH_take (i := 1) (oi := { dst := some 19, op := Op.binOp BinOp.lss 3 (Operand.tmp 18) (Operand.const (Value.int IntKind.i64 0)) 3, type := 4, pos := "ref.go:103", after := #[{ on := 0, ground := Ground.data }], guard := none }) (v := .bool false) rfl (by kernel_rfl) (by kernel_rfl) (by kernel_rfl) (fun _ _ _ h => h) (Or.inl ⟨by kernel_rfl, fun w' hSw => by (try dsimp only at hSw); go_simp⟩) (by assumption) ?_
                try simp only [Act.put, List.setIfInBounds_toArray, List.set_cons_zero, List.set_cons_succ]
                refine wpAnyH_take (i := 2) (oi := { dst := some 20, op := Op.move (Operand.tmp 19), type := 4, pos := "ref.go:103", after := #[{ on := 1, ground := Ground.data }], guard := none }) (v := .bool false) rfl (by kernel_rfl) (by kernel_rfl) (by kernel_rfl) (fun _ _ _ h => h) (Or.inl ⟨by kernel_rfl, fun w' hSw => by (try dsimp only at hSw); go_simp⟩) (by assumption) ?_
                try simp only [Act.put, List.setIfInBounds_toArray, List.set_cons_zero, List.set_cons_succ]
                refine wpAnyH_take (i := 3) (oi := { dst := some 21, op := Op.move (Operand.tmp 8), type := 3, pos := "ref.go:103", after := #[{ on := 2, ground := Ground.guard }], guard := some (2, false) }) (v := .int .i64 v) rfl (by kernel_rfl) (by kernel_rfl) (by kernel_rfl) (fun _ _ _ h => h) (Or.inl ⟨by kernel_rfl, fun w' hSw => by (try dsimp only at hSw); go_simp⟩) (by assumption) ?_
                try simp only [Act.put, List.setIfInBounds_toArray, List.set_cons_zero, List.set_cons_succ]
                refine wpAnyH_take (i := 4) (oi := { dst := some 22, op := Op.fieldAddr 24 (Operand.tmp 3) 0, type := 0, pos := "ref.go:103", after := #[{ on := 2, ground := Ground.guard }], guard := some (2, false) }) (v := .pointer (some ⟨w.heap.size, 0, none⟩)) rfl (by kernel_rfl) (by kernel_rfl) (by kernel_rfl) (fun _ _ _ h => h) (Or.inl ⟨by kernel_rfl, fun w' hSw => by (try dsimp only at hSw); go_simp⟩) (by assumption) ?_
                try simp only [Act.put, List.setIfInBounds_toArray, List.set_cons_zero, List.set_cons_succ]
                refine wpAnyH_take (i := 5) (oi := { dst := some 23, op := Op.load 3 (Operand.tmp 22), type := 3, pos := "ref.go:103", after := #[{ on := 4, ground := Ground.data }, { on := 2, ground := Ground.guard }], guard := some (2, false) }) (v := .int .i64 (m : Int)) rfl (by kernel_rfl) (by kernel_rfl) (by kernel_rfl) (fun _ _ _ h => h) (Or.inl ⟨by kernel_rfl, fun w' hSw => by (try dsimp only at hSw); go_simp⟩) (by assumption) ?_
                try simp only [Act.put, List.setIfInBounds_toArray, List.set_cons_zero, List.set_cons_succ]
                refine wpAnyH_take (i := 6) (oi := { dst := some 24, op := Op.binOp BinOp.geq 3 (Operand.tmp 21) (Operand.tmp 23) 3, type := 4, pos := "ref.go:103", after := #[{ on := 3, ground := Ground.data }, { on := 5, ground := Ground.data }, { on := 2, ground := Ground.guard }], guard := some (2, false) }) (v := .bool false) rfl (by kernel_rfl) (by kernel_rfl) (by kernel_rfl) (fun _ _ _ h => h) (Or.inl ⟨by kernel_rfl, fun w' hSw => by (try dsimp only at hSw); go_simp⟩) (by assumption) ?_
                try simp only [Act.put, List.setIfInBounds_toArray, List.set_cons_zero, List.set_cons_succ]
                refine wpAnyH_take (i := 7) (oi := { dst := some 25, op := Op.pick (Operand.tmp 20) (Operand.const (Value.bool true)) (Operand.tmp 24), type := 4, pos := "ref.go:103", after := #[{ on := 2, ground := Ground.data }, { on := 6, ground := Ground.data }], guard := none }) (v := .bool false) rfl (by kernel_rfl) (by kernel_rfl) (by kernel_rfl) (fun _ _ _ h => h) (Or.inl ⟨by kernel_rfl, fun w' hSw => by (try dsimp only at hSw); go_simp⟩) (by assumption) ?_
                try simp only [Act.put, List.setIfInBounds_toArray, List.set_cons_zero, List.set_cons_succ]
                refine wpAnyH_take (i := 8) (oi := { dst := some 26, op := Op.move (Operand.tmp 25), type := 4, pos := "ref.go:103", after := #[{ on := 7, ground := Ground.data }, { on := 2, ground := Ground.chain }], guard := none }) (v := .bool false) rfl (by kernel_rfl) (by kernel_rfl) (by kernel_rfl) (fun _ _ _ h => h) (Or.inl ⟨by kernel_rfl, fun w' hSw => by (try dsimp only at hSw); go_simp⟩) (by assumption) ?_
                try simp only [Act.put, List.setIfInBounds_toArray, List.set_cons_zero, List.set_cons_succ]
                refine wpAnyH_take (i := 9) (oi := { dst := some 27, op := Op.move (Operand.tmp 7), type := 3, pos := "ref.go:103", after := #[{ on := 8, ground := Ground.guard }], guard := some (8, false) }) (v := .int .i64 (i : Int)) rfl (by kernel_rfl) (by kernel_rfl) (by kernel_rfl) (fun _ _ _ h => h) (Or.inl ⟨by kernel_rfl, fun w' hSw => by (try dsimp only at hSw); go_simp⟩) (by assumption) ?_
                try simp only [Act.put, List.setIfInBounds_toArray, List.set_cons_zero, List.set_cons_succ]
                refine wpAnyH_take (i := 10) (oi := { dst := some 28, op := Op.binOp BinOp.gtr 3 (Operand.tmp 27) (Operand.const (Value.int IntKind.i64 0)) 3, type := 4, pos := "ref.go:103", after := #[{ on := 9, ground := Ground.data }, { on := 8, ground := Ground.guard }], guard := some (8, false) }) (v := .bool true) rfl (by kernel_rfl) (by kernel_rfl) (by kernel_rfl) (fun _ _ _ h => h) (Or.inl ⟨by kernel_rfl, fun w' hSw => by (try dsimp only at hSw); go_simp⟩) (by assumption) ?_
                try simp only [Act.put, List.setIfInBounds_toArray, List.set_cons_zero, List.set_cons_succ]
                refine wpAnyH_take (i := 11) (oi := { dst := some 29, op := Op.move (Operand.tmp 28), type := 4, pos := "ref.go:103", after := #[{ on := 10, ground := Ground.data }, { on := 8, ground := Ground.chain }, { on := 8, ground := Ground.guard }], guard := some (8, false) }) (v := .bool true) rfl (by kernel_rfl) (by kernel_rfl) (by kernel_rfl) (fun _ _ _ h => h) (Or.inl ⟨by kernel_rfl, fun w' hSw => by (try dsimp only at hSw); go_simp⟩) (by assumption) ?_
                try simp only [Act.put, List.setIfInBounds_toArray, List.set_cons_zero, List.set_cons_succ]
                refine wpAnyH_take (i := 12) (oi := { dst := some 30, op := Op.load 24 (Operand.tmp 3), type := 24, pos := "ref.go:103", after := #[{ on := 11, ground := Ground.guard }], guard := some (11, true) }) (v := .agg #[.int .i64 (m : Int), .slice A n c]) rfl (by kernel_rfl) (by kernel_rfl) (by kernel_rfl) (fun _ _ _ h => h) (Or.inl ⟨by kernel_rfl, fun w' hSw => by (try dsimp only at hSw); go_simp⟩) (by assumption) ?_
                try simp only [Act.put, List.setIfInBounds_toArray, List.set_cons_zero, List.set_cons_succ]
                refine wpAnyH_take (i := 13) (oi := { dst := some 31, op := Op.move (Operand.tmp 1), type := 30, pos := "ref.go:103", after := #[{ on := 11, ground := Ground.guard }], guard := some (11, true) }) (v := .slice (some ⟨gl, ol, none⟩) k c2) rfl (by kernel_rfl) (by kernel_rfl) (by kernel_rfl) (fun _ _ _ h => h) (Or.inl ⟨by kernel_rfl, fun w' hSw => by (try dsimp only at hSw); go_simp⟩) (by assumption) ?_
                try simp only [Act.put, List.setIfInBounds_toArray, List.set_cons_zero, List.set_cons_succ]
                refine wpAnyH_take (i := 14) (oi := { dst := some 32, op := Op.move (Operand.tmp 7), type := 3, pos := "ref.go:103", after := #[{ on := 11, ground := Ground.guard }], guard := some (11, true) }) (v := .int .i64 (i : Int)) rfl (by kernel_rfl) (by kernel_rfl) (by kernel_rfl) (fun _ _ _ h => h) (Or.inl ⟨by kernel_rfl, fun w' hSw => by (try dsimp only at hSw); go_simp⟩) (by assumption) ?_
                try simp only [Act.put, List.setIfInBounds_toArray, List.set_cons_zero, List.set_cons_succ]
                refine wpAnyH_take (i := 15) (oi := { dst := some 33, op := Op.binOp BinOp.sub 3 (Operand.tmp 32) (Operand.const (Value.int IntKind.i64 1)) 3, type := 3, pos := "ref.go:103", after := #[{ on := 14, ground := Ground.data }, { on := 11, ground := Ground.guard }], guard := some (11, true) }) (v := .int .i64 (i1 : Int)) rfl (by kernel_rfl) (by kernel_rfl) (by kernel_rfl) (fun _ _ _ h => h) (Or.inl ⟨by kernel_rfl, fun w' hSw => by (try dsimp only at hSw); go_simp⟩) (by assumption) ?_
                try simp only [Act.put, List.setIfInBounds_toArray, List.set_cons_zero, List.set_cons_succ]
                refine wpAnyH_take (i := 16) (oi := { dst := some 34, op := Op.indexAddr 30 (Operand.tmp 31) (Operand.tmp 33), type := 0, pos := "ref.go:103", after := #[{ on := 13, ground := Ground.data }, { on := 15, ground := Ground.data }, { on := 11, ground := Ground.guard }], guard := some (11, true) }) (v := .pointer (some ⟨gl, ol + i1, none⟩)) rfl (by kernel_rfl) (by kernel_rfl) (by kernel_rfl) (fun _ _ _ h => h) (Or.inl ⟨by kernel_rfl, fun w' hSw => by (try dsimp only at hSw); go_simp⟩) (by assumption) ?_
                try simp only [Act.put, List.setIfInBounds_toArray, List.set_cons_zero, List.set_cons_succ]
                refine wpAnyH_take (i := 17) (oi := { dst := some 35, op := Op.load 3 (Operand.tmp 34), type := 3, pos := "ref.go:103", after := #[{ on := 16, ground := Ground.data }, { on := 11, ground := Ground.guard }], guard := some (11, true) }) (v := .int .i64 u) rfl (by kernel_rfl) (by kernel_rfl) (by kernel_rfl) (fun _ _ _ h => h) (Or.inl ⟨by kernel_rfl, fun w' hSw => by (try dsimp only at hSw); go_simp⟩) (by assumption) ?_
                try simp only [Act.put, List.setIfInBounds_toArray, List.set_cons_zero, List.set_cons_succ]
                refine wpAnyH_take (i := 18) (oi := { dst := some 36, op := Op.move (Operand.tmp 8), type := 3, pos := "ref.go:103", after := #[{ on := 11, ground := Ground.guard }], guard := some (11, true) }) (v := .int .i64 v) rfl (by kernel_rfl) (by kernel_rfl) (by kernel_rfl) (fun _ _ _ h => h) (Or.inl ⟨by kernel_rfl, fun w' hSw => by (try dsimp only at hSw); go_simp⟩) (by assumption) ?_
                try simp only [Act.put, List.setIfInBounds_toArray, List.set_cons_zero, List.set_cons_succ]
                refine wpAnyH_ready (rs := [19]) (by kernel_rfl) (by simp) ?_
                refine AllReadyH.cons (o := { dst := some 37, op := Op.call { callee := Callee.value (Operand.func 57), args := #[Operand.tmp 30, Operand.tmp 35, Operand.tmp 36], argTypes := #[24, 3, 3] }, type := 4, pos := "ref.go:103", after := #[{ on := 12, ground := Ground.data }, { on := 17, ground := Ground.data }, { on := 18, ground := Ground.data }, { on := 11, ground := Ground.chain }, { on := 11, ground := Ground.guard }], guard := some (11, true) }) rfl (fun K hK => ?_) AllReadyH.nil
                go_simp
                refine HED.out.mono ?_
                rintro e v1 ⟨rfl, b⟩
                have J1 : Hid (Below w.heap.size w v1) := J0.out.trans (b.mono J0.out.size)
                have KB1 := Lib.hid (KB0.out.below b KB0.out.lt)
                clear b J0 KB0 HED hHeld
                refine hK.out _ _ ⟨KB1.out.cell 0, KB1.out.cell 1, row_cell2 (HRS.out _ J1.out).2 HU.out, (by have h := row_cell2 (HRS.out _ J1.out).2 HP0.out; rwa [Nat.add_zero] at h)⟩ (fun hHeld => ?_)
                clear hK K
                try simp only [Act.put, List.setIfInBounds_toArray, List.set_cons_zero, List.set_cons_succ]
                refine wpAnyH_take (i := 20) (oi := { dst := some 38, op := Op.unOp UnOp.not 4 (Operand.tmp 37), type := 4, pos := "ref.go:103", after := #[{ on := 19, ground := Ground.data }, { on := 11, ground := Ground.guard }], guard := some (11, true) }) (v := .bool false) rfl (by kernel_rfl) (by kernel_rfl) (by kernel_rfl) (fun _ _ _ h => h) (Or.inl ⟨by kernel_rfl, fun w' hSw => by (try dsimp only at hSw); go_simp⟩) (by assumption) ?_
                try simp only [Act.put, List.setIfInBounds_toArray, List.set_cons_zero, List.set_cons_succ]
                refine wpAnyH_take (i := 21) (oi := { dst := some 39, op := Op.pick (Operand.tmp 29) (Operand.tmp 38) (Operand.const (Value.bool false)), type := 4, pos := "ref.go:103", after := #[{ on := 11, ground := Ground.data }, { on := 20, ground := Ground.data }, { on := 8, ground := Ground.guard }], guard := some (8, false) }) (v := .bool false) rfl (by kernel_rfl) (by kernel_rfl) (by kernel_rfl) (fun _ _ _ h => h) (Or.inl ⟨by kernel_rfl, fun w' hSw => by (try dsimp only at hSw); go_simp⟩) (by assumption) ?_
                try simp only [Act.put, List.setIfInBounds_toArray, List.set_cons_zero, List.set_cons_succ]
                refine wpAnyH_take (i := 22) (oi := { dst := some 40, op := Op.pick (Operand.tmp 26) (Operand.const (Value.bool true)) (Operand.tmp 39), type := 4, pos := "ref.go:103", after := #[{ on := 8, ground := Ground.data }, { on := 21, ground := Ground.data }], guard := none }) (v := .bool false) rfl (by kernel_rfl) (by kernel_rfl) (by kernel_rfl) (fun _ _ _ h => h) (Or.inl ⟨by kernel_rfl, fun w' hSw => by (try dsimp only at hSw); go_simp⟩) (by assumption) ?_
                try simp only [Act.put, List.setIfInBounds_toArray, List.set_cons_zero, List.set_cons_succ]
                refine wpAnyH_take (i := 23) (oi := { dst := some 41, op := Op.move (Operand.tmp 40), type := 4, pos := "ref.go:103", after := #[{ on := 22, ground := Ground.data }, { on := 19, ground := Ground.chain }], guard := none }) (v := .bool false) rfl (by kernel_rfl) (by kernel_rfl) (by kernel_rfl) (fun _ _ _ h => h) (Or.inl ⟨by kernel_rfl, fun w' hSw => by (try dsimp only at hSw); go_simp⟩) (by assumption) ?_
                try simp only [Act.put, List.setIfInBounds_toArray, List.set_cons_zero, List.set_cons_succ]
                refine wpAnyH_take (i := 24) (oi := { dst := some 42, op := Op.move (Operand.tmp 2), type := 4, pos := "ref.go:103", after := #[{ on := 23, ground := Ground.guard }], guard := some (23, false) }) (v := .bool false) rfl (by kernel_rfl) (by kernel_rfl) (by kernel_rfl) (fun _ _ _ h => h) (Or.inl ⟨by kernel_rfl, fun w' hSw => by (try dsimp only at hSw); go_simp⟩) (by assumption) ?_
                try simp only [Act.put, List.setIfInBounds_toArray, List.set_cons_zero, List.set_cons_succ]
                refine wpAnyH_take (i := 25) (oi := { dst := some 43, op := Op.move (Operand.tmp 42), type := 4, pos := "ref.go:103", after := #[{ on := 24, ground := Ground.data }, { on := 23, ground := Ground.chain }, { on := 23, ground := Ground.guard }], guard := some (23, false) }) (v := .bool false) rfl (by kernel_rfl) (by kernel_rfl) (by kernel_rfl) (fun _ _ _ h => h) (Or.inl ⟨by kernel_rfl, fun w' hSw => by (try dsimp only at hSw); go_simp⟩) (by assumption) ?_
                try simp only [Act.put, List.setIfInBounds_toArray, List.set_cons_zero, List.set_cons_succ]
                refine wpAnyH_take (i := 26) (oi := { dst := some 44, op := Op.move (Operand.tmp 8), type := 3, pos := "ref.go:103", after := #[{ on := 25, ground := Ground.guard }], guard := some (25, true) }) (v := undef) rfl (by kernel_rfl) (by kernel_rfl) (by kernel_rfl) (fun _ _ _ h => h) (Or.inr ⟨by kernel_rfl, rfl⟩) (by assumption) ?_
                try simp only [Act.put, List.setIfInBounds_toArray, List.set_cons_zero, List.set_cons_succ]
                refine wpAnyH_take (i := 27) (oi := { dst := some 45, op := Op.move (Operand.tmp 1), type := 30, pos := "ref.go:103", after := #[{ on := 25, ground := Ground.guard }], guard := some (25, true) }) (v := undef) rfl (by kernel_rfl) (by kernel_rfl) (by kernel_rfl) (fun _ _ _ h => h) (Or.inr ⟨by kernel_rfl, rfl⟩) (by assumption) ?_
                try simp only [Act.put, List.setIfInBounds_toArray, List.set_cons_zero, List.set_cons_succ]
                refine wpAnyH_take (i := 28) (oi := { dst := some 46, op := Op.indexAddr 30 (Operand.tmp 45) (Operand.const (Value.int IntKind.i64 0)), type := 0, pos := "ref.go:103", after := #[{ on := 27, ground := Ground.data }, { on := 25, ground := Ground.guard }], guard := some (25, true) }) (v := undef) rfl (by kernel_rfl) (by kernel_rfl) (by kernel_rfl) (fun _ _ _ h => h) (Or.inr ⟨by kernel_rfl, rfl⟩) (by assumption) ?_
                try simp only [Act.put, List.setIfInBounds_toArray, List.set_cons_zero, List.set_cons_succ]
                refine wpAnyH_take (i := 29) (oi := { dst := some 47, op := Op.load 3 (Operand.tmp 46), type := 3, pos := "ref.go:103", after := #[{ on := 28, ground := Ground.data }, { on := 25, ground := Ground.guard }], guard := some (25, true) }) (v := undef) rfl (by kernel_rfl) (by kernel_rfl) (by kernel_rfl) (fun _ _ _ h => h) (Or.inr ⟨by kernel_rfl, rfl⟩) (by assumption) ?_
                try simp only [Act.put, List.setIfInBounds_toArray, List.set_cons_zero, List.set_cons_succ]
                refine wpAnyH_take (i := 30) (oi := { dst := some 48, op := Op.binOp BinOp.lss 3 (Operand.tmp 44) (Operand.tmp 47) 3, type := 4, pos := "ref.go:103", after := #[{ on := 26, ground := Ground.data }, { on := 29, ground := Ground.data }, { on := 25, ground := Ground.guard }], guard := some (25, true) }) (v := undef) rfl (by kernel_rfl) (by kernel_rfl) (by kernel_rfl) (fun _ _ _ h => h) (Or.inr ⟨by kernel_rfl, rfl⟩) (by assumption) ?_
                try simp only [Act.put, List.setIfInBounds_toArray, List.set_cons_zero, List.set_cons_succ]
                refine wpAnyH_take (i := 31) (oi := { dst := some 49, op := Op.pick (Operand.tmp 43) (Operand.tmp 48) (Operand.const (Value.bool false)), type := 4, pos := "ref.go:103", after := #[{ on := 25, ground := Ground.data }, { on := 30, ground := Ground.data }, { on := 23, ground := Ground.guard }], guard := some (23, false) }) (v := .bool false) rfl (by kernel_rfl) (by kernel_rfl) (by kernel_rfl) (fun _ _ _ h => h) (Or.inl ⟨by kernel_rfl, fun w' hSw => by (try dsimp only at hSw); go_simp⟩) (by assumption) ?_
                try simp only [Act.put, List.setIfInBounds_toArray, List.set_cons_zero, List.set_cons_succ]
                refine wpAnyH_take (i := 32) (oi := { dst := some 50, op := Op.pick (Operand.tmp 41) (Operand.const (Value.bool true)) (Operand.tmp 49), type := 4, pos := "ref.go:103", after := #[{ on := 23, ground := Ground.data }, { on := 31, ground := Ground.data }], guard := none }) (v := .bool false) rfl (by kernel_rfl) (by kernel_rfl) (by kernel_rfl) (fun _ _ _ h => h) (Or.inl ⟨by kernel_rfl, fun w' hSw => by (try dsimp only at hSw); go_simp⟩) (by assumption) ?_
                try simp only [Act.put, List.setIfInBounds_toArray, List.set_cons_zero, List.set_cons_succ]
                refine wpAnyH_done (by kernel_rfl) ?_ _
                refine NoPanic.normal ?_
                have HNX : Hid ((∀ (q : Nat) x, q < i → l[q]? = some x → x ≠ v) → OkTo zs m false l (i + 1)) := fun h => HOK.out.next HV.out hvn (fun h => by cases h) h fun x _ hx => by
                  have h1 := HU.out
                  rw [show i - 1 = i1 by have := HI1.out; omega, h1] at hx
                  injection hx with hx
                  subst hx
                  exact HEY.out
                clear HU HP0 hw1
                go_wp2_with fail
                go_loopg [55] i (fun gg s55 wi => ∃ j : Nat, s55 = .int .i64 j ∧ j + gg = i ∧ Hid (∀ (q : Nat) x, q < j → l[q]? = some x → x ≠ v) ∧ Hid (Below w.heap.size w wi) ∧ Hid (Blk wi w.heap.size 24 #[.int .i64 (m : Int), .slice A n c]))
                case atStart => exact ⟨0, rfl, by omega, fun q x h => absurd h (Nat.not_lt_zero q), J1, KB1⟩
                case round =>
                  clear J1 KB1
                  obtain ⟨j, rfl, hji, HNE, JW, KW⟩ := hrel
                  rename World => wi
                  have HJI := Lib.hid hji
                  cases gk with
                  | zero =>
                    have hge : ¬ (j : Int) < (i : Int) := by omega
                    obtain rfl : j = i := by omega
                    have HOK2 := Lib.hid (HNX.out HNE.out)
                    clear hji
                    go_wp2_with fail
                    go_roundg g2
                    case measure => omega
                    case rel => exact ⟨j + 1, by go_num, by have := HIK.out; omega, HOK2, JW, KW⟩
                  | succ g3 =>
                    have hltj : (j : Int) < (i : Int) := by omega
                    have hj2 : j < i := by omega
                    obtain ⟨y, hy⟩ : ∃ y, l[j]? = some y := ⟨_, List.getElem?_eq_getElem (by have := HLL.out; have := HIK.out; omega)⟩
                    have c0 := row_cell2 (HRS.out wi JW.out).2 hy
                    by_cases hyv : y = v
                    · subst hyv
                      have HE : Hid (RIs zs m l false w (.returned (.bool false)) wi) := by
                        refine ⟨_, rfl, JW.out, ?_⟩
                        constructor
                        · intro h; cases h
                        · intro h; exact (isP_once h hj2 hy HV.out).elim
                      clear hy hji
                      go_wp2_with fail
                      go_ret
                      exact HE.out
                    · have HNE2 : Hid (∀ (q : Nat) x, q < j + 1 → l[q]? = some x → x ≠ v) := fun q x hq hx => by
                        rcases Nat.lt_or_eq_of_le (Nat.le_of_lt_succ hq) with h1 | h1
                        · exact HNE.out q x h1 hx
                        · subst h1; rw [hy] at hx; injection hx with hx; subst hx; exact hyv
                      clear hy hji
                      go_wp2_with fail
                      go_roundg g3
                      case measure => omega
                      case rel => exact ⟨j + 1, by go_num, by have := HJI.out; omega, HNE2, JW, KW⟩
              · by_cases hvp : v < p0
                · skip
                  refine wp_region_noPanic ?_
                  refine wp_region_held_drew (S := fun w' => w'.cell? ⟨w.heap.size, 0, none⟩ = some (.int .i64 (m : Int)) ∧ w'.cell? ⟨w.heap.size, 1, none⟩ = some (.slice A n c) ∧ w'.cell? ⟨gl, ol + i1, none⟩ = some (.int .i64 u) ∧ w'.cell? ⟨gl, ol, none⟩ = some (.int .i64 p0)) (by kernel_rfl) ⟨KB0.out.cell 0, KB0.out.cell 1, row_cell2 (HRS.out _ J0.out).2 HU.out, (by have h := row_cell2 (HRS.out _ J0.out).2 HP0.out; rwa [Nat.add_zero] at h)⟩ (fun hHeld => ?_)
                  refine wpAnyH_take (i := 0) (oi := { dst := some 18, op := Op.move (Operand.tmp 8), type := 3, pos := "ref.go:103", after := #[], guard := none }) (v := .int .i64 v) rfl (by kernel_rfl) (by kernel_rfl) (by kernel_rfl) (fun _ _ _ h => h) (Or.inl ⟨by kernel_rfl, fun w' hSw => by (try dsimp only at hSw); go_simp⟩) (by assumption) ?_
                  try simp only [Act.put, List.setIfInBounds_toArray, List.set_cons_zero, List.set_cons_succ]
                  refine wpAnyH_take (i := 1) (oi := { dst := some 19, op := Op.binOp BinOp.lss 3 (Operand.tmp 18) (Operand.const (Value.int IntKind.i64 0)) 3, type := 4, pos := "ref.go:103", after := #[{ on := 0, ground := Ground.data }], guard := none }) (v := .bool false) rfl (by kernel_rfl) (by kernel_rfl) (by kernel_rfl) (fun _ _ _ h => h) (Or.inl ⟨by kernel_rfl, fun w' hSw => by (try dsimp only at hSw); go_simp⟩) (by assumption) ?_
                  try simp only [Act.put, List.setIfInBounds_toArray, List.set_cons_zero, List.set_cons_succ]
                  refine wpAnyH_take (i := 2) (oi := { dst := some 20, op := Op.move (Operand.tmp 19), type := 4, pos := "ref.go:103", after := #[{ on := 1, ground := Ground.data }], guard := none }) (v := .bool false) rfl (by kernel_rfl) (by kernel_rfl) (by kernel_rfl) (fun _ _ _ h => h) (Or.inl ⟨by kernel_rfl, fun w' hSw => by (try dsimp only at hSw); go_simp⟩) (by assumption) ?_
                  try simp only [Act.put, List.setIfInBounds_toArray, List.set_cons_zero, List.set_cons_succ]
                  refine wpAnyH_take (i := 3) (oi := { dst := some 21, op := Op.move (Operand.tmp 8), type := 3, pos := "ref.go:103", after := #[{ on := 2, ground := Ground.guard }], guard := some (2, false) }) (v := .int .i64 v) rfl (by kernel_rfl) (by kernel_rfl) (by kernel_rfl) (fun _ _ _ h => h) (Or.inl ⟨by kernel_rfl, fun w' hSw => by (try dsimp only at hSw); go_simp⟩) (by assumption) ?_
                  try simp only [Act.put, List.setIfInBounds_toArray, List.set_cons_zero, List.set_cons_succ]
                  refine wpAnyH_take (i := 4) (oi := { dst := some 22, op := Op.fieldAddr 24 (Operand.tmp 3) 0, type := 0, pos := "ref.go:103", after := #[{ on := 2, ground := Ground.guard }], guard := some (2, false) }) (v := .pointer (some ⟨w.heap.size, 0, none⟩)) rfl (by kernel_rfl) (by kernel_rfl) (by kernel_rfl) (fun _ _ _ h => h) (Or.inl ⟨by kernel_rfl, fun w' hSw => by (try dsimp only at hSw); go_simp⟩) (by assumption) ?_
                  try simp only [Act.put, List.setIfInBounds_toArray, List.set_cons_zero, List.set_cons_succ]
                  refine wpAnyH_take (i := 5) (oi := { dst := some 23, op := Op.load 3 (Operand.tmp 22), type := 3, pos := "ref.go:103", after := #[{ on := 4, ground := Ground.data }, { on := 2, ground := Ground.guard }], guard := some (2, false) }) (v := .int .i64 (m : Int)) rfl (by kernel_rfl) (by kernel_rfl) (by kernel_rfl) (fun _ _ _ h => h) (Or.inl ⟨by kernel_rfl, fun w' hSw => by (try dsimp only at hSw); go_simp⟩) (by assumption) ?_
                  try simp only [Act.put, List.setIfInBounds_toArray, List.set_cons_zero, List.set_cons_succ]
                  refine wpAnyH_take (i := 6) (oi := { dst := some 24, op := Op.binOp BinOp.geq 3 (Operand.tmp 21) (Operand.tmp 23) 3, type := 4, pos := "ref.go:103", after := #[{ on := 3, ground := Ground.data }, { on := 5, ground := Ground.data }, { on := 2, ground := Ground.guard }], guard := some (2, false) }) (v := .bool false) rfl (by kernel_rfl) (by kernel_rfl) (by kernel_rfl) (fun _ _ _ h => h) (Or.inl ⟨by kernel_rfl, fun w' hSw => by (try dsimp only at hSw); go_simp⟩) (by assumption) ?_
                  try simp only [Act.put, List.setIfInBounds_toArray, List.set_cons_zero, List.set_cons_succ]
                  refine wpAnyH_take (i := 7) (oi := { dst := some 25, op := Op.pick (Operand.tmp 20) (Operand.const (Value.bool true)) (Operand.tmp 24), type := 4, pos := "ref.go:103", after := #[{ on := 2, ground := Ground.data }, { on := 6, ground := Ground.data }], guard := none }) (v := .bool false) rfl (by kernel_rfl) (by kernel_rfl) (by kernel_rfl) (fun _ _ _ h => h) (Or.inl ⟨by kernel_rfl, fun w' hSw => by (try dsimp only at hSw); go_simp⟩) (by assumption) ?_
                  try simp only [Act.put, List.setIfInBounds_toArray, List.set_cons_zero, List.set_cons_succ]
                  refine wpAnyH_take (i := 8) (oi := { dst := some 26, op := Op.move (Operand.tmp 25), type := 4, pos := "ref.go:103", after := #[{ on := 7, ground := Ground.data }, { on := 2, ground := Ground.chain }], guard := none }) (v := .bool false) rfl (by kernel_rfl) (by kernel_rfl) (by kernel_rfl) (fun _ _ _ h => h) (Or.inl ⟨by kernel_rfl, fun w' hSw => by (try dsimp only at hSw); go_simp⟩) (by assumption) ?_
                  try simp only [Act.put, List.setIfInBounds_toArray, List.set_cons_zero, List.set_cons_succ]
                  refine wpAnyH_take (i := 9) (oi := { dst := some 27, op := Op.move (Operand.tmp 7), type := 3, pos := "ref.go:103", after := #[{ on := 8, ground := Ground.guard }], guard := some (8, false) }) (v := .int .i64 (i : Int)) rfl (by kernel_rfl) (by kernel_rfl) (by kernel_rfl) (fun _ _ _ h => h) (Or.inl ⟨by kernel_rfl, fun w' hSw => by (try dsimp only at hSw); go_simp⟩) (by assumption) ?_
                  try simp only [Act.put, List.setIfInBounds_toArray, List.set_cons_zero, List.set_cons_succ]
                  refine wpAnyH_take (i := 10) (oi := { dst := some 28, op := Op.binOp BinOp.gtr 3 (Operand.tmp 27) (Operand.const (Value.int IntKind.i64 0)) 3, type := 4, pos := "ref.go:103", after := #[{ on := 9, ground := Ground.data }, { on := 8, ground := Ground.guard }], guard := some (8, false) }) (v := .bool true) rfl (by kernel_rfl) (by kernel_rfl) (by kernel_rfl) (fun _ _ _ h => h) (Or.inl ⟨by kernel_rfl, fun w' hSw => by (try dsimp only at hSw); go_simp⟩) (by assumption) ?_
                  try simp only [Act.put, List.setIfInBounds_toArray, List.set_cons_zero, List.set_cons_succ]
                  refine wpAnyH_take (i := 11) (oi := { dst := some 29, op := Op.move (Operand.tmp 28), type := 4, pos := "ref.go:103", after := #[{ on := 10, ground := Ground.data }, { on := 8, ground := Ground.chain }, { on := 8, ground := Ground.guard }], guard := some (8, false) }) (v := .bool true) rfl (by kernel_rfl) (by kernel_rfl) (by kernel_rfl) (fun _ _ _ h => h) (Or.inl ⟨by kernel_rfl, fun w' hSw => by (try dsimp only at hSw); go_simp⟩) (by assumption) ?_
                  try simp only [Act.put, List.setIfInBounds_toArray, List.set_cons_zero, List.set_cons_succ]
                  refine wpAnyH_take (i := 12) (oi := { dst := some 30, op := Op.load 24 (Operand.tmp 3), type := 24, pos := "ref.go:103", after := #[{ on := 11, ground := Ground.guard }], guard := some (11, true) }) (v := .agg #[.int .i64 (m : Int), .slice A n c]) rfl (by kernel_rfl) (by kernel_rfl) (by kernel_rfl) (fun _ _ _ h => h) (Or.inl ⟨by kernel_rfl, fun w' hSw => by (try dsimp only at hSw); go_simp⟩) (by assumption) ?_
                  try simp only [Act.put, List.setIfInBounds_toArray, List.set_cons_zero, List.set_cons_succ]
                  refine wpAnyH_take (i := 13) (oi := { dst := some 31, op := Op.move (Operand.tmp 1), type := 30, pos := "ref.go:103", after := #[{ on := 11, ground := Ground.guard }], guard := some (11, true) }) (v := .slice (some ⟨gl, ol, none⟩) k c2) rfl (by kernel_rfl) (by kernel_rfl) (by kernel_rfl) (fun _ _ _ h => h) (Or.inl ⟨by kernel_rfl, fun w' hSw => by (try dsimp only at hSw); go_simp⟩) (by assumption) ?_
                  try simp only [Act.put, List.setIfInBounds_toArray, List.set_cons_zero, List.set_cons_succ]
                  refine wpAnyH_take (i := 14) (oi := { dst := some 32, op := Op.move (Operand.tmp 7), type := 3, pos := "ref.go:103", after := #[{ on := 11, ground := Ground.guard }], guard := some (11, true) }) (v := .int .i64 (i : Int)) rfl (by kernel_rfl) (by kernel_rfl) (by kernel_rfl) (fun _ _ _ h => h) (Or.inl ⟨by kernel_rfl, fun w' hSw => by (try dsimp only at hSw); go_simp⟩) (by assumption) ?_
                  try simp only [Act.put, List.setIfInBounds_toArray, List.set_cons_zero, List.set_cons_succ]
                  refine wpAnyH_take (i := 15) (oi := { dst := some 33, op := Op.binOp BinOp.sub 3 (Operand.tmp 32) (Operand.const (Value.int IntKind.i64 1)) 3, type := 3, pos := "ref.go:103", after := #[{ on := 14, ground := Ground.data }, { on := 11, ground := Ground.guard }], guard := some (11, true) }) (v := .int .i64 (i1 : Int)) rfl (by kernel_rfl) (by kernel_rfl) (by kernel_rfl) (fun _ _ _ h => h) (Or.inl ⟨by kernel_rfl, fun w' hSw => by (try dsimp only at hSw); go_simp⟩) (by assumption) ?_
                  try simp only [Act.put, List.setIfInBounds_toArray, List.set_cons_zero, List.set_cons_succ]
                  refine wpAnyH_take (i := 16) (oi := { dst := some 34, op := Op.indexAddr 30 (Operand.tmp 31) (Operand.tmp 33), type := 0, pos := "ref.go:103", after := #[{ on := 13, ground := Ground.data }, { on := 15, ground := Ground.data }, { on := 11, ground := Ground.guard }], guard := some (11, true) }) (v := .pointer (some ⟨gl, ol + i1, none⟩)) rfl (by kernel_rfl) (by kernel_rfl) (by kernel_rfl) (fun _ _ _ h => h) (Or.inl ⟨by kernel_rfl, fun w' hSw => by (try dsimp only at hSw); go_simp⟩) (by assumption) ?_
                  try simp only [Act.put, List.setIfInBounds_toArray, List.set_cons_zero, List.set_cons_succ]
                  refine wpAnyH_take (i := 17) (oi := { dst := some 35, op := Op.load 3 (Operand.tmp 34), type := 3, pos := "ref.go:103", after := #[{ on := 16, ground := Ground.data }, { on := 11, ground := Ground.guard }], guard := some (11, true) }) (v := .int .i64 u) rfl (by kernel_rfl) (by kernel_rfl) (by kernel_rfl) (fun _ _ _ h => h) (Or.inl ⟨by kernel_rfl, fun w' hSw => by (try dsimp only at hSw); go_simp⟩) (by assumption) ?_
                  try simp only [Act.put, List.setIfInBounds_toArray, List.set_cons_zero, List.set_cons_succ]
                  refine wpAnyH_take (i := 18) (oi := { dst := some 36, op := Op.move (Operand.tmp 8), type := 3, pos := "ref.go:103", after := #[{ on := 11, ground := Ground.guard }], guard := some (11, true) }) (v := .int .i64 v) rfl (by kernel_rfl) (by kernel_rfl) (by kernel_rfl) (fun _ _ _ h => h) (Or.inl ⟨by kernel_rfl, fun w' hSw => by (try dsimp only at hSw); go_simp⟩) (by assumption) ?_
                  try simp only [Act.put, List.setIfInBounds_toArray, List.set_cons_zero, List.set_cons_succ]
                  refine wpAnyH_ready (rs := [19]) (by kernel_rfl) (by simp) ?_
                  refine AllReadyH.cons (o := { dst := some 37, op := Op.call { callee := Callee.value (Operand.func 57), args := #[Operand.tmp 30, Operand.tmp 35, Operand.tmp 36], argTypes := #[24, 3, 3] }, type := 4, pos := "ref.go:103", after := #[{ on := 12, ground := Ground.data }, { on := 17, ground := Ground.data }, { on := 18, ground := Ground.data }, { on := 11, ground := Ground.chain }, { on := 11, ground := Ground.guard }], guard := some (11, true) }) rfl (fun K hK => ?_) AllReadyH.nil
                  go_simp
                  refine HED.out.mono ?_
                  rintro e v1 ⟨rfl, b⟩
                  have J1 : Hid (Below w.heap.size w v1) := J0.out.trans (b.mono J0.out.size)
                  have KB1 := Lib.hid (KB0.out.below b KB0.out.lt)
                  clear b J0 KB0 HED hHeld
                  refine hK.out _ _ ⟨KB1.out.cell 0, KB1.out.cell 1, row_cell2 (HRS.out _ J1.out).2 HU.out, (by have h := row_cell2 (HRS.out _ J1.out).2 HP0.out; rwa [Nat.add_zero] at h)⟩ (fun hHeld => ?_)
                  clear hK K
                  try simp only [Act.put, List.setIfInBounds_toArray, List.set_cons_zero, List.set_cons_succ]
                  refine wpAnyH_take (i := 20) (oi := { dst := some 38, op := Op.unOp UnOp.not 4 (Operand.tmp 37), type := 4, pos := "ref.go:103", after := #[{ on := 19, ground := Ground.data }, { on := 11, ground := Ground.guard }], guard := some (11, true) }) (v := .bool false) rfl (by kernel_rfl) (by kernel_rfl) (by kernel_rfl) (fun _ _ _ h => h) (Or.inl ⟨by kernel_rfl, fun w' hSw => by (try dsimp only at hSw); go_simp⟩) (by assumption) ?_
                  try simp only [Act.put, List.setIfInBounds_toArray, List.set_cons_zero, List.set_cons_succ]
                  refine wpAnyH_take (i := 21) (oi := { dst := some 39, op := Op.pick (Operand.tmp 29) (Operand.tmp 38) (Operand.const (Value.bool false)), type := 4, pos := "ref.go:103", after := #[{ on := 11, ground := Ground.data }, { on := 20, ground := Ground.data }, { on := 8, ground := Ground.guard }], guard := some (8, false) }) (v := .bool false) rfl (by kernel_rfl) (by kernel_rfl) (by kernel_rfl) (fun _ _ _ h => h) (Or.inl ⟨by kernel_rfl, fun w' hSw => by (try dsimp only at hSw); go_simp⟩) (by assumption) ?_
                  try simp only [Act.put, List.setIfInBounds_toArray, List.set_cons_zero, List.set_cons_succ]
                  refine wpAnyH_take (i := 22) (oi := { dst := some 40, op := Op.pick (Operand.tmp 26) (Operand.const (Value.bool true)) (Operand.tmp 39), type := 4, pos := "ref.go:103", after := #[{ on := 8, ground := Ground.data }, { on := 21, ground := Ground.data }], guard := none }) (v := .bool false) rfl (by kernel_rfl) (by kernel_rfl) (by kernel_rfl) (fun _ _ _ h => h) (Or.inl ⟨by kernel_rfl, fun w' hSw => by (try dsimp only at hSw); go_simp⟩) (by assumption) ?_
                  try simp only [Act.put, List.setIfInBounds_toArray, List.set_cons_zero, List.set_cons_succ]
                  refine wpAnyH_take (i := 23) (oi := { dst := some 41, op := Op.move (Operand.tmp 40), type := 4, pos := "ref.go:103", after := #[{ on := 22, ground := Ground.data }, { on := 19, ground := Ground.chain }], guard := none }) (v := .bool false) rfl (by kernel_rfl) (by kernel_rfl) (by kernel_rfl) (fun _ _ _ h => h) (Or.inl ⟨by kernel_rfl, fun w' hSw => by (try dsimp only at hSw); go_simp⟩) (by assumption) ?_
                  try simp only [Act.put, List.setIfInBounds_toArray, List.set_cons_zero, List.set_cons_succ]
                  refine wpAnyH_take (i := 24) (oi := { dst := some 42, op := Op.move (Operand.tmp 2), type := 4, pos := "ref.go:103", after := #[{ on := 23, ground := Ground.guard }], guard := some (23, false) }) (v := .bool true) rfl (by kernel_rfl) (by kernel_rfl) (by kernel_rfl) (fun _ _ _ h => h) (Or.inl ⟨by kernel_rfl, fun w' hSw => by (try dsimp only at hSw); go_simp⟩) (by assumption) ?_
                  try simp only [Act.put, List.setIfInBounds_toArray, List.set_cons_zero, List.set_cons_succ]
                  refine wpAnyH_take (i := 25) (oi := { dst := some 43, op := Op.move (Operand.tmp 42), type := 4, pos := "ref.go:103", after := #[{ on := 24, ground := Ground.data }, { on := 23, ground := Ground.chain }, { on := 23, ground := Ground.guard }], guard := some (23, false) }) (v := .bool true) rfl (by kernel_rfl) (by kernel_rfl) (by kernel_rfl) (fun _ _ _ h => h) (Or.inl ⟨by kernel_rfl, fun w' hSw => by (try dsimp only at hSw); go_simp⟩) (by assumption) ?_
                  try simp only [Act.put, List.setIfInBounds_toArray, List.set_cons_zero, List.set_cons_succ]
                  refine wpAnyH_take (i := 26) (oi := { dst := some 44, op := Op.move (Operand.tmp 8), type := 3, pos := "ref.go:103", after := #[{ on := 25, ground := Ground.guard }], guard := some (25, true) }) (v := .int .i64 v) rfl (by kernel_rfl) (by kernel_rfl) (by kernel_rfl) (fun _ _ _ h => h) (Or.inl ⟨by kernel_rfl, fun w' hSw => by (try dsimp only at hSw); go_simp⟩) (by assumption) ?_
                  try simp only [Act.put, List.setIfInBounds_toArray, List.set_cons_zero, List.set_cons_succ]
                  refine wpAnyH_take (i := 27) (oi := { dst := some 45, op := Op.move (Operand.tmp 1), type := 30, pos := "ref.go:103", after := #[{ on := 25, ground := Ground.guard }], guard := some (25, true) }) (v := .slice (some ⟨gl, ol, none⟩) k c2) rfl (by kernel_rfl) (by kernel_rfl) (by kernel_rfl) (fun _ _ _ h => h) (Or.inl ⟨by kernel_rfl, fun w' hSw => by (try dsimp only at hSw); go_simp⟩) (by assumption) ?_
                  try simp only [Act.put, List.setIfInBounds_toArray, List.set_cons_zero, List.set_cons_succ]
                  refine wpAnyH_take (i := 28) (oi := { dst := some 46, op := Op.indexAddr 30 (Operand.tmp 45) (Operand.const (Value.int IntKind.i64 0)), type := 0, pos := "ref.go:103", after := #[{ on := 27, ground := Ground.data }, { on := 25, ground := Ground.guard }], guard := some (25, true) }) (v := .pointer (some ⟨gl, ol, none⟩)) rfl (by kernel_rfl) (by kernel_rfl) (by kernel_rfl) (fun _ _ _ h => h) (Or.inl ⟨by kernel_rfl, fun w' hSw => by (try dsimp only at hSw); go_simp⟩) (by assumption) ?_
                  try simp only [Act.put, List.setIfInBounds_toArray, List.set_cons_zero, List.set_cons_succ]
                  refine wpAnyH_take (i := 29) (oi := { dst := some 47, op := Op.load 3 (Operand.tmp 46), type := 3, pos := "ref.go:103", after := #[{ on := 28, ground := Ground.data }, { on := 25, ground := Ground.guard }], guard := some (25, true) }) (v := .int .i64 p0) rfl (by kernel_rfl) (by kernel_rfl) (by kernel_rfl) (fun _ _ _ h => h) (Or.inl ⟨by kernel_rfl, fun w' hSw => by (try dsimp only at hSw); go_simp⟩) (by assumption) ?_
                  try simp only [Act.put, List.setIfInBounds_toArray, List.set_cons_zero, List.set_cons_succ]
                  refine wpAnyH_take (i := 30) (oi := { dst := some 48, op := Op.binOp BinOp.lss 3 (Operand.tmp 44) (Operand.tmp 47) 3, type := 4, pos := "ref.go:103", after := #[{ on := 26, ground := Ground.data }, { on := 29, ground := Ground.data }, { on := 25, ground := Ground.guard }], guard := some (25, true) }) (v := .bool true) rfl (by kernel_rfl) (by kernel_rfl) (by kernel_rfl) (fun _ _ _ h => h) (Or.inl ⟨by kernel_rfl, fun w' hSw => by (try dsimp only at hSw); go_simp⟩) (by assumption) ?_
                  try simp only [Act.put, List.setIfInBounds_toArray, List.set_cons_zero, List.set_cons_succ]
                  refine wpAnyH_take (i := 31) (oi := { dst := some 49, op := Op.pick (Operand.tmp 43) (Operand.tmp 48) (Operand.const (Value.bool false)), type := 4, pos := "ref.go:103", after := #[{ on := 25, ground := Ground.data }, { on := 30, ground := Ground.data }, { on := 23, ground := Ground.guard }], guard := some (23, false) }) (v := .bool true) rfl (by kernel_rfl) (by kernel_rfl) (by kernel_rfl) (fun _ _ _ h => h) (Or.inl ⟨by kernel_rfl, fun w' hSw => by (try dsimp only at hSw); go_simp⟩) (by assumption) ?_
                  try simp only [Act.put, List.setIfInBounds_toArray, List.set_cons_zero, List.set_cons_succ]
                  refine wpAnyH_take (i := 32) (oi := { dst := some 50, op := Op.pick (Operand.tmp 41) (Operand.const (Value.bool true)) (Operand.tmp 49), type := 4, pos := "ref.go:103", after := #[{ on := 23, ground := Ground.data }, { on := 31, ground := Ground.data }], guard := none }) (v := .bool true) rfl (by kernel_rfl) (by kernel_rfl) (by kernel_rfl) (fun _ _ _ h => h) (Or.inl ⟨by kernel_rfl, fun w' hSw => by (try dsimp only at hSw); go_simp⟩) (by assumption) ?_
                  try simp only [Act.put, List.setIfInBounds_toArray, List.set_cons_zero, List.set_cons_succ]
                  refine wpAnyH_done (by kernel_rfl) ?_ _
                  refine NoPanic.normal ?_
                  have HE : Hid (RIs zs m l true w (.returned (.bool false)) v1) := by
                    refine ⟨_, rfl, J1.out, ?_⟩
                    constructor
                    · intro h; cases h
                    · intro h
                      have := isP_least h HV.out
                      rw [HHD.out] at this
                      omega
                  go_wp2_with fail
                  go_ret
                  exact HE.out
                · skip
                  refine wp_region_noPanic ?_
                  refine wp_region_held_drew (S := fun w' => w'.cell? ⟨w.heap.size, 0, none⟩ = some (.int .i64 (m : Int)) ∧ w'.cell? ⟨w.heap.size, 1, none⟩ = some (.slice A n c) ∧ w'.cell? ⟨gl, ol + i1, none⟩ = some (.int .i64 u) ∧ w'.cell? ⟨gl, ol, none⟩ = some (.int .i64 p0)) (by kernel_rfl) ⟨KB0.out.cell 0, KB0.out.cell 1, row_cell2 (HRS.out _ J0.out).2 HU.out, (by have h := row_cell2 (HRS.out _ J0.out).2 HP0.out; rwa [Nat.add_zero] at h)⟩ (fun hHeld => ?_)
                  refine wpAnyH_take (i := 0) (oi := { dst := some 18, op := Op.move (Operand.tmp 8), type := 3, pos := "ref.go:103", after := #[], guard := none }) (v := .int .i64 v) rfl (by kernel_rfl) (by kernel_rfl) (by kernel_rfl) (fun _ _ _ h => h) (Or.inl ⟨by kernel_rfl, fun w' hSw => by (try dsimp only at hSw); go_simp⟩) (by assumption) ?_
                  try simp only [Act.put, List.setIfInBounds_toArray, List.set_cons_zero, List.set_cons_succ]
                  refine wpAnyH_take (i := 1) (oi := { dst := some 19, op := Op.binOp BinOp.lss 3 (Operand.tmp 18) (Operand.const (Value.int IntKind.i64 0)) 3, type := 4, pos := "ref.go:103", after := #[{ on := 0, ground := Ground.data }], guard := none }) (v := .bool false) rfl (by kernel_rfl) (by kernel_rfl) (by kernel_rfl) (fun _ _ _ h => h) (Or.inl ⟨by kernel_rfl, fun w' hSw => by (try dsimp only at hSw); go_simp⟩) (by assumption) ?_
                  try simp only [Act.put, List.setIfInBounds_toArray, List.set_cons_zero, List.set_cons_succ]
                  refine wpAnyH_take (i := 2) (oi := { dst := some 20, op := Op.move (Operand.tmp 19), type := 4, pos := "ref.go:103", after := #[{ on := 1, ground := Ground.data }], guard := none }) (v := .bool false) rfl (by kernel_rfl) (by kernel_rfl) (by kernel_rfl) (fun _ _ _ h => h) (Or.inl ⟨by kernel_rfl, fun w' hSw => by (try dsimp only at hSw); go_simp⟩) (by assumption) ?_
                  try simp only [Act.put, List.setIfInBounds_toArray, List.set_cons_zero, List.set_cons_succ]
                  refine wpAnyH_take (i := 3) (oi := { dst := some 21, op := Op.move (Operand.tmp 8), type := 3, pos := "ref.go:103", after := #[{ on := 2, ground := Ground.guard }], guard := some (2, false) }) (v := .int .i64 v) rfl (by kernel_rfl) (by kernel_rfl) (by kernel_rfl) (fun _ _ _ h => h) (Or.inl ⟨by kernel_rfl, fun w' hSw => by (try dsimp only at hSw); go_simp⟩) (by assumption) ?_
                  try simp only [Act.put, List.setIfInBounds_toArray, List.set_cons_zero, List.set_cons_succ]
                  refine wpAnyH_take (i := 4) (oi := { dst := some 22, op := Op.fieldAddr 24 (Operand.tmp 3) 0, type := 0, pos := "ref.go:103", after := #[{ on := 2, ground := Ground.guard }], guard := some (2, false) }) (v := .pointer (some ⟨w.heap.size, 0, none⟩)) rfl (by kernel_rfl) (by kernel_rfl) (by kernel_rfl) (fun _ _ _ h => h) (Or.inl ⟨by kernel_rfl, fun w' hSw => by (try dsimp only at hSw); go_simp⟩) (by assumption) ?_
                  try simp only [Act.put, List.setIfInBounds_toArray, List.set_cons_zero, List.set_cons_succ]
                  refine wpAnyH_take (i := 5) (oi := { dst := some 23, op := Op.load 3 (Operand.tmp 22), type := 3, pos := "ref.go:103", after := #[{ on := 4, ground := Ground.data }, { on := 2, ground := Ground.guard }], guard := some (2, false) }) (v := .int .i64 (m : Int)) rfl (by kernel_rfl) (by kernel_rfl) (by kernel_rfl) (fun _ _ _ h => h) (Or.inl ⟨by kernel_rfl, fun w' hSw => by (try dsimp only at hSw); go_simp⟩) (by assumption) ?_
                  try simp only [Act.put, List.setIfInBounds_toArray, List.set_cons_zero, List.set_cons_succ]
                  refine wpAnyH_take (i := 6) (oi := { dst := some 24, op := Op.binOp BinOp.geq 3 (Operand.tmp 21) (Operand.tmp 23) 3, type := 4, pos := "ref.go:103", after := #[{ on := 3, ground := Ground.data }, { on := 5, ground := Ground.data }, { on := 2, ground := Ground.guard }], guard := some (2, false) }) (v := .bool false) rfl (by kernel_rfl) (by kernel_rfl) (by kernel_rfl) (fun _ _ _ h => h) (Or.inl ⟨by kernel_rfl, fun w' hSw => by (try dsimp only at hSw); go_simp⟩) (by assumption) ?_
                  try simp only [Act.put, List.setIfInBounds_toArray, List.set_cons_zero, List.set_cons_succ]
                  refine wpAnyH_take (i := 7) (oi := { dst := some 25, op := Op.pick (Operand.tmp 20) (Operand.const (Value.bool true)) (Operand.tmp 24), type := 4, pos := "ref.go:103", after := #[{ on := 2, ground := Ground.data }, { on := 6, ground := Ground.data }], guard := none }) (v := .bool false) rfl (by kernel_rfl) (by kernel_rfl) (by kernel_rfl) (fun _ _ _ h => h) (Or.inl ⟨by kernel_rfl, fun w' hSw => by (try dsimp only at hSw); go_simp⟩) (by assumption) ?_
                  try simp only [Act.put, List.setIfInBounds_toArray, List.set_cons_zero, List.set_cons_succ]
                  refine wpAnyH_take (i := 8) (oi := { dst := some 26, op := Op.move (Operand.tmp 25), type := 4, pos := "ref.go:103", after := #[{ on := 7, ground := Ground.data }, { on := 2, ground := Ground.chain }], guard := none }) (v := .bool false) rfl (by kernel_rfl) (by kernel_rfl) (by kernel_rfl) (fun _ _ _ h => h) (Or.inl ⟨by kernel_rfl, fun w' hSw => by (try dsimp only at hSw); go_simp⟩) (by assumption) ?_
                  try simp only [Act.put, List.setIfInBounds_toArray, List.set_cons_zero, List.set_cons_succ]
                  refine wpAnyH_take (i := 9) (oi := { dst := some 27, op := Op.move (Operand.tmp 7), type := 3, pos := "ref.go:103", after := #[{ on := 8, ground := Ground.guard }], guard := some (8, false) }) (v := .int .i64 (i : Int)) rfl (by kernel_rfl) (by kernel_rfl) (by kernel_rfl) (fun _ _ _ h => h) (Or.inl ⟨by kernel_rfl, fun w' hSw => by (try dsimp only at hSw); go_simp⟩) (by assumption) ?_
                  try simp only [Act.put, List.setIfInBounds_toArray, List.set_cons_zero, List.set_cons_succ]
                  refine wpAnyH_take (i := 10) (oi := { dst := some 28, op := Op.binOp BinOp.gtr 3 (Operand.tmp 27) (Operand.const (Value.int IntKind.i64 0)) 3, type := 4, pos := "ref.go:103", after := #[{ on := 9, ground := Ground.data }, { on := 8, ground := Ground.guard }], guard := some (8, false) }) (v := .bool true) rfl (by kernel_rfl) (by kernel_rfl) (by kernel_rfl) (fun _ _ _ h => h) (Or.inl ⟨by kernel_rfl, fun w' hSw => by (try dsimp only at hSw); go_simp⟩) (by assumption) ?_
                  try simp only [Act.put, List.setIfInBounds_toArray, List.set_cons_zero, List.set_cons_succ]
                  refine wpAnyH_take (i := 11) (oi := { dst := some 29, op := Op.move (Operand.tmp 28), type := 4, pos := "ref.go:103", after := #[{ on := 10, ground := Ground.data }, { on := 8, ground := Ground.chain }, { on := 8, ground := Ground.guard }], guard := some (8, false) }) (v := .bool true) rfl (by kernel_rfl) (by kernel_rfl) (by kernel_rfl) (fun _ _ _ h => h) (Or.inl ⟨by kernel_rfl, fun w' hSw => by (try dsimp only at hSw); go_simp⟩) (by assumption) ?_
                  try simp only [Act.put, List.setIfInBounds_toArray, List.set_cons_zero, List.set_cons_succ]
                  refine wpAnyH_take (i := 12) (oi := { dst := some 30, op := Op.load 24 (Operand.tmp 3), type := 24, pos := "ref.go:103", after := #[{ on := 11, ground := Ground.guard }], guard := some (11, true) }) (v := .agg #[.int .i64 (m : Int), .slice A n c]) rfl (by kernel_rfl) (by kernel_rfl) (by kernel_rfl) (fun _ _ _ h => h) (Or.inl ⟨by kernel_rfl, fun w' hSw => by (try dsimp only at hSw); go_simp⟩) (by assumption) ?_
                  try simp only [Act.put, List.setIfInBounds_toArray, List.set_cons_zero, List.set_cons_succ]
                  refine wpAnyH_take (i := 13) (oi := { dst := some 31, op := Op.move (Operand.tmp 1), type := 30, pos := "ref.go:103", after := #[{ on := 11, ground := Ground.guard }], guard := some (11, true) }) (v := .slice (some ⟨gl, ol, none⟩) k c2) rfl (by kernel_rfl) (by kernel_rfl) (by kernel_rfl) (fun _ _ _ h => h) (Or.inl ⟨by kernel_rfl, fun w' hSw => by (try dsimp only at hSw); go_simp⟩) (by assumption) ?_
                  try simp only [Act.put, List.setIfInBounds_toArray, List.set_cons_zero, List.set_cons_succ]
                  refine wpAnyH_take (i := 14) (oi := { dst := some 32, op := Op.move (Operand.tmp 7), type := 3, pos := "ref.go:103", after := #[{ on := 11, ground := Ground.guard }], guard := some (11, true) }) (v := .int .i64 (i : Int)) rfl (by kernel_rfl) (by kernel_rfl) (by kernel_rfl) (fun _ _ _ h => h) (Or.inl ⟨by kernel_rfl, fun w' hSw => by (try dsimp only at hSw); go_simp⟩) (by assumption) ?_
                  try simp only [Act.put, List.setIfInBounds_toArray, List.set_cons_zero, List.set_cons_succ]
                  refine wpAnyH_take (i := 15) (oi := { dst := some 33, op := Op.binOp BinOp.sub 3 (Operand.tmp 32) (Operand.const (Value.int IntKind.i64 1)) 3, type := 3, pos := "ref.go:103", after := #[{ on := 14, ground := Ground.data }, { on := 11, ground := Ground.guard }], guard := some (11, true) }) (v := .int .i64 (i1 : Int)) rfl (by kernel_rfl) (by kernel_rfl) (by kernel_rfl) (fun _ _ _ h => h) (Or.inl ⟨by kernel_rfl, fun w' hSw => by (try dsimp only at hSw); go_simp⟩) (by assumption) ?_
                  try simp only [Act.put, List.setIfInBounds_toArray, List.set_cons_zero, List.set_cons_succ]
                  refine wpAnyH_take (i := 16) (oi := { dst := some 34, op := Op.indexAddr 30 (Operand.tmp 31) (Operand.tmp 33), type := 0, pos := "ref.go:103", after := #[{ on := 13, ground := Ground.data }, { on := 15, ground := Ground.data }, { on := 11, ground := Ground.guard }], guard := some (11, true) }) (v := .pointer (some ⟨gl, ol + i1, none⟩)) rfl (by kernel_rfl) (by kernel_rfl) (by kernel_rfl) (fun _ _ _ h => h) (Or.inl ⟨by kernel_rfl, fun w' hSw => by (try dsimp only at hSw); go_simp⟩) (by assumption) ?_
                  try simp only [Act.put, List.setIfInBounds_toArray, List.set_cons_zero, List.set_cons_succ]
                  refine wpAnyH_take (i := 17) (oi := { dst := some 35, op := Op.load 3 (Operand.tmp 34), type := 3, pos := "ref.go:103", after := #[{ on := 16, ground := Ground.data }, { on := 11, ground := Ground.guard }], guard := some (11, true) }) (v := .int .i64 u) rfl (by kernel_rfl) (by kernel_rfl) (by kernel_rfl) (fun _ _ _ h => h) (Or.inl ⟨by kernel_rfl, fun w' hSw => by (try dsimp only at hSw); go_simp⟩) (by assumption) ?_
                  try simp only [Act.put, List.setIfInBounds_toArray, List.set_cons_zero, List.set_cons_succ]
                  refine wpAnyH_take (i := 18) (oi := { dst := some 36, op := Op.move (Operand.tmp 8), type := 3, pos := "ref.go:103", after := #[{ on := 11, ground := Ground.guard }], guard := some (11, true) }) (v := .int .i64 v) rfl (by kernel_rfl) (by kernel_rfl) (by kernel_rfl) (fun _ _ _ h => h) (Or.inl ⟨by kernel_rfl, fun w' hSw => by (try dsimp only at hSw); go_simp⟩) (by assumption) ?_
                  try simp only [Act.put, List.setIfInBounds_toArray, List.set_cons_zero, List.set_cons_succ]
                  refine wpAnyH_ready (rs := [19]) (by kernel_rfl) (by simp) ?_
                  refine AllReadyH.cons (o := { dst := some 37, op := Op.call { callee := Callee.value (Operand.func 57), args := #[Operand.tmp 30, Operand.tmp 35, Operand.tmp 36], argTypes := #[24, 3, 3] }, type := 4, pos := "ref.go:103", after := #[{ on := 12, ground := Ground.data }, { on := 17, ground := Ground.data }, { on := 18, ground := Ground.data }, { on := 11, ground := Ground.chain }, { on := 11, ground := Ground.guard }], guard := some (11, true) }) rfl (fun K hK => ?_) AllReadyH.nil
                  go_simp
                  refine HED.out.mono ?_
                  rintro e v1 ⟨rfl, b⟩
                  have J1 : Hid (Below w.heap.size w v1) := J0.out.trans (b.mono J0.out.size)
                  have KB1 := Lib.hid (KB0.out.below b KB0.out.lt)
                  clear b J0 KB0 HED hHeld
                  refine hK.out _ _ ⟨KB1.out.cell 0, KB1.out.cell 1, row_cell2 (HRS.out _ J1.out).2 HU.out, (by have h := row_cell2 (HRS.out _ J1.out).2 HP0.out; rwa [Nat.add_zero] at h)⟩ (fun hHeld => ?_)
                  clear hK K
                  try simp only [Act.put, List.setIfInBounds_toArray, List.set_cons_zero, List.set_cons_succ]
                  refine wpAnyH_take (i := 20) (oi := { dst := some 38, op := Op.unOp UnOp.not 4 (Operand.tmp 37), type := 4, pos := "ref.go:103", after := #[{ on := 19, ground := Ground.data }, { on := 11, ground := Ground.guard }], guard := some (11, true) }) (v := .bool false) rfl (by kernel_rfl) (by kernel_rfl) (by kernel_rfl) (fun _ _ _ h => h) (Or.inl ⟨by kernel_rfl, fun w' hSw => by (try dsimp only at hSw); go_simp⟩) (by assumption) ?_
                  try simp only [Act.put, List.setIfInBounds_toArray, List.set_cons_zero, List.set_cons_succ]
                  refine wpAnyH_take (i := 21) (oi := { dst := some 39, op := Op.pick (Operand.tmp 29) (Operand.tmp 38) (Operand.const (Value.bool false)), type := 4, pos := "ref.go:103", after := #[{ on := 11, ground := Ground.data }, { on := 20, ground := Ground.data }, { on := 8, ground := Ground.guard }], guard := some (8, false) }) (v := .bool false) rfl (by kernel_rfl) (by kernel_rfl) (by kernel_rfl) (fun _ _ _ h => h) (Or.inl ⟨by kernel_rfl, fun w' hSw => by (try dsimp only at hSw); go_simp⟩) (by assumption) ?_
                  try simp only [Act.put, List.setIfInBounds_toArray, List.set_cons_zero, List.set_cons_succ]
                  refine wpAnyH_take (i := 22) (oi := { dst := some 40, op := Op.pick (Operand.tmp 26) (Operand.const (Value.bool true)) (Operand.tmp 39), type := 4, pos := "ref.go:103", after := #[{ on := 8, ground := Ground.data }, { on := 21, ground := Ground.data }], guard := none }) (v := .bool false) rfl (by kernel_rfl) (by kernel_rfl) (by kernel_rfl) (fun _ _ _ h => h) (Or.inl ⟨by kernel_rfl, fun w' hSw => by (try dsimp only at hSw); go_simp⟩) (by assumption) ?_
                  try simp only [Act.put, List.setIfInBounds_toArray, List.set_cons_zero, List.set_cons_succ]
                  refine wpAnyH_take (i := 23) (oi := { dst := some 41, op := Op.move (Operand.tmp 40), type := 4, pos := "ref.go:103", after := #[{ on := 22, ground := Ground.data }, { on := 19, ground := Ground.chain }], guard := none }) (v := .bool false) rfl (by kernel_rfl) (by kernel_rfl) (by kernel_rfl) (fun _ _ _ h => h) (Or.inl ⟨by kernel_rfl, fun w' hSw => by (try dsimp only at hSw); go_simp⟩) (by assumption) ?_
                  try simp only [Act.put, List.setIfInBounds_toArray, List.set_cons_zero, List.set_cons_succ]
                  refine wpAnyH_take (i := 24) (oi := { dst := some 42, op := Op.move (Operand.tmp 2), type := 4, pos := "ref.go:103", after := #[{ on := 23, ground := Ground.guard }], guard := some (23, false) }) (v := .bool true) rfl (by kernel_rfl) (by kernel_rfl) (by kernel_rfl) (fun _ _ _ h => h) (Or.inl ⟨by kernel_rfl, fun w' hSw => by (try dsimp only at hSw); go_simp⟩) (by assumption) ?_
                  try simp only [Act.put, List.setIfInBounds_toArray, List.set_cons_zero, List.set_cons_succ]
                  refine wpAnyH_take (i := 25) (oi := { dst := some 43, op := Op.move (Operand.tmp 42), type := 4, pos := "ref.go:103", after := #[{ on := 24, ground := Ground.data }, { on := 23, ground := Ground.chain }, { on := 23, ground := Ground.guard }], guard := some (23, false) }) (v := .bool true) rfl (by kernel_rfl) (by kernel_rfl) (by kernel_rfl) (fun _ _ _ h => h) (Or.inl ⟨by kernel_rfl, fun w' hSw => by (try dsimp only at hSw); go_simp⟩) (by assumption) ?_
                  try simp only [Act.put, List.setIfInBounds_toArray, List.set_cons_zero, List.set_cons_succ]
                  refine wpAnyH_take (i := 26) (oi := { dst := some 44, op := Op.move (Operand.tmp 8), type := 3, pos := "ref.go:103", after := #[{ on := 25, ground := Ground.guard }], guard := some (25, true) }) (v := .int .i64 v) rfl (by kernel_rfl) (by kernel_rfl) (by kernel_rfl) (fun _ _ _ h => h) (Or.inl ⟨by kernel_rfl, fun w' hSw => by (try dsimp only at hSw); go_simp⟩) (by assumption) ?_
                  try simp only [Act.put, List.setIfInBounds_toArray, List.set_cons_zero, List.set_cons_succ]
                  refine wpAnyH_take (i := 27) (oi := { dst := some 45, op := Op.move (Operand.tmp 1), type := 30, pos := "ref.go:103", after := #[{ on := 25, ground := Ground.guard }], guard := some (25, true) }) (v := .slice (some ⟨gl, ol, none⟩) k c2) rfl (by kernel_rfl) (by kernel_rfl) (by kernel_rfl) (fun _ _ _ h => h) (Or.inl ⟨by kernel_rfl, fun w' hSw => by (try dsimp only at hSw); go_simp⟩) (by assumption) ?_
                  try simp only [Act.put, List.setIfInBounds_toArray, List.set_cons_zero, List.set_cons_succ]
                  refine wpAnyH_take (i := 28) (oi := { dst := some 46, op := Op.indexAddr 30 (Operand.tmp 45) (Operand.const (Value.int IntKind.i64 0)), type := 0, pos := "ref.go:103", after := #[{ on := 27, ground := Ground.data }, { on := 25, ground := Ground.guard }], guard := some (25, true) }) (v := .pointer (some ⟨gl, ol, none⟩)) rfl (by kernel_rfl) (by kernel_rfl) (by kernel_rfl) (fun _ _ _ h => h) (Or.inl ⟨by kernel_rfl, fun w' hSw => by (try dsimp only at hSw); go_simp⟩) (by assumption) ?_
                  try simp only [Act.put, List.setIfInBounds_toArray, List.set_cons_zero, List.set_cons_succ]
                  refine wpAnyH_take (i := 29) (oi := { dst := some 47, op := Op.load 3 (Operand.tmp 46), type := 3, pos := "ref.go:103", after := #[{ on := 28, ground := Ground.data }, { on := 25, ground := Ground.guard }], guard := some (25, true) }) (v := .int .i64 p0) rfl (by kernel_rfl) (by kernel_rfl) (by kernel_rfl) (fun _ _ _ h => h) (Or.inl ⟨by kernel_rfl, fun w' hSw => by (try dsimp only at hSw); go_simp⟩) (by assumption) ?_
                  try simp only [Act.put, List.setIfInBounds_toArray, List.set_cons_zero, List.set_cons_succ]
                  refine wpAnyH_take (i := 30) (oi := { dst := some 48, op := Op.binOp BinOp.lss 3 (Operand.tmp 44) (Operand.tmp 47) 3, type := 4, pos := "ref.go:103", after := #[{ on := 26, ground := Ground.data }, { on := 29, ground := Ground.data }, { on := 25, ground := Ground.guard }], guard := some (25, true) }) (v := .bool false) rfl (by kernel_rfl) (by kernel_rfl) (by kernel_rfl) (fun _ _ _ h => h) (Or.inl ⟨by kernel_rfl, fun w' hSw => by (try dsimp only at hSw); go_simp⟩) (by assumption) ?_
                  try simp only [Act.put, List.setIfInBounds_toArray, List.set_cons_zero, List.set_cons_succ]
                  refine wpAnyH_take (i := 31) (oi := { dst := some 49, op := Op.pick (Operand.tmp 43) (Operand.tmp 48) (Operand.const (Value.bool false)), type := 4, pos := "ref.go:103", after := #[{ on := 25, ground := Ground.data }, { on := 30, ground := Ground.data }, { on := 23, ground := Ground.guard }], guard := some (23, false) }) (v := .bool false) rfl (by kernel_rfl) (by kernel_rfl) (by kernel_rfl) (fun _ _ _ h => h) (Or.inl ⟨by kernel_rfl, fun w' hSw => by (try dsimp only at hSw); go_simp⟩) (by assumption) ?_
                  try simp only [Act.put, List.setIfInBounds_toArray, List.set_cons_zero, List.set_cons_succ]
                  refine wpAnyH_take (i := 32) (oi := { dst := some 50, op := Op.pick (Operand.tmp 41) (Operand.const (Value.bool true)) (Operand.tmp 49), type := 4, pos := "ref.go:103", after := #[{ on := 23, ground := Ground.data }, { on := 31, ground := Ground.data }], guard := none }) (v := .bool false) rfl (by kernel_rfl) (by kernel_rfl) (by kernel_rfl) (fun _ _ _ h => h) (Or.inl ⟨by kernel_rfl, fun w' hSw => by (try dsimp only at hSw); go_simp⟩) (by assumption) ?_
                  try simp only [Act.put, List.setIfInBounds_toArray, List.set_cons_zero, List.set_cons_succ]
                  refine wpAnyH_done (by kernel_rfl) ?_ _
                  refine NoPanic.normal ?_
                  have HNX : Hid ((∀ (q : Nat) x, q < i → l[q]? = some x → x ≠ v) → OkTo zs m true l (i + 1)) := fun h => HOK.out.next HV.out hvn (fun _ => by rw [HHD.out]; omega) h fun x _ hx => by
                    have h1 := HU.out
                    rw [show i - 1 = i1 by have := HI1.out; omega, h1] at hx
                    injection hx with hx
                    subst hx
                    exact HEY.out
                  clear HU HP0 hw1
                  go_wp2_with fail
                  go_loopg [55] i (fun gg s55 wi => ∃ j : Nat, s55 = .int .i64 j ∧ j + gg = i ∧ Hid (∀ (q : Nat) x, q < j → l[q]? = some x → x ≠ v) ∧ Hid (Below w.heap.size w wi) ∧ Hid (Blk wi w.heap.size 24 #[.int .i64 (m : Int), .slice A n c]))
                  case atStart => exact ⟨0, rfl, by omega, fun q x h => absurd h (Nat.not_lt_zero q), J1, KB1⟩
                  case round =>
                    clear J1 KB1
                    obtain ⟨j, rfl, hji, HNE, JW, KW⟩ := hrel
                    rename World => wi
                    have HJI := Lib.hid hji
                    cases gk with
                    | zero =>
                      have hge : ¬ (j : Int) < (i : Int) := by omega
                      obtain rfl : j = i := by omega
                      have HOK2 := Lib.hid (HNX.out HNE.out)
                      clear hji
                      go_wp2_with fail
                      go_roundg g2
                      case measure => omega
                      case rel => exact ⟨j + 1, by go_num, by have := HIK.out; omega, HOK2, JW, KW⟩
                    | succ g3 =>
                      have hltj : (j : Int) < (i : Int) := by omega
                      have hj2 : j < i := by omega
                      obtain ⟨y, hy⟩ : ∃ y, l[j]? = some y := ⟨_, List.getElem?_eq_getElem (by have := HLL.out; have := HIK.out; omega)⟩
                      have c0 := row_cell2 (HRS.out wi JW.out).2 hy
                      by_cases hyv : y = v
                      · subst hyv
                        have HE : Hid (RIs zs m l true w (.returned (.bool false)) wi) := by
                          refine ⟨_, rfl, JW.out, ?_⟩
                          constructor
                          · intro h; cases h
                          · intro h; exact (isP_once h hj2 hy HV.out).elim
                        clear hy hji
                        go_wp2_with fail
                        go_ret
                        exact HE.out
                      · have HNE2 : Hid (∀ (q : Nat) x, q < j + 1 → l[q]? = some x → x ≠ v) := fun q x hq hx => by
                          rcases Nat.lt_or_eq_of_le (Nat.le_of_lt_succ hq) with h1 | h1
                          · exact HNE.out q x h1 hx
                          · subst h1; rw [hy] at hx; injection hx with hx; subst hx; exact hyv
                        clear hy hji
                        go_wp2_with fail
                        go_roundg g3
                        case measure => omega
                        case rel => exact ⟨j + 1, by go_num, by have := HJI.out; omega, HNE2, JW, KW⟩
end Go.Proofs.YtgbpaiffnhpafaaDoor
