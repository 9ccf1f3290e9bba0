/- Layer graph: asked, start, leaving, copied: contracts. -/
import Derived.Test.YticbgikbpafeoaaGi
namespace Go.Proofs.Yticbgikbpafeoaa
open Go.RowKit

def askE (nodes : Int) (l : List Ed) (vs : List Int) : Int := if rightG nodes l = true then (if vs.all (nodeB nodes) = true then 0 else 2) else 150
theorem ask_graph {nodes : Int} {l : List Ed} {vs : List Int} (h : rightG nodes l = false) : askE nodes l vs = 150 := by unfold askE; rw [if_neg (by rw [h]; decide)]
theorem ask_arg {nodes : Int} {l : List Ed} {vs : List Int} (h : rightG nodes l = true) (hv : vs.all (nodeB nodes) = false) : askE nodes l vs = 2 := by unfold askE; rw [if_pos h, if_neg (by rw [hv]; decide)]
theorem ask_ok {nodes : Int} {l : List Ed} {vs : List Int} (h : rightG nodes l = true) (hv : vs.all (nodeB nodes) = true) : askE nodes l vs = 0 := by unfold askE; rw [if_pos h, if_pos hv]

theorem int_at {w : World} {B n k : Nat} {A : Option Addr} {v : Int} {vs : List Int} (h : Reads w B 1 A n (ints vs)) (hv : vs[k]? = some v) :
    ∃ b o, A = some ⟨b, o, none⟩ ∧ b < B ∧ w.cell? ⟨b, o + k, none⟩ = some (.int .i64 v) := by
  have hk := (List.getElem?_eq_some_iff.1 hv).1
  have hl := h.1
  rw [ints_length] at hl
  obtain ⟨b, o, hA, hb, hc⟩ := reads_plain h (by omega)
  exact ⟨b, o, hA, hb, hc k _ (by unfold ints; rw [List.getElem?_map, hv]; rfl)⟩
theorem ints_len {w : World} {B n : Nat} {A : Option Addr} {vs : List Int} (h : Reads w B 1 A n (ints vs)) : vs.length = n := by
  have := h.1; rw [ints_length] at this; omega

set_option maxRecDepth 100000 in
set_option maxHeartbeats 4000000 in
theorem asked_any (nodes : Int) (A A2 : Option Addr) (n c m c2 : Nat) (zs : List Ed) (vs : List Int) (hn : n ≤ 1000) (hm : m ≤ 1000) (w : World) (hR : Reads w w.heap.size 3 A n (cellsE zs)) (hV : Reads w w.heap.size 1 A2 m (ints vs)) :
    Calls Try.prog 47 #[.agg #[.int .i64 nodes, .slice A n c], .slice A2 m c2] w fun e w' => e = .returned (.int .i64 (askE nodes zs vs)) ∧ Below w.heap.size w w' := by
  obtain ⟨bx, b0⟩ := box_new w #[.int .i64 nodes, .slice A n c] 24
  have HLV := Lib.hid (ints_len hV)
  have HV := Lib.hid fun W (h : Below w.heap.size w W) => (hV.below h)
  have HC := Lib.hid (check_any nodes A n c zs hn _ ((hR.below b0).more b0.size))
  have BX := Lib.hid bx
  have B0 := Lib.hid b0
  have z0 := bx.cell 0
  have z1 := bx.cell 1
  clear hR hV bx b0
  cases hr : rightG nodes zs
  · have HE := Lib.hid (ask_graph (vs := vs) hr)
    rw [check_no hr] at HC
    clear hr
    go_enter Try.func47, Try.ntmps47
    go_wp2_with fail
    refine HC.out.mono ?_
    rintro e w1 ⟨rfl, b⟩
    have B1 : Hid (Below w.heap.size w w1) := B0.out.trans (b.mono B0.out.size)
    clear b z0 z1
    go_wp2_with fail
    go_ret
    exact ⟨by rw [HE.out]; rfl, B1.out⟩
  · have HRG := Lib.hid hr
    rw [check_yes hr] at HC
    clear hr
    go_enter Try.func47, Try.ntmps47
    go_wp2_with fail
    refine HC.out.mono ?_
    rintro e w1 ⟨rfl, b⟩
    have B1 : Hid (Below w.heap.size w w1) := B0.out.trans (b.mono B0.out.size)
    have BX1 := Lib.hid (BX.out.below b BX.out.lt)
    clear b z0 z1 B0 BX HC
    have z0 : w1.cell? ⟨w.heap.size, 0, none⟩ = some (.int .i64 nodes) := BX1.out.cell 0
    have z1 : w1.cell? ⟨w.heap.size, 1, none⟩ = some (.slice A n c) := BX1.out.cell 1
    go_wp2_with fail
    go_loopg [15] m (fun gg i wr => ∃ k : Nat, k + gg = m ∧ i = .int .i64 k ∧ wr = w1 ∧ Hid (∀ v ∈ vs.take k, nodeB nodes v = true))
    case atStart => exact ⟨0, by omega, rfl, rfl, fun _ h => by simp at h⟩
    case round =>
      obtain ⟨k, hk, rfl, rfl, ht⟩ := hrel
      cases gk with
      | succ g2 =>
        have hlt : (k : Int) < (m : Int) := by omega
        obtain ⟨v, hv⟩ : ∃ v, vs[k]? = some v := ⟨vs[k]'(by rw [HLV.out]; omega), List.getElem?_eq_getElem _⟩
        obtain ⟨b, o, rfl, hb, g0⟩ := int_at (HV.out _ B1.out) hv
        have HK := Lib.hid hk
        cases hnv : nodeB nodes v
        · have HE : Hid (askE nodes zs vs = 2) := ask_arg HRG.out (by rw [List.all_eq_false]; exact ⟨v, List.mem_of_getElem? hv, by rw [hnv]; decide⟩)
          have HN := Lib.hid fun W => node_any v nodes W
          rw [hnv] at HN
          clear hv hk hnv
          go_wp2_with fail
          refine (HN.out _).mono ?_
          rintro e w2 ⟨rfl, rfl⟩
          go_wp2_with fail
          go_ret
          exact ⟨by rw [HE.out]; rfl, B1.out⟩
        · have HN := Lib.hid fun W => node_any v nodes W
          rw [hnv] at HN
          have HT : Hid (∀ v ∈ vs.take (k + 1), nodeB nodes v = true) := by
            intro x hx
            rw [List.take_add_one, hv] at hx
            rcases List.mem_append.1 hx with hx | hx
            · exact ht.out x hx
            · simp at hx; subst hx; exact hnv
          clear hv hk hnv
          go_wp2_with fail
          refine (HN.out _).mono ?_
          rintro e w2 ⟨rfl, rfl⟩
          go_wp2_with fail
          go_roundg g2
          case measure => omega
          case rel => exact ⟨k + 1, by have := HK.out; omega, by go_num, rfl, HT⟩
      | zero =>
        have hge : ¬ (k : Int) < (m : Int) := by omega
        have HE : Hid (askE nodes zs vs = 0) := ask_ok HRG.out (by
          rw [List.all_eq_true]
          have := ht.out
          rwa [List.take_of_length_le (by rw [HLV.out]; omega)] at this)
        clear hk
        go_wp2_with fail
        go_ret
        exact ⟨by rw [HE.out]; rfl, B1.out⟩

set_option maxHeartbeats 1000000 in
theorem start1_any (p : Ed) (hp : okE p) (v : Int) (hv : 0 ≤ v ∧ v ≤ 1000) (B : Nat) (W : World) (hB : B < W.heap.size) (hc : W.cell? ⟨B, 0, none⟩ = some (.int .i64 v)) :
    Calls Try.prog 65 #[.agg #[.int .i64 p.1, .int .i64 p.2.1, .int .i64 p.2.2], .pointer (some ⟨B, 0, none⟩)] W fun e W' => e = .returned (.int .i64 (p.1 - v)) ∧ Below W.heap.size W W' := by
  have hc2 : (W.alloc (.cells #[.int .i64 p.1, .int .i64 p.2.1, .int .i64 p.2.2] 35)).cell? ⟨B, 0, none⟩ = some (.int .i64 v) := (World.cell?_alloc_lt W _ ⟨B, 0, none⟩ hB).trans hc
  have hw : IntKind.i64.wrap (p.1 - v) = p.1 - v := by rw [IntKind.wrap_i64]; unfold okE at hp; omega
  go_enter Try.func65, Try.ntmps65
  go_wp2_with fail
  go_ret
  exact ⟨rfl, (Below.refl _ _).alloc (Nat.le_refl _) _⟩

/-- Edges as they stand in a graph that may be. -/
structure InRow (l : List Ed) : Prop where
  ok : ∀ p ∈ l, okE p
  ord : l.Pairwise fun x y => x.1 ≤ y.1
theorem IsG.row {nodes : Int} {l : List Ed} (h : IsG nodes l) : InRow l := ⟨h.ok, from_le h.ok h.up⟩

set_option maxRecDepth 100000 in
set_option maxHeartbeats 4000000 in
theorem start_any (A : Option Addr) (n c : Nat) (zs : List Ed) (v : Int) (hv : 0 ≤ v ∧ v ≤ 1000) (hz : InRow zs) (hn : n ≤ 1000) (w : World) (hR : Reads w w.heap.size 3 A n (cellsE zs)) :
    Calls Try.prog 46 #[.slice A n c, .int .i64 v] w fun e w' => e = .returned (.int .i64 (startE zs v : Int)) ∧ Below w.heap.size w w' := by
  obtain ⟨bx, b0⟩ := box_new w #[.int .i64 v] 3
  have hl := reads_len hR
  have hj : startE zs v ≤ n := by have := start_le zs v; omega
  have HF := Lib.hid (find_start (.pointer (some ⟨w.heap.size, 0, none⟩)) A n c (startE zs v) zs (fun p => p.1 - v) (match zs[startE zs v]? with | some p => (p.1 - v == 0) | none => false) (by omega) _ ((hR.below b0).more b0.size) hj
    (fun i p hp hi => start_lo hz.ord v hp hi) (fun i p hp hi => start_hi hz.ord v hp hi) (fun _ p hp => by rw [hp]) (fun h => by rw [List.getElem?_eq_none (by omega)])
    (fun p hp W hW => start1_any p (hz.ok p hp) v hv w.heap.size W (Nat.lt_of_lt_of_le bx.lt hW.size) ((bx.below hW bx.lt).cell 0)))
  have B0 := Lib.hid b0
  clear hR bx b0
  generalize (match zs[startE zs v]? with | some p => (p.1 - v == 0) | none => false) = bb at *
  go_enter Try.func46, Try.ntmps46
  go_wp2_with fail
  refine HF.out.mono ?_
  rintro e w1 ⟨rfl, b⟩
  have B1 : Hid (Below w.heap.size w w1) := B0.out.trans (b.mono B0.out.size)
  clear b
  go_wp2_with fail
  go_ret
  exact ⟨rfl, B1.out⟩

theorem reads_part {w : World} {B n l h : Nat} {A : Option Addr} {xs : List Value} (hR : Reads w B 3 A n xs) (hl : l ≤ h) (hh : h ≤ n) : Reads w B 3 (if h = l then A else A.map (·.add (l * 3))) (h - l) ((xs.drop (l * 3)).take ((h - l) * 3)) := by
  by_cases e : h = l
  · subst e
    rw [if_pos rfl, Nat.sub_self]
    exact ⟨by simp, fun h => absurd h (by omega)⟩
  · rw [if_neg e]
    have := (hR.cut (k := l) (cap := n + 1) (by omega) (by omega))
    rw [if_neg (by omega)] at this
    exact reads_take this (by omega)

/-- What is cut out of a row: the edges from a node. -/
def CutAt (zs : List Ed) (v : Int) (A : Option Addr) : Option Addr := if startE zs (v + 1) = startE zs v then A else A.map (·.add (startE zs v * 3))
theorem cut_reads {w : World} {B n : Nat} {A : Option Addr} {zs : List Ed} (v : Int) (hz : InRow zs) (h : Reads w B 3 A n (cellsE zs)) : Reads w B 3 (CutAt zs v A) (startE zs (v + 1) - startE zs v) (cellsE (outE zs v)) := by
  have hl := reads_len h
  have h1 := start_mono zs (u := v) (v := v + 1) (by omega)
  have h2 := start_le zs (v + 1)
  have := reads_part h h1 (by omega)
  rw [← cellsE_drop, ← cellsE_take, out_cut hz.ord] at this
  exact this

set_option maxRecDepth 100000 in
set_option maxHeartbeats 4000000 in
theorem leaving_any (A : Option Addr) (n c : Nat) (zs : List Ed) (v : Int) (hv : 0 ≤ v ∧ v ≤ 900) (hz : InRow zs) (hn : n ≤ 1000) (hnc : n ≤ c) (w : World) (hR : Reads w w.heap.size 3 A n (cellsE zs)) :
    Calls Try.prog 49 #[.slice A n c, .int .i64 v] w fun e w' => e = .returned (.slice (CutAt zs v A) (startE zs (v + 1) - startE zs v) (startE zs (v + 1) - startE zs v)) ∧ Below w.heap.size w w' := by
  have hl := reads_len hR
  have h1 := start_mono zs (u := v) (v := v + 1) (by omega)
  have h2 := start_le zs (v + 1)
  have HS0 := Lib.hid (start_any A n c zs v (by omega) hz hn w hR)
  have HS1 := Lib.hid fun W (h : Below w.heap.size w W) => start_any A n c zs (v + 1) (by omega) hz hn W ((hR.below h).more h.size)
  have hs := pr_slice_lhm A n c (startE zs v) (startE zs (v + 1)) (startE zs (v + 1)) _ _ _ rfl rfl rfl h1 (Nat.le_refl _) (by omega)
  have HD : Hid (CutAt zs v A = if startE zs (v + 1) = startE zs v then A else A.map (·.add (startE zs v * 3))) := rfl
  have hw : IntKind.i64.wrap (v + 1) = v + 1 := by rw [IntKind.wrap_i64]; omega
  rw [← HD.out] at hs
  clear hR hl hz HD
  generalize CutAt zs v A = C at *
  generalize startE zs v = s at *
  generalize startE zs (v + 1) = t at *
  go_enter Try.func49, Try.ntmps49
  go_wp2_with fail
  refine HS0.out.mono ?_
  rintro e w1 ⟨rfl, b1⟩
  have B1 := Lib.hid b1
  clear b1
  go_wp2_with fail
  refine (HS1.out _ B1.out).mono ?_
  rintro e w2 ⟨rfl, b2⟩
  have B2 : Hid (Below w.heap.size w w2) := B1.out.trans (b2.mono B1.out.size)
  clear b2
  go_wp2_with fail
  go_ret
  exact ⟨rfl, B2.out⟩

theorem Own.row {B h n : Nat} {xs : List Ed} {w : World} (o : Own B h n xs w) (hn : n ≤ 1000000) : w.ownsRow B 35 3 (.slice (some ⟨h, 0, none⟩) n n) n (cellsE xs) := by
  refine ⟨by rw [cellsE_length, o.2.1], .inr ⟨h, n, _, rfl, o.1, o.2.2, Nat.le_refl _, by unfold maxLen; omega, by rw [List.size_toArray, cellsE_length, o.2.1], ?_⟩⟩
  rw [List.take_of_length_le (by rw [cellsE_length, o.2.1]; exact Nat.le_refl _)]

set_option maxRecDepth 100000 in
set_option maxHeartbeats 4000000 in
theorem copied_any (A : Option Addr) (n c : Nat) (zs : List Ed) (hn : n ≤ 100000) (w : World) (hR : Reads w w.heap.size 3 A n (cellsE zs)) :
    Calls Try.prog 48 #[.slice A n c] w (RowIs zs w) := by
  have hl := reads_len hR
  have hmk := fun W => pr_make n (by omega) W
  have b0 : Below w.heap.size w (w.alloc (.cells (cellsE (List.replicate n ((0, 0, 0) : Ed))).toArray 35)) := (Below.refl _ _).alloc (Nat.le_refl _) _
  obtain ⟨w2, r2, hb2, hg2⟩ := copy_pairs (w.alloc (.cells (cellsE (List.replicate n ((0, 0, 0) : Ed))).toArray 35)) w.heap.size 0 0 n n A n c _ zs (by omega) (Blk.new _ _ _)
    (Src.of_reads (hR.below b0) (by omega) (by simp) (Nat.le_refl _)) (Nat.le_refl _) (by rw [List.length_replicate]; omega)
  have hx : (List.replicate n ((0, 0, 0) : Ed)).take 0 ++ zs ++ (List.replicate n ((0, 0, 0) : Ed)).drop (0 + n) = zs := by
    rw [List.take_zero, List.nil_append, List.drop_of_length_le (by rw [List.length_replicate]; omega), List.append_nil]
  rw [hx] at hb2
  have HF : Hid (Own w.heap.size w.heap.size n zs w2 ∧ Below w.heap.size w w2) := ⟨⟨Nat.le_refl _, hl, hb2⟩, below_row b0 hg2 (by simp) (Nat.le_refl _)⟩
  clear hR hb2 hg2 hx b0
  go_enter Try.func48, Try.ntmps48
  go_wp2_with fail
  go_ret
  unfold RowIs
  rw [hl]
  exact ⟨_, n, rfl, HF.out.1.row (by omega), Nat.le_refl _, by omega, HF.out.2⟩
end Go.Proofs.Yticbgikbpafeoaa
