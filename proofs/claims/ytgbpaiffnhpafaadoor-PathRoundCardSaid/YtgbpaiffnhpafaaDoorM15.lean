/- Layer path: a walk that is begun: contracts. -/
import Derived.Test.YtgbpaiffnhpafaaDoorM10
import Derived.Test.YtgbpaiffnhpafaaDoorM12
import Derived.Test.YtgbpaiffnhpafaaDoorM14
-- holds: YtgbpaiffnhpafaaDoorPg
namespace Go.Proofs.YtgbpaiffnhpafaaDoor
open Go.RowKit

/-- A block that holds two slices holds no row of numbers. -/
theorem reads_put8 {W : World} {B X k n : Nat} {t : TypeId} {a b : Value} {A : Option Addr} {zs : List Int} (h : Reads W B 1 A n (ints zs)) (hx : Blk W X t #[a, b]) (ha : ∀ z, a ≠ .int .i64 z) (hb2 : ∀ z, b ≠ .int .i64 z) (u : Value) : Reads (W.setCell ⟨X, k, none⟩ u) B 1 A n (ints zs) := by
  refine ⟨h.1, fun hn => ?_⟩
  obtain ⟨ad, rfl, hb, hc⟩ := h.2 hn
  refine ⟨ad, rfl, hb, fun j v hv => ?_⟩
  have hl := h.1
  have hj := (List.getElem?_eq_some_iff.1 hv).1
  have h0 := hc j _ hv
  have hv2 : ∃ z, v = .int .i64 z := by
    unfold ints at hv
    rw [List.getElem?_map] at hv
    cases hz : zs[j]? with
    | none => rw [hz] at hv; cases hv
    | some z => rw [hz] at hv; simp at hv; exact ⟨z, hv.symm⟩
  obtain ⟨z, rfl⟩ := hv2
  have h00 := hc 0 _ (List.getElem?_eq_getElem (show 0 < (ints zs).length by omega))
  obtain ⟨bl, o, spot⟩ := ad
  have hspot : spot = none := by simpa [Addr.add] using World.cell?_spot h00
  subst hspot
  rw [Go.WideShapes.add_plain] at h0 ⊢
  by_cases e : bl = X
  · exfalso
    subst e
    rw [hx.cell] at h0
    rcases Nat.lt_or_ge (o + j) 2 with h3 | h3
    · rcases Nat.lt_or_eq_of_le (Nat.le_of_lt_succ h3) with h4 | h4
      · have : o + j = 0 := by omega
        rw [this] at h0
        simp at h0
        exact ha z h0
      · rw [h4] at h0
        simp at h0
        exact hb2 z h0
    · have : (#[a, b] : Array Value)[o + j]? = none := Array.getElem?_eq_none (by simpa using h3)
      rw [this] at h0
      cases h0
  · rw [World.cell?_setCell_far _ _ _ _ (fun e2 => e e2.symm)]
    exact h0

def BegOk (zs : List Ed) (A : Option Addr) (n c m : Nat) (w : World) (e : Ending) (w' : World) : Prop :=
  ∃ (Sa : Option Addr) (sc : Nat), e = .returned (.tuple #[.agg #[.slice A n c, .slice Sa (m + 1) sc], .int .i64 0]) ∧ PwAt w'.heap.size A n c Sa sc m zs w' ∧ Below w.heap.size w w'
def BegNo (k : Int) (w : World) (e : Ending) (w' : World) : Prop := e = .returned (.tuple #[.agg #[.slice none 0 0, .slice none 0 0], .int .i64 k]) ∧ Below w.heap.size w w'

set_option maxRecDepth 100000 in
set_option maxHeartbeats 4000000 in
theorem begun_graph (z : Int) (A A2 : Option Addr) (n c k c2 : Nat) (zs : List Ed) (hg : rightG z zs = false) (hn : n ≤ 1000) (w : World) (hR : Reads w w.heap.size 3 A n (cellsE zs)) :
    Calls Tryd.prog 37 #[.agg #[.int .i64 z, .slice A n c], .slice A2 k c2] w (BegNo 150 w) := by
  obtain ⟨k0, k1, b0⟩ := two_new w #[.int .i64 z, .slice A n c] #[.slice none 0 0, .slice none 0 0] 24 69
  have HS := Lib.hid (starts_no z A n c zs hg (by omega) _ ((hR.below b0).more b0.size))
  have B0 := Lib.hid b0
  have K1 := Lib.hid k1
  have z0 := k0.cell 0
  have z1 := k0.cell 1
  clear hR k0 k1 b0 hg
  go_enter Tryd.func37, Tryd.ntmps37
  go_upto_region 1 with fail
  generalize (w.alloc (.cells #[.int .i64 z, .slice A n c] 24)).alloc (.cells #[.slice none 0 0, .slice none 0 0] 69) = W0 at *
  go_wp2_with fail
  refine HS.out.mono ?_
  rintro e w1 ⟨A3, c3, rfl, -, -, -, h4⟩
  have B1 : Hid (Below w.heap.size w w1) := B0.out.trans (h4.mono B0.out.size)
  have H1 := Lib.hid (K1.out.below h4 K1.out.lt)
  have q0 := H1.out.cell 0
  have q1 := H1.out.cell 1
  have q2 := H1.out.frozen 0
  have q3 := H1.out.frozen 1
  have y0 := (store2 H1.out (.slice none 0 0) (.slice none 0 0)).cell 0
  have y1 := (store2 H1.out (.slice none 0 0) (.slice none 0 0)).cell 1
  have HE : Hid (BegNo 150 w (.returned (.tuple #[.agg #[.slice none 0 0, .slice none 0 0], .int .i64 150])) ((w1.setCell ⟨w.heap.size + 1, 0, none⟩ (.slice none 0 0)).setCell ⟨w.heap.size + 1, 1, none⟩ (.slice none 0 0))) :=
    ⟨rfl, below_store2 B1.out (Nat.le_succ _) _ _⟩
  clear h4 z0 z1 HS B0 K1
  go_wp2_with fail
  exact bodyPost_ret (v := .tuple #[.agg #[.slice none 0 0, .slice none 0 0], .int .i64 150]) (by simp [results, Tryd.results37, go_sem, y0, y1]) rfl HE.out

set_option maxRecDepth 100000 in
set_option maxHeartbeats 8000000 in
theorem begun_arg (m : Nat) (A A2 : Option Addr) (n c k c2 : Nat) (zs : List Ed) (vs : List Int) (hg : IsG (m : Int) zs) (hn : n ≤ 1000) (hk : k ≤ 1000000) (hv : vs.all (nodeB (m : Int)) = false) (w : World) (hR : Reads w w.heap.size 3 A n (cellsE zs)) (hV : Reads w w.heap.size 1 A2 k (ints vs)) :
    Calls Tryd.prog 37 #[.agg #[.int .i64 (m : Int), .slice A n c], .slice A2 k c2] w (BegNo 2 w) := by
  obtain ⟨k0, k1, b0⟩ := two_new w #[.int .i64 (m : Int), .slice A n c] #[.slice none 0 0, .slice none 0 0] 24 69
  have HS := Lib.hid (starts_ok (m : Int) A n c zs hg (by omega) _ ((hR.below b0).more b0.size))
  rw [Int.toNat_natCast] at HS
  have HLV := Lib.hid (ints_len hV)
  have HV := Lib.hid fun W (h : Below w.heap.size w W) => (hV.below h)
  have HNV := Lib.hid hv
  have B0 := Lib.hid b0
  have K0 := Lib.hid k0
  have K1 := Lib.hid k1
  have z0 := k0.cell 0
  have z1 := k0.cell 1
  clear hR k0 k1 b0 hg hV hv
  go_enter Tryd.func37, Tryd.ntmps37
  go_upto_region 1 with fail
  generalize (w.alloc (.cells #[.int .i64 (m : Int), .slice A n c] 24)).alloc (.cells #[.slice none 0 0, .slice none 0 0] 69) = W0 at *
  go_wp2_with fail
  refine HS.out.mono ?_
  rintro e w1 ⟨A3, c3, rfl, -, -, -, h4⟩
  have B1 : Hid (Below w.heap.size w w1) := B0.out.trans (h4.mono B0.out.size)
  have H0 := Lib.hid (K0.out.below h4 K0.out.lt)
  have H1 := Lib.hid (K1.out.below h4 K1.out.lt)
  clear h4 z0 z1 HS B0 K1 K0
  have z0 := H0.out.cell 0
  go_wp2_with fail
  go_loopg [21] k (fun gg i wr => ∃ j : Nat, j + gg = k ∧ i = .int .i64 j ∧ wr = w1 ∧ Hid (∀ v ∈ vs.take j, nodeB (m : Int) v = true))
  case atStart => exact ⟨0, by omega, rfl, rfl, fun _ h => by simp at h⟩
  case round =>
    obtain ⟨j, hj, rfl, rfl, ht⟩ := hrel
    cases gk with
    | succ g2 =>
      have hlt : (j : Int) < (k : Int) := by omega
      obtain ⟨v, hv⟩ : ∃ v, vs[j]? = some v := ⟨vs[j]'(by rw [HLV.out]; omega), List.getElem?_eq_getElem _⟩
      obtain ⟨b, o, rfl, hb, g0⟩ := int_at (HV.out _ B1.out) hv
      have HK := Lib.hid hj
      have q0 := H1.out.cell 0
      have q1 := H1.out.cell 1
      have q2 := H1.out.frozen 0
      have q3 := H1.out.frozen 1
      have y0 := (store2 H1.out (.slice none 0 0) (.slice none 0 0)).cell 0
      have y1 := (store2 H1.out (.slice none 0 0) (.slice none 0 0)).cell 1
      cases hnv : nodeB (m : Int) v
      · have HE : Hid (BegNo 2 w (.returned (.tuple #[.agg #[.slice none 0 0, .slice none 0 0], .int .i64 2])) ((wr.setCell ⟨w.heap.size + 1, 0, none⟩ (.slice none 0 0)).setCell ⟨w.heap.size + 1, 1, none⟩ (.slice none 0 0))) :=
          ⟨rfl, below_store2 B1.out (Nat.le_succ _) _ _⟩
        have hnv2 := of_decide_eq_false hnv
        by_cases h1 : v < 0
        · clear hv hj hnv hnv2 ht
          go_wp2_with fail
          exact bodyPost_ret (v := .tuple #[.agg #[.slice none 0 0, .slice none 0 0], .int .i64 2]) (by simp [results, Tryd.results37, go_sem, y0, y1]) rfl HE.out
        · have h2 : v ≥ (m : Int) := by omega
          have h1b : decide (v < 0) = false := by simpa using h1
          clear hv hj hnv hnv2 ht h1
          go_wp2_with fail
          exact bodyPost_ret (v := .tuple #[.agg #[.slice none 0 0, .slice none 0 0], .int .i64 2]) (by simp [results, Tryd.results37, go_sem, y0, y1]) rfl HE.out
      · have HT : Hid (∀ v ∈ vs.take (j + 1), nodeB (m : Int) v = true) := by
          intro x hx
          rw [List.take_add_one, hv] at hx
          rcases List.mem_append.1 hx with hx | hx
          · exact ht.out x hx
          · simp at hx; subst hx; exact hnv
        have hnv2 := of_decide_eq_true hnv
        have h1 : ¬ v < 0 := by omega
        have h2 : ¬ v ≥ (m : Int) := by omega
        have h1b : decide (v < 0) = false := by simpa using h1
        have h2b : decide (v ≥ (m : Int)) = false := by simpa using h2
        clear hv hj hnv hnv2 ht y0 y1 q0 q1 q2 q3 h1 h2
        go_wp2_with fail
        go_roundg g2
        case measure => omega
        case rel => exact ⟨j + 1, by have := HK.out; omega, by go_num, rfl, HT⟩
    | zero =>
      exfalso
      have h1 := HNV.out
      have h2 : vs.all (nodeB (m : Int)) = true := by
        rw [List.all_eq_true]
        have := ht.out
        rwa [List.take_of_length_le (by rw [HLV.out]; omega)] at this
      rw [h1] at h2
      cases h2

set_option maxRecDepth 100000 in
set_option maxHeartbeats 8000000 in
theorem begun_ok (m : Nat) (A A2 : Option Addr) (n c k c2 : Nat) (zs : List Ed) (vs : List Int) (hg : IsG (m : Int) zs) (hn : n ≤ 1000) (hnc : n ≤ c) (hk : k ≤ 1000000) (hv : vs.all (nodeB (m : Int)) = true) (w : World) (hR : Reads w w.heap.size 3 A n (cellsE zs)) (hV : Reads w w.heap.size 1 A2 k (ints vs)) :
    Calls Tryd.prog 37 #[.agg #[.int .i64 (m : Int), .slice A n c], .slice A2 k c2] w (BegOk zs A n c m w) := by
  obtain ⟨k0, k1, b0⟩ := two_new w #[.int .i64 (m : Int), .slice A n c] #[.slice none 0 0, .slice none 0 0] 24 69
  have HS := Lib.hid (starts_ok (m : Int) A n c zs hg (by omega) _ ((hR.below b0).more b0.size))
  rw [Int.toNat_natCast] at HS
  have HLV := Lib.hid (ints_len hV)
  have HV := Lib.hid fun W (h : Below w.heap.size w W) => (hV.below h)
  have HR := Lib.hid fun W (h : Below w.heap.size w W) => ((hR.below h).more h.size)
  have HNV := Lib.hid hv
  have HNC := Lib.hid hnc
  have B0 := Lib.hid b0
  have K0 := Lib.hid k0
  have K1 := Lib.hid k1
  have z0 := k0.cell 0
  have z1 := k0.cell 1
  clear hR k0 k1 b0 hg hV hv hnc
  go_enter Tryd.func37, Tryd.ntmps37
  go_upto_region 1 with fail
  generalize (w.alloc (.cells #[.int .i64 (m : Int), .slice A n c] 24)).alloc (.cells #[.slice none 0 0, .slice none 0 0] 69) = W0 at *
  go_wp2_with fail
  refine HS.out.mono ?_
  rintro e w1 ⟨Sa, sc, rfl, hss, -, -, h4⟩
  rw [startsE_len] at hss ⊢
  have B1 : Hid (Below w.heap.size w w1) := B0.out.trans (h4.mono B0.out.size)
  have H0 := Lib.hid (K0.out.below h4 K0.out.lt)
  have H1 := Lib.hid (K1.out.below h4 K1.out.lt)
  have HSS := Lib.hid hss
  clear h4 z0 z1 HS B0 K1 K0 hss
  have z0 := H0.out.cell 0
  have z1 := H0.out.cell 1
  obtain ⟨sn, hsn⟩ : ∃ sn, m + 1 = sn := ⟨_, rfl⟩
  have HSN := Lib.hid hsn
  rw [hsn] at HSS ⊢
  clear hsn
  go_wp2_with fail
  go_loopg [21] k (fun gg i wr => ∃ j : Nat, j + gg = k ∧ i = .int .i64 j ∧ wr = w1)
  case atStart => exact ⟨0, by omega, rfl, rfl⟩
  case round =>
    obtain ⟨j, hj, rfl, rfl⟩ := hrel
    cases gk with
    | succ g2 =>
      have hlt : (j : Int) < (k : Int) := by omega
      obtain ⟨v, hv⟩ : ∃ v, vs[j]? = some v := ⟨vs[j]'(by rw [HLV.out]; omega), List.getElem?_eq_getElem _⟩
      obtain ⟨b, o, rfl, hb, g0⟩ := int_at (HV.out _ B1.out) hv
      have HK := Lib.hid hj
      have hnv2 := of_decide_eq_true (List.all_eq_true.1 HNV.out v (List.mem_of_getElem? hv))
      have h1 : ¬ v < 0 := by omega
      have h2 : ¬ v ≥ (m : Int) := by omega
      have h1b : decide (v < 0) = false := by simpa using h1
      have h2b : decide (v ≥ (m : Int)) = false := by simpa using h2
      clear hv hj hnv2 h1 h2
      go_wp2_with fail
      go_roundg g2
      case measure => omega
      case rel => exact ⟨j + 1, by have := HK.out; omega, by go_num, rfl⟩
    | zero =>
      have hge : ¬ (j : Int) < (k : Int) := by omega
      have q0 := H1.out.cell 0
      have q1 := H1.out.cell 1
      have q2 := H1.out.frozen 0
      have q3 := H1.out.frozen 1
      have y0 := (store2 H1.out (.slice A n c) (.slice Sa sn sc)).cell 0
      have y1 := (store2 H1.out (.slice A n c) (.slice Sa sn sc)).cell 1
      have HE : Hid (BegOk zs A n c m w (.returned (.tuple #[.agg #[.slice A n c, .slice Sa sn sc], .int .i64 0])) ((wr.setCell ⟨w.heap.size + 1, 0, none⟩ (.slice A n c)).setCell ⟨w.heap.size + 1, 1, none⟩ (.slice Sa sn sc))) := by
        have hbb := below_store2 B1.out (X := w.heap.size + 1) (Nat.le_succ _) (.slice A n c) (.slice Sa sn sc)
        refine ⟨Sa, sc, by rw [HSN.out], ⟨HR.out _ hbb, ?_, HNC.out⟩, hbb⟩
        rw [HSN.out, World.size_setCell, World.size_setCell]
        have h1 : Blk (wr.setCell ⟨w.heap.size + 1, 0, none⟩ (.slice A n c)) (w.heap.size + 1) 69 #[.slice A n c, .slice none 0 0] := by simpa using H1.out.set_ 0 (.slice A n c)
        have hss := HSS.out
        rw [← HSN.out] at hss ⊢
        exact reads_put8 (reads_put8 hss H1.out (fun z e => by cases e) (fun z e => by cases e) _) h1 (fun z e => by cases e) (fun z e => by cases e) _
      clear hj
      go_wp2_with fail
      exact bodyPost_ret (v := .tuple #[.agg #[.slice A n c, .slice Sa sn sc], .int .i64 0]) (by simp [results, Tryd.results37, go_sem, y0, y1]) rfl HE.out

/-- A walk of what cycles can go along. -/
def WithOk (zs : List Ed) (m : Nat) (w : World) (e : Ending) (w' : World) : Prop :=
  ∃ (ls : List (List Int)) (os : List Int) (A : Option Addr) (n c : Nat) (Sa : Option Addr) (sc : Nat), Comps zs m ls os ∧ n ≤ 1000 ∧ e = .returned (.tuple #[.agg #[.slice A n c, .slice Sa (m + 1) sc], .int .i64 0]) ∧ PwAt w'.heap.size A n c Sa sc m (zs.filter (sameOf os)) w' ∧ Below w.heap.size w w'

set_option maxRecDepth 100000 in
set_option maxHeartbeats 4000000 in
theorem within_graph (g : GV) (A2 : Option Addr) (k c2 : Nat) (hg : rightG g.z g.es = false) (hn : g.n ≤ 700) (w : World) (hR : g.ok w) :
    Calls Tryd.prog 47 #[.agg #[.int .i64 g.z, .slice g.A g.n g.c], .slice A2 k c2] w (BegNo 150 w) := by
  obtain ⟨k0, k1, b0⟩ := two_new w #[.int .i64 g.z, .slice g.A g.n g.c] #[.slice none 0 0, .slice none 0 0] 24 69
  have HS := Lib.hid (inner6_any g _ hn (hR.on (b0.mono (Nat.le_refl _))))
  have HG := Lib.hid hg
  have B0 := Lib.hid b0
  have K1 := Lib.hid k1
  have z0 := k0.cell 0
  have z1 := k0.cell 1
  obtain ⟨z, A, n, c, zs⟩ := g
  simp only at *
  clear hR k0 k1 b0 hg
  go_enter Tryd.func47, Tryd.ntmps47
  go_upto_region 1 with fail
  generalize (w.alloc (.cells #[.int .i64 z, .slice A n c] 24)).alloc (.cells #[.slice none 0 0, .slice none 0 0] 69) = W0 at *
  go_wp2_with fail
  refine HS.out.mono ?_
  rintro e w1 ⟨gz, ges, ek, ⟨A3, c3, rfl, -, -, -, h4⟩, -, h6⟩
  obtain ⟨rfl, rfl, rfl⟩ := h6 HG.out
  have hb2 := h4.alloc h4.size (.cells #[.int .i64 0, .slice A3 ([] : List Ed).length c3] 24)
  have B1 : Hid (Below w.heap.size w (w1.alloc (.cells #[.int .i64 0, .slice A3 ([] : List Ed).length c3] 24))) := B0.out.trans (hb2.mono B0.out.size)
  have H1 := Lib.hid (K1.out.below hb2 K1.out.lt)
  clear h4 z0 z1 HS B0 K1 hb2 h6
  go_upto_region 2 with fail
  generalize w1.alloc (.cells #[.int .i64 0, .slice A3 ([] : List Ed).length c3] 24) = w2 at *
  have q0 := H1.out.cell 0
  have q1 := H1.out.cell 1
  have q2 := H1.out.frozen 0
  have q3 := H1.out.frozen 1
  have y0 := (store2 H1.out (.slice none 0 0) (.slice none 0 0)).cell 0
  have y1 := (store2 H1.out (.slice none 0 0) (.slice none 0 0)).cell 1
  have HE : Hid (BegNo 150 w (.returned (.tuple #[.agg #[.slice none 0 0, .slice none 0 0], .int .i64 150])) ((w2.setCell ⟨w.heap.size + 1, 0, none⟩ (.slice none 0 0)).setCell ⟨w.heap.size + 1, 1, none⟩ (.slice none 0 0))) :=
    ⟨rfl, below_store2 B1.out (Nat.le_succ _) _ _⟩
  go_wp2_with fail
  exact bodyPost_ret (v := .tuple #[.agg #[.slice none 0 0, .slice none 0 0], .int .i64 150]) (by simp [results, Tryd.results47, go_sem, y0, y1]) rfl HE.out

/-- What begun tells of the inner graph, handed on. -/
theorem within_by (g : GV) (m : Nat) (hz : g.z = (m : Int)) (A2 : Option Addr) (k c2 : Nat) (vs : List Int) (Q : World → Ending → World → Prop) (hg : rightG g.z g.es = true) (hn : g.n ≤ 700) (w : World) (hR : g.ok w) (hV : Reads w w.heap.size 1 A2 k (ints vs))
    (hQ : ∀ (ls : List (List Int)) (os : List Int) (A3 : Option Addr) (n3 c3 : Nat) (W : World), Comps g.es m ls os → n3 ≤ 1000 → n3 ≤ c3 → IsG (m : Int) (g.es.filter (sameOf os)) → Below w.heap.size w W → Reads W W.heap.size 3 A3 n3 (cellsE (g.es.filter (sameOf os))) → Reads W W.heap.size 1 A2 k (ints vs) →
      Calls Tryd.prog 37 #[.agg #[.int .i64 (m : Int), .slice A3 n3 c3], .slice A2 k c2] W fun e W' => ∃ (v : Value) (ek : Int) (A5 A6 : Option Addr) (n5 c5 n6 c6 : Nat), v = .agg #[.slice A5 n5 c5, .slice A6 n6 c6] ∧ e = .returned (.tuple #[v, .int .i64 ek]) ∧ Below W.heap.size W W' ∧
        ∀ X, Blk W' X 69 #[.slice none 0 0, .slice none 0 0] → w.heap.size ≤ X → Q w e ((W'.setCell ⟨X, 0, none⟩ (.slice A5 n5 c5)).setCell ⟨X, 1, none⟩ (.slice A6 n6 c6))) :
    Calls Tryd.prog 47 #[.agg #[.int .i64 g.z, .slice g.A g.n g.c], .slice A2 k c2] w (Q w) := by
  obtain ⟨k0, k1, b0⟩ := two_new w #[.int .i64 g.z, .slice g.A g.n g.c] #[.slice none 0 0, .slice none 0 0] 24 69
  have HS := Lib.hid (inner6_any g _ hn (hR.on (b0.mono (Nat.le_refl _))))
  have hlen := hR.len
  have HG := Lib.hid hg
  have HQ := Lib.hid hQ
  have HV := Lib.hid fun W (h : Below w.heap.size w W) => ((hV.below h).more h.size)
  have HZ := Lib.hid (rightG_iff.1 hg)
  have B0 := Lib.hid b0
  have K1 := Lib.hid k1
  have z0 := k0.cell 0
  have z1 := k0.cell 1
  obtain ⟨z, A, n, c, zs⟩ := g
  simp only at *
  subst hz
  have HLEN : Hid (zs.length ≤ 1000) := by show _ ≤ _; omega
  clear hR k0 k1 b0 hg hQ hV hlen
  go_enter Tryd.func47, Tryd.ntmps47
  go_upto_region 1 with fail
  generalize (w.alloc (.cells #[.int .i64 (m : Int), .slice A n c] 24)).alloc (.cells #[.slice none 0 0, .slice none 0 0] 69) = W0 at *
  go_wp2_with fail
  refine HS.out.mono ?_
  rintro e w1 ⟨gz, ges, ek, ⟨A3, c3, rfl, h1, h2, h3, h4⟩, h5, -⟩
  obtain ⟨rfl, rfl, ls, os, hco, rfl⟩ := h5 HG.out
  rw [Int.toNat_natCast] at hco
  have hb2 := h4.alloc h4.size (.cells #[.int .i64 (m : Int), .slice A3 (zs.filter (sameOf os)).length c3] 24)
  have hb3 : Below w1.heap.size w1 (w1.alloc (.cells #[.int .i64 (m : Int), .slice A3 (zs.filter (sameOf os)).length c3] 24)) := (Below.refl _ _).alloc (Nat.le_refl _) _
  have B1 : Hid (Below w.heap.size w (w1.alloc (.cells #[.int .i64 (m : Int), .slice A3 (zs.filter (sameOf os)).length c3] 24))) := B0.out.trans (hb2.mono B0.out.size)
  have H1 := Lib.hid (K1.out.below hb2 K1.out.lt)
  have z2 := (Blk.new w1 24 #[.int .i64 (m : Int), .slice A3 (zs.filter (sameOf os)).length c3]).cell 0
  have z3 := (Blk.new w1 24 #[.int .i64 (m : Int), .slice A3 (zs.filter (sameOf os)).length c3]).cell 1
  have HB := Lib.hid (HQ.out ls os A3 (zs.filter (sameOf os)).length c3 _ hco (by have := List.length_filter_le (sameOf os) zs; have := HLEN.out; omega) h2 (HZ.out.filter _) B1.out (((reads_own h1).below hb3).more hb3.size) (HV.out _ B1.out))
  clear h1 h2 h3 h4 z0 z1 HS B0 K1 hb2 h5 hb3 hco
  go_upto_region 2 with fail
  generalize w1.alloc (.cells #[.int .i64 (m : Int), .slice A3 (zs.filter (sameOf os)).length c3] 24) = w2 at *
  go_wp2_with fail
  refine HB.out.mono ?_
  rintro e w3 ⟨v, ek, A5, A6, n5, c5, n6, c6, rfl, rfl, hb, hq⟩
  have H2 := Lib.hid (H1.out.below hb H1.out.lt)
  have HE := Lib.hid (hq _ H2.out (Nat.le_succ _))
  have q0 := H2.out.cell 0
  have q1 := H2.out.cell 1
  have q2 := H2.out.frozen 0
  have q3 := H2.out.frozen 1
  have y0 := (store2 H2.out (.slice A5 n5 c5) (.slice A6 n6 c6)).cell 0
  have y1 := (store2 H2.out (.slice A5 n5 c5) (.slice A6 n6 c6)).cell 1
  clear hb hq HB z2 z3
  go_wp2_with fail
  exact bodyPost_ret (v := .tuple #[.agg #[.slice A5 n5 c5, .slice A6 n6 c6], .int .i64 ek]) (by simp [results, Tryd.results47, go_sem, y0, y1]) rfl HE.out

theorem within_arg (g : GV) (m : Nat) (hz : g.z = (m : Int)) (A2 : Option Addr) (k c2 : Nat) (vs : List Int) (hg : rightG g.z g.es = true) (hn : g.n ≤ 700) (hk : k ≤ 1000000) (hv : vs.all (nodeB (m : Int)) = false) (w : World) (hR : g.ok w) (hV : Reads w w.heap.size 1 A2 k (ints vs)) :
    Calls Tryd.prog 47 #[.agg #[.int .i64 g.z, .slice g.A g.n g.c], .slice A2 k c2] w (BegNo 2 w) :=
  within_by g m hz A2 k c2 vs (BegNo 2) hg hn w hR hV fun _ _ A3 n3 c3 W _ h1 _ h3 hb h4 h5 => (begun_arg m A3 A2 n3 c3 k c2 _ vs h3 h1 hk hv W h4 h5).mono fun _ _ ⟨he, hb'⟩ =>
    ⟨_, 2, none, none, 0, 0, 0, 0, rfl, he, hb', fun _ _ hX => ⟨he, below_store2 (hb.trans (hb'.mono hb.size)) hX _ _⟩⟩
theorem within_ok (g : GV) (m : Nat) (hz : g.z = (m : Int)) (A2 : Option Addr) (k c2 : Nat) (vs : List Int) (hg : rightG g.z g.es = true) (hn : g.n ≤ 700) (hk : k ≤ 1000000) (hv : vs.all (nodeB (m : Int)) = true) (w : World) (hR : g.ok w) (hV : Reads w w.heap.size 1 A2 k (ints vs)) :
    Calls Tryd.prog 47 #[.agg #[.int .i64 g.z, .slice g.A g.n g.c], .slice A2 k c2] w (WithOk g.es m w) :=
  within_by g m hz A2 k c2 vs (WithOk g.es m) hg hn w hR hV fun ls os A3 n3 c3 W hco h1 h2 h3 hb h4 h5 => (begun_ok m A3 A2 n3 c3 k c2 _ vs h3 h1 h2 hk hv W h4 h5).mono fun e W' ⟨Sa, sc, he, hp, hb'⟩ =>
    ⟨_, 0, A3, Sa, n3, c3, m + 1, sc, rfl, he, hb', fun X hX hlo => by
      have h6 : Blk (W'.setCell ⟨X, 0, none⟩ (.slice A3 n3 c3)) X 69 #[.slice A3 n3 c3, .slice none 0 0] := by simpa using hX.set_ 0 (.slice A3 n3 c3)
      refine ⟨ls, os, A3, n3, c3, Sa, sc, hco, h1, he, ⟨?_, ?_, h2⟩, below_store2 (hb.trans (hb'.mono hb.size)) hlo _ _⟩
      · rw [World.size_setCell, World.size_setCell]
        exact reads_put (reads_put hp.es hX) h6
      · rw [World.size_setCell, World.size_setCell]
        exact reads_put8 (reads_put8 hp.ss hX (fun z e => by cases e) (fun z e => by cases e) _) h6 (fun z e => by cases e) (fun z e => by cases e) _⟩
end Go.Proofs.YtgbpaiffnhpafaaDoor
