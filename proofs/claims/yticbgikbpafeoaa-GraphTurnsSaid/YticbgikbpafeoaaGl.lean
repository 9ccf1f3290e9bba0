/- Layer graph: sorted, Of, Out, Same; the document's Same; fair: contracts. -/
import Derived.Test.YticbgikbpafeoaaGj
namespace Go.Proofs.Yticbgikbpafeoaa
open Go.RowKit

theorem store2 {W : World} {X : Nat} {t : TypeId} {a b : Value} (h : Blk W X t #[a, b]) (u v : Value) : Blk ((W.setCell ⟨X, 0, none⟩ u).setCell ⟨X, 1, none⟩ v) X t #[u, v] := by
  have := (h.set_ 0 u).set_ 1 v
  simpa using this
theorem own_store {W : World} {base X k : Nat} {t e : TypeId} {size n : Nat} {v : Value} {xs : List Value} {cs : Array Value} (h : W.ownsRow base e size v n xs) (hb : Blk W X t cs) (hte : t ≠ e) (u : Value) : (W.setCell ⟨X, k, none⟩ u).ownsRow base e size v n xs := by
  refine h.kept (row := some X) (setCell_only (p := ⟨X, k, none⟩) (World.grownBy.refl W _) (.inl rfl) u) ?_
  rcases h.2 with ⟨rfl, _⟩ | ⟨g, cap, cur, rfl, _, hg, _⟩
  · exact .inl rfl
  · refine .inr fun e' => ?_
    have e2 : g = X := by simpa [Value.ownBlock] using e'
    subst e2
    unfold Blk at hb
    rw [hb] at hg
    injection hg with hg
    injection hg with _ h2
    exact hte h2
theorem own_store2 {W : World} {base X : Nat} {t e : TypeId} {size n : Nat} {v : Value} {xs : List Value} {a b : Value} (h : W.ownsRow base e size v n xs) (hb : Blk W X t #[a, b]) (hte : t ≠ e) (u u' : Value) : ((W.setCell ⟨X, 0, none⟩ u).setCell ⟨X, 1, none⟩ u').ownsRow base e size v n xs :=
  own_store (own_store h hb hte u) (hb.set_ 0 u) hte u'
theorem below_store2 {B : Nat} {w W : World} {X : Nat} (h : Below B w W) (hX : B ≤ X) (u v : Value) : Below B w ((W.setCell ⟨X, 0, none⟩ u).setCell ⟨X, 1, none⟩ v) :=
  (h.setCell (p := ⟨X, 0, none⟩) hX u).setCell (p := ⟨X, 1, none⟩) hX v

/-- A graph, and an error. -/
def GErr (nodes : Int) (ps : List Ed) (k : Int) (w : World) (e : Ending) (w' : World) : Prop :=
  ∃ (A : Option Addr) (c : Nat), e = .returned (.tuple #[.agg #[.int .i64 nodes, .slice A ps.length c], .int .i64 k]) ∧ w'.ownsRow w.heap.size 35 3 (.slice A ps.length c) ps.length (cellsE ps) ∧ ps.length ≤ c ∧ c ≤ 9223372036854775807 ∧ Below w.heap.size w w'
/-- A graph. -/
def GIs (nodes : Int) (ps : List Ed) (w : World) (e : Ending) (w' : World) : Prop :=
  ∃ (A : Option Addr) (c : Nat), e = .returned (.agg #[.int .i64 nodes, .slice A ps.length c]) ∧ w'.ownsRow w.heap.size 35 3 (.slice A ps.length c) ps.length (cellsE ps) ∧ ps.length ≤ c ∧ c ≤ 9223372036854775807 ∧ Below w.heap.size w w'
/-- Edges, and an error. -/
def RErr (ps : List Ed) (k : Int) (w : World) (e : Ending) (w' : World) : Prop :=
  ∃ (A : Option Addr) (c : Nat), e = .returned (.tuple #[.slice A ps.length c, .int .i64 k]) ∧ w'.ownsRow w.heap.size 35 3 (.slice A ps.length c) ps.length (cellsE ps) ∧ ps.length ≤ c ∧ c ≤ 9223372036854775807 ∧ Below w.heap.size w w'
theorem rows_row {ps : List Ed} {w w' : World} {e : Ending} (h : RowIs ps w e w') : ∃ (A : Option Addr) (c : Nat), e = .returned (.slice A ps.length c) ∧ w'.ownsRow w.heap.size 35 3 (.slice A ps.length c) ps.length (cellsE ps) ∧ ps.length ≤ c ∧ c ≤ 9223372036854775807 ∧ Below w.heap.size w w' := h
theorem reads_own {w : World} {A : Option Addr} {n c : Nat} {ps : List Ed} {base : Nat} (h : w.ownsRow base 35 3 (.slice A n c) n (cellsE ps)) : Reads w w.heap.size 3 A n (cellsE ps) := Reads.of_own h
theorem own_nil {w : World} {A : Option Addr} {n c : Nat} {xs : List Value} {base : Nat} {e : TypeId} {size : Nat} (h : w.ownsRow base e size (.slice A n c) n xs) : A = none → c = 0 := by
  rintro rfl
  rcases h.2 with ⟨hv, _⟩ | ⟨g, cap, cur, hv, _⟩
  · injection hv
  · injection hv with h1
    cases h1

set_option maxHeartbeats 1000000 in
theorem sorted_any (A : Option Addr) (n c : Nat) (zs : List Ed) (hok : ∀ p ∈ zs, okE p) (hn : n ≤ 1000) (w : World) (hR : Reads w w.heap.size 3 A n (cellsE zs)) :
    Calls Try.prog 43 #[.slice A n c] w (RowIs (sorE zs) w) := by
  have hl := reads_len hR
  have HS := Lib.hid (sort_any A n c zs hok (by omega) w hR)
  have HL := Lib.hid hl
  clear hR hl hok
  go_enter Try.func43, Try.ntmps43
  go_wp2_with fail
  refine HS.out.mono ?_
  rintro e w1 ⟨h, rfl, o, b⟩
  have HU := Lib.hid (uniq_any (some ⟨h, 0, none⟩) n n (srt ltE zs) (by omega) w1 o.reads)
  have B1 := Lib.hid b
  clear b o
  go_wp2_with fail
  refine HU.out.mono ?_
  rintro e w2 hx
  obtain ⟨A2, c2, rfl, h1, h2, h3, h4⟩ := rows_row hx
  have HF := Lib.hid (And.intro h1 (And.intro h2 (And.intro h3 h4)))
  clear h1 h2 h3 h4 hx HU
  go_wp2_with fail
  go_ret
  unfold RowIs sorE
  rw [HL.out]
  exact ⟨A2, c2, rfl, own_base HF.out.1 B1.out.size, HF.out.2.1, HF.out.2.2.1, B1.out.trans (HF.out.2.2.2.mono B1.out.size)⟩

set_option maxRecDepth 100000 in
set_option maxHeartbeats 2000000 in
theorem of_ok (nodes : Int) (A : Option Addr) (n c : Nat) (zs : List Ed) (hm : mayN nodes = true) (ha : ∀ p ∈ zs, rightE nodes p = true) (hn : n ≤ 1000) (w : World) (hR : Reads w w.heap.size 3 A n (cellsE zs)) :
    Calls Try.prog 14 #[.int .i64 nodes, .slice A n c] w (GErr nodes (sorE zs) 0 w) := by
  obtain ⟨bx, b0⟩ := box_new w #[.int .i64 0, .slice none 0 0] 24
  have hl := reads_len hR
  have HLE : Hid ((sorE zs).length ≤ 1000) := by have := sorE_len zs; show _ ≤ _; omega
  have HM := Lib.hid fun W => may_any nodes W
  rw [hm] at HM
  have HB := Lib.hid (between_any nodes A n c zs (by omega) _ ((hR.below b0).more b0.size))
  rw [List.all_eq_true.2 ha] at HB
  have HS := Lib.hid fun W (h : Below w.heap.size w W) => sorted_any A n c zs (fun p hp => rightE_ok hm (ha p hp)) hn W ((hR.below h).more h.size)
  have BX := Lib.hid bx
  have B0 := Lib.hid b0
  clear hR bx b0 hm ha hl
  go_enter Try.func14, Try.ntmps14
  go_wp2_with fail
  refine (HM.out _).mono ?_
  rintro e w1 ⟨rfl, rfl⟩
  go_wp2_with fail
  refine HB.out.mono ?_
  rintro e w1 ⟨rfl, b⟩
  have BX1 := Lib.hid (BX.out.below b BX.out.lt)
  have B1 : Hid (Below w.heap.size w w1) := B0.out.trans (b.mono B0.out.size)
  clear b B0 BX HB HM
  go_wp2_with fail
  refine (HS.out _ B1.out).mono ?_
  rintro e w2 hx
  obtain ⟨A2, c2, rfl, h1, h2, h3, h4⟩ := rows_row hx
  have BX2 := Lib.hid (BX1.out.below h4 BX1.out.lt)
  have B2 : Hid (Below w.heap.size w w2) := B1.out.trans (h4.mono B1.out.size)
  have HF := Lib.hid (And.intro (own_base h1 B1.out.size) (And.intro h2 h3))
  have h40 : ¬ ((sorE zs).length : Int) > 40000 := by have := HLE.out; omega
  clear h1 h2 h3 h4 hx HS BX1 B1
  have z0 := BX2.out.cell 0
  have z1 := BX2.out.cell 1
  have f0 := BX2.out.frozen 0
  have f1 := BX2.out.frozen 1
  have y0 := (store2 BX2.out (.int .i64 nodes) (.slice A2 (sorE zs).length c2)).cell 0
  have y1 := (store2 BX2.out (.int .i64 nodes) (.slice A2 (sorE zs).length c2)).cell 1
  have HE : Hid (GErr nodes (sorE zs) 0 w (.returned (.tuple #[.agg #[.int .i64 nodes, .slice A2 (sorE zs).length c2], .int .i64 0])) ((w2.setCell ⟨w.heap.size, 0, none⟩ (.int .i64 nodes)).setCell ⟨w.heap.size, 1, none⟩ (.slice A2 (sorE zs).length c2))) :=
    ⟨A2, c2, rfl, own_store2 HF.out.1 BX2.out (by decide) _ _, HF.out.2.1, HF.out.2.2, below_store2 B2.out (Nat.le_refl _) _ _⟩
  go_wp2_with fail
  exact bodyPost_ret (v := .tuple #[.agg #[.int .i64 nodes, .slice A2 (sorE zs).length c2], .int .i64 0]) (by simp [results, Try.results14, go_sem, y0, y1]) rfl HE.out

set_option maxRecDepth 100000 in
set_option maxHeartbeats 2000000 in
theorem of_no (nodes : Int) (A : Option Addr) (n c : Nat) (zs : List Ed) (h : (mayN nodes && zs.all (rightE nodes)) = false) (hn : n ≤ 1000) (w : World) (hR : Reads w w.heap.size 3 A n (cellsE zs)) :
    Calls Try.prog 14 #[.int .i64 nodes, .slice A n c] w (GErr 0 [] 2 w) := by
  obtain ⟨bx, b0⟩ := box_new w #[.int .i64 0, .slice none 0 0] 24
  have HM := Lib.hid fun W => may_any nodes W
  have HB := Lib.hid (between_any nodes A n c zs (by omega) _ ((hR.below b0).more b0.size))
  have BX := Lib.hid bx
  have B0 := Lib.hid b0
  clear hR bx b0
  cases hm : mayN nodes
  · rw [hm] at HM
    clear hm h HB
    go_enter Try.func14, Try.ntmps14
    go_wp2_with fail
    refine (HM.out _).mono ?_
    rintro e w1 ⟨rfl, rfl⟩
    generalize w.alloc (.cells #[.int .i64 0, .slice none 0 0] 24) = w2 at *
    have z0 := BX.out.cell 0
    have z1 := BX.out.cell 1
    have f0 := BX.out.frozen 0
    have f1 := BX.out.frozen 1
    have y0 := (store2 BX.out (.int .i64 0) (.slice none 0 0)).cell 0
    have y1 := (store2 BX.out (.int .i64 0) (.slice none 0 0)).cell 1
    have HE : Hid (GErr 0 [] 2 w (.returned (.tuple #[.agg #[.int .i64 0, .slice none 0 0], .int .i64 2])) ((w2.setCell ⟨w.heap.size, 0, none⟩ (.int .i64 0)).setCell ⟨w.heap.size, 1, none⟩ (.slice none 0 0))) :=
      ⟨none, 0, rfl, World.ownsRow_nil _ _ _ _, Nat.le_refl _, by decide, below_store2 B0.out (Nat.le_refl _) _ _⟩
    go_wp2_with fail
    exact bodyPost_ret (v := .tuple #[.agg #[.int .i64 0, .slice none 0 0], .int .i64 2]) (by simp [results, Try.results14, go_sem, y0, y1]) rfl HE.out
  · rw [hm] at HM h
    rw [Bool.true_and] at h
    rw [h] at HB
    clear hm h
    go_enter Try.func14, Try.ntmps14
    go_wp2_with fail
    refine (HM.out _).mono ?_
    rintro e w1 ⟨rfl, rfl⟩
    go_wp2_with fail
    refine HB.out.mono ?_
    rintro e w2 ⟨rfl, b⟩
    have BX1 := Lib.hid (BX.out.below b BX.out.lt)
    have B1 : Hid (Below w.heap.size w w2) := B0.out.trans (b.mono B0.out.size)
    clear b HB B0 BX
    have z0 := BX1.out.cell 0
    have z1 := BX1.out.cell 1
    have f0 := BX1.out.frozen 0
    have f1 := BX1.out.frozen 1
    have y0 := (store2 BX1.out (.int .i64 0) (.slice none 0 0)).cell 0
    have y1 := (store2 BX1.out (.int .i64 0) (.slice none 0 0)).cell 1
    have HE : Hid (GErr 0 [] 2 w (.returned (.tuple #[.agg #[.int .i64 0, .slice none 0 0], .int .i64 2])) ((w2.setCell ⟨w.heap.size, 0, none⟩ (.int .i64 0)).setCell ⟨w.heap.size, 1, none⟩ (.slice none 0 0))) :=
      ⟨none, 0, rfl, World.ownsRow_nil _ _ _ _, Nat.le_refl _, by decide, below_store2 B1.out (Nat.le_refl _) _ _⟩
    go_wp2_with fail
    exact bodyPost_ret (v := .tuple #[.agg #[.int .i64 0, .slice none 0 0], .int .i64 2]) (by simp [results, Try.results14, go_sem, y0, y1]) rfl HE.out

theorem two_boxes (w : World) (a b : Array Value) (t0 t1 : TypeId) : ((w.alloc (.cells a t0)).alloc (.cells b t1)).heap.size = w.heap.size + 2 := by simp

set_option maxRecDepth 100000 in
set_option maxHeartbeats 2000000 in
theorem same_any (x y : Int) (A A2 : Option Addr) (n c m c2 : Nat) (zs ys : List Ed) (hn : n ≤ 1000) (w : World) (hR : Reads w w.heap.size 3 A n (cellsE zs)) (hR2 : Reads w w.heap.size 3 A2 m (cellsE ys)) :
    Calls Try.prog 19 #[.agg #[.int .i64 x, .slice A n c], .agg #[.int .i64 y, .slice A2 m c2]] w fun e w' => e = .returned (.bool (decide (x = y ∧ zs = ys))) ∧ Below w.heap.size w w' := by
  obtain ⟨k0, k1, b0⟩ := two_new w #[.int .i64 x, .slice A n c] #[.int .i64 y, .slice A2 m c2] 24 24
  have HQ := Lib.hid (equal_any A A2 n m c c2 zs ys (by omega) _ ((hR.below b0).more b0.size) ((hR2.below b0).more b0.size))
  have z0 := k0.cell 0
  have z1 := k0.cell 1
  have z2 := k1.cell 0
  have z3 := k1.cell 1
  have B0 := Lib.hid b0
  clear hR hR2 k0 k1 b0
  by_cases hxy : x = y
  · subst hxy
    have HD : Hid (decide (x = x ∧ zs = ys) = decide (zs = ys)) := by show _ = _; simp
    go_enter Try.func19, Try.ntmps19
    go_wp2_with fail
    refine HQ.out.mono ?_
    rintro e w1 ⟨rfl, b⟩
    have B1 : Hid (Below w.heap.size w w1) := B0.out.trans (b.mono B0.out.size)
    clear b z0 z1 z2 z3
    generalize decide (zs = ys) = bb at *
    go_wp2_with fail
    go_ret
    exact ⟨by rw [HD.out]; rfl, B1.out⟩
  · have hb : (x == y) = false := by simpa using hxy
    have HD : Hid (decide (x = y ∧ zs = ys) = false) := by show _ = _; simp [hxy]
    clear hxy
    go_enter Try.func19, Try.ntmps19
    go_wp2_with fail
    go_ret
    exact ⟨by rw [HD.out]; rfl, B0.out⟩

set_option maxRecDepth 100000 in
set_option maxHeartbeats 2000000 in
theorem rsame_any (x y : Int) (A A2 : Option Addr) (n c m c2 : Nat) (zs ys : List Ed) (hn : n ≤ 1000) (w : World) (hR : Reads w w.heap.size 3 A n (cellsE zs)) (hR2 : Reads w w.heap.size 3 A2 m (cellsE ys)) :
    Calls Try.prog 17 #[.agg #[.int .i64 x, .slice A n c], .agg #[.int .i64 y, .slice A2 m c2]] w fun e w' => e = .returned (.bool (decide (x = y ∧ zs = ys))) ∧ Below w.heap.size w w' := by
  obtain ⟨k0, k1, b0⟩ := two_new w #[.int .i64 x, .slice A n c] #[.int .i64 y, .slice A2 m c2] 24 24
  have HQ := Lib.hid (rsameE_any A A2 n m c c2 zs ys (by omega) _ ((hR.below b0).more b0.size) ((hR2.below b0).more b0.size))
  have z0 := k0.cell 0
  have z1 := k0.cell 1
  have z2 := k1.cell 0
  have z3 := k1.cell 1
  have B0 := Lib.hid b0
  clear hR hR2 k0 k1 b0
  by_cases hxy : x = y
  · subst hxy
    have HD : Hid (decide (x = x ∧ zs = ys) = decide (zs = ys)) := by show _ = _; simp
    go_enter Try.func17, Try.ntmps17
    go_wp2_with fail
    refine HQ.out.mono ?_
    rintro e w1 ⟨rfl, b⟩
    have B1 : Hid (Below w.heap.size w w1) := B0.out.trans (b.mono B0.out.size)
    clear b z0 z1 z2 z3
    generalize decide (zs = ys) = bb at *
    go_wp2_with fail
    go_ret
    exact ⟨by rw [HD.out]; rfl, B1.out⟩
  · have hb : (x == y) = false := by simpa using hxy
    have HD : Hid (decide (x = y ∧ zs = ys) = false) := by show _ = _; simp [hxy]
    clear hxy
    go_enter Try.func17, Try.ntmps17
    go_wp2_with fail
    go_ret
    exact ⟨by rw [HD.out]; rfl, B0.out⟩

set_option maxRecDepth 100000 in
set_option maxHeartbeats 2000000 in
theorem fair_any (nodes : Int) (A : Option Addr) (n c : Nat) (zs : List Ed) (hc : A = none → c = 0) (hnc : n ≤ c) (hcm : c ≤ 9223372036854775807) (w : World) (hR : Reads w w.heap.size 3 A n (cellsE zs)) :
    Calls Try.prog 10 #[.agg #[.int .i64 nodes, .slice A n c]] w (GIs nodes (zs.take 80) w) := by
  obtain ⟨k0, k1, b0⟩ := two_new w #[.int .i64 nodes, .slice A n c] #[.int .i64 0, .slice none 0 0] 24 24
  have hl := reads_len hR
  have hcp := few_any A n c zs hc hnc hcm _ ((hR.below b0).more b0.size).drew
  rw [show min n 80 = (zs.take 80).length by rw [List.length_take]; omega] at hcp
  generalize zs.take 80 = ts at *
  have HF := Lib.hid hcp
  have HSS : Hid (∀ W, Below ((w.alloc (.cells #[.int .i64 nodes, .slice A n c] 24)).alloc (.cells #[.int .i64 0, .slice none 0 0] 24)).heap.size ((w.alloc (.cells #[.int .i64 nodes, .slice A n c] 24)).alloc (.cells #[.int .i64 0, .slice none 0 0] 24)) W →
      Blk W w.heap.size 24 #[.int .i64 nodes, .slice A n c] ∧ Blk W (w.heap.size + 1) 24 #[.int .i64 0, .slice none 0 0]) := fun W h => ⟨k0.below h k0.lt, k1.below h k1.lt⟩
  have B0 := Lib.hid b0
  clear hR k0 k1 b0 hl hcp
  go_enter Try.func10, Try.ntmps10
  go_wp2_with fail
  generalize (w.alloc (.cells #[.int .i64 nodes, .slice A n c] 24)).alloc (.cells #[.int .i64 0, .slice none 0 0] 24) = W0 at *
  have J0 : Hid (Below W0.heap.size W0 W0.drew) := (Below.refl _ _).drew
  have HS2 : Hid (∀ (W : World) u v, Below W0.heap.size W0 W → ((W.setCell ⟨w.heap.size + 1, 0, none⟩ u).setCell ⟨w.heap.size + 1, 1, none⟩ v).cell? ⟨w.heap.size, 0, none⟩ = some (.int .i64 nodes) ∧ ((W.setCell ⟨w.heap.size + 1, 0, none⟩ u).setCell ⟨w.heap.size + 1, 1, none⟩ v).cell? ⟨w.heap.size, 1, none⟩ = some (.slice A n c)) :=
    fun W u v h => have b := ((HSS.out W h).1.far (p := ⟨w.heap.size + 1, 0, none⟩) (by simp) u).far (p := ⟨w.heap.size + 1, 1, none⟩) (by simp) v; ⟨b.cell 0, b.cell 1⟩
  have HS1 : Hid (∀ W, Below W0.heap.size W0 W → W.cell? ⟨w.heap.size, 0, none⟩ = some (.int .i64 nodes) ∧ W.cell? ⟨w.heap.size, 1, none⟩ = some (.slice A n c)) := fun W h => ⟨(HSS.out W h).1.cell 0, (HSS.out W h).1.cell 1⟩
  go_region_held3 (fun W => W.cell? ⟨w.heap.size, 0, none⟩ = some (.int .i64 nodes) ∧ W.cell? ⟨w.heap.size, 1, none⟩ = some (.slice A n c)) (first | exact HS2.out _ _ _ J1.out | exact HS1.out _ J1.out | exact HS1.out _ J0.out | fail) (first
    | (go_at_call 13; refine HF.out.mono ?_; rintro e w2 ⟨A2, c2, rfl, h1, h2, h3, h4⟩; have J1 : Hid (Below W0.heap.size W0 w2) := J0.out.trans (h4.mono J0.out.size); have HG := Lib.hid (And.intro h1 (And.intro h2 h3)); have q0 := (HSS.out _ J1.out).2.cell 0; have q1 := (HSS.out _ J1.out).2.cell 1; have q2 := (HSS.out _ J1.out).2.frozen 0; have q3 := (HSS.out _ J1.out).2.frozen 1; clear h1 h2 h3 h4)
    | fail)
  have y0 := (store2 (HSS.out _ J1.out).2 (.int .i64 nodes) (.slice A2 ts.length c2)).cell 0
  have y1 := (store2 (HSS.out _ J1.out).2 (.int .i64 nodes) (.slice A2 ts.length c2)).cell 1
  have HE : Hid (GIs nodes ts w (.returned (.agg #[.int .i64 nodes, .slice A2 ts.length c2])) ((w2.setCell ⟨w.heap.size + 1, 0, none⟩ (.int .i64 nodes)).setCell ⟨w.heap.size + 1, 1, none⟩ (.slice A2 ts.length c2))) :=
    ⟨A2, c2, rfl, own_store2 (own_base HG.out.1 (Nat.le_trans B0.out.size J0.out.size)) (HSS.out _ J1.out).2 (by decide) _ _, HG.out.2.1, HG.out.2.2, below_store2 (B0.out.trans (J1.out.mono B0.out.size)) (Nat.le_succ _) _ _⟩
  go_wp2_with fail
  exact bodyPost_ret (v := .agg #[.int .i64 nodes, .slice A2 ts.length c2]) (by simp [results, Try.results10, go_sem, y0, y1]) rfl HE.out
end Go.Proofs.Yticbgikbpafeoaa
