/- Layer path: Cycle: its contracts. -/
import Derived.Test.YtgbpaiffnhpafaaDoorM16
import Derived.Test.YtgbpaiffnhpafaaDoorM13
-- holds: YtgbpaiffnhpafaaDoorPq YtgbpaiffnhpafaaDoorPr
namespace Go.Proofs.YtgbpaiffnhpafaaDoor
open Go.RowKit Go.Shelf

set_option maxRecDepth 100000 in
set_option maxHeartbeats 4000000 in
theorem shortest8_err (z : Int) (A : Option Addr) (n c : Nat) (a b k : Int) (hk : (k != 0) = true) (w : World) (hbeg : BegAt z A n c [a, b] k 37 w) :
    Calls Tryd.prog 13 #[.agg #[.int .i64 z, .slice A n c], .int .i64 a, .int .i64 b] w (NoRow k w) := by
  obtain ⟨k0, k1, b0⟩ := two_new w #[.int .i64 z, .slice A n c] #[.int .i64 b] 24 3
  have hil := int_lit ((w.alloc (.cells #[.int .i64 z, .slice A n c] 24)).alloc (.cells #[.int .i64 b] 3)) [a, b] 3 #[.int .i64 a, .int .i64 b] rfl
  have hsz : ((w.alloc (.cells #[.int .i64 z, .slice A n c] 24)).alloc (.cells #[.int .i64 b] 3)).heap.size = w.heap.size + 2 := by simp
  rw [hsz] at hil
  have b1 := b0.alloc b0.size (.cells #[.int .i64 a, .int .i64 b] 3)
  have HB := Lib.hid (hbeg _ _ b1 hil)
  have B0 := Lib.hid b1
  have x0 := k0.cell 0
  have x1 := k0.cell 1
  have y0 := k1.cell 0
  clear hil b0 b1 hbeg k0 k1 hsz
  go_enter Tryd.func13, Tryd.ntmps13
  go_wp2_with fail
  refine HB.out.mono ?_
  rintro e w2 ⟨rfl, b2⟩
  have B2 : Hid (Below w.heap.size w w2) := B0.out.trans (b2.mono B0.out.size)
  have B3 := Lib.hid (B2.out.alloc B2.out.size (.cells #[.slice none 0 0, .slice none 0 0] 69))
  clear b2 B0 x0 x1 B2 y0
  go_wp2_with fail
  go_ret2
  exact ⟨rfl, B3.out⟩

/-- A row that was looked for, and what is told of it. -/
def SomeC (Q : List Int → Prop) (w : World) (e : Ending) (w' : World) : Prop :=
  ∃ (l : List Int) (k : Int), IErr l k w e w' ∧ Q l ∧ (l = [] → k = 4) ∧ (l ≠ [] → k = 0)
theorem SomeC.of {Q : List Int → Prop} {w W : World} {o : List Int} {A : Option Addr} {c : Nat} {e : Ending} (hQ : Q o) (hR : Reads W W.heap.size 1 A o.length (ints o)) (hc : o.length ≤ c) (hm : c ≤ 9223372036854775807) (hb : Below w.heap.size w W)
    (he : (o.length = 0 ∧ e = .returned (.tuple #[.slice none 0 0, .int .i64 4])) ∨ (o.length ≠ 0 ∧ e = .returned (.tuple #[.slice A o.length c, .int .i64 0]))) : SomeC Q w e W := by
  rcases he with ⟨h1, rfl⟩ | ⟨h1, rfl⟩
  · obtain rfl : o = [] := List.eq_nil_of_length_eq_zero h1
    exact ⟨[], 4, ⟨none, 0, rfl, Reads.none_, Nat.le_refl _, by decide, hb⟩, hQ, fun _ => rfl, fun h => absurd rfl h⟩
  · exact ⟨o, 0, ⟨A, c, rfl, hR, hc, hm, hb⟩, hQ, fun h => absurd (by rw [h]; rfl) h1, fun _ => rfl⟩

set_option maxRecDepth 100000 in
set_option maxHeartbeats 4000000 in
theorem shortest8_ok (m : Nat) (A : Option Addr) (n c : Nat) (zs : List Ed) (a b : Nat) (hg : IsG (m : Int) zs) (hn : n ≤ 1000) (hnc : n ≤ c) (ha : a < m) (hb : b < m) (w : World) (hR : Reads w w.heap.size 3 A n (cellsE zs)) :
    Calls Tryd.prog 13 #[.agg #[.int .i64 (m : Int), .slice A n c], .int .i64 (a : Int), .int .i64 (b : Int)] w (SomeC (Got (EdR zs) (a : Int) (b : Int)) w) := by
  have hmn := hg.nodes
  obtain ⟨k0, k1, b0⟩ := two_new w #[.int .i64 (m : Int), .slice A n c] #[.int .i64 (b : Int)] 24 3
  have hil := int_lit ((w.alloc (.cells #[.int .i64 (m : Int), .slice A n c] 24)).alloc (.cells #[.int .i64 (b : Int)] 3)) [(a : Int), (b : Int)] 3 #[.int .i64 (a : Int), .int .i64 (b : Int)] rfl
  have hsz : ((w.alloc (.cells #[.int .i64 (m : Int), .slice A n c] 24)).alloc (.cells #[.int .i64 (b : Int)] 3)).heap.size = w.heap.size + 2 := by simp
  rw [hsz] at hil
  have b1 := b0.alloc b0.size (.cells #[.int .i64 (a : Int), .int .i64 (b : Int)] 3)
  have HB := Lib.hid (begun_ok m A (some ⟨w.heap.size + 2, 0, none⟩) n c 2 2 zs [(a : Int), (b : Int)] hg hn hnc (by omega) (by simp [nodeB]; omega) _ ((hR.below b1).more b1.size) hil)
  have B0 := Lib.hid b1
  have K0 := Lib.hid (k0.alloc (.cells #[.int .i64 (a : Int), .int .i64 (b : Int)] 3))
  have K1 := Lib.hid (k1.alloc (.cells #[.int .i64 (a : Int), .int .i64 (b : Int)] 3))
  have x0 := k0.cell 0
  have x1 := k0.cell 1
  have y0 := k1.cell 0
  have HG := Lib.hid hg
  have HM : Hid (m ≤ 300 ∧ a < m ∧ b < m) := ⟨by omega, ha, hb⟩
  clear hil b0 b1 k0 k1 hR hg hnc hmn ha hb hsz
  go_enter Tryd.func13, Tryd.ntmps13
  go_wp2_with fail
  refine HB.out.mono ?_
  rintro e w2 ⟨Sa, sc, rfl, hp2, b2⟩
  have hb3 := (Below.refl w2.heap.size w2).alloc (Nat.le_refl _) (.cells #[.slice A n c, .slice Sa (m + 1) sc] 69)
  have B3 : Hid (Below w.heap.size w (w2.alloc (.cells #[.slice A n c, .slice Sa (m + 1) sc] 69))) := B0.out.trans ((b2.mono B0.out.size).trans (hb3.mono (Nat.le_trans B0.out.size b2.size)))
  have KG := Lib.hid ((K0.out.below b2 K0.out.lt).alloc (.cells #[.slice A n c, .slice Sa (m + 1) sc] 69))
  have KT := Lib.hid ((K1.out.below b2 K1.out.lt).alloc (.cells #[.slice A n c, .slice Sa (m + 1) sc] 69))
  have KW := Lib.hid (Blk.new w2 69 #[.slice A n c, .slice Sa (m + 1) sc])
  have HP := Lib.hid (hp2.on hb3)
  clear b2 hb3 hp2 B0 K0 K1 HB x0 x1 y0
  go_upto_region 2 with fail
  generalize w2.alloc (.cells #[.slice A n c, .slice Sa (m + 1) sc] 69) = w3 at *
  have g0 := KG.out.cell 0
  have z0 := KW.out.cell 0
  have z1 := KW.out.cell 1
  go_wp2_with fail
  refine (ways_any A n c Sa sc m (a : Int) m 39 #[] w3).mono ?_
  rintro e w6 ⟨rfl, hh, hsz6, b6⟩
  have HF := Lib.hid (first_to #[.pointer (some ⟨w.heap.size + 1, 0, none⟩)] (fun u => u == (b : Int)) m (StepR zs fun _ => true) (StepR.in_ HG.out.all) (a : Int) ⟨by omega, by have := HM.out; omega⟩ m
    #[.pointer (some ⟨w3.heap.size + 1, 0, none⟩), .pointer (some ⟨w3.heap.size + 2, 0, none⟩), .pointer (some ⟨w3.heap.size, 0, none⟩), .pointer (some ⟨w3.heap.size + 3, 0, none⟩)] (fun k => k < w6.heap.size) w6 (fun k hk => hk)
    (fun d => ways_seq d (fun k => k < w6.heap.size) w2.heap.size (w3.heap.size + 1) (w3.heap.size + 2) w3.heap.size (w3.heap.size + 3) A n c Sa sc m zs HG.out hn (fun _ => true) 39 #[] (a : Int) ⟨by omega, by have := HM.out; omega⟩ m ⟨by have := HM.out; omega, by have := HM.out; omega⟩ w6
      (HP.out.on (b6.mono (by have := KW.out.lt; omega))) (by have := KW.out.lt; omega) hh (fun k hk => by have := KW.out.lt; show _ < _; omega) (by show _ < _; omega) (by show _ < _; omega) (by show _ < _; omega) (by show _ < _; omega) (fun k hk => hk) eg_any
      (fun x W _ _ _ => (anywhere_any x W).mono fun e W' ⟨h1, h2⟩ => ⟨h1, h2 ▸ Below.refl _ _⟩))
    (fun x W _ _ h3 => to1_any x (b : Int) (w.heap.size + 1) W ((KT.out.below b6 KT.out.lt).below h3 (Nat.lt_of_lt_of_le KT.out.lt b6.size))))
  have B6 : Hid (Below w.heap.size w w6) := B3.out.trans (b6.mono B3.out.size)
  clear hh hsz6 b6 HP KG KT KW B3 g0 z0 z1
  go_wp2_with fail
  refine HF.out.mono ?_
  rintro e w7 ⟨o, Ao, co, rfl, h2, h3, h4, h5, h6⟩
  have hgot : Got (EdR zs) (a : Int) (b : Int) o := by
    rw [stepR_any] at h6
    rcases h6 with ⟨L, k, b1, b2, b3, b4⟩ | ⟨rfl, L, k, b1, b2, b3⟩
    · exact b1.got b2 (by simpa using b3)
    · exact b1.ungot (EdR.in_ HG.out.all) ⟨by omega, by have := HM.out; omega⟩ b2 fun p hp => by simpa using b3 p hp
  have HX := Lib.hid (And.intro hgot (And.intro h2 (And.intro h3 (And.intro h4 (B6.out.trans (h5.mono B6.out.size))))))
  clear h2 h3 h4 h5 h6 hgot HF B6
  go_wp2_with fail
  refine (some8_any Ao o.length co w7).mono ?_
  rintro e w8 ⟨rfl, he⟩
  have HC := Lib.hid (SomeC.of HX.out.1 HX.out.2.1 HX.out.2.2.1 HX.out.2.2.2.1 HX.out.2.2.2.2 he)
  clear HX
  rcases he with ⟨h0, rfl⟩ | ⟨h0, rfl⟩
  · clear h0
    go_wp2_with fail
    go_ret2
    exact HC.out
  · clear h0
    go_wp2_with fail
    go_ret2
    exact HC.out

set_option maxRecDepth 100000 in
set_option maxHeartbeats 4000000 in
theorem through8_err (z : Int) (A : Option Addr) (n c : Nat) (v k : Int) (hk : (k != 0) = true) (w : World) (hbeg : BegAt z A n c [v] k 47 w) :
    Calls Tryd.prog 21 #[.agg #[.int .i64 z, .slice A n c], .int .i64 v] w (NoRow k w) := by
  obtain ⟨k0, k1, b0⟩ := two_new w #[.int .i64 z, .slice A n c] #[.int .i64 v] 24 3
  have hil := int_lit (w.alloc (.cells #[.int .i64 z, .slice A n c] 24)) [v] 3 #[.int .i64 v] rfl
  have hsz : (w.alloc (.cells #[.int .i64 z, .slice A n c] 24)).heap.size = w.heap.size + 1 := by simp
  rw [hsz] at hil
  have HB := Lib.hid (hbeg _ _ b0 hil)
  have B0 := Lib.hid b0
  have x0 := (Blk.new w 24 #[.int .i64 z, .slice A n c]).cell 0
  have x1 := (Blk.new w 24 #[.int .i64 z, .slice A n c]).cell 1
  clear hil b0 hbeg k0 k1
  go_enter Tryd.func21, Tryd.ntmps21
  go_wp2_with fail
  refine HB.out.mono ?_
  rintro e w2 ⟨rfl, b2⟩
  have B2 : Hid (Below w.heap.size w w2) := B0.out.trans (b2.mono B0.out.size)
  have B3 := Lib.hid (B2.out.alloc B2.out.size (.cells #[.slice none 0 0, .slice none 0 0] 69))
  clear b2 B0 x0 x1 B2
  go_wp2_with fail
  go_ret2
  exact ⟨rfl, B3.out⟩

set_option maxRecDepth 100000 in
set_option maxHeartbeats 4000000 in
theorem through8_ok (g : GV) (m v : Nat) (hz : g.z = (m : Int)) (hg : rightG g.z g.es = true) (hn : g.n ≤ 700) (hv : v < m) (w : World) (hR : g.ok w) :
    Calls Tryd.prog 21 #[.agg #[.int .i64 g.z, .slice g.A g.n g.c], .int .i64 (v : Int)] w (SomeC (ThrIs g.es (v : Int)) w) := by
  obtain ⟨k0, k1, b0⟩ := two_new w #[.int .i64 g.z, .slice g.A g.n g.c] #[.int .i64 (v : Int)] 24 3
  have hil := int_lit (w.alloc (.cells #[.int .i64 g.z, .slice g.A g.n g.c] 24)) [(v : Int)] 3 #[.int .i64 (v : Int)] rfl
  have hsz : (w.alloc (.cells #[.int .i64 g.z, .slice g.A g.n g.c] 24)).heap.size = w.heap.size + 1 := by simp
  rw [hsz] at hil
  have HB := Lib.hid (within_ok g m hz (some ⟨w.heap.size + 1, 0, none⟩) 1 1 [(v : Int)] hg hn (by omega) (by simp [nodeB]; omega) _ (hR.on b0) hil)
  have hgg := rightG_iff.1 hg
  have hmn := hgg.nodes
  have B0 := Lib.hid b0
  have K0 := Lib.hid k0
  have x0 := (Blk.new w 24 #[.int .i64 g.z, .slice g.A g.n g.c]).cell 0
  have x1 := (Blk.new w 24 #[.int .i64 g.z, .slice g.A g.n g.c]).cell 1
  obtain ⟨z, A, n, c, zs⟩ := g
  simp only at *
  subst hz
  have HG := Lib.hid hgg
  have HM : Hid (m ≤ 300 ∧ v < m) := ⟨by omega, hv⟩
  clear hil b0 k0 k1 hR hg hmn hgg hv hsz
  go_enter Tryd.func21, Tryd.ntmps21
  go_wp2_with fail
  refine HB.out.mono ?_
  rintro e w2 ⟨ls, os, A3, n3, c3, Sa, sc, hco, hn3, rfl, hp2, b2⟩
  have hb3 := (Below.refl w2.heap.size w2).alloc (Nat.le_refl _) (.cells #[.slice A3 n3 c3, .slice Sa (m + 1) sc] 69)
  have B3 : Hid (Below w.heap.size w (w2.alloc (.cells #[.slice A3 n3 c3, .slice Sa (m + 1) sc] 69))) := B0.out.trans ((b2.mono B0.out.size).trans (hb3.mono (Nat.le_trans B0.out.size b2.size)))
  have KG := Lib.hid ((K0.out.below b2 K0.out.lt).alloc (.cells #[.slice A3 n3 c3, .slice Sa (m + 1) sc] 69))
  have KW := Lib.hid (Blk.new w2 69 #[.slice A3 n3 c3, .slice Sa (m + 1) sc])
  have HP := Lib.hid (hp2.on hb3)
  have HCO := Lib.hid hco
  have HN3 := Lib.hid hn3
  clear b2 hb3 hp2 B0 K0 HB x0 x1 hco hn3
  go_upto_region 2 with fail
  generalize w2.alloc (.cells #[.slice A3 n3 c3, .slice Sa (m + 1) sc] 69) = w3 at *
  have g0 := KG.out.cell 0
  have z0 := KW.out.cell 0
  have z1 := KW.out.cell 1
  have HBK := Lib.hid (back8_any w2.heap.size A3 n3 c3 Sa sc m (zs.filter (sameOf os)) (HG.out.filter _) HN3.out (fun _ => true) 39 #[] v HM.out.2 m ⟨by have := HM.out; omega, by have := HM.out; omega⟩ w3 HP.out (by have := KW.out.lt; omega) eg_any
    (fun x W _ _ _ => (anywhere_any x W).mono fun e W' ⟨h1, h2⟩ => ⟨h1, h2 ▸ Below.refl _ _⟩))
  clear KG KW HP
  go_wp2_with fail
  refine HBK.out.mono ?_
  rintro e w7 ⟨o, Ao, co, rfl, h2, h3, h4, h5, h6⟩
  have hthr : ThrIs zs (v : Int) o := ThrIs.of_found HG.out.all ⟨by omega, by have := HM.out; omega⟩ HCO.out h6
  have HX := Lib.hid (And.intro hthr (And.intro h2 (And.intro h3 (And.intro h4 (B3.out.trans (h5.mono B3.out.size))))))
  clear h2 h3 h4 h5 h6 hthr HBK B3 g0 z0 z1
  go_wp2_with fail
  refine (some8_any Ao o.length co w7).mono ?_
  rintro e w8 ⟨rfl, he⟩
  have HC := Lib.hid (SomeC.of HX.out.1 HX.out.2.1 HX.out.2.2.1 HX.out.2.2.2.1 HX.out.2.2.2.2 he)
  clear HX
  rcases he with ⟨h0, rfl⟩ | ⟨h0, rfl⟩
  · clear h0
    go_wp2_with fail
    go_ret2
    exact HC.out
  · clear h0
    go_wp2_with fail
    go_ret2
    exact HC.out
end Go.Proofs.YtgbpaiffnhpafaaDoor
namespace Go.Proofs.YtgbpaiffnhpafaaDoor
open Go.RowKit Go.Shelf

set_option maxRecDepth 100000 in
set_option maxHeartbeats 4000000 in
theorem cycle8_err (z : Int) (A : Option Addr) (n c : Nat) (k : Int) (hk : (k != 0) = true) (w : World) (hbeg : ∀ W, Below w.heap.size w W → Calls Tryd.prog 47 #[.agg #[.int .i64 z, .slice A n c], .slice none 0 0] W (BegNo k W)) :
    Calls Tryd.prog 19 #[.agg #[.int .i64 z, .slice A n c]] w (NoRow k w) := by
  obtain ⟨k0, b0⟩ := box_new w #[.int .i64 z, .slice A n c] 24
  have HB := Lib.hid (hbeg _ b0)
  have B0 := Lib.hid b0
  have x0 := k0.cell 0
  have x1 := k0.cell 1
  clear b0 hbeg k0
  go_enter Tryd.func19, Tryd.ntmps19
  go_wp2_with fail
  refine HB.out.mono ?_
  rintro e w2 ⟨rfl, b2⟩
  have B2 : Hid (Below w.heap.size w w2) := B0.out.trans (b2.mono B0.out.size)
  have B3 := Lib.hid (B2.out.alloc B2.out.size (.cells #[.slice none 0 0, .slice none 0 0] 69))
  clear b2 B0 x0 x1 B2
  go_wp2_with fail
  go_ret2
  exact ⟨rfl, B3.out⟩

theorem BestIs.two {zs : List Ed} {m k : Nat} {l : List Int} (hz : ∀ p ∈ zs, rightE (m : Int) p = true) (hk : k ≤ m) (h : BestIs (EdR zs) k l) (hl : l ≠ []) : 2 ≤ l.length := by
  rcases h with ⟨h, _⟩ | ⟨_, v, h1, h2, _⟩
  · exact absurd h hl
  · exact (LC.pure (m := m) ⟨by omega, by omega⟩ hz h2).two
/-- The best one so far, as it lies. -/
structure CyI (zs : List Ed) (m : Nat) (w : World) (v : Nat) (best : List Int) (A : Option Addr) (c most : Nat) (W : World) : Prop where
  isb : BestIs (EdR zs) v best
  row : Reads W W.heap.size 1 A best.length (ints best)
  cap : best.length ≤ c ∧ c ≤ 9223372036854775807
  most1 : best ≠ [] → most + 1 = best.length
  most0 : best = [] → most = m
  below : Below w.heap.size w W
theorem CyI.on {zs : List Ed} {m : Nat} {w : World} {v : Nat} {best : List Int} {A : Option Addr} {c most : Nat} {W W' : World} (h : CyI zs m w v best A c most W) (hb : Below W.heap.size W W') : CyI zs m w v best A c most W' :=
  ⟨h.isb, (h.row.below hb).more hb.size, h.cap, h.most1, h.most0, h.below.trans (hb.mono h.below.size)⟩

set_option maxRecDepth 100000 in
set_option maxHeartbeats 8000000 in
theorem cycle8_ok (g : GV) (m : Nat) (hz : g.z = (m : Int)) (hg : rightG g.z g.es = true) (hn : g.n ≤ 700) (w : World) (hR : g.ok w) :
    Calls Tryd.prog 19 #[.agg #[.int .i64 g.z, .slice g.A g.n g.c]] w (SomeC (BestIs (EdR g.es) m) w) := by
  obtain ⟨k0, b0⟩ := box_new w #[.int .i64 g.z, .slice g.A g.n g.c] 24
  have HB := Lib.hid (within_ok g m hz none 0 0 [] hg hn (by omega) (by simp) _ (hR.on b0) Reads.none_)
  have hgg := rightG_iff.1 hg
  have hmn := hgg.nodes
  have B0 := Lib.hid b0
  have K0 := Lib.hid k0
  have x0 := k0.cell 0
  have x1 := k0.cell 1
  obtain ⟨z, A, n, c, zs⟩ := g
  simp only at *
  subst hz
  have HG := Lib.hid hgg
  have HM : Hid (m ≤ 300) := by show _ ≤ _; omega
  clear b0 k0 hR hg hmn hgg
  go_enter Tryd.func19, Tryd.ntmps19
  go_wp2_with fail
  refine HB.out.mono ?_
  rintro e w2 ⟨ls, os, A3, n3, c3, Sa, sc, hco, hn3, rfl, hp2, b2⟩
  have hb3 := (Below.refl w2.heap.size w2).alloc (Nat.le_refl _) (.cells #[.slice A3 n3 c3, .slice Sa (m + 1) sc] 69)
  have B3 : Hid (Below w.heap.size w (w2.alloc (.cells #[.slice A3 n3 c3, .slice Sa (m + 1) sc] 69))) := B0.out.trans ((b2.mono B0.out.size).trans (hb3.mono (Nat.le_trans B0.out.size b2.size)))
  have KG := Lib.hid ((K0.out.below b2 K0.out.lt).alloc (.cells #[.slice A3 n3 c3, .slice Sa (m + 1) sc] 69))
  have KW := Lib.hid (Blk.new w2 69 #[.slice A3 n3 c3, .slice Sa (m + 1) sc])
  have HP := Lib.hid (hp2.on hb3)
  have HCO := Lib.hid hco
  have HN3 := Lib.hid hn3
  clear b2 hb3 hp2 B0 K0 HB x0 x1 hco hn3
  go_upto_region 2 with fail
  generalize w2.alloc (.cells #[.slice A3 n3 c3, .slice Sa (m + 1) sc] 69) = w3 at *
  have g0 := KG.out.cell 0
  have HI0 : Hid (CyI zs m w 0 [] none 0 m w3) := ⟨BestIs.start _, Reads.none_, ⟨Nat.le_refl _, by decide⟩, fun h => absurd rfl h, fun _ => rfl, B3.out⟩
  have HW2 := Lib.hid KW.out.lt
  go_wp2_with fail
  clear g0
  go_loopg [6, 7, 21] m (fun gg s6 s7 s21 wr => ∃ (v : Nat) (best : List Int) (Ab : Option Addr) (cb most : Nat), s21 = .int .i64 v ∧ v + gg = m ∧ s6 = .slice Ab best.length cb ∧ s7 = .int .i64 most ∧ Hid (CyI zs m w v best Ab cb most wr) ∧ Hid (Below w3.heap.size w3 wr))
  case atStart => exact ⟨0, [], none, 0, m, rfl, by omega, rfl, rfl, HI0, Below.refl _ _⟩
  case round =>
    clear HI0
    obtain ⟨v, best, Ab, cb, most, rfl, hvm, rfl, rfl, HI, HBW⟩ := hrel
    have HVM := Lib.hid hvm
    cases gk with
    | zero =>
      have hge : ¬ (v : Int) < (m : Int) := by omega
      obtain rfl : v = m := by omega
      clear hvm
      go_wp2_with fail
      refine (some8_any Ab best.length cb wr).mono ?_
      rintro e w8 ⟨rfl, he⟩
      have HC := Lib.hid (SomeC.of HI.out.isb HI.out.row HI.out.cap.1 HI.out.cap.2 HI.out.below he)
      rcases he with ⟨h0, rfl⟩ | ⟨h0, rfl⟩
      · clear h0
        go_wp2_with fail
        go_ret2
        exact HC.out
      · clear h0
        go_wp2_with fail
        go_ret2
        exact HC.out
    | succ g2 =>
      have hlt : (v : Int) < (m : Int) := by omega
      have hvlt : v < m := by omega
      have hm3 : m ≤ 300 := HM.out
      have hmost : 1 ≤ most ∧ most ≤ 1000 := by
        have := HM.out
        by_cases e : best = []
        · have := HI.out.most0 e; omega
        · have h1 := HI.out.most1 e
          have h2 := HI.out.isb.two HG.out.all (by omega) e
          have h3 := HI.out.isb.few HG.out.all (by omega)
          omega
      have bv : Below wr.heap.size wr (wr.alloc (.cells #[.int .i64 (v : Int)] 3)) := (Below.refl _ _).alloc (Nat.le_refl _) _
      have b3v := HBW.out.trans (bv.mono HBW.out.size)
      have KV := Lib.hid (Blk.new wr 3 #[.int .i64 (v : Int)])
      have y0 := KV.out.cell 0
      have KW1 := Lib.hid (KW.out.below b3v KW.out.lt)
      have z0 := KW1.out.cell 0
      have z1 := KW1.out.cell 1
      have HI1 := Lib.hid (HI.out.on bv)
      have HB1 := Lib.hid b3v
      have HBK := Lib.hid (back8_any w2.heap.size A3 n3 c3 Sa sc m (zs.filter (sameOf os)) (HG.out.filter _) HN3.out (fun y => decide ((v : Int) < y)) 50 #[.pointer (some ⟨wr.heap.size, 0, none⟩)] v hvlt most hmost _ (HP.out.on (b3v.mono (by have := HW2.out; omega))) (by have := HW2.out; have := b3v.size; omega) eg_cyc
        (fun x W _ _ h3 => cyc1_any x (v : Int) wr.heap.size W (KV.out.below h3 KV.out.lt)))
      clear hvm bv b3v HI KW1 hmost hvlt
      go_wp2_with fail
      refine HBK.out.mono ?_
      rintro e w7 ⟨p, Ap, cp, rfl, h2, h3, h4, h5, h6⟩
      have HL := Lib.hid (HI1.out.isb.look HG.out.all (by have := HVM.out; omega) HCO.out h6 HI1.out.most1 HI1.out.most0)
      have HI7 := Lib.hid (HI1.out.on h5)
      have b8 : Below w7.heap.size w7 (w7.alloc (.cells #[.slice Ab best.length cb, .slice Ap p.length cp] 30)) := (Below.refl _ _).alloc (Nat.le_refl _) _
      have HI8 := Lib.hid (HI7.out.on b8)
      have HP8 := Lib.hid (And.intro ((h2.below b8).more b8.size) (And.intro h3 h4))
      have HB8 : Hid (Below w3.heap.size w3 (w7.alloc (.cells #[.slice Ab best.length cb, .slice Ap p.length cp] 30))) := HB1.out.trans ((h5.mono HB1.out.size).trans (b8.mono (Nat.le_trans HB1.out.size h5.size)))
      have HSH := Lib.hid (shorter8_any Ab Ap best.length cb p.length cp w7.heap.size _ (Blk.new w7 30 #[.slice Ab best.length cb, .slice Ap p.length cp]))
      clear h2 h3 h4 h5 h6 b8 HBK HI1 HI7 HB1 z0 z1 y0
      go_wp2_with fail
      refine HSH.out.mono ?_
      rintro e w9 ⟨rfl, rfl⟩
      have HNEW : Hid (∃ (nb : List Int) (An : Option Addr) (cn most' : Nat), shV best.length p.length (.slice Ab best.length cb) (.slice Ap p.length cp) = .slice An nb.length cn ∧ CyI zs m w (v + 1) nb An cn most' (w7.alloc (.cells #[.slice Ab best.length cb, .slice Ap p.length cp] 30)) ∧ (nb.length = 0 → most' = most) ∧ (0 < nb.length → most' + 1 = nb.length)) := by
        have hl := HL.out
        by_cases hc : best = [] ∨ (p ≠ [] ∧ p.length < best.length)
        · rw [if_pos hc] at hl
          have hs : shV best.length p.length (.slice Ab best.length cb) (.slice Ap p.length cp) = .slice Ap p.length cp := if_pos (hc.imp (fun e => by rw [e]; rfl) fun h => ⟨fun e => h.1 (List.eq_nil_of_length_eq_zero e), h.2⟩)
          by_cases hp : p = []
          · subst hp
            refine ⟨[], Ap, cp, most, hs, ⟨hl, HP8.out.1, HP8.out.2, fun h => absurd rfl h, fun _ => ?_, HI8.out.below⟩, fun _ => rfl, fun h => by simp at h⟩
            rcases hc with hc | hc
            · exact HI8.out.most0 hc
            · exact absurd rfl hc.1
          · have hpl : 0 < p.length := List.length_pos_iff.2 hp
            exact ⟨p, Ap, cp, p.length - 1, hs, ⟨hl, HP8.out.1, HP8.out.2, fun _ => by omega, fun h => absurd h hp, HI8.out.below⟩, fun h => by omega, fun _ => by omega⟩
        · rw [if_neg hc] at hl
          have hb : best ≠ [] := fun e => hc (.inl e)
          have hbl : 0 < best.length := List.length_pos_iff.2 hb
          have hs : shV best.length p.length (.slice Ab best.length cb) (.slice Ap p.length cp) = .slice Ab best.length cb := if_neg fun h => hc (h.imp (fun e => List.eq_nil_of_length_eq_zero e) fun h => ⟨fun e => h.1 (by rw [e]; rfl), h.2⟩)
          exact ⟨best, Ab, cb, most, hs, ⟨hl, HI8.out.row, HI8.out.cap, HI8.out.most1, HI8.out.most0, HI8.out.below⟩, fun _ => rfl, fun _ => HI8.out.most1 hb⟩
      obtain ⟨nb, An, cn, most', hs, hcy, hm0, hm1⟩ := HNEW.out
      rw [hs]
      have HI9 := Lib.hid hcy
      have HMM := Lib.hid (And.intro hm0 hm1)
      have hnl : nb.length ≤ 300 := by
        have := hcy.isb.few HG.out.all (by have := HVM.out; omega)
        have := HM.out
        omega
      clear hs hcy hm0 hm1 HNEW HI8 HP8 HSH HL
      rcases Nat.eq_zero_or_pos nb.length with h0 | h0
      · obtain rfl : most' = most := HMM.out.1 h0
        have h1 : ¬ (nb.length : Int) > 0 := by omega
        clear h0
        go_wp2_with fail
        go_roundg g2
        case measure => omega
        case rel => exact ⟨v + 1, nb, An, cn, most', by go_num, by have := HVM.out; omega, rfl, rfl, HI9, HB8⟩
      · have h1 : (nb.length : Int) > 0 := by omega
        have hw : IntKind.i64.wrap ((nb.length : Int) - 1) = (most' : Int) := by rw [IntKind.wrap_i64]; have := HMM.out.2 h0; omega
        go_wp2_with fail
        go_roundg g2
        case measure => omega
        case rel => exact ⟨v + 1, nb, An, cn, most', by go_num, by have := HVM.out; omega, rfl, rfl, HI9, HB8⟩
end Go.Proofs.YtgbpaiffnhpafaaDoor
