/- The laws of layer path: wakes. -/
import Derived.StillTailTactics
import Derived.Test.YtgbpaiffnhpafaaDoorM26
import Derived.Test.YtgbpaiffnhpafaaDoorM17
import Derived.Test.YtgbpaiffnhpafaaDoorM10
import Derived.Test.YtgbpaiffnhpafaaDoorM7
-- holds: YtgbpaiffnhpafaaDoorPu YtgbpaiffnhpafaaDoorPv YtgbpaiffnhpafaaDoorPw
namespace Go.Proofs.YtgbpaiffnhpafaaDoor
open Go.RowKit Go.Shelf

/-- What one of the layer's calls gives: nothing, for what is wrong; else what is asked for, or nothing. -/
def AskC (rt nd : Bool) (Q : List Int → Prop) (w : World) (e : Ending) (w' : World) : Prop :=
  ∃ (l : List Int) (k : Int), IErr l k w e w' ∧ ((rt = false ∧ k = 150 ∧ l = []) ∨ (rt = true ∧ nd = false ∧ k = 2 ∧ l = []) ∨ (rt = true ∧ nd = true ∧ Q l ∧ ((l = [] ∧ k = 4) ∨ (l ≠ [] ∧ k = 0))))
theorem NoRow.err {k : Int} {w w' : World} {e : Ending} (h : NoRow k w e w') : IErr [] k w e w' := by
  obtain ⟨rfl, h⟩ := h
  exact ⟨none, 0, rfl, Reads.none_, Nat.le_refl _, by decide, h⟩
theorem SomeC.ask {Q : List Int → Prop} {w w' : World} {e : Ending} (h : SomeC Q w e w') : AskC true true Q w e w' := by
  obtain ⟨l, k, h1, h2, h3, h4⟩ := h
  refine ⟨l, k, h1, .inr (.inr ⟨rfl, rfl, h2, ?_⟩)⟩
  by_cases hl : l = []
  · exact .inl ⟨hl, h3 hl⟩
  · exact .inr ⟨hl, h4 hl⟩
theorem nodeB_nat {z v : Int} (h : nodeB z v = true) : ∃ n : Nat, v = (n : Int) ∧ (n : Int) < z := by
  have := of_decide_eq_true h
  exact ⟨v.toNat, by omega, by omega⟩
theorem right_nat {z : Int} {zs : List Ed} (h : rightG z zs = true) : ∃ m : Nat, z = (m : Int) ∧ z.toNat = m ∧ m ≤ 300 ∧ IsG (m : Int) zs := by
  have hg := rightG_iff.1 h
  have hz := hg.nodes
  exact ⟨z.toNat, by omega, rfl, by omega, by rw [show ((z.toNat : Nat) : Int) = z by omega]; exact hg⟩
section
variable (g : GV) (w : World) (hn : g.n ≤ 700) (ok : g.ok w)
include hn ok
theorem begat8 {vs : List Int} (hr : rightG g.z g.es = false) : BegAt g.z g.A g.n g.c vs 150 37 w := fun W A2 hb _ =>
  begun_graph g.z g.A A2 g.n g.c vs.length vs.length g.es hr (by omega) W ((ok.1.below hb).more hb.size)
theorem begat8_arg {vs : List Int} (hr : rightG g.z g.es = true) (hv : vs.all (nodeB g.z) = false) (hk : vs.length ≤ 1000000) : BegAt g.z g.A g.n g.c vs 2 37 w := fun W A2 hb hV => by
  obtain ⟨m, hz, _, _, hg⟩ := right_nat hr
  rw [hz] at hv ⊢
  exact begun_arg m g.A A2 g.n g.c vs.length vs.length g.es vs hg (by omega) hk hv W ((ok.1.below hb).more hb.size) hV
theorem far8_at (v : Int) : Calls Tryd.prog 12 #[.agg #[.int .i64 g.z, .slice g.A g.n g.c], .int .i64 v] w (AskC (rightG g.z g.es) (nodeB g.z v) (FarL (EdR g.es) g.z.toNat v) w) := by
  cases hr : rightG g.z g.es
  · refine (far8_err g.z g.A g.n g.c v 150 rfl w (begat8 g w hn ok hr)).mono ?_
    intro e w' h
    exact ⟨[], 150, h.err, .inl ⟨rfl, rfl, rfl⟩⟩
  · cases hv : nodeB g.z v
    · refine (far8_err g.z g.A g.n g.c v 2 rfl w (begat8_arg g w hn ok hr (by simp [hv]) (by simp))).mono ?_
      intro e w' h
      exact ⟨[], 2, h.err, .inr (.inl ⟨rfl, rfl, rfl, rfl⟩)⟩
    · obtain ⟨m, hz, hm, hm3, hg⟩ := right_nat hr
      obtain ⟨v, rfl, hvz⟩ := nodeB_nat hv
      have h := far8_ok m g.A g.n g.c g.es v hg (by omega) ok.2.1 (by omega) w ok.1
      rw [hm, hz]
      refine h.mono ?_
      rintro e w' ⟨l, h1, h2⟩
      exact ⟨l, 0, h2, .inr (.inr ⟨rfl, rfl, h1, .inr ⟨fun e => by have := h1.len; rw [e] at this; simp at this; omega, rfl⟩⟩)⟩
theorem shortest8_at (a b : Int) : Calls Tryd.prog 13 #[.agg #[.int .i64 g.z, .slice g.A g.n g.c], .int .i64 a, .int .i64 b] w (AskC (rightG g.z g.es) (nodeB g.z a && nodeB g.z b) (Got (EdR g.es) a b) w) := by
  cases hr : rightG g.z g.es
  · refine (shortest8_err g.z g.A g.n g.c a b 150 rfl w (begat8 g w hn ok hr)).mono ?_
    intro e w' h
    exact ⟨[], 150, h.err, .inl ⟨rfl, rfl, rfl⟩⟩
  · cases hv : nodeB g.z a && nodeB g.z b
    · refine (shortest8_err g.z g.A g.n g.c a b 2 rfl w (begat8_arg g w hn ok hr (by simpa using hv) (by simp))).mono ?_
      intro e w' h
      exact ⟨[], 2, h.err, .inr (.inl ⟨rfl, rfl, rfl, rfl⟩)⟩
    · obtain ⟨m, hz, hm, hm3, hg⟩ := right_nat hr
      rw [Bool.and_eq_true] at hv
      obtain ⟨a, rfl, haz⟩ := nodeB_nat hv.1
      obtain ⟨b, rfl, hbz⟩ := nodeB_nat hv.2
      have h := shortest8_ok m g.A g.n g.c g.es a b hg (by omega) ok.2.1 (by omega) (by omega) w ok.1
      rw [hz]
      exact h.mono fun e w' h => h.ask
theorem through8_at (v : Int) : Calls Tryd.prog 21 #[.agg #[.int .i64 g.z, .slice g.A g.n g.c], .int .i64 v] w (AskC (rightG g.z g.es) (nodeB g.z v) (ThrIs g.es v) w) := by
  cases hr : rightG g.z g.es
  · refine (through8_err g.z g.A g.n g.c v 150 rfl w fun W A2 hb hV => within_graph g A2 _ _ hr hn W (ok.on hb)).mono ?_
    intro e w' h
    exact ⟨[], 150, h.err, .inl ⟨rfl, rfl, rfl⟩⟩
  · obtain ⟨m, hz, hm, hm3, hg⟩ := right_nat hr
    cases hv : nodeB g.z v
    · refine (through8_err g.z g.A g.n g.c v 2 rfl w fun W A2 hb hV => within_arg g m hz A2 _ _ [v] hr hn (by simp) (by rw [← hz]; simp [hv]) W (ok.on hb) hV).mono ?_
      intro e w' h
      exact ⟨[], 2, h.err, .inr (.inl ⟨rfl, rfl, rfl, rfl⟩)⟩
    · obtain ⟨v, rfl, hvz⟩ := nodeB_nat hv
      exact (through8_ok g m v hz hr hn (by omega) w ok).mono fun e w' h => h.ask
theorem cycle8_at : Calls Tryd.prog 19 #[.agg #[.int .i64 g.z, .slice g.A g.n g.c]] w (AskC (rightG g.z g.es) true (BestIs (EdR g.es) g.z.toNat) w) := by
  cases hr : rightG g.z g.es
  · refine (cycle8_err g.z g.A g.n g.c 150 rfl w fun W hb => within_graph g none 0 0 hr hn W (ok.on hb)).mono ?_
    intro e w' h
    exact ⟨[], 150, h.err, .inl ⟨rfl, rfl, rfl⟩⟩
  · obtain ⟨m, hz, hm, hm3, hg⟩ := right_nat hr
    rw [hm]
    exact (cycle8_ok g m hz hr hn w ok).mono fun e w' h => h.ask
end

set_option maxHeartbeats 2000000 in
theorem node8_any (z : Int) (A : Option Addr) (n c : Nat) (v : Int) (w : World) :
    Calls Tryd.prog 14 #[.agg #[.int .i64 z, .slice A n c], .int .i64 v] w fun e w' => e = .returned (.bool (nodeB z v)) ∧ Below w.heap.size w w' := by
  obtain ⟨k0, b0⟩ := box_new w #[.int .i64 z, .slice A n c] 24
  have B0 := Lib.hid b0
  have x0 := k0.cell 0
  clear k0 b0
  by_cases h : 0 ≤ v
  · by_cases h2 : v < z
    · have hb : nodeB z v = true := decide_eq_true ⟨h, h2⟩
      rw [hb]
      clear hb
      go_enter Tryd.func14, Tryd.ntmps14
      go_wp2_with fail
      go_ret
      exact ⟨rfl, B0.out⟩
    · have hb : nodeB z v = false := decide_eq_false fun h3 => h2 h3.2
      rw [hb]
      clear hb
      go_enter Tryd.func14, Tryd.ntmps14
      go_wp2_with fail
      go_ret
      exact ⟨rfl, B0.out⟩
  · have hb : nodeB z v = false := decide_eq_false fun h3 => h h3.1
    rw [hb]
    clear hb
    go_enter Tryd.func14, Tryd.ntmps14
    go_wp2_with fail
    go_ret
    exact ⟨rfl, B0.out⟩

set_option maxRecDepth 100000 in
set_option maxHeartbeats 2000000 in
theorem own8_any (nodes : Int) (A : Option Addr) (n c : Nat) (zs : List Ed) (hc : A = none → c = 0) (hnc : n ≤ c) (hcm : c ≤ 9223372036854775807) (w : World) (hR : Reads w w.heap.size 3 A n (cellsE zs)) :
    Calls Tryd.prog 10 #[.agg #[.int .i64 nodes, .slice A n c]] w (GIs nodes (zs.take 300) w) := by
  obtain ⟨k0, k1, b0⟩ := two_new w #[.int .i64 nodes, .slice A n c] #[.int .i64 0, .slice none 0 0] 24 24
  have hl := reads_len hR
  have hk3 : min n 300 ≤ n ∧ min n 300 ≤ 300 := by omega
  have hmin : min (n : Int) 300 = ((min n 300 : Nat) : Int) := by omega
  have hsl := fun W => pr_slice_h A n c (min n 300) ((min n 300 : Nat) : Int) rfl (by omega) W
  have hcl := clone_any A (min n 300) c (zs.take 300) (by omega) hc (by omega) _ (show Reads ((w.alloc (.cells #[.int .i64 nodes, .slice A n c] 24)).alloc (.cells #[.int .i64 0, .slice none 0 0] 24)).drew _ 3 A (min n 300) (cellsE (zs.take 300)) from by
    have h1 := ((hR.below b0).more b0.size)
    rcases Nat.le_total n 300 with h | h
    · rw [Nat.min_eq_left h, List.take_of_length_le (by omega)]; exact h1
    · rw [Nat.min_eq_right h, cellsE_take]; exact reads_take h1 h)
  have hlt : (zs.take 300).length = min n 300 := by rw [List.length_take]; omega
  generalize zs.take 300 = ts at *
  rw [← hlt] at hk3 hmin hsl hcl
  have HC := Lib.hid hcl
  have HSS : Hid (∀ W, Below ((w.alloc (.cells #[.int .i64 nodes, .slice A n c] 24)).alloc (.cells #[.int .i64 0, .slice none 0 0] 24)).heap.size ((w.alloc (.cells #[.int .i64 nodes, .slice A n c] 24)).alloc (.cells #[.int .i64 0, .slice none 0 0] 24)) W →
      Blk W w.heap.size 24 #[.int .i64 nodes, .slice A n c] ∧ Blk W (w.heap.size + 1) 24 #[.int .i64 0, .slice none 0 0]) := fun W h => ⟨k0.below h k0.lt, k1.below h k1.lt⟩
  have B0 := Lib.hid b0
  clear hR k0 k1 b0 hl hcl hlt hc hk3
  go_enter Tryd.func10, Tryd.ntmps10
  go_wp2_with fail
  generalize (w.alloc (.cells #[.int .i64 nodes, .slice A n c] 24)).alloc (.cells #[.int .i64 0, .slice none 0 0] 24) = W0 at *
  have J0 : Hid (Below W0.heap.size W0 W0.drew) := (Below.refl _ _).drew
  refine wp_region_noPanic ?_
  refine wp_region_held_drew (S := fun W => W.cell? ⟨w.heap.size, 0, none⟩ = some (.int .i64 nodes) ∧ W.cell? ⟨w.heap.size, 1, none⟩ = some (.slice A n c)) (by kernel_rfl) ⟨(HSS.out _ J0.out).1.cell 0, (HSS.out _ J0.out).1.cell 1⟩ (fun hHeld => ?_)
  refine wpAnyH_take (i := 0) (oi := { dst := some 3, op := Op.fieldAddr 24 (Operand.tmp 1) 0, type := 0, pos := "law.go:30", after := #[], guard := none }) (v := .pointer (some ⟨w.heap.size, 0, none⟩)) rfl (by kernel_rfl) (by kernel_rfl) (by kernel_rfl) (fun _ _ _ h => h) (Or.inl ⟨by kernel_rfl, fun w' hSw => by (try dsimp only at hSw); go_simp⟩) (by assumption) ?_
  try simp only [Act.put, List.setIfInBounds_toArray, List.set_cons_zero, List.set_cons_succ]
  refine wpAnyH_take (i := 1) (oi := { dst := some 4, op := Op.load 3 (Operand.tmp 3), type := 3, pos := "law.go:30", after := #[{ on := 0, ground := Ground.data }], guard := none }) (v := .int .i64 nodes) rfl (by kernel_rfl) (by kernel_rfl) (by kernel_rfl) (fun _ _ _ h => h) (Or.inl ⟨by kernel_rfl, fun w' hSw => by (try dsimp only at hSw); go_simp⟩) (by assumption) ?_
  try simp only [Act.put, List.setIfInBounds_toArray, List.set_cons_zero, List.set_cons_succ]
  refine wpAnyH_take (i := 2) (oi := { dst := some 5, op := Op.fieldAddr 24 (Operand.tmp 1) 1, type := 0, pos := "law.go:30", after := #[], guard := none }) (v := .pointer (some ⟨w.heap.size, 1, none⟩)) rfl (by kernel_rfl) (by kernel_rfl) (by kernel_rfl) (fun _ _ _ h => h) (Or.inl ⟨by kernel_rfl, fun w' hSw => by (try dsimp only at hSw); go_simp⟩) (by assumption) ?_
  try simp only [Act.put, List.setIfInBounds_toArray, List.set_cons_zero, List.set_cons_succ]
  refine wpAnyH_take (i := 3) (oi := { dst := some 6, op := Op.load 22 (Operand.tmp 5), type := 22, pos := "law.go:30", after := #[{ on := 2, ground := Ground.data }], guard := none }) (v := .slice A n c) rfl (by kernel_rfl) (by kernel_rfl) (by kernel_rfl) (fun _ _ _ h => h) (Or.inl ⟨by kernel_rfl, fun w' hSw => by (try dsimp only at hSw); go_simp⟩) (by assumption) ?_
  try simp only [Act.put, List.setIfInBounds_toArray, List.set_cons_zero, List.set_cons_succ]
  refine wpAnyH_take (i := 4) (oi := { dst := some 7, op := Op.fieldAddr 24 (Operand.tmp 1) 1, type := 0, pos := "law.go:30", after := #[], guard := none }) (v := .pointer (some ⟨w.heap.size, 1, none⟩)) rfl (by kernel_rfl) (by kernel_rfl) (by kernel_rfl) (fun _ _ _ h => h) (Or.inl ⟨by kernel_rfl, fun w' hSw => by (try dsimp only at hSw); go_simp⟩) (by assumption) ?_
  try simp only [Act.put, List.setIfInBounds_toArray, List.set_cons_zero, List.set_cons_succ]
  refine wpAnyH_take (i := 5) (oi := { dst := some 8, op := Op.load 22 (Operand.tmp 7), type := 22, pos := "law.go:30", after := #[{ on := 4, ground := Ground.data }], guard := none }) (v := .slice A n c) rfl (by kernel_rfl) (by kernel_rfl) (by kernel_rfl) (fun _ _ _ h => h) (Or.inl ⟨by kernel_rfl, fun w' hSw => by (try dsimp only at hSw); go_simp⟩) (by assumption) ?_
  try simp only [Act.put, List.setIfInBounds_toArray, List.set_cons_zero, List.set_cons_succ]
  refine wpAnyH_take (i := 6) (oi := { dst := some 9, op := Op.call { callee := Callee.builtin Builtin.len, args := #[Operand.tmp 8], argTypes := #[22] }, type := 3, pos := "law.go:30", after := #[{ on := 5, ground := Ground.data }], guard := none }) (v := .int .i64 (n : Int)) rfl (by kernel_rfl) (by kernel_rfl) (by kernel_rfl) (fun _ _ _ h => h) (Or.inl ⟨by kernel_rfl, fun w' hSw => by (try dsimp only at hSw); go_simp⟩) (by assumption) ?_
  try simp only [Act.put, List.setIfInBounds_toArray, List.set_cons_zero, List.set_cons_succ]
  refine wpAnyH_take (i := 7) (oi := { dst := some 10, op := Op.call { callee := Callee.builtin Builtin.min, args := #[Operand.tmp 9, Operand.const (Value.int IntKind.i64 300)], argTypes := #[3, 3] }, type := 3, pos := "law.go:30", after := #[{ on := 6, ground := Ground.data }], guard := none }) (v := .int .i64 (ts.length : Int)) rfl (by kernel_rfl) (by kernel_rfl) (by kernel_rfl) (fun _ _ _ h => h) (Or.inl ⟨by kernel_rfl, fun w' hSw => by (try dsimp only at hSw); go_simp⟩) (by assumption) ?_
  try simp only [Act.put, List.setIfInBounds_toArray, List.set_cons_zero, List.set_cons_succ]
  refine wpAnyH_take (i := 8) (oi := { dst := some 11, op := Op.slice 22 (Operand.tmp 6) none (some (Operand.tmp 10)) none, type := 22, pos := "law.go:30", after := #[{ on := 3, ground := Ground.data }, { on := 7, ground := Ground.data }], guard := none }) (v := .slice A ts.length c) rfl (by kernel_rfl) (by kernel_rfl) (by kernel_rfl) (fun _ _ _ h => h) (Or.inl ⟨by kernel_rfl, fun w' hSw => by (try dsimp only at hSw); go_simp⟩) (by assumption) ?_
  try simp only [Act.put, List.setIfInBounds_toArray, List.set_cons_zero, List.set_cons_succ]
  refine wpAnyH_ready (rs := [9]) (by kernel_rfl) (by simp) ?_
  refine AllReadyH.cons (o := { dst := some 12, op := Op.call { callee := Callee.value (Operand.func 33), args := #[Operand.tmp 11], argTypes := #[22] }, type := 22, pos := "law.go:30", after := #[{ on := 8, ground := Ground.data }], guard := none }) rfl (fun K hK => ?_) AllReadyH.nil
  go_simp
  refine HC.out.mono ?_
  rintro e w2 ⟨A2, c2, rfl, h1, h2, h3, h4⟩
  have J1 : Hid (Below W0.heap.size W0 w2) := J0.out.trans (h4.mono J0.out.size)
  have HG := Lib.hid (And.intro h1 (And.intro h2 h3))
  have q0 := (HSS.out _ J1.out).2.cell 0
  have q1 := (HSS.out _ J1.out).2.cell 1
  have q2 := (HSS.out _ J1.out).2.frozen 0
  have q3 := (HSS.out _ J1.out).2.frozen 1
  clear h1 h2 h3 h4 hHeld
  refine hK.out _ _ ⟨(HSS.out _ J1.out).1.cell 0, (HSS.out _ J1.out).1.cell 1⟩ (fun hHeld => ?_)
  clear hK K
  try simp only [Act.put, List.setIfInBounds_toArray, List.set_cons_zero, List.set_cons_succ]
  refine wpAnyH_take (i := 10) (oi := { dst := some 13, op := Op.build 24 #[(0, Operand.tmp 4), (1, Operand.tmp 12)], type := 24, pos := "law.go:30", after := #[{ on := 1, ground := Ground.data }, { on := 9, ground := Ground.data }], guard := none }) (v := .agg #[.int .i64 nodes, .slice A2 ts.length c2]) rfl (by kernel_rfl) (by kernel_rfl) (by kernel_rfl) (fun _ _ _ h => h) (Or.inl ⟨by kernel_rfl, fun w' hSw => by (try dsimp only at hSw); go_simp⟩) (by assumption) ?_
  try simp only [Act.put, List.setIfInBounds_toArray, List.set_cons_zero, List.set_cons_succ]
  refine wpAnyH_ready (rs := [11]) (by kernel_rfl) (by simp) ?_
  refine AllReadyH.cons (o := { dst := none, op := Op.store 24 (Operand.tmp 2) (Operand.tmp 13), type := 0, pos := "law.go:30", after := #[{ on := 10, ground := Ground.data }, { on := 9, ground := Ground.chain }, { on := 0, ground := Ground.phase }, { on := 1, ground := Ground.phase }, { on := 2, ground := Ground.phase }, { on := 3, ground := Ground.phase }, { on := 4, ground := Ground.phase }, { on := 5, ground := Ground.phase }, { on := 6, ground := Ground.phase }, { on := 7, ground := Ground.phase }, { on := 8, ground := Ground.phase }, { on := 9, ground := Ground.phase }, { on := 10, ground := Ground.phase }], guard := none }) rfl (fun K hK => ?_) AllReadyH.nil
  go_simp
  have y0 := (store2 (HSS.out _ J1.out).2 (.int .i64 nodes) (.slice A2 ts.length c2)).cell 0
  have y1 := (store2 (HSS.out _ J1.out).2 (.int .i64 nodes) (.slice A2 ts.length c2)).cell 1
  have HE : Hid (GIs nodes ts w (.returned (.agg #[.int .i64 nodes, .slice A2 ts.length c2])) ((w2.setCell ⟨w.heap.size + 1, 0, none⟩ (.int .i64 nodes)).setCell ⟨w.heap.size + 1, 1, none⟩ (.slice A2 ts.length c2))) := ⟨A2, c2, rfl, own_store2 (own_base HG.out.1 (Nat.le_trans B0.out.size J0.out.size)) (HSS.out _ J1.out).2 (by decide) _ _, HG.out.2.1, HG.out.2.2, below_store2 (B0.out.trans (J1.out.mono B0.out.size)) (Nat.le_succ _) _ _⟩
  have b9 := ((HSS.out _ J1.out).1.far (p := ⟨w.heap.size + 1, 0, none⟩) (by simp) (.int .i64 nodes)).far (p := ⟨w.heap.size + 1, 1, none⟩) (by simp) (.slice A2 ts.length c2)
  clear hHeld q0 q1 q2 q3
  refine hK.out _ _ ⟨b9.cell 0, b9.cell 1⟩ (fun hHeld => ?_)
  clear hK K
  try simp only [Act.put, List.setIfInBounds_toArray, List.set_cons_zero, List.set_cons_succ]
  refine wpAnyH_done (by kernel_rfl) ?_ _
  refine NoPanic.normal ?_
  go_wp2_with fail
  exact bodyPost_ret (v := .agg #[.int .i64 nodes, .slice A2 ts.length c2]) (by simp [results, Tryd.results10, go_sem, y0, y1]) rfl HE.out
end Go.Proofs.YtgbpaiffnhpafaaDoor
namespace Go.Proofs.YtgbpaiffnhpafaaDoor
open Go.RowKit Go.Shelf

/-- The chapter's graph. -/
def small8 : List Ed := [(0, 1, 0), (0, 3, 0), (1, 2, 0), (1, 3, 0), (2, 0, 0), (3, 0, 0)]
def small8A : Array Value := #[.int .i64 0, .int .i64 1, .int .i64 0, .int .i64 0, .int .i64 3, .int .i64 0, .int .i64 1, .int .i64 2, .int .i64 0, .int .i64 1, .int .i64 3, .int .i64 0, .int .i64 2, .int .i64 0, .int .i64 0, .int .i64 3, .int .i64 0, .int .i64 0]
theorem small8_right : rightG 5 small8 = true := by decide
theorem small8_isG : IsG ((5 : Nat) : Int) small8 := rightG_iff.1 small8_right
theorem small8_edge {x y : Int} (h : EdR small8 x y) : (x = 0 ∧ y = 1) ∨ (x = 0 ∧ y = 3) ∨ (x = 1 ∧ y = 2) ∨ (x = 1 ∧ y = 3) ∨ (x = 2 ∧ y = 0) ∨ (x = 3 ∧ y = 0) := by
  obtain ⟨p, hp, rfl, rfl⟩ := h
  unfold small8 at hp
  simp only [List.mem_cons, List.not_mem_nil, or_false] at hp
  rcases hp with rfl | rfl | rfl | rfl | rfl | rfl <;> simp
theorem e01 : EdR small8 0 1 := edB_iff.1 (by decide)
theorem e03 : EdR small8 0 3 := edB_iff.1 (by decide)
theorem e12 : EdR small8 1 2 := edB_iff.1 (by decide)
theorem e13 : EdR small8 1 3 := edB_iff.1 (by decide)
theorem e20 : EdR small8 2 0 := edB_iff.1 (by decide)
theorem e30 : EdR small8 3 0 := edB_iff.1 (by decide)
theorem wk12 : Wk (EdR small8) 1 [1, 2] 2 := .more .one e12
theorem wk120 : Wk (EdR small8) 1 [1, 2, 0] 0 := .more wk12 e20
theorem wk13 : Wk (EdR small8) 1 [1, 3] 3 := .more .one e13
theorem wk20 : Wk (EdR small8) 2 [2, 0] 0 := .more .one e20
theorem wk201 : Wk (EdR small8) 2 [2, 0, 1] 1 := .more wk20 e01
theorem small8_short : LW (EdR small8) 1 [1, 2, 0] 0 := by
  refine ⟨wk120, fun q hq => ?_⟩
  rcases hq.unmore with ⟨_, h⟩ | ⟨b, q1, h1, h2, rfl⟩
  · omega
  · rcases h1.unmore with ⟨rfl, rfl⟩ | ⟨c, q2, h3, h4, rfl⟩
    · have := small8_edge h2; omega
    · have e2 := small8_edge h2
      have e4 := small8_edge h4
      rcases h3.unmore with ⟨rfl, rfl⟩ | ⟨d, q3, h5, _, rfl⟩
      · refine .inr ⟨by simp, ?_⟩
        rcases (show b = 2 ∨ b = 3 by omega) with rfl | rfl <;> simp [lle]
      · have := h5.pos
        refine .inl ?_
        simp
        omega
theorem small8_three : LW (EdR small8) 1 [1, 3] 3 := by
  refine ⟨wk13, fun q hq => ?_⟩
  rcases hq.unmore with ⟨_, h⟩ | ⟨b, q1, h1, h2, rfl⟩
  · omega
  · rcases h1.unmore with ⟨rfl, rfl⟩ | ⟨c, q2, h3, h4, rfl⟩
    · exact .inr ⟨rfl, by simp [lle]⟩
    · have := h3.pos
      refine .inl ?_
      simp
      omega
theorem small8_far {l : List Int} (h : FarL (EdR small8) 5 1 l) : l = [2, 0, 1, 1, -1] := by
  refine h.one_ ⟨rfl, fun u d hu => ?_⟩
  match u, hu with
  | 0, hu => injection hu with hu; subst hu; exact small8_short.far (i := 2) rfl
  | 1, hu => injection hu with hu; subst hu; exact small8_short.far (i := 0) rfl
  | 2, hu => injection hu with hu; subst hu; exact small8_short.far (i := 1) rfl
  | 3, hu => injection hu with hu; subst hu; exact small8_three.far (i := 1) rfl
  | 4, hu =>
    injection hu with hu; subst hu
    refine .inl ⟨rfl, fun r hr => ?_⟩
    rcases hr.unmore with ⟨_, h⟩ | ⟨b, q1, _, h2, rfl⟩
    · revert h; decide
    · have := small8_edge h2; omega
  | u + 5, hu => simp at hu
theorem small8_got {l : List Int} (h : Got (EdR small8) 1 0 l) : l = [1, 2, 0] := h.one_ (.inl ⟨by decide, small8_short⟩)
theorem small8_lost {l : List Int} (h : Got (EdR small8) 0 4 l) : l = [] := h.one_ (.inr ⟨rfl, fun r hr => by
  rcases hr.unmore with ⟨_, h⟩ | ⟨b, q1, _, h2, rfl⟩
  · revert h; decide
  · have := small8_edge h2; omega⟩)
theorem small8_thr {l : List Int} (h : ThrIs small8 2 l) : l = [2, 0, 1] := by
  refine h.one_ (.inl ⟨by decide, ⟨1, wk201, e12⟩, fun q ⟨u, hq, hu⟩ => ?_⟩)
  have eu := small8_edge hu
  rcases hq.unmore with ⟨_, rfl⟩ | ⟨b, q1, h1, h2, rfl⟩
  · omega
  · have e2 := small8_edge h2
    rcases h1.unmore with ⟨rfl, rfl⟩ | ⟨c, q2, h3, h4, rfl⟩
    · omega
    · have e4 := small8_edge h4
      rcases h3.unmore with ⟨rfl, rfl⟩ | ⟨d, q3, h5, _, rfl⟩
      · refine .inr ⟨by simp, ?_⟩
        obtain rfl : u = 1 := by omega
        obtain rfl : b = 0 := by omega
        simp [lle]
      · have := h5.pos
        refine .inl ?_
        simp
        omega
theorem small8_best : BestIs (EdR small8) 5 [0, 3] := by
  have hirr := EdR.irr small8_isG.all
  refine .inr ⟨by decide, 0, by decide, ⟨⟨3, .more .one ⟨e03, by decide⟩, e30⟩, fun q ⟨u, hq, hu⟩ => ?_⟩, fun v _ r ⟨u, hr, hu⟩ => ?_, fun v hv => by omega⟩
  · have eu := small8_edge hu
    rcases hq.unmore with ⟨_, rfl⟩ | ⟨b, q1, h1, h2, rfl⟩
    · exact absurd hu (hirr _)
    · rcases h1.unmore with ⟨rfl, rfl⟩ | ⟨c, q2, h3, h4, rfl⟩
      · have e2 := small8_edge h2.1
        obtain rfl : u = 3 := by omega
        exact .inr ⟨rfl, by simp [lle]⟩
      · have := h3.pos
        refine .inl ?_
        simp
        omega
  · rcases hr.unmore with ⟨_, rfl⟩ | ⟨b, q1, h1, h2, rfl⟩
    · exact absurd hu (hirr _)
    · have := h1.pos
      simp
      omega
theorem small8_cyc {l : List Int} (h : BestIs (EdR small8) 5 l) : l = [0, 3] := h.one_ small8_best
theorem small8_isC : IsC small8 5 [0, 3] := small8_best.isC small8_isG.all (by decide)

theorem small8_any (w : World) : Calls Tryd.prog 34 #[] w fun e w' => ∃ g : GV, e = .returned (.agg #[.int .i64 g.z, .slice g.A g.n g.c]) ∧ g.z = 5 ∧ g.es = small8 ∧ g.n = 6 ∧ g.ok w' ∧ Below w.heap.size w w' := by
  have b0 : Below w.heap.size w (w.alloc (.cells #[.int .i64 5, .slice (some ⟨w.heap.size + 1, 0, none⟩) 6 6] 24)) := (Below.refl _ _).alloc (Nat.le_refl _) _
  have E1 := Blk.new (w.alloc (.cells #[.int .i64 5, .slice (some ⟨w.heap.size + 1, 0, none⟩) 6 6] 24)) 53 small8A
  have B1 := b0.alloc b0.size (.cells small8A 53)
  rw [World.size_alloc] at E1
  have HE : Hid (GV.ok ⟨5, some ⟨w.heap.size + 1, 0, none⟩, 6, 6, small8⟩ ((w.alloc (.cells #[.int .i64 5, .slice (some ⟨w.heap.size + 1, 0, none⟩) 6 6] 24)).alloc (.cells small8A 53)) ∧ Below w.heap.size w ((w.alloc (.cells #[.int .i64 5, .slice (some ⟨w.heap.size + 1, 0, none⟩) 6 6] 24)).alloc (.cells small8A 53))) := by
    refine ⟨⟨⟨rfl, fun _ => ⟨_, rfl, E1.lt, fun j x hx => ?_⟩⟩, Nat.le_refl _, (show (6 : Nat) ≤ 9223372036854775807 by decide), fun e => by cases e⟩, B1⟩
    rw [Go.WideShapes.add_plain, Nat.zero_add, E1.cell, ← hx, ← List.getElem?_toArray]
    rfl
  clear E1 B1 b0
  go_enter Tryd.func34, Tryd.ntmps34
  go_wp2_with fail
  exact bodyPost_ret (v := .agg #[.int .i64 5, .slice (some ⟨w.heap.size + 1, 0, none⟩) 6 6]) (by simp [results, Tryd.results34, go_sem]) rfl ⟨⟨5, some ⟨w.heap.size + 1, 0, none⟩, 6, 6, small8⟩, rfl, rfl, rfl, rfl, HE.out.1, HE.out.2⟩
end Go.Proofs.YtgbpaiffnhpafaaDoor
namespace Go.Proofs.YtgbpaiffnhpafaaDoor
open Go.RowKit Go.Shelf

/-- What the chapter's graph is asked for stands in memory. -/
def KeptI (L : List (Option Addr × List Int)) (W : World) : Prop := ∀ p ∈ L, Reads W W.heap.size 1 p.1 p.2.length (ints p.2)
theorem KeptI.on {L : List (Option Addr × List Int)} {W W' : World} (h : KeptI L W) (hb : Below W.heap.size W W') : KeptI L W' := fun p hp => ((h p hp).below hb).more hb.size
theorem KeptI.add {L : List (Option Addr × List Int)} {W : World} {A : Option Addr} {l : List Int} (h : KeptI L W) (hA : Reads W W.heap.size 1 A l.length (ints l)) : KeptI ((A, l) :: L) W := fun p hp => by
  rcases List.mem_cons.1 hp with rfl | hp
  · exact hA
  · exact h p hp
theorem row_cell {w : World} {B n k g o : Nat} {vs : List Int} {v : Int} (h : Reads w B 1 (some ⟨g, o, none⟩) n (ints vs)) (hv : vs[k]? = some v) : w.cell? ⟨g, o + k, none⟩ = some (.int .i64 v) := by
  obtain ⟨b, o', e, _, hc⟩ := row_at h hv
  injection e with e
  injection e with e1 e2
  subst e1; subst e2
  exact hc
theorem AskC.got {Q : List Int → Prop} {o : List Int} {w w' : World} {e : Ending} (h : AskC true true Q w e w') (ho : ∀ l, Q l → l = o) : ∃ (A : Option Addr) (c : Nat), e = .returned (.tuple #[.slice A o.length c, .int .i64 (if o = [] then 4 else 0)]) ∧ Reads w' w'.heap.size 1 A o.length (ints o) ∧ Below w.heap.size w w' := by
  obtain ⟨l, k, ⟨A, c, rfl, h1, _, _, h2⟩, ⟨h, _⟩ | ⟨_, h, _⟩ | ⟨_, _, h3, h4⟩⟩ := h
  · cases h
  · cases h
  · have := ho l h3
    subst this
    refine ⟨A, c, ?_, h1, h2⟩
    rcases h4 with ⟨rfl, rfl⟩ | ⟨h5, rfl⟩
    · rfl
    · rw [if_neg h5]
section
variable {g : GV} (hz : g.z = 5) (he : g.es = small8) (hn : g.n = 6)
include hz he hn
theorem small8_short_at (w : World) (ok : g.ok w) : Calls Tryd.prog 13 #[.agg #[.int .i64 g.z, .slice g.A g.n g.c], .int .i64 1, .int .i64 0] w fun e w' => ∃ (A : Option Addr) (c : Nat), e = .returned (.tuple #[.slice A 3 c, .int .i64 0]) ∧ Reads w' w'.heap.size 1 A 3 (ints [1, 2, 0]) ∧ Below w.heap.size w w' := by
  have h := shortest8_at g w (by omega) ok 1 0
  rw [he, hz, small8_right, show (nodeB 5 1 && nodeB 5 0) = true by decide] at h
  rw [hz]
  exact h.mono fun e w' h => h.got fun l hl => small8_got hl
theorem small8_lost_at (w : World) (ok : g.ok w) : Calls Tryd.prog 13 #[.agg #[.int .i64 g.z, .slice g.A g.n g.c], .int .i64 0, .int .i64 4] w fun e w' => ∃ (A : Option Addr) (c : Nat), e = .returned (.tuple #[.slice A 0 c, .int .i64 4]) ∧ Reads w' w'.heap.size 1 A 0 (ints []) ∧ Below w.heap.size w w' := by
  have h := shortest8_at g w (by omega) ok 0 4
  rw [he, hz, small8_right, show (nodeB 5 0 && nodeB 5 4) = true by decide] at h
  rw [hz]
  exact h.mono fun e w' h => h.got fun l hl => small8_lost hl
theorem small8_far_at (w : World) (ok : g.ok w) : Calls Tryd.prog 12 #[.agg #[.int .i64 g.z, .slice g.A g.n g.c], .int .i64 1] w fun e w' => ∃ (A : Option Addr) (c : Nat), e = .returned (.tuple #[.slice A 5 c, .int .i64 0]) ∧ Reads w' w'.heap.size 1 A 5 (ints [2, 0, 1, 1, -1]) ∧ Below w.heap.size w w' := by
  have h := far8_at g w (by omega) ok 1
  rw [he, hz, small8_right, show nodeB 5 1 = true by decide] at h
  rw [hz]
  exact h.mono fun e w' h => h.got fun l hl => small8_far hl
theorem small8_thr_at (w : World) (ok : g.ok w) : Calls Tryd.prog 21 #[.agg #[.int .i64 g.z, .slice g.A g.n g.c], .int .i64 2] w fun e w' => ∃ (A : Option Addr) (c : Nat), e = .returned (.tuple #[.slice A 3 c, .int .i64 0]) ∧ Reads w' w'.heap.size 1 A 3 (ints [2, 0, 1]) ∧ Below w.heap.size w w' := by
  have h := through8_at g w (by omega) ok 2
  rw [he, hz, small8_right, show nodeB 5 2 = true by decide] at h
  rw [hz]
  exact h.mono fun e w' h => h.got fun l hl => small8_thr hl
theorem small8_cyc_at (w : World) (ok : g.ok w) : Calls Tryd.prog 19 #[.agg #[.int .i64 g.z, .slice g.A g.n g.c]] w fun e w' => ∃ (A : Option Addr) (c : Nat), e = .returned (.tuple #[.slice A 2 c, .int .i64 0]) ∧ Reads w' w'.heap.size 1 A 2 (ints [0, 3]) ∧ Below w.heap.size w w' := by
  have h := cycle8_at g w (by omega) ok
  rw [he, hz, small8_right] at h
  rw [hz]
  exact h.mono fun e w' h => h.got fun l hl => small8_cyc hl
theorem small8_is_at (w : World) (hT : Bit.Tab w) (ok : g.ok w) (A : Option Addr) (c : Nat) (hA : Reads w w.heap.size 1 A 2 (ints [0, 3])) : Calls Tryd.prog 24 #[.agg #[.int .i64 g.z, .slice g.A g.n g.c], .slice A 2 c, .bool true] w fun e w' => e = .returned (.bool true) ∧ Below w.heap.size w w' := by
  refine (is8_any g A 2 c [0, 3] true (by omega) (by decide) w hT ok hA).mono ?_
  rintro e w' ⟨b, rfl, h1, h2⟩
  obtain rfl : b = true := h2.2 (by rw [hz, he]; exact ⟨small8_right, small8_isC⟩)
  exact ⟨rfl, h1⟩
end

set_option maxRecDepth 100000 in
set_option maxHeartbeats 8000000 in
theorem wakes8_any (w : World) (hT : Bit.Tab w) : Calls Tryd.prog 9 #[] w fun e w' => e = .returned (.bool true) ∧ Below w.heap.size w w' := by
  have HT := Lib.hid hT
  clear hT
  have L0 : Hid (KeptI [] w) := fun p hp => by cases hp
  have B0 : Hid (Below w.heap.size w w) := Below.refl _ _
  go_enter Tryd.func9, Tryd.ntmps9
  go_wp2_with fail
  refine (small8_any _).mono ?_
  rintro e w1 ⟨g, rfl, hz, he, hn, ok, b⟩
  have B1 : Hid (Below w.heap.size w w1) := B0.out.trans (b.mono B0.out.size)
  have L1' := Lib.hid (L0.out.on b)
  have OK := Lib.hid (And.intro hz (And.intro he (And.intro hn ok)))
  have L1 := L1'
  clear hz he hn ok b L0 B0 L1'
  go_wp2_with fail
  refine (small8_short_at OK.out.1 OK.out.2.1 OK.out.2.2.1 _ OK.out.2.2.2).mono ?_
  rintro e w2 ⟨As, cAs, rfl, h1, b⟩
  have B2 : Hid (Below w.heap.size w w2) := B1.out.trans (b.mono B1.out.size)
  have L2' := Lib.hid (L1.out.on b)
  have L2 := Lib.hid (KeptI.add (A := As) (l := [1, 2, 0]) L2'.out h1)
  clear h1 b OK L1 B1 L2'
  go_wp2_with fail
  refine (small8_any _).mono ?_
  rintro e w3 ⟨g, rfl, hz, he, hn, ok, b⟩
  have B3 : Hid (Below w.heap.size w w3) := B2.out.trans (b.mono B2.out.size)
  have L3' := Lib.hid (L2.out.on b)
  have OK := Lib.hid (And.intro hz (And.intro he (And.intro hn ok)))
  have L3 := L3'
  clear hz he hn ok b L2 B2 L3'
  go_wp2_with fail
  refine (small8_cyc_at OK.out.1 OK.out.2.1 OK.out.2.2.1 _ OK.out.2.2.2).mono ?_
  rintro e w4 ⟨Ac, cAc, rfl, h1, b⟩
  have B4 : Hid (Below w.heap.size w w4) := B3.out.trans (b.mono B3.out.size)
  have L4' := Lib.hid (L3.out.on b)
  have L4 := Lib.hid (KeptI.add (A := Ac) (l := [0, 3]) L4'.out h1)
  clear h1 b OK L3 B3 L4'
  go_wp2_with fail
  refine (small8_any _).mono ?_
  rintro e w5 ⟨g, rfl, hz, he, hn, ok, b⟩
  have B5 : Hid (Below w.heap.size w w5) := B4.out.trans (b.mono B4.out.size)
  have L5' := Lib.hid (L4.out.on b)
  have OK := Lib.hid (And.intro hz (And.intro he (And.intro hn ok)))
  have L5 := L5'
  clear hz he hn ok b L4 B4 L5'
  go_wp2_with fail
  refine (small8_thr_at OK.out.1 OK.out.2.1 OK.out.2.2.1 _ OK.out.2.2.2).mono ?_
  rintro e w6 ⟨At, cAt, rfl, h1, b⟩
  have B6 : Hid (Below w.heap.size w w6) := B5.out.trans (b.mono B5.out.size)
  have L6' := Lib.hid (L5.out.on b)
  have L6 := Lib.hid (KeptI.add (A := At) (l := [2, 0, 1]) L6'.out h1)
  clear h1 b OK L5 B5 L6'
  go_wp2_with fail
  refine (small8_any _).mono ?_
  rintro e w7 ⟨g, rfl, hz, he, hn, ok, b⟩
  have B7 : Hid (Below w.heap.size w w7) := B6.out.trans (b.mono B6.out.size)
  have L7' := Lib.hid (L6.out.on b)
  have OK := Lib.hid (And.intro hz (And.intro he (And.intro hn ok)))
  have L7 := L7'
  clear hz he hn ok b L6 B6 L7'
  go_wp2_with fail
  refine (small8_far_at OK.out.1 OK.out.2.1 OK.out.2.2.1 _ OK.out.2.2.2).mono ?_
  rintro e w8 ⟨Af, cAf, rfl, h1, b⟩
  have B8 : Hid (Below w.heap.size w w8) := B7.out.trans (b.mono B7.out.size)
  have L8' := Lib.hid (L7.out.on b)
  have L8 := Lib.hid (KeptI.add (A := Af) (l := [2, 0, 1, 1, -1]) L8'.out h1)
  clear h1 b OK L7 B7 L8'
  go_wp2_with fail
  refine (small8_any _).mono ?_
  rintro e w9 ⟨g, rfl, hz, he, hn, ok, b⟩
  have B9 : Hid (Below w.heap.size w w9) := B8.out.trans (b.mono B8.out.size)
  have L9' := Lib.hid (L8.out.on b)
  have OK := Lib.hid (And.intro hz (And.intro he (And.intro hn ok)))
  have L9 := L9'
  clear hz he hn ok b L8 B8 L9'
  go_wp2_with fail
  refine (small8_lost_at OK.out.1 OK.out.2.1 OK.out.2.2.1 _ OK.out.2.2.2).mono ?_
  rintro e w10 ⟨Al, cAl, rfl, h1, b⟩
  have B10 : Hid (Below w.heap.size w w10) := B9.out.trans (b.mono B9.out.size)
  have L10' := Lib.hid (L9.out.on b)
  have L10 := Lib.hid (KeptI.add (A := Al) (l := []) L10'.out h1)
  clear h1 b OK L9 B9 L10'
  go_wp2_with fail
  have hb : Below w10.heap.size w10 (w10.alloc (.cells #[.int .i64 1, .int .i64 2, .int .i64 0] 3)) := (Below.refl _ _).alloc (Nat.le_refl _) _
  have LL := Lib.hid (L10.out.on hb)
  have BB : Hid (Below w.heap.size w (w10.alloc (.cells #[.int .i64 1, .int .i64 2, .int .i64 0] 3))) := B10.out.trans (hb.mono B10.out.size)
  have LI := Lib.hid (int_lit w10 [1, 2, 0] 3 _ rfl)
  clear hb L10 B10
  refine (eqi_any As (some ⟨w10.heap.size, 0, none⟩) 3 3 cAs 3 [1, 2, 0] [1, 2, 0] (by omega) (by omega) _ (LL.out _ (.tail _ (.tail _ (.tail _ (.tail _ (.head _)))))) LI.out).mono ?_
  rintro e w11 ⟨rfl, b⟩
  have B11 : Hid (Below w.heap.size w w11) := BB.out.trans (b.mono BB.out.size)
  have L11 := Lib.hid (LL.out.on b)
  clear b LL BB LI
  go_wp2_with fail
  have hb : Below w11.heap.size w11 (w11.alloc (.cells #[.int .i64 0, .int .i64 3] 3)) := (Below.refl _ _).alloc (Nat.le_refl _) _
  have LL := Lib.hid (L11.out.on hb)
  have BB : Hid (Below w.heap.size w (w11.alloc (.cells #[.int .i64 0, .int .i64 3] 3))) := B11.out.trans (hb.mono B11.out.size)
  have LI := Lib.hid (int_lit w11 [0, 3] 3 _ rfl)
  clear hb L11 B11
  refine (eqi_any Ac (some ⟨w11.heap.size, 0, none⟩) 2 2 cAc 2 [0, 3] [0, 3] (by omega) (by omega) _ (LL.out _ (.tail _ (.tail _ (.tail _ (.head _))))) LI.out).mono ?_
  rintro e w12 ⟨rfl, b⟩
  have B12 : Hid (Below w.heap.size w w12) := BB.out.trans (b.mono BB.out.size)
  have L12 := Lib.hid (LL.out.on b)
  clear b LL BB LI
  go_wp2_with fail
  have hb : Below w12.heap.size w12 (w12.alloc (.cells #[.int .i64 2, .int .i64 0, .int .i64 1] 3)) := (Below.refl _ _).alloc (Nat.le_refl _) _
  have LL := Lib.hid (L12.out.on hb)
  have BB : Hid (Below w.heap.size w (w12.alloc (.cells #[.int .i64 2, .int .i64 0, .int .i64 1] 3))) := B12.out.trans (hb.mono B12.out.size)
  have LI := Lib.hid (int_lit w12 [2, 0, 1] 3 _ rfl)
  clear hb L12 B12
  refine (eqi_any At (some ⟨w12.heap.size, 0, none⟩) 3 3 cAt 3 [2, 0, 1] [2, 0, 1] (by omega) (by omega) _ (LL.out _ (.tail _ (.tail _ (.head _)))) LI.out).mono ?_
  rintro e w13 ⟨rfl, b⟩
  have B13 : Hid (Below w.heap.size w w13) := BB.out.trans (b.mono BB.out.size)
  have L13 := Lib.hid (LL.out.on b)
  clear b LL BB LI
  go_wp2_with fail
  have hb : Below w13.heap.size w13 (w13.alloc (.cells #[.int .i64 2, .int .i64 0, .int .i64 1, .int .i64 1, .int .i64 (-1)] 3)) := (Below.refl _ _).alloc (Nat.le_refl _) _
  have LL := Lib.hid (L13.out.on hb)
  have BB : Hid (Below w.heap.size w (w13.alloc (.cells #[.int .i64 2, .int .i64 0, .int .i64 1, .int .i64 1, .int .i64 (-1)] 3))) := B13.out.trans (hb.mono B13.out.size)
  have LI := Lib.hid (int_lit w13 [2, 0, 1, 1, -1] 3 _ rfl)
  clear hb L13 B13
  refine (eqi_any Af (some ⟨w13.heap.size, 0, none⟩) 5 5 cAf 5 [2, 0, 1, 1, -1] [2, 0, 1, 1, -1] (by omega) (by omega) _ (LL.out _ (.tail _ (.head _))) LI.out).mono ?_
  rintro e w14 ⟨rfl, b⟩
  have B14 : Hid (Below w.heap.size w w14) := BB.out.trans (b.mono BB.out.size)
  have L14 := Lib.hid (LL.out.on b)
  clear b LL BB LI
  go_wp2_with fail
  refine (small8_any _).mono ?_
  rintro e w15 ⟨g, rfl, hz, he, hn, ok, b⟩
  have B15 : Hid (Below w.heap.size w w15) := B14.out.trans (b.mono B14.out.size)
  have L15' := Lib.hid (L14.out.on b)
  have OK := Lib.hid (And.intro hz (And.intro he (And.intro hn ok)))
  have L15 := L15'
  clear hz he hn ok b L14 B14 L15'
  go_wp2_with fail
  refine (small8_is_at OK.out.1 OK.out.2.1 OK.out.2.2.1 _ (HT.out.on B15.out) OK.out.2.2.2 Ac cAc (L15.out _ (.tail _ (.tail _ (.tail _ (.head _)))))).mono ?_
  rintro e wz ⟨rfl, b⟩
  have BZ : Hid (Below w.heap.size w wz) := B15.out.trans (b.mono B15.out.size)
  clear b OK L15 B15
  go_wp2_with fail
  go_ret
  exact ⟨rfl, BZ.out⟩
end Go.Proofs.YtgbpaiffnhpafaaDoor
