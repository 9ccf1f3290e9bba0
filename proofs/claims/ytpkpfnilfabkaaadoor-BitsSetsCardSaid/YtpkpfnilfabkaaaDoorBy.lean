/- BitsParts: the statements that set several variables at once. -/
import Derived.Test.YtpkpfnilfabkaaaDoorBx
namespace Go.Proofs.YtpkpfnilfabkaaaDoor
open Go.RowKit

/-- The operations of the region. -/
noncomputable def parts_ownOps : Array Oper := #[{ dst := some 16, op := Op.load 24 (Operand.tmp 3), type := 24, pos := "outright.go:37", after := #[], guard := none }, { dst := some 17, op := Op.call { callee := Callee.value (Operand.func 10), args := #[Operand.tmp 16], argTypes := #[24] }, type := 24, pos := "outright.go:37", after := #[{ on := 0, ground := Ground.data }], guard := none }, { dst := some 18, op := Op.load 24 (Operand.tmp 4), type := 24, pos := "outright.go:37", after := #[], guard := none }, { dst := some 19, op := Op.call { callee := Callee.value (Operand.func 10), args := #[Operand.tmp 18], argTypes := #[24] }, type := 24, pos := "outright.go:37", after := #[{ on := 2, ground := Ground.data }, { on := 1, ground := Ground.chain }], guard := none }, { dst := some 20, op := Op.load 24 (Operand.tmp 5), type := 24, pos := "outright.go:37", after := #[], guard := none }, { dst := some 21, op := Op.call { callee := Callee.value (Operand.func 10), args := #[Operand.tmp 20], argTypes := #[24] }, type := 24, pos := "outright.go:37", after := #[{ on := 4, ground := Ground.data }, { on := 3, ground := Ground.chain }], guard := none }, { dst := some 7, op := Op.alloc 24, type := 0, pos := "outright.go:37", after := #[], guard := none }, { dst := some 8, op := Op.alloc 24, type := 0, pos := "outright.go:37", after := #[], guard := none }, { dst := some 9, op := Op.alloc 24, type := 0, pos := "outright.go:37", after := #[], guard := none }, { dst := none, op := Op.store 24 (Operand.tmp 7) (Operand.tmp 17), type := 0, pos := "outright.go:37", after := #[{ on := 6, ground := Ground.data }, { on := 1, ground := Ground.data }, { on := 5, ground := Ground.chain }, { on := 0, ground := Ground.phase }, { on := 1, ground := Ground.phase }, { on := 2, ground := Ground.textOnly Departure.lateStores }, { on := 3, ground := Ground.textOnly Departure.lateStoresUnsure }, { on := 4, ground := Ground.textOnly Departure.lateStores }, { on := 5, ground := Ground.textOnly Departure.lateStoresUnsure }, { on := 6, ground := Ground.phase }, { on := 7, ground := Ground.phase }, { on := 8, ground := Ground.phase }], guard := none }, { dst := none, op := Op.store 24 (Operand.tmp 8) (Operand.tmp 19), type := 0, pos := "outright.go:37", after := #[{ on := 7, ground := Ground.data }, { on := 3, ground := Ground.data }, { on := 9, ground := Ground.chain }, { on := 0, ground := Ground.phase }, { on := 1, ground := Ground.phase }, { on := 2, ground := Ground.phase }, { on := 3, ground := Ground.phase }, { on := 4, ground := Ground.textOnly Departure.lateStores }, { on := 5, ground := Ground.textOnly Departure.lateStoresUnsure }, { on := 6, ground := Ground.phase }, { on := 7, ground := Ground.phase }, { on := 8, ground := Ground.phase }, { on := 9, ground := Ground.phase }], guard := none }, { dst := none, op := Op.store 24 (Operand.tmp 9) (Operand.tmp 21), type := 0, pos := "outright.go:37", after := #[{ on := 8, ground := Ground.data }, { on := 5, ground := Ground.data }, { on := 10, ground := Ground.chain }, { on := 0, ground := Ground.phase }, { on := 1, ground := Ground.phase }, { on := 2, ground := Ground.phase }, { on := 3, ground := Ground.phase }, { on := 4, ground := Ground.phase }, { on := 5, ground := Ground.phase }, { on := 6, ground := Ground.phase }, { on := 7, ground := Ground.phase }, { on := 8, ground := Ground.phase }, { on := 9, ground := Ground.phase }, { on := 10, ground := Ground.phase }], guard := none }]
set_option maxRecDepth 100000 in
set_option maxHeartbeats 8000000 in
theorem parts_own (Q : Exit → Act → World → Prop) (W0 : World) (v0 v1 v2 : Value) (p3 p4 p5 : Nat) (Ax Ay Az : Option Addr) (nx cx ny cy nz cz : Nat) (x1 x2 x3 : List Nat) (HS : ∀ W, Below W0.heap.size W0 W → (fun w' => w'.cell? ⟨p3, 0, none⟩ = some (.slice Ax nx cx) ∧ w'.cell? ⟨p4, 0, none⟩ = some (.slice Ay ny cy) ∧ w'.cell? ⟨p5, 0, none⟩ = some (.slice Az nz cz)) W) (C0 : ∀ W, Below W0.heap.size W0 W → Calls Tryd.prog 10 #[.agg #[.slice Ax nx cx]] W (GotSet x1 W)) (C1 : ∀ W, Below W0.heap.size W0 W → Calls Tryd.prog 10 #[.agg #[.slice Ay ny cy]] W (GotSet x2 W)) (C2 : ∀ W, Below W0.heap.size W0 W → Calls Tryd.prog 10 #[.agg #[.slice Az nz cz]] W (GotSet x3 W)) 
    (hQ : ∀ (W : World) (s0 s1 s2 : SV) (g0 g1 g2 : Nat), Below W0.heap.size W0 W → (s0.ws = x1) → (s1.ws = x2) → (s2.ws = x3) → InBox W0 W g0 s0 → InBox W0 W g1 s1 → InBox W0 W g2 s2 → Q .normal ⟨#[v0, v1, v2, .pointer (some ⟨p3, 0, none⟩), .pointer (some ⟨p4, 0, none⟩), .pointer (some ⟨p5, 0, none⟩), .bool false, .pointer (some ⟨g0, 0, none⟩), .pointer (some ⟨g1, 0, none⟩), .pointer (some ⟨g2, 0, none⟩), undef, undef, undef, undef, .bool true, .bool false, .agg #[.slice Ax nx cx], .agg #[.slice s0.A s0.n s0.c], .agg #[.slice Ay ny cy], .agg #[.slice s1.A s1.n s1.c], .agg #[.slice Az nz cz], .agg #[.slice s2.A s2.n s2.c], undef, undef, undef, undef, undef, undef, undef, undef, undef, undef, undef, undef, undef, undef, undef, undef, undef, undef, undef, undef, undef, undef, undef, undef, undef, undef, undef, undef, undef, undef, undef, undef, undef, undef, undef, undef, undef, undef, undef, undef, undef, undef, undef, undef, undef, undef, undef, undef, undef, undef, undef, undef, undef, undef, undef, undef, undef, undef, undef, undef, undef, undef, undef, undef, undef, undef, undef, undef, undef, undef, undef, undef, undef, undef, undef, undef, undef, undef, undef, undef, undef, undef, undef, undef, undef, undef, undef, undef, undef, undef, undef, undef, undef, undef, undef, undef, undef, undef, undef, undef, undef, undef, undef, undef, undef, undef, undef, undef, undef, undef, undef, undef, undef], []⟩ W) : (Code.region 3 parts_ownOps true).wp Tryd.prog Q ⟨#[v0, v1, v2, .pointer (some ⟨p3, 0, none⟩), .pointer (some ⟨p4, 0, none⟩), .pointer (some ⟨p5, 0, none⟩), .bool false, undef, undef, undef, undef, undef, undef, undef, .bool true, .bool false, undef, undef, undef, undef, undef, undef, undef, undef, undef, undef, undef, undef, undef, undef, undef, undef, undef, undef, undef, undef, undef, undef, undef, undef, undef, undef, undef, undef, undef, undef, undef, undef, undef, undef, undef, undef, undef, undef, undef, undef, undef, undef, undef, undef, undef, undef, undef, undef, undef, undef, undef, undef, undef, undef, undef, undef, undef, undef, undef, undef, undef, undef, undef, undef, undef, undef, undef, undef, undef, undef, undef, undef, undef, undef, undef, undef, undef, undef, undef, undef, undef, undef, undef, undef, undef, undef, undef, undef, undef, undef, undef, undef, undef, undef, undef, undef, undef, undef, undef, undef, undef, undef, undef, undef, undef, undef, undef, undef, undef, undef, undef, undef, undef, undef, undef, undef, undef, undef, undef], []⟩ W0 := by
  have L3_012 : ∀ (W : World) (b : Below W0.heap.size W0 W) (s0 : SV) (s1 : SV) (s2 : SV) (g0 : Nat) (g1 : Nat) (g2 : Nat) (h0 : s0.ws = x1 ∧ s0.ok W W.heap.size) (h1 : s1.ws = x2 ∧ s1.ok W W.heap.size) (h2 : s2.ws = x3 ∧ s2.ok W W.heap.size) (n0 : NewBox W0 W g0) (n1 : NewBox W0 W g1) (n2 : NewBox W0 W g2) (d01 : g0 ≠ g1) (d02 : g0 ≠ g2) (d12 : g1 ≠ g2), wpAnyH Tryd.prog .any parts_ownOps (NoPanic Q) (fun w' => w'.cell? ⟨p3, 0, none⟩ = some (.slice Ax nx cx) ∧ w'.cell? ⟨p4, 0, none⟩ = some (.slice Ay ny cy) ∧ w'.cell? ⟨p5, 0, none⟩ = some (.slice Az nz cz)) 3 #[true, true, true, true, true, true, true, true, true, false, false, false] ⟨#[v0, v1, v2, .pointer (some ⟨p3, 0, none⟩), .pointer (some ⟨p4, 0, none⟩), .pointer (some ⟨p5, 0, none⟩), .bool false, .pointer (some ⟨g0, 0, none⟩), .pointer (some ⟨g1, 0, none⟩), .pointer (some ⟨g2, 0, none⟩), undef, undef, undef, undef, .bool true, .bool false, .agg #[.slice Ax nx cx], .agg #[.slice s0.A s0.n s0.c], .agg #[.slice Ay ny cy], .agg #[.slice s1.A s1.n s1.c], .agg #[.slice Az nz cz], .agg #[.slice s2.A s2.n s2.c], undef, undef, undef, undef, undef, undef, undef, undef, undef, undef, undef, undef, undef, undef, undef, undef, undef, undef, undef, undef, undef, undef, undef, undef, undef, undef, undef, undef, undef, undef, undef, undef, undef, undef, undef, undef, undef, undef, undef, undef, undef, undef, undef, undef, undef, undef, undef, undef, undef, undef, undef, undef, undef, undef, undef, undef, undef, undef, undef, undef, undef, undef, undef, undef, undef, undef, undef, undef, undef, undef, undef, undef, undef, undef, undef, undef, undef, undef, undef, undef, undef, undef, undef, undef, undef, undef, undef, undef, undef, undef, undef, undef, undef, undef, undef, undef, undef, undef, undef, undef, undef, undef, undef, undef, undef, undef, undef, undef, undef, undef, undef, undef, undef], []⟩ W := by
    intro W b s0 s1 s2 g0 g1 g2 h0 h1 h2 n0 n1 n2 d01 d02 d12
    have c0 := n0.2.cell 0
    have f0 := n0.2.frozen 0
    have c1 := n1.2.cell 0
    have f1 := n1.2.frozen 0
    have c2 := n2.2.cell 0
    have f2 := n2.2.frozen 0
    have o0 := h0.2
    have o1 := h1.2
    have o2 := h2.2
    have b0 : Below W0.heap.size W0 (W.setCell ⟨g0, 0, none⟩ (.slice s0.A s0.n s0.c)) := b.setCell (p := ⟨g0, 0, none⟩) n0.1 _
    refine wpAnyH_ready (rs := [9]) (by kernel_rfl) (by simp) ?_
    refine AllReadyH.cons (o := { dst := none, op := Op.store 24 (Operand.tmp 7) (Operand.tmp 17), type := 0, pos := "outright.go:37", after := #[{ on := 6, ground := Ground.data }, { on := 1, ground := Ground.data }, { on := 5, ground := Ground.chain }, { on := 0, ground := Ground.phase }, { on := 1, ground := Ground.phase }, { on := 2, ground := Ground.textOnly Departure.lateStores }, { on := 3, ground := Ground.textOnly Departure.lateStoresUnsure }, { on := 4, ground := Ground.textOnly Departure.lateStores }, { on := 5, ground := Ground.textOnly Departure.lateStoresUnsure }, { on := 6, ground := Ground.phase }, { on := 7, ground := Ground.phase }, { on := 8, ground := Ground.phase }], guard := none }) rfl (fun K hK => ?_) AllReadyH.nil
    go_simp
    refine hK.out _ _ (HS _ b0) (fun _ => ?_)
    clear hK K
    try simp only [List.setIfInBounds_toArray, List.set_cons_zero, List.set_cons_succ]
    replace o0 := o0.boxed (v := .slice s0.A s0.n s0.c) n0.2
    replace o1 := o1.boxed (v := .slice s0.A s0.n s0.c) n0.2
    replace o2 := o2.boxed (v := .slice s0.A s0.n s0.c) n0.2
    replace n1 := n1.other (g := g0) (u := .slice s0.A s0.n s0.c) (fun e => d01 e.symm)
    replace c1 := n1.2.cell 0
    replace f1 := n1.2.frozen 0
    replace n2 := n2.other (g := g0) (u := .slice s0.A s0.n s0.c) (fun e => d02 e.symm)
    replace c2 := n2.2.cell 0
    replace f2 := n2.2.frozen 0
    have k0 : HasBox W0 (W.setCell ⟨g0, 0, none⟩ (.slice s0.A s0.n s0.c)) g0 s0 := n0.put
    have b1 : Below W0.heap.size W0 ((W.setCell ⟨g0, 0, none⟩ (.slice s0.A s0.n s0.c)).setCell ⟨g1, 0, none⟩ (.slice s1.A s1.n s1.c)) := b0.setCell (p := ⟨g1, 0, none⟩) n1.1 _
    refine wpAnyH_ready (rs := [10]) (by kernel_rfl) (by simp) ?_
    refine AllReadyH.cons (o := { dst := none, op := Op.store 24 (Operand.tmp 8) (Operand.tmp 19), type := 0, pos := "outright.go:37", after := #[{ on := 7, ground := Ground.data }, { on := 3, ground := Ground.data }, { on := 9, ground := Ground.chain }, { on := 0, ground := Ground.phase }, { on := 1, ground := Ground.phase }, { on := 2, ground := Ground.phase }, { on := 3, ground := Ground.phase }, { on := 4, ground := Ground.textOnly Departure.lateStores }, { on := 5, ground := Ground.textOnly Departure.lateStoresUnsure }, { on := 6, ground := Ground.phase }, { on := 7, ground := Ground.phase }, { on := 8, ground := Ground.phase }, { on := 9, ground := Ground.phase }], guard := none }) rfl (fun K hK => ?_) AllReadyH.nil
    go_simp
    refine hK.out _ _ (HS _ b1) (fun _ => ?_)
    clear hK K
    try simp only [List.setIfInBounds_toArray, List.set_cons_zero, List.set_cons_succ]
    replace o0 := o0.boxed (v := .slice s1.A s1.n s1.c) n1.2
    replace o1 := o1.boxed (v := .slice s1.A s1.n s1.c) n1.2
    replace o2 := o2.boxed (v := .slice s1.A s1.n s1.c) n1.2
    replace n2 := n2.other (g := g1) (u := .slice s1.A s1.n s1.c) (fun e => d12 e.symm)
    replace c2 := n2.2.cell 0
    replace f2 := n2.2.frozen 0
    have k0 := k0.other (g := g1) (u := .slice s1.A s1.n s1.c) (d01)
    have k1 : HasBox W0 ((W.setCell ⟨g0, 0, none⟩ (.slice s0.A s0.n s0.c)).setCell ⟨g1, 0, none⟩ (.slice s1.A s1.n s1.c)) g1 s1 := n1.put
    have b2 : Below W0.heap.size W0 (((W.setCell ⟨g0, 0, none⟩ (.slice s0.A s0.n s0.c)).setCell ⟨g1, 0, none⟩ (.slice s1.A s1.n s1.c)).setCell ⟨g2, 0, none⟩ (.slice s2.A s2.n s2.c)) := b1.setCell (p := ⟨g2, 0, none⟩) n2.1 _
    refine wpAnyH_ready (rs := [11]) (by kernel_rfl) (by simp) ?_
    refine AllReadyH.cons (o := { dst := none, op := Op.store 24 (Operand.tmp 9) (Operand.tmp 21), type := 0, pos := "outright.go:37", after := #[{ on := 8, ground := Ground.data }, { on := 5, ground := Ground.data }, { on := 10, ground := Ground.chain }, { on := 0, ground := Ground.phase }, { on := 1, ground := Ground.phase }, { on := 2, ground := Ground.phase }, { on := 3, ground := Ground.phase }, { on := 4, ground := Ground.phase }, { on := 5, ground := Ground.phase }, { on := 6, ground := Ground.phase }, { on := 7, ground := Ground.phase }, { on := 8, ground := Ground.phase }, { on := 9, ground := Ground.phase }, { on := 10, ground := Ground.phase }], guard := none }) rfl (fun K hK => ?_) AllReadyH.nil
    go_simp
    refine hK.out _ _ (HS _ b2) (fun _ => ?_)
    clear hK K
    try simp only [List.setIfInBounds_toArray, List.set_cons_zero, List.set_cons_succ]
    replace o0 := o0.boxed (v := .slice s2.A s2.n s2.c) n2.2
    replace o1 := o1.boxed (v := .slice s2.A s2.n s2.c) n2.2
    replace o2 := o2.boxed (v := .slice s2.A s2.n s2.c) n2.2
    have k0 := k0.other (g := g2) (u := .slice s2.A s2.n s2.c) (d02)
    have k1 := k1.other (g := g2) (u := .slice s2.A s2.n s2.c) (d12)
    have k2 : HasBox W0 (((W.setCell ⟨g0, 0, none⟩ (.slice s0.A s0.n s0.c)).setCell ⟨g1, 0, none⟩ (.slice s1.A s1.n s1.c)).setCell ⟨g2, 0, none⟩ (.slice s2.A s2.n s2.c)) g2 s2 := n2.put
    refine wpAnyH_done (by kernel_rfl) ?_ _
    refine NoPanic.normal ?_
    exact hQ _ s0 s1 s2 g0 g1 g2 b2 h0.1 h1.1 h2.1 ⟨k0, o0⟩ ⟨k1, o1⟩ ⟨k2, o2⟩
  have L3_01 : ∀ (W : World) (b : Below W0.heap.size W0 W) (s0 : SV) (s1 : SV) (s2 : SV) (g0 : Nat) (g1 : Nat) (h0 : s0.ws = x1 ∧ s0.ok W W.heap.size) (h1 : s1.ws = x2 ∧ s1.ok W W.heap.size) (h2 : s2.ws = x3 ∧ s2.ok W W.heap.size) (n0 : NewBox W0 W g0) (n1 : NewBox W0 W g1) (d01 : g0 ≠ g1), wpAnyH Tryd.prog .any parts_ownOps (NoPanic Q) (fun w' => w'.cell? ⟨p3, 0, none⟩ = some (.slice Ax nx cx) ∧ w'.cell? ⟨p4, 0, none⟩ = some (.slice Ay ny cy) ∧ w'.cell? ⟨p5, 0, none⟩ = some (.slice Az nz cz)) 4 #[true, true, true, true, true, true, true, true, false, false, false, false] ⟨#[v0, v1, v2, .pointer (some ⟨p3, 0, none⟩), .pointer (some ⟨p4, 0, none⟩), .pointer (some ⟨p5, 0, none⟩), .bool false, .pointer (some ⟨g0, 0, none⟩), .pointer (some ⟨g1, 0, none⟩), undef, undef, undef, undef, undef, .bool true, .bool false, .agg #[.slice Ax nx cx], .agg #[.slice s0.A s0.n s0.c], .agg #[.slice Ay ny cy], .agg #[.slice s1.A s1.n s1.c], .agg #[.slice Az nz cz], .agg #[.slice s2.A s2.n s2.c], undef, undef, undef, undef, undef, undef, undef, undef, undef, undef, undef, undef, undef, undef, undef, undef, undef, undef, undef, undef, undef, undef, undef, undef, undef, undef, undef, undef, undef, undef, undef, undef, undef, undef, undef, undef, undef, undef, undef, undef, undef, undef, undef, undef, undef, undef, undef, undef, undef, undef, undef, undef, undef, undef, undef, undef, undef, undef, undef, undef, undef, undef, undef, undef, undef, undef, undef, undef, undef, undef, undef, undef, undef, undef, undef, undef, undef, undef, undef, undef, undef, undef, undef, undef, undef, undef, undef, undef, undef, undef, undef, undef, undef, undef, undef, undef, undef, undef, undef, undef, undef, undef, undef, undef, undef, undef, undef, undef, undef, undef, undef, undef, undef], []⟩ W := by
    intro W b s0 s1 s2 g0 g1 h0 h1 h2 n0 n1 d01
    refine wpAnyH_ready (rs := [8]) (by kernel_rfl) (by simp) ?_
    refine AllReadyH.cons (o := { dst := some 9, op := Op.alloc 24, type := 0, pos := "outright.go:37", after := #[], guard := none }) rfl (fun K hK => ?_) (AllReadyH.nil)
    · go_simp
      have b' := b.alloc b.size (.cells #[.slice none 0 0] 24)
      refine hK.out _ _ (HS _ b') (fun _ => ?_)
      clear hK K
      try simp only [List.setIfInBounds_toArray, List.set_cons_zero, List.set_cons_succ]
      exact L3_012 _ b' s0 s1 s2 g0 g1 W.heap.size ⟨h0.1, h0.2.on (one_more W _)⟩ ⟨h1.1, h1.2.on (one_more W _)⟩ ⟨h2.1, h2.2.on (one_more W _)⟩ (n0.on (one_more W _)) (n1.on (one_more W _)) (NewBox.new b) d01 (n0.ne_new) (n1.ne_new)
  have L3_02 : ∀ (W : World) (b : Below W0.heap.size W0 W) (s0 : SV) (s1 : SV) (s2 : SV) (g0 : Nat) (g2 : Nat) (h0 : s0.ws = x1 ∧ s0.ok W W.heap.size) (h1 : s1.ws = x2 ∧ s1.ok W W.heap.size) (h2 : s2.ws = x3 ∧ s2.ok W W.heap.size) (n0 : NewBox W0 W g0) (n2 : NewBox W0 W g2) (d02 : g0 ≠ g2), wpAnyH Tryd.prog .any parts_ownOps (NoPanic Q) (fun w' => w'.cell? ⟨p3, 0, none⟩ = some (.slice Ax nx cx) ∧ w'.cell? ⟨p4, 0, none⟩ = some (.slice Ay ny cy) ∧ w'.cell? ⟨p5, 0, none⟩ = some (.slice Az nz cz)) 4 #[true, true, true, true, true, true, true, false, true, false, false, false] ⟨#[v0, v1, v2, .pointer (some ⟨p3, 0, none⟩), .pointer (some ⟨p4, 0, none⟩), .pointer (some ⟨p5, 0, none⟩), .bool false, .pointer (some ⟨g0, 0, none⟩), undef, .pointer (some ⟨g2, 0, none⟩), undef, undef, undef, undef, .bool true, .bool false, .agg #[.slice Ax nx cx], .agg #[.slice s0.A s0.n s0.c], .agg #[.slice Ay ny cy], .agg #[.slice s1.A s1.n s1.c], .agg #[.slice Az nz cz], .agg #[.slice s2.A s2.n s2.c], undef, undef, undef, undef, undef, undef, undef, undef, undef, undef, undef, undef, undef, undef, undef, undef, undef, undef, undef, undef, undef, undef, undef, undef, undef, undef, undef, undef, undef, undef, undef, undef, undef, undef, undef, undef, undef, undef, undef, undef, undef, undef, undef, undef, undef, undef, undef, undef, undef, undef, undef, undef, undef, undef, undef, undef, undef, undef, undef, undef, undef, undef, undef, undef, undef, undef, undef, undef, undef, undef, undef, undef, undef, undef, undef, undef, undef, undef, undef, undef, undef, undef, undef, undef, undef, undef, undef, undef, undef, undef, undef, undef, undef, undef, undef, undef, undef, undef, undef, undef, undef, undef, undef, undef, undef, undef, undef, undef, undef, undef, undef, undef, undef], []⟩ W := by
    intro W b s0 s1 s2 g0 g2 h0 h1 h2 n0 n2 d02
    refine wpAnyH_ready (rs := [7]) (by kernel_rfl) (by simp) ?_
    refine AllReadyH.cons (o := { dst := some 8, op := Op.alloc 24, type := 0, pos := "outright.go:37", after := #[], guard := none }) rfl (fun K hK => ?_) (AllReadyH.nil)
    · go_simp
      have b' := b.alloc b.size (.cells #[.slice none 0 0] 24)
      refine hK.out _ _ (HS _ b') (fun _ => ?_)
      clear hK K
      try simp only [List.setIfInBounds_toArray, List.set_cons_zero, List.set_cons_succ]
      exact L3_012 _ b' s0 s1 s2 g0 W.heap.size g2 ⟨h0.1, h0.2.on (one_more W _)⟩ ⟨h1.1, h1.2.on (one_more W _)⟩ ⟨h2.1, h2.2.on (one_more W _)⟩ (n0.on (one_more W _)) (NewBox.new b) (n2.on (one_more W _)) (n0.ne_new) d02 (n2.ne_new')
  have L3_12 : ∀ (W : World) (b : Below W0.heap.size W0 W) (s0 : SV) (s1 : SV) (s2 : SV) (g1 : Nat) (g2 : Nat) (h0 : s0.ws = x1 ∧ s0.ok W W.heap.size) (h1 : s1.ws = x2 ∧ s1.ok W W.heap.size) (h2 : s2.ws = x3 ∧ s2.ok W W.heap.size) (n1 : NewBox W0 W g1) (n2 : NewBox W0 W g2) (d12 : g1 ≠ g2), wpAnyH Tryd.prog .any parts_ownOps (NoPanic Q) (fun w' => w'.cell? ⟨p3, 0, none⟩ = some (.slice Ax nx cx) ∧ w'.cell? ⟨p4, 0, none⟩ = some (.slice Ay ny cy) ∧ w'.cell? ⟨p5, 0, none⟩ = some (.slice Az nz cz)) 4 #[true, true, true, true, true, true, false, true, true, false, false, false] ⟨#[v0, v1, v2, .pointer (some ⟨p3, 0, none⟩), .pointer (some ⟨p4, 0, none⟩), .pointer (some ⟨p5, 0, none⟩), .bool false, undef, .pointer (some ⟨g1, 0, none⟩), .pointer (some ⟨g2, 0, none⟩), undef, undef, undef, undef, .bool true, .bool false, .agg #[.slice Ax nx cx], .agg #[.slice s0.A s0.n s0.c], .agg #[.slice Ay ny cy], .agg #[.slice s1.A s1.n s1.c], .agg #[.slice Az nz cz], .agg #[.slice s2.A s2.n s2.c], undef, undef, undef, undef, undef, undef, undef, undef, undef, undef, undef, undef, undef, undef, undef, undef, undef, undef, undef, undef, undef, undef, undef, undef, undef, undef, undef, undef, undef, undef, undef, undef, undef, undef, undef, undef, undef, undef, undef, undef, undef, undef, undef, undef, undef, undef, undef, undef, undef, undef, undef, undef, undef, undef, undef, undef, undef, undef, undef, undef, undef, undef, undef, undef, undef, undef, undef, undef, undef, undef, undef, undef, undef, undef, undef, undef, undef, undef, undef, undef, undef, undef, undef, undef, undef, undef, undef, undef, undef, undef, undef, undef, undef, undef, undef, undef, undef, undef, undef, undef, undef, undef, undef, undef, undef, undef, undef, undef, undef, undef, undef, undef, undef], []⟩ W := by
    intro W b s0 s1 s2 g1 g2 h0 h1 h2 n1 n2 d12
    refine wpAnyH_ready (rs := [6]) (by kernel_rfl) (by simp) ?_
    refine AllReadyH.cons (o := { dst := some 7, op := Op.alloc 24, type := 0, pos := "outright.go:37", after := #[], guard := none }) rfl (fun K hK => ?_) (AllReadyH.nil)
    · go_simp
      have b' := b.alloc b.size (.cells #[.slice none 0 0] 24)
      refine hK.out _ _ (HS _ b') (fun _ => ?_)
      clear hK K
      try simp only [List.setIfInBounds_toArray, List.set_cons_zero, List.set_cons_succ]
      exact L3_012 _ b' s0 s1 s2 W.heap.size g1 g2 ⟨h0.1, h0.2.on (one_more W _)⟩ ⟨h1.1, h1.2.on (one_more W _)⟩ ⟨h2.1, h2.2.on (one_more W _)⟩ (NewBox.new b) (n1.on (one_more W _)) (n2.on (one_more W _)) (n1.ne_new') (n2.ne_new') d12
  have L2_012 : ∀ (W : World) (b : Below W0.heap.size W0 W) (s0 : SV) (s1 : SV) (g0 : Nat) (g1 : Nat) (g2 : Nat) (h0 : s0.ws = x1 ∧ s0.ok W W.heap.size) (h1 : s1.ws = x2 ∧ s1.ok W W.heap.size) (n0 : NewBox W0 W g0) (n1 : NewBox W0 W g1) (n2 : NewBox W0 W g2) (d01 : g0 ≠ g1) (d02 : g0 ≠ g2) (d12 : g1 ≠ g2), wpAnyH Tryd.prog .any parts_ownOps (NoPanic Q) (fun w' => w'.cell? ⟨p3, 0, none⟩ = some (.slice Ax nx cx) ∧ w'.cell? ⟨p4, 0, none⟩ = some (.slice Ay ny cy) ∧ w'.cell? ⟨p5, 0, none⟩ = some (.slice Az nz cz)) 4 #[true, true, true, true, true, false, true, true, true, false, false, false] ⟨#[v0, v1, v2, .pointer (some ⟨p3, 0, none⟩), .pointer (some ⟨p4, 0, none⟩), .pointer (some ⟨p5, 0, none⟩), .bool false, .pointer (some ⟨g0, 0, none⟩), .pointer (some ⟨g1, 0, none⟩), .pointer (some ⟨g2, 0, none⟩), undef, undef, undef, undef, .bool true, .bool false, .agg #[.slice Ax nx cx], .agg #[.slice s0.A s0.n s0.c], .agg #[.slice Ay ny cy], .agg #[.slice s1.A s1.n s1.c], .agg #[.slice Az nz cz], undef, undef, undef, undef, undef, undef, undef, undef, undef, undef, undef, undef, undef, undef, undef, undef, undef, undef, undef, undef, undef, undef, undef, undef, undef, undef, undef, undef, undef, undef, undef, undef, undef, undef, undef, undef, undef, undef, undef, undef, undef, undef, undef, undef, undef, undef, undef, undef, undef, undef, undef, undef, undef, undef, undef, undef, undef, undef, undef, undef, undef, undef, undef, undef, undef, undef, undef, undef, undef, undef, undef, undef, undef, undef, undef, undef, undef, undef, undef, undef, undef, undef, undef, undef, undef, undef, undef, undef, undef, undef, undef, undef, undef, undef, undef, undef, undef, undef, undef, undef, undef, undef, undef, undef, undef, undef, undef, undef, undef, undef, undef, undef, undef, undef], []⟩ W := by
    intro W b s0 s1 g0 g1 g2 h0 h1 n0 n1 n2 d01 d02 d12
    refine wpAnyH_ready (rs := [5]) (by kernel_rfl) (by simp) ?_
    refine AllReadyH.cons (o := { dst := some 21, op := Op.call { callee := Callee.value (Operand.func 10), args := #[Operand.tmp 20], argTypes := #[24] }, type := 24, pos := "outright.go:37", after := #[{ on := 4, ground := Ground.data }, { on := 3, ground := Ground.chain }], guard := none }) rfl (fun K hK => ?_) (AllReadyH.nil)
    · go_simp
      refine (C2 W b).mono ?_
      rintro e W' ⟨s2, rfl, e2, o2, _, bb⟩
      have b' := b.trans (bb.mono b.size)
      refine hK.out _ _ (HS _ b') (fun _ => ?_)
      clear hK K
      try simp only [List.setIfInBounds_toArray, List.set_cons_zero, List.set_cons_succ]
      exact L3_012 _ b' s0 s1 s2 g0 g1 g2 ⟨h0.1, h0.2.on bb⟩ ⟨h1.1, h1.2.on bb⟩ ⟨e2, o2⟩ (n0.on bb) (n1.on bb) (n2.on bb) d01 d02 d12
  have L3_0 : ∀ (W : World) (b : Below W0.heap.size W0 W) (s0 : SV) (s1 : SV) (s2 : SV) (g0 : Nat) (h0 : s0.ws = x1 ∧ s0.ok W W.heap.size) (h1 : s1.ws = x2 ∧ s1.ok W W.heap.size) (h2 : s2.ws = x3 ∧ s2.ok W W.heap.size) (n0 : NewBox W0 W g0), wpAnyH Tryd.prog .any parts_ownOps (NoPanic Q) (fun w' => w'.cell? ⟨p3, 0, none⟩ = some (.slice Ax nx cx) ∧ w'.cell? ⟨p4, 0, none⟩ = some (.slice Ay ny cy) ∧ w'.cell? ⟨p5, 0, none⟩ = some (.slice Az nz cz)) 5 #[true, true, true, true, true, true, true, false, false, false, false, false] ⟨#[v0, v1, v2, .pointer (some ⟨p3, 0, none⟩), .pointer (some ⟨p4, 0, none⟩), .pointer (some ⟨p5, 0, none⟩), .bool false, .pointer (some ⟨g0, 0, none⟩), undef, undef, undef, undef, undef, undef, .bool true, .bool false, .agg #[.slice Ax nx cx], .agg #[.slice s0.A s0.n s0.c], .agg #[.slice Ay ny cy], .agg #[.slice s1.A s1.n s1.c], .agg #[.slice Az nz cz], .agg #[.slice s2.A s2.n s2.c], undef, undef, undef, undef, undef, undef, undef, undef, undef, undef, undef, undef, undef, undef, undef, undef, undef, undef, undef, undef, undef, undef, undef, undef, undef, undef, undef, undef, undef, undef, undef, undef, undef, undef, undef, undef, undef, undef, undef, undef, undef, undef, undef, undef, undef, undef, undef, undef, undef, undef, undef, undef, undef, undef, undef, undef, undef, undef, undef, undef, undef, undef, undef, undef, undef, undef, undef, undef, undef, undef, undef, undef, undef, undef, undef, undef, undef, undef, undef, undef, undef, undef, undef, undef, undef, undef, undef, undef, undef, undef, undef, undef, undef, undef, undef, undef, undef, undef, undef, undef, undef, undef, undef, undef, undef, undef, undef, undef, undef, undef, undef, undef, undef], []⟩ W := by
    intro W b s0 s1 s2 g0 h0 h1 h2 n0
    refine wpAnyH_ready (rs := [7, 8]) (by kernel_rfl) (by simp) ?_
    refine AllReadyH.cons (o := { dst := some 8, op := Op.alloc 24, type := 0, pos := "outright.go:37", after := #[], guard := none }) rfl (fun K hK => ?_) (AllReadyH.cons (o := { dst := some 9, op := Op.alloc 24, type := 0, pos := "outright.go:37", after := #[], guard := none }) rfl (fun K hK => ?_) (AllReadyH.nil))
    · go_simp
      have b' := b.alloc b.size (.cells #[.slice none 0 0] 24)
      refine hK.out _ _ (HS _ b') (fun _ => ?_)
      clear hK K
      try simp only [List.setIfInBounds_toArray, List.set_cons_zero, List.set_cons_succ]
      exact L3_01 _ b' s0 s1 s2 g0 W.heap.size ⟨h0.1, h0.2.on (one_more W _)⟩ ⟨h1.1, h1.2.on (one_more W _)⟩ ⟨h2.1, h2.2.on (one_more W _)⟩ (n0.on (one_more W _)) (NewBox.new b) (n0.ne_new)
    · go_simp
      have b' := b.alloc b.size (.cells #[.slice none 0 0] 24)
      refine hK.out _ _ (HS _ b') (fun _ => ?_)
      clear hK K
      try simp only [List.setIfInBounds_toArray, List.set_cons_zero, List.set_cons_succ]
      exact L3_02 _ b' s0 s1 s2 g0 W.heap.size ⟨h0.1, h0.2.on (one_more W _)⟩ ⟨h1.1, h1.2.on (one_more W _)⟩ ⟨h2.1, h2.2.on (one_more W _)⟩ (n0.on (one_more W _)) (NewBox.new b) (n0.ne_new)
  have L3_1 : ∀ (W : World) (b : Below W0.heap.size W0 W) (s0 : SV) (s1 : SV) (s2 : SV) (g1 : Nat) (h0 : s0.ws = x1 ∧ s0.ok W W.heap.size) (h1 : s1.ws = x2 ∧ s1.ok W W.heap.size) (h2 : s2.ws = x3 ∧ s2.ok W W.heap.size) (n1 : NewBox W0 W g1), wpAnyH Tryd.prog .any parts_ownOps (NoPanic Q) (fun w' => w'.cell? ⟨p3, 0, none⟩ = some (.slice Ax nx cx) ∧ w'.cell? ⟨p4, 0, none⟩ = some (.slice Ay ny cy) ∧ w'.cell? ⟨p5, 0, none⟩ = some (.slice Az nz cz)) 5 #[true, true, true, true, true, true, false, true, false, false, false, false] ⟨#[v0, v1, v2, .pointer (some ⟨p3, 0, none⟩), .pointer (some ⟨p4, 0, none⟩), .pointer (some ⟨p5, 0, none⟩), .bool false, undef, .pointer (some ⟨g1, 0, none⟩), undef, undef, undef, undef, undef, .bool true, .bool false, .agg #[.slice Ax nx cx], .agg #[.slice s0.A s0.n s0.c], .agg #[.slice Ay ny cy], .agg #[.slice s1.A s1.n s1.c], .agg #[.slice Az nz cz], .agg #[.slice s2.A s2.n s2.c], undef, undef, undef, undef, undef, undef, undef, undef, undef, undef, undef, undef, undef, undef, undef, undef, undef, undef, undef, undef, undef, undef, undef, undef, undef, undef, undef, undef, undef, undef, undef, undef, undef, undef, undef, undef, undef, undef, undef, undef, undef, undef, undef, undef, undef, undef, undef, undef, undef, undef, undef, undef, undef, undef, undef, undef, undef, undef, undef, undef, undef, undef, undef, undef, undef, undef, undef, undef, undef, undef, undef, undef, undef, undef, undef, undef, undef, undef, undef, undef, undef, undef, undef, undef, undef, undef, undef, undef, undef, undef, undef, undef, undef, undef, undef, undef, undef, undef, undef, undef, undef, undef, undef, undef, undef, undef, undef, undef, undef, undef, undef, undef, undef], []⟩ W := by
    intro W b s0 s1 s2 g1 h0 h1 h2 n1
    refine wpAnyH_ready (rs := [6, 8]) (by kernel_rfl) (by simp) ?_
    refine AllReadyH.cons (o := { dst := some 7, op := Op.alloc 24, type := 0, pos := "outright.go:37", after := #[], guard := none }) rfl (fun K hK => ?_) (AllReadyH.cons (o := { dst := some 9, op := Op.alloc 24, type := 0, pos := "outright.go:37", after := #[], guard := none }) rfl (fun K hK => ?_) (AllReadyH.nil))
    · go_simp
      have b' := b.alloc b.size (.cells #[.slice none 0 0] 24)
      refine hK.out _ _ (HS _ b') (fun _ => ?_)
      clear hK K
      try simp only [List.setIfInBounds_toArray, List.set_cons_zero, List.set_cons_succ]
      exact L3_01 _ b' s0 s1 s2 W.heap.size g1 ⟨h0.1, h0.2.on (one_more W _)⟩ ⟨h1.1, h1.2.on (one_more W _)⟩ ⟨h2.1, h2.2.on (one_more W _)⟩ (NewBox.new b) (n1.on (one_more W _)) (n1.ne_new')
    · go_simp
      have b' := b.alloc b.size (.cells #[.slice none 0 0] 24)
      refine hK.out _ _ (HS _ b') (fun _ => ?_)
      clear hK K
      try simp only [List.setIfInBounds_toArray, List.set_cons_zero, List.set_cons_succ]
      exact L3_12 _ b' s0 s1 s2 g1 W.heap.size ⟨h0.1, h0.2.on (one_more W _)⟩ ⟨h1.1, h1.2.on (one_more W _)⟩ ⟨h2.1, h2.2.on (one_more W _)⟩ (n1.on (one_more W _)) (NewBox.new b) (n1.ne_new)
  have L3_2 : ∀ (W : World) (b : Below W0.heap.size W0 W) (s0 : SV) (s1 : SV) (s2 : SV) (g2 : Nat) (h0 : s0.ws = x1 ∧ s0.ok W W.heap.size) (h1 : s1.ws = x2 ∧ s1.ok W W.heap.size) (h2 : s2.ws = x3 ∧ s2.ok W W.heap.size) (n2 : NewBox W0 W g2), wpAnyH Tryd.prog .any parts_ownOps (NoPanic Q) (fun w' => w'.cell? ⟨p3, 0, none⟩ = some (.slice Ax nx cx) ∧ w'.cell? ⟨p4, 0, none⟩ = some (.slice Ay ny cy) ∧ w'.cell? ⟨p5, 0, none⟩ = some (.slice Az nz cz)) 5 #[true, true, true, true, true, true, false, false, true, false, false, false] ⟨#[v0, v1, v2, .pointer (some ⟨p3, 0, none⟩), .pointer (some ⟨p4, 0, none⟩), .pointer (some ⟨p5, 0, none⟩), .bool false, undef, undef, .pointer (some ⟨g2, 0, none⟩), undef, undef, undef, undef, .bool true, .bool false, .agg #[.slice Ax nx cx], .agg #[.slice s0.A s0.n s0.c], .agg #[.slice Ay ny cy], .agg #[.slice s1.A s1.n s1.c], .agg #[.slice Az nz cz], .agg #[.slice s2.A s2.n s2.c], undef, undef, undef, undef, undef, undef, undef, undef, undef, undef, undef, undef, undef, undef, undef, undef, undef, undef, undef, undef, undef, undef, undef, undef, undef, undef, undef, undef, undef, undef, undef, undef, undef, undef, undef, undef, undef, undef, undef, undef, undef, undef, undef, undef, undef, undef, undef, undef, undef, undef, undef, undef, undef, undef, undef, undef, undef, undef, undef, undef, undef, undef, undef, undef, undef, undef, undef, undef, undef, undef, undef, undef, undef, undef, undef, undef, undef, undef, undef, undef, undef, undef, undef, undef, undef, undef, undef, undef, undef, undef, undef, undef, undef, undef, undef, undef, undef, undef, undef, undef, undef, undef, undef, undef, undef, undef, undef, undef, undef, undef, undef, undef, undef], []⟩ W := by
    intro W b s0 s1 s2 g2 h0 h1 h2 n2
    refine wpAnyH_ready (rs := [6, 7]) (by kernel_rfl) (by simp) ?_
    refine AllReadyH.cons (o := { dst := some 7, op := Op.alloc 24, type := 0, pos := "outright.go:37", after := #[], guard := none }) rfl (fun K hK => ?_) (AllReadyH.cons (o := { dst := some 8, op := Op.alloc 24, type := 0, pos := "outright.go:37", after := #[], guard := none }) rfl (fun K hK => ?_) (AllReadyH.nil))
    · go_simp
      have b' := b.alloc b.size (.cells #[.slice none 0 0] 24)
      refine hK.out _ _ (HS _ b') (fun _ => ?_)
      clear hK K
      try simp only [List.setIfInBounds_toArray, List.set_cons_zero, List.set_cons_succ]
      exact L3_02 _ b' s0 s1 s2 W.heap.size g2 ⟨h0.1, h0.2.on (one_more W _)⟩ ⟨h1.1, h1.2.on (one_more W _)⟩ ⟨h2.1, h2.2.on (one_more W _)⟩ (NewBox.new b) (n2.on (one_more W _)) (n2.ne_new')
    · go_simp
      have b' := b.alloc b.size (.cells #[.slice none 0 0] 24)
      refine hK.out _ _ (HS _ b') (fun _ => ?_)
      clear hK K
      try simp only [List.setIfInBounds_toArray, List.set_cons_zero, List.set_cons_succ]
      exact L3_12 _ b' s0 s1 s2 W.heap.size g2 ⟨h0.1, h0.2.on (one_more W _)⟩ ⟨h1.1, h1.2.on (one_more W _)⟩ ⟨h2.1, h2.2.on (one_more W _)⟩ (NewBox.new b) (n2.on (one_more W _)) (n2.ne_new')
  have L2_01 : ∀ (W : World) (b : Below W0.heap.size W0 W) (s0 : SV) (s1 : SV) (g0 : Nat) (g1 : Nat) (h0 : s0.ws = x1 ∧ s0.ok W W.heap.size) (h1 : s1.ws = x2 ∧ s1.ok W W.heap.size) (n0 : NewBox W0 W g0) (n1 : NewBox W0 W g1) (d01 : g0 ≠ g1), wpAnyH Tryd.prog .any parts_ownOps (NoPanic Q) (fun w' => w'.cell? ⟨p3, 0, none⟩ = some (.slice Ax nx cx) ∧ w'.cell? ⟨p4, 0, none⟩ = some (.slice Ay ny cy) ∧ w'.cell? ⟨p5, 0, none⟩ = some (.slice Az nz cz)) 5 #[true, true, true, true, true, false, true, true, false, false, false, false] ⟨#[v0, v1, v2, .pointer (some ⟨p3, 0, none⟩), .pointer (some ⟨p4, 0, none⟩), .pointer (some ⟨p5, 0, none⟩), .bool false, .pointer (some ⟨g0, 0, none⟩), .pointer (some ⟨g1, 0, none⟩), undef, undef, undef, undef, undef, .bool true, .bool false, .agg #[.slice Ax nx cx], .agg #[.slice s0.A s0.n s0.c], .agg #[.slice Ay ny cy], .agg #[.slice s1.A s1.n s1.c], .agg #[.slice Az nz cz], undef, undef, undef, undef, undef, undef, undef, undef, undef, undef, undef, undef, undef, undef, undef, undef, undef, undef, undef, undef, undef, undef, undef, undef, undef, undef, undef, undef, undef, undef, undef, undef, undef, undef, undef, undef, undef, undef, undef, undef, undef, undef, undef, undef, undef, undef, undef, undef, undef, undef, undef, undef, undef, undef, undef, undef, undef, undef, undef, undef, undef, undef, undef, undef, undef, undef, undef, undef, undef, undef, undef, undef, undef, undef, undef, undef, undef, undef, undef, undef, undef, undef, undef, undef, undef, undef, undef, undef, undef, undef, undef, undef, undef, undef, undef, undef, undef, undef, undef, undef, undef, undef, undef, undef, undef, undef, undef, undef, undef, undef, undef, undef, undef, undef], []⟩ W := by
    intro W b s0 s1 g0 g1 h0 h1 n0 n1 d01
    refine wpAnyH_ready (rs := [5, 8]) (by kernel_rfl) (by simp) ?_
    refine AllReadyH.cons (o := { dst := some 21, op := Op.call { callee := Callee.value (Operand.func 10), args := #[Operand.tmp 20], argTypes := #[24] }, type := 24, pos := "outright.go:37", after := #[{ on := 4, ground := Ground.data }, { on := 3, ground := Ground.chain }], guard := none }) rfl (fun K hK => ?_) (AllReadyH.cons (o := { dst := some 9, op := Op.alloc 24, type := 0, pos := "outright.go:37", after := #[], guard := none }) rfl (fun K hK => ?_) (AllReadyH.nil))
    · go_simp
      refine (C2 W b).mono ?_
      rintro e W' ⟨s2, rfl, e2, o2, _, bb⟩
      have b' := b.trans (bb.mono b.size)
      refine hK.out _ _ (HS _ b') (fun _ => ?_)
      clear hK K
      try simp only [List.setIfInBounds_toArray, List.set_cons_zero, List.set_cons_succ]
      exact L3_01 _ b' s0 s1 s2 g0 g1 ⟨h0.1, h0.2.on bb⟩ ⟨h1.1, h1.2.on bb⟩ ⟨e2, o2⟩ (n0.on bb) (n1.on bb) d01
    · go_simp
      have b' := b.alloc b.size (.cells #[.slice none 0 0] 24)
      refine hK.out _ _ (HS _ b') (fun _ => ?_)
      clear hK K
      try simp only [List.setIfInBounds_toArray, List.set_cons_zero, List.set_cons_succ]
      exact L2_012 _ b' s0 s1 g0 g1 W.heap.size ⟨h0.1, h0.2.on (one_more W _)⟩ ⟨h1.1, h1.2.on (one_more W _)⟩ (n0.on (one_more W _)) (n1.on (one_more W _)) (NewBox.new b) d01 (n0.ne_new) (n1.ne_new)
  have L2_02 : ∀ (W : World) (b : Below W0.heap.size W0 W) (s0 : SV) (s1 : SV) (g0 : Nat) (g2 : Nat) (h0 : s0.ws = x1 ∧ s0.ok W W.heap.size) (h1 : s1.ws = x2 ∧ s1.ok W W.heap.size) (n0 : NewBox W0 W g0) (n2 : NewBox W0 W g2) (d02 : g0 ≠ g2), wpAnyH Tryd.prog .any parts_ownOps (NoPanic Q) (fun w' => w'.cell? ⟨p3, 0, none⟩ = some (.slice Ax nx cx) ∧ w'.cell? ⟨p4, 0, none⟩ = some (.slice Ay ny cy) ∧ w'.cell? ⟨p5, 0, none⟩ = some (.slice Az nz cz)) 5 #[true, true, true, true, true, false, true, false, true, false, false, false] ⟨#[v0, v1, v2, .pointer (some ⟨p3, 0, none⟩), .pointer (some ⟨p4, 0, none⟩), .pointer (some ⟨p5, 0, none⟩), .bool false, .pointer (some ⟨g0, 0, none⟩), undef, .pointer (some ⟨g2, 0, none⟩), undef, undef, undef, undef, .bool true, .bool false, .agg #[.slice Ax nx cx], .agg #[.slice s0.A s0.n s0.c], .agg #[.slice Ay ny cy], .agg #[.slice s1.A s1.n s1.c], .agg #[.slice Az nz cz], undef, undef, undef, undef, undef, undef, undef, undef, undef, undef, undef, undef, undef, undef, undef, undef, undef, undef, undef, undef, undef, undef, undef, undef, undef, undef, undef, undef, undef, undef, undef, undef, undef, undef, undef, undef, undef, undef, undef, undef, undef, undef, undef, undef, undef, undef, undef, undef, undef, undef, undef, undef, undef, undef, undef, undef, undef, undef, undef, undef, undef, undef, undef, undef, undef, undef, undef, undef, undef, undef, undef, undef, undef, undef, undef, undef, undef, undef, undef, undef, undef, undef, undef, undef, undef, undef, undef, undef, undef, undef, undef, undef, undef, undef, undef, undef, undef, undef, undef, undef, undef, undef, undef, undef, undef, undef, undef, undef, undef, undef, undef, undef, undef, undef], []⟩ W := by
    intro W b s0 s1 g0 g2 h0 h1 n0 n2 d02
    refine wpAnyH_ready (rs := [5, 7]) (by kernel_rfl) (by simp) ?_
    refine AllReadyH.cons (o := { dst := some 21, op := Op.call { callee := Callee.value (Operand.func 10), args := #[Operand.tmp 20], argTypes := #[24] }, type := 24, pos := "outright.go:37", after := #[{ on := 4, ground := Ground.data }, { on := 3, ground := Ground.chain }], guard := none }) rfl (fun K hK => ?_) (AllReadyH.cons (o := { dst := some 8, op := Op.alloc 24, type := 0, pos := "outright.go:37", after := #[], guard := none }) rfl (fun K hK => ?_) (AllReadyH.nil))
    · go_simp
      refine (C2 W b).mono ?_
      rintro e W' ⟨s2, rfl, e2, o2, _, bb⟩
      have b' := b.trans (bb.mono b.size)
      refine hK.out _ _ (HS _ b') (fun _ => ?_)
      clear hK K
      try simp only [List.setIfInBounds_toArray, List.set_cons_zero, List.set_cons_succ]
      exact L3_02 _ b' s0 s1 s2 g0 g2 ⟨h0.1, h0.2.on bb⟩ ⟨h1.1, h1.2.on bb⟩ ⟨e2, o2⟩ (n0.on bb) (n2.on bb) d02
    · go_simp
      have b' := b.alloc b.size (.cells #[.slice none 0 0] 24)
      refine hK.out _ _ (HS _ b') (fun _ => ?_)
      clear hK K
      try simp only [List.setIfInBounds_toArray, List.set_cons_zero, List.set_cons_succ]
      exact L2_012 _ b' s0 s1 g0 W.heap.size g2 ⟨h0.1, h0.2.on (one_more W _)⟩ ⟨h1.1, h1.2.on (one_more W _)⟩ (n0.on (one_more W _)) (NewBox.new b) (n2.on (one_more W _)) (n0.ne_new) d02 (n2.ne_new')
  have L2_12 : ∀ (W : World) (b : Below W0.heap.size W0 W) (s0 : SV) (s1 : SV) (g1 : Nat) (g2 : Nat) (h0 : s0.ws = x1 ∧ s0.ok W W.heap.size) (h1 : s1.ws = x2 ∧ s1.ok W W.heap.size) (n1 : NewBox W0 W g1) (n2 : NewBox W0 W g2) (d12 : g1 ≠ g2), wpAnyH Tryd.prog .any parts_ownOps (NoPanic Q) (fun w' => w'.cell? ⟨p3, 0, none⟩ = some (.slice Ax nx cx) ∧ w'.cell? ⟨p4, 0, none⟩ = some (.slice Ay ny cy) ∧ w'.cell? ⟨p5, 0, none⟩ = some (.slice Az nz cz)) 5 #[true, true, true, true, true, false, false, true, true, false, false, false] ⟨#[v0, v1, v2, .pointer (some ⟨p3, 0, none⟩), .pointer (some ⟨p4, 0, none⟩), .pointer (some ⟨p5, 0, none⟩), .bool false, undef, .pointer (some ⟨g1, 0, none⟩), .pointer (some ⟨g2, 0, none⟩), undef, undef, undef, undef, .bool true, .bool false, .agg #[.slice Ax nx cx], .agg #[.slice s0.A s0.n s0.c], .agg #[.slice Ay ny cy], .agg #[.slice s1.A s1.n s1.c], .agg #[.slice Az nz cz], undef, undef, undef, undef, undef, undef, undef, undef, undef, undef, undef, undef, undef, undef, undef, undef, undef, undef, undef, undef, undef, undef, undef, undef, undef, undef, undef, undef, undef, undef, undef, undef, undef, undef, undef, undef, undef, undef, undef, undef, undef, undef, undef, undef, undef, undef, undef, undef, undef, undef, undef, undef, undef, undef, undef, undef, undef, undef, undef, undef, undef, undef, undef, undef, undef, undef, undef, undef, undef, undef, undef, undef, undef, undef, undef, undef, undef, undef, undef, undef, undef, undef, undef, undef, undef, undef, undef, undef, undef, undef, undef, undef, undef, undef, undef, undef, undef, undef, undef, undef, undef, undef, undef, undef, undef, undef, undef, undef, undef, undef, undef, undef, undef, undef], []⟩ W := by
    intro W b s0 s1 g1 g2 h0 h1 n1 n2 d12
    refine wpAnyH_ready (rs := [5, 6]) (by kernel_rfl) (by simp) ?_
    refine AllReadyH.cons (o := { dst := some 21, op := Op.call { callee := Callee.value (Operand.func 10), args := #[Operand.tmp 20], argTypes := #[24] }, type := 24, pos := "outright.go:37", after := #[{ on := 4, ground := Ground.data }, { on := 3, ground := Ground.chain }], guard := none }) rfl (fun K hK => ?_) (AllReadyH.cons (o := { dst := some 7, op := Op.alloc 24, type := 0, pos := "outright.go:37", after := #[], guard := none }) rfl (fun K hK => ?_) (AllReadyH.nil))
    · go_simp
      refine (C2 W b).mono ?_
      rintro e W' ⟨s2, rfl, e2, o2, _, bb⟩
      have b' := b.trans (bb.mono b.size)
      refine hK.out _ _ (HS _ b') (fun _ => ?_)
      clear hK K
      try simp only [List.setIfInBounds_toArray, List.set_cons_zero, List.set_cons_succ]
      exact L3_12 _ b' s0 s1 s2 g1 g2 ⟨h0.1, h0.2.on bb⟩ ⟨h1.1, h1.2.on bb⟩ ⟨e2, o2⟩ (n1.on bb) (n2.on bb) d12
    · go_simp
      have b' := b.alloc b.size (.cells #[.slice none 0 0] 24)
      refine hK.out _ _ (HS _ b') (fun _ => ?_)
      clear hK K
      try simp only [List.setIfInBounds_toArray, List.set_cons_zero, List.set_cons_succ]
      exact L2_012 _ b' s0 s1 W.heap.size g1 g2 ⟨h0.1, h0.2.on (one_more W _)⟩ ⟨h1.1, h1.2.on (one_more W _)⟩ (NewBox.new b) (n1.on (one_more W _)) (n2.on (one_more W _)) (n1.ne_new') (n2.ne_new') d12
  have L1_012 : ∀ (W : World) (b : Below W0.heap.size W0 W) (s0 : SV) (g0 : Nat) (g1 : Nat) (g2 : Nat) (h0 : s0.ws = x1 ∧ s0.ok W W.heap.size) (n0 : NewBox W0 W g0) (n1 : NewBox W0 W g1) (n2 : NewBox W0 W g2) (d01 : g0 ≠ g1) (d02 : g0 ≠ g2) (d12 : g1 ≠ g2), wpAnyH Tryd.prog .any parts_ownOps (NoPanic Q) (fun w' => w'.cell? ⟨p3, 0, none⟩ = some (.slice Ax nx cx) ∧ w'.cell? ⟨p4, 0, none⟩ = some (.slice Ay ny cy) ∧ w'.cell? ⟨p5, 0, none⟩ = some (.slice Az nz cz)) 5 #[true, true, true, false, true, false, true, true, true, false, false, false] ⟨#[v0, v1, v2, .pointer (some ⟨p3, 0, none⟩), .pointer (some ⟨p4, 0, none⟩), .pointer (some ⟨p5, 0, none⟩), .bool false, .pointer (some ⟨g0, 0, none⟩), .pointer (some ⟨g1, 0, none⟩), .pointer (some ⟨g2, 0, none⟩), undef, undef, undef, undef, .bool true, .bool false, .agg #[.slice Ax nx cx], .agg #[.slice s0.A s0.n s0.c], .agg #[.slice Ay ny cy], undef, .agg #[.slice Az nz cz], undef, undef, undef, undef, undef, undef, undef, undef, undef, undef, undef, undef, undef, undef, undef, undef, undef, undef, undef, undef, undef, undef, undef, undef, undef, undef, undef, undef, undef, undef, undef, undef, undef, undef, undef, undef, undef, undef, undef, undef, undef, undef, undef, undef, undef, undef, undef, undef, undef, undef, undef, undef, undef, undef, undef, undef, undef, undef, undef, undef, undef, undef, undef, undef, undef, undef, undef, undef, undef, undef, undef, undef, undef, undef, undef, undef, undef, undef, undef, undef, undef, undef, undef, undef, undef, undef, undef, undef, undef, undef, undef, undef, undef, undef, undef, undef, undef, undef, undef, undef, undef, undef, undef, undef, undef, undef, undef, undef, undef, undef, undef, undef, undef, undef], []⟩ W := by
    intro W b s0 g0 g1 g2 h0 n0 n1 n2 d01 d02 d12
    refine wpAnyH_ready (rs := [3]) (by kernel_rfl) (by simp) ?_
    refine AllReadyH.cons (o := { dst := some 19, op := Op.call { callee := Callee.value (Operand.func 10), args := #[Operand.tmp 18], argTypes := #[24] }, type := 24, pos := "outright.go:37", after := #[{ on := 2, ground := Ground.data }, { on := 1, ground := Ground.chain }], guard := none }) rfl (fun K hK => ?_) (AllReadyH.nil)
    · go_simp
      refine (C1 W b).mono ?_
      rintro e W' ⟨s1, rfl, e1, o1, _, bb⟩
      have b' := b.trans (bb.mono b.size)
      refine hK.out _ _ (HS _ b') (fun _ => ?_)
      clear hK K
      try simp only [List.setIfInBounds_toArray, List.set_cons_zero, List.set_cons_succ]
      exact L2_012 _ b' s0 s1 g0 g1 g2 ⟨h0.1, h0.2.on bb⟩ ⟨e1, o1⟩ (n0.on bb) (n1.on bb) (n2.on bb) d01 d02 d12
  have L3_ : ∀ (W : World) (b : Below W0.heap.size W0 W) (s0 : SV) (s1 : SV) (s2 : SV) (h0 : s0.ws = x1 ∧ s0.ok W W.heap.size) (h1 : s1.ws = x2 ∧ s1.ok W W.heap.size) (h2 : s2.ws = x3 ∧ s2.ok W W.heap.size), wpAnyH Tryd.prog .any parts_ownOps (NoPanic Q) (fun w' => w'.cell? ⟨p3, 0, none⟩ = some (.slice Ax nx cx) ∧ w'.cell? ⟨p4, 0, none⟩ = some (.slice Ay ny cy) ∧ w'.cell? ⟨p5, 0, none⟩ = some (.slice Az nz cz)) 6 #[true, true, true, true, true, true, false, false, false, false, false, false] ⟨#[v0, v1, v2, .pointer (some ⟨p3, 0, none⟩), .pointer (some ⟨p4, 0, none⟩), .pointer (some ⟨p5, 0, none⟩), .bool false, undef, undef, undef, undef, undef, undef, undef, .bool true, .bool false, .agg #[.slice Ax nx cx], .agg #[.slice s0.A s0.n s0.c], .agg #[.slice Ay ny cy], .agg #[.slice s1.A s1.n s1.c], .agg #[.slice Az nz cz], .agg #[.slice s2.A s2.n s2.c], undef, undef, undef, undef, undef, undef, undef, undef, undef, undef, undef, undef, undef, undef, undef, undef, undef, undef, undef, undef, undef, undef, undef, undef, undef, undef, undef, undef, undef, undef, undef, undef, undef, undef, undef, undef, undef, undef, undef, undef, undef, undef, undef, undef, undef, undef, undef, undef, undef, undef, undef, undef, undef, undef, undef, undef, undef, undef, undef, undef, undef, undef, undef, undef, undef, undef, undef, undef, undef, undef, undef, undef, undef, undef, undef, undef, undef, undef, undef, undef, undef, undef, undef, undef, undef, undef, undef, undef, undef, undef, undef, undef, undef, undef, undef, undef, undef, undef, undef, undef, undef, undef, undef, undef, undef, undef, undef, undef, undef, undef, undef, undef, undef], []⟩ W := by
    intro W b s0 s1 s2 h0 h1 h2
    refine wpAnyH_ready (rs := [6, 7, 8]) (by kernel_rfl) (by simp) ?_
    refine AllReadyH.cons (o := { dst := some 7, op := Op.alloc 24, type := 0, pos := "outright.go:37", after := #[], guard := none }) rfl (fun K hK => ?_) (AllReadyH.cons (o := { dst := some 8, op := Op.alloc 24, type := 0, pos := "outright.go:37", after := #[], guard := none }) rfl (fun K hK => ?_) (AllReadyH.cons (o := { dst := some 9, op := Op.alloc 24, type := 0, pos := "outright.go:37", after := #[], guard := none }) rfl (fun K hK => ?_) (AllReadyH.nil)))
    · go_simp
      have b' := b.alloc b.size (.cells #[.slice none 0 0] 24)
      refine hK.out _ _ (HS _ b') (fun _ => ?_)
      clear hK K
      try simp only [List.setIfInBounds_toArray, List.set_cons_zero, List.set_cons_succ]
      exact L3_0 _ b' s0 s1 s2 W.heap.size ⟨h0.1, h0.2.on (one_more W _)⟩ ⟨h1.1, h1.2.on (one_more W _)⟩ ⟨h2.1, h2.2.on (one_more W _)⟩ (NewBox.new b)
    · go_simp
      have b' := b.alloc b.size (.cells #[.slice none 0 0] 24)
      refine hK.out _ _ (HS _ b') (fun _ => ?_)
      clear hK K
      try simp only [List.setIfInBounds_toArray, List.set_cons_zero, List.set_cons_succ]
      exact L3_1 _ b' s0 s1 s2 W.heap.size ⟨h0.1, h0.2.on (one_more W _)⟩ ⟨h1.1, h1.2.on (one_more W _)⟩ ⟨h2.1, h2.2.on (one_more W _)⟩ (NewBox.new b)
    · go_simp
      have b' := b.alloc b.size (.cells #[.slice none 0 0] 24)
      refine hK.out _ _ (HS _ b') (fun _ => ?_)
      clear hK K
      try simp only [List.setIfInBounds_toArray, List.set_cons_zero, List.set_cons_succ]
      exact L3_2 _ b' s0 s1 s2 W.heap.size ⟨h0.1, h0.2.on (one_more W _)⟩ ⟨h1.1, h1.2.on (one_more W _)⟩ ⟨h2.1, h2.2.on (one_more W _)⟩ (NewBox.new b)
  have L2_0 : ∀ (W : World) (b : Below W0.heap.size W0 W) (s0 : SV) (s1 : SV) (g0 : Nat) (h0 : s0.ws = x1 ∧ s0.ok W W.heap.size) (h1 : s1.ws = x2 ∧ s1.ok W W.heap.size) (n0 : NewBox W0 W g0), wpAnyH Tryd.prog .any parts_ownOps (NoPanic Q) (fun w' => w'.cell? ⟨p3, 0, none⟩ = some (.slice Ax nx cx) ∧ w'.cell? ⟨p4, 0, none⟩ = some (.slice Ay ny cy) ∧ w'.cell? ⟨p5, 0, none⟩ = some (.slice Az nz cz)) 6 #[true, true, true, true, true, false, true, false, false, false, false, false] ⟨#[v0, v1, v2, .pointer (some ⟨p3, 0, none⟩), .pointer (some ⟨p4, 0, none⟩), .pointer (some ⟨p5, 0, none⟩), .bool false, .pointer (some ⟨g0, 0, none⟩), undef, undef, undef, undef, undef, undef, .bool true, .bool false, .agg #[.slice Ax nx cx], .agg #[.slice s0.A s0.n s0.c], .agg #[.slice Ay ny cy], .agg #[.slice s1.A s1.n s1.c], .agg #[.slice Az nz cz], undef, undef, undef, undef, undef, undef, undef, undef, undef, undef, undef, undef, undef, undef, undef, undef, undef, undef, undef, undef, undef, undef, undef, undef, undef, undef, undef, undef, undef, undef, undef, undef, undef, undef, undef, undef, undef, undef, undef, undef, undef, undef, undef, undef, undef, undef, undef, undef, undef, undef, undef, undef, undef, undef, undef, undef, undef, undef, undef, undef, undef, undef, undef, undef, undef, undef, undef, undef, undef, undef, undef, undef, undef, undef, undef, undef, undef, undef, undef, undef, undef, undef, undef, undef, undef, undef, undef, undef, undef, undef, undef, undef, undef, undef, undef, undef, undef, undef, undef, undef, undef, undef, undef, undef, undef, undef, undef, undef, undef, undef, undef, undef, undef, undef], []⟩ W := by
    intro W b s0 s1 g0 h0 h1 n0
    refine wpAnyH_ready (rs := [5, 7, 8]) (by kernel_rfl) (by simp) ?_
    refine AllReadyH.cons (o := { dst := some 21, op := Op.call { callee := Callee.value (Operand.func 10), args := #[Operand.tmp 20], argTypes := #[24] }, type := 24, pos := "outright.go:37", after := #[{ on := 4, ground := Ground.data }, { on := 3, ground := Ground.chain }], guard := none }) rfl (fun K hK => ?_) (AllReadyH.cons (o := { dst := some 8, op := Op.alloc 24, type := 0, pos := "outright.go:37", after := #[], guard := none }) rfl (fun K hK => ?_) (AllReadyH.cons (o := { dst := some 9, op := Op.alloc 24, type := 0, pos := "outright.go:37", after := #[], guard := none }) rfl (fun K hK => ?_) (AllReadyH.nil)))
    · go_simp
      refine (C2 W b).mono ?_
      rintro e W' ⟨s2, rfl, e2, o2, _, bb⟩
      have b' := b.trans (bb.mono b.size)
      refine hK.out _ _ (HS _ b') (fun _ => ?_)
      clear hK K
      try simp only [List.setIfInBounds_toArray, List.set_cons_zero, List.set_cons_succ]
      exact L3_0 _ b' s0 s1 s2 g0 ⟨h0.1, h0.2.on bb⟩ ⟨h1.1, h1.2.on bb⟩ ⟨e2, o2⟩ (n0.on bb)
    · go_simp
      have b' := b.alloc b.size (.cells #[.slice none 0 0] 24)
      refine hK.out _ _ (HS _ b') (fun _ => ?_)
      clear hK K
      try simp only [List.setIfInBounds_toArray, List.set_cons_zero, List.set_cons_succ]
      exact L2_01 _ b' s0 s1 g0 W.heap.size ⟨h0.1, h0.2.on (one_more W _)⟩ ⟨h1.1, h1.2.on (one_more W _)⟩ (n0.on (one_more W _)) (NewBox.new b) (n0.ne_new)
    · go_simp
      have b' := b.alloc b.size (.cells #[.slice none 0 0] 24)
      refine hK.out _ _ (HS _ b') (fun _ => ?_)
      clear hK K
      try simp only [List.setIfInBounds_toArray, List.set_cons_zero, List.set_cons_succ]
      exact L2_02 _ b' s0 s1 g0 W.heap.size ⟨h0.1, h0.2.on (one_more W _)⟩ ⟨h1.1, h1.2.on (one_more W _)⟩ (n0.on (one_more W _)) (NewBox.new b) (n0.ne_new)
  have L2_1 : ∀ (W : World) (b : Below W0.heap.size W0 W) (s0 : SV) (s1 : SV) (g1 : Nat) (h0 : s0.ws = x1 ∧ s0.ok W W.heap.size) (h1 : s1.ws = x2 ∧ s1.ok W W.heap.size) (n1 : NewBox W0 W g1), wpAnyH Tryd.prog .any parts_ownOps (NoPanic Q) (fun w' => w'.cell? ⟨p3, 0, none⟩ = some (.slice Ax nx cx) ∧ w'.cell? ⟨p4, 0, none⟩ = some (.slice Ay ny cy) ∧ w'.cell? ⟨p5, 0, none⟩ = some (.slice Az nz cz)) 6 #[true, true, true, true, true, false, false, true, false, false, false, false] ⟨#[v0, v1, v2, .pointer (some ⟨p3, 0, none⟩), .pointer (some ⟨p4, 0, none⟩), .pointer (some ⟨p5, 0, none⟩), .bool false, undef, .pointer (some ⟨g1, 0, none⟩), undef, undef, undef, undef, undef, .bool true, .bool false, .agg #[.slice Ax nx cx], .agg #[.slice s0.A s0.n s0.c], .agg #[.slice Ay ny cy], .agg #[.slice s1.A s1.n s1.c], .agg #[.slice Az nz cz], undef, undef, undef, undef, undef, undef, undef, undef, undef, undef, undef, undef, undef, undef, undef, undef, undef, undef, undef, undef, undef, undef, undef, undef, undef, undef, undef, undef, undef, undef, undef, undef, undef, undef, undef, undef, undef, undef, undef, undef, undef, undef, undef, undef, undef, undef, undef, undef, undef, undef, undef, undef, undef, undef, undef, undef, undef, undef, undef, undef, undef, undef, undef, undef, undef, undef, undef, undef, undef, undef, undef, undef, undef, undef, undef, undef, undef, undef, undef, undef, undef, undef, undef, undef, undef, undef, undef, undef, undef, undef, undef, undef, undef, undef, undef, undef, undef, undef, undef, undef, undef, undef, undef, undef, undef, undef, undef, undef, undef, undef, undef, undef, undef, undef], []⟩ W := by
    intro W b s0 s1 g1 h0 h1 n1
    refine wpAnyH_ready (rs := [5, 6, 8]) (by kernel_rfl) (by simp) ?_
    refine AllReadyH.cons (o := { dst := some 21, op := Op.call { callee := Callee.value (Operand.func 10), args := #[Operand.tmp 20], argTypes := #[24] }, type := 24, pos := "outright.go:37", after := #[{ on := 4, ground := Ground.data }, { on := 3, ground := Ground.chain }], guard := none }) rfl (fun K hK => ?_) (AllReadyH.cons (o := { dst := some 7, op := Op.alloc 24, type := 0, pos := "outright.go:37", after := #[], guard := none }) rfl (fun K hK => ?_) (AllReadyH.cons (o := { dst := some 9, op := Op.alloc 24, type := 0, pos := "outright.go:37", after := #[], guard := none }) rfl (fun K hK => ?_) (AllReadyH.nil)))
    · go_simp
      refine (C2 W b).mono ?_
      rintro e W' ⟨s2, rfl, e2, o2, _, bb⟩
      have b' := b.trans (bb.mono b.size)
      refine hK.out _ _ (HS _ b') (fun _ => ?_)
      clear hK K
      try simp only [List.setIfInBounds_toArray, List.set_cons_zero, List.set_cons_succ]
      exact L3_1 _ b' s0 s1 s2 g1 ⟨h0.1, h0.2.on bb⟩ ⟨h1.1, h1.2.on bb⟩ ⟨e2, o2⟩ (n1.on bb)
    · go_simp
      have b' := b.alloc b.size (.cells #[.slice none 0 0] 24)
      refine hK.out _ _ (HS _ b') (fun _ => ?_)
      clear hK K
      try simp only [List.setIfInBounds_toArray, List.set_cons_zero, List.set_cons_succ]
      exact L2_01 _ b' s0 s1 W.heap.size g1 ⟨h0.1, h0.2.on (one_more W _)⟩ ⟨h1.1, h1.2.on (one_more W _)⟩ (NewBox.new b) (n1.on (one_more W _)) (n1.ne_new')
    · go_simp
      have b' := b.alloc b.size (.cells #[.slice none 0 0] 24)
      refine hK.out _ _ (HS _ b') (fun _ => ?_)
      clear hK K
      try simp only [List.setIfInBounds_toArray, List.set_cons_zero, List.set_cons_succ]
      exact L2_12 _ b' s0 s1 g1 W.heap.size ⟨h0.1, h0.2.on (one_more W _)⟩ ⟨h1.1, h1.2.on (one_more W _)⟩ (n1.on (one_more W _)) (NewBox.new b) (n1.ne_new)
  have L2_2 : ∀ (W : World) (b : Below W0.heap.size W0 W) (s0 : SV) (s1 : SV) (g2 : Nat) (h0 : s0.ws = x1 ∧ s0.ok W W.heap.size) (h1 : s1.ws = x2 ∧ s1.ok W W.heap.size) (n2 : NewBox W0 W g2), wpAnyH Tryd.prog .any parts_ownOps (NoPanic Q) (fun w' => w'.cell? ⟨p3, 0, none⟩ = some (.slice Ax nx cx) ∧ w'.cell? ⟨p4, 0, none⟩ = some (.slice Ay ny cy) ∧ w'.cell? ⟨p5, 0, none⟩ = some (.slice Az nz cz)) 6 #[true, true, true, true, true, false, false, false, true, false, false, false] ⟨#[v0, v1, v2, .pointer (some ⟨p3, 0, none⟩), .pointer (some ⟨p4, 0, none⟩), .pointer (some ⟨p5, 0, none⟩), .bool false, undef, undef, .pointer (some ⟨g2, 0, none⟩), undef, undef, undef, undef, .bool true, .bool false, .agg #[.slice Ax nx cx], .agg #[.slice s0.A s0.n s0.c], .agg #[.slice Ay ny cy], .agg #[.slice s1.A s1.n s1.c], .agg #[.slice Az nz cz], undef, undef, undef, undef, undef, undef, undef, undef, undef, undef, undef, undef, undef, undef, undef, undef, undef, undef, undef, undef, undef, undef, undef, undef, undef, undef, undef, undef, undef, undef, undef, undef, undef, undef, undef, undef, undef, undef, undef, undef, undef, undef, undef, undef, undef, undef, undef, undef, undef, undef, undef, undef, undef, undef, undef, undef, undef, undef, undef, undef, undef, undef, undef, undef, undef, undef, undef, undef, undef, undef, undef, undef, undef, undef, undef, undef, undef, undef, undef, undef, undef, undef, undef, undef, undef, undef, undef, undef, undef, undef, undef, undef, undef, undef, undef, undef, undef, undef, undef, undef, undef, undef, undef, undef, undef, undef, undef, undef, undef, undef, undef, undef, undef, undef], []⟩ W := by
    intro W b s0 s1 g2 h0 h1 n2
    refine wpAnyH_ready (rs := [5, 6, 7]) (by kernel_rfl) (by simp) ?_
    refine AllReadyH.cons (o := { dst := some 21, op := Op.call { callee := Callee.value (Operand.func 10), args := #[Operand.tmp 20], argTypes := #[24] }, type := 24, pos := "outright.go:37", after := #[{ on := 4, ground := Ground.data }, { on := 3, ground := Ground.chain }], guard := none }) rfl (fun K hK => ?_) (AllReadyH.cons (o := { dst := some 7, op := Op.alloc 24, type := 0, pos := "outright.go:37", after := #[], guard := none }) rfl (fun K hK => ?_) (AllReadyH.cons (o := { dst := some 8, op := Op.alloc 24, type := 0, pos := "outright.go:37", after := #[], guard := none }) rfl (fun K hK => ?_) (AllReadyH.nil)))
    · go_simp
      refine (C2 W b).mono ?_
      rintro e W' ⟨s2, rfl, e2, o2, _, bb⟩
      have b' := b.trans (bb.mono b.size)
      refine hK.out _ _ (HS _ b') (fun _ => ?_)
      clear hK K
      try simp only [List.setIfInBounds_toArray, List.set_cons_zero, List.set_cons_succ]
      exact L3_2 _ b' s0 s1 s2 g2 ⟨h0.1, h0.2.on bb⟩ ⟨h1.1, h1.2.on bb⟩ ⟨e2, o2⟩ (n2.on bb)
    · go_simp
      have b' := b.alloc b.size (.cells #[.slice none 0 0] 24)
      refine hK.out _ _ (HS _ b') (fun _ => ?_)
      clear hK K
      try simp only [List.setIfInBounds_toArray, List.set_cons_zero, List.set_cons_succ]
      exact L2_02 _ b' s0 s1 W.heap.size g2 ⟨h0.1, h0.2.on (one_more W _)⟩ ⟨h1.1, h1.2.on (one_more W _)⟩ (NewBox.new b) (n2.on (one_more W _)) (n2.ne_new')
    · go_simp
      have b' := b.alloc b.size (.cells #[.slice none 0 0] 24)
      refine hK.out _ _ (HS _ b') (fun _ => ?_)
      clear hK K
      try simp only [List.setIfInBounds_toArray, List.set_cons_zero, List.set_cons_succ]
      exact L2_12 _ b' s0 s1 W.heap.size g2 ⟨h0.1, h0.2.on (one_more W _)⟩ ⟨h1.1, h1.2.on (one_more W _)⟩ (NewBox.new b) (n2.on (one_more W _)) (n2.ne_new')
  have L1_01 : ∀ (W : World) (b : Below W0.heap.size W0 W) (s0 : SV) (g0 : Nat) (g1 : Nat) (h0 : s0.ws = x1 ∧ s0.ok W W.heap.size) (n0 : NewBox W0 W g0) (n1 : NewBox W0 W g1) (d01 : g0 ≠ g1), wpAnyH Tryd.prog .any parts_ownOps (NoPanic Q) (fun w' => w'.cell? ⟨p3, 0, none⟩ = some (.slice Ax nx cx) ∧ w'.cell? ⟨p4, 0, none⟩ = some (.slice Ay ny cy) ∧ w'.cell? ⟨p5, 0, none⟩ = some (.slice Az nz cz)) 6 #[true, true, true, false, true, false, true, true, false, false, false, false] ⟨#[v0, v1, v2, .pointer (some ⟨p3, 0, none⟩), .pointer (some ⟨p4, 0, none⟩), .pointer (some ⟨p5, 0, none⟩), .bool false, .pointer (some ⟨g0, 0, none⟩), .pointer (some ⟨g1, 0, none⟩), undef, undef, undef, undef, undef, .bool true, .bool false, .agg #[.slice Ax nx cx], .agg #[.slice s0.A s0.n s0.c], .agg #[.slice Ay ny cy], undef, .agg #[.slice Az nz cz], undef, undef, undef, undef, undef, undef, undef, undef, undef, undef, undef, undef, undef, undef, undef, undef, undef, undef, undef, undef, undef, undef, undef, undef, undef, undef, undef, undef, undef, undef, undef, undef, undef, undef, undef, undef, undef, undef, undef, undef, undef, undef, undef, undef, undef, undef, undef, undef, undef, undef, undef, undef, undef, undef, undef, undef, undef, undef, undef, undef, undef, undef, undef, undef, undef, undef, undef, undef, undef, undef, undef, undef, undef, undef, undef, undef, undef, undef, undef, undef, undef, undef, undef, undef, undef, undef, undef, undef, undef, undef, undef, undef, undef, undef, undef, undef, undef, undef, undef, undef, undef, undef, undef, undef, undef, undef, undef, undef, undef, undef, undef, undef, undef, undef], []⟩ W := by
    intro W b s0 g0 g1 h0 n0 n1 d01
    refine wpAnyH_ready (rs := [3, 8]) (by kernel_rfl) (by simp) ?_
    refine AllReadyH.cons (o := { dst := some 19, op := Op.call { callee := Callee.value (Operand.func 10), args := #[Operand.tmp 18], argTypes := #[24] }, type := 24, pos := "outright.go:37", after := #[{ on := 2, ground := Ground.data }, { on := 1, ground := Ground.chain }], guard := none }) rfl (fun K hK => ?_) (AllReadyH.cons (o := { dst := some 9, op := Op.alloc 24, type := 0, pos := "outright.go:37", after := #[], guard := none }) rfl (fun K hK => ?_) (AllReadyH.nil))
    · go_simp
      refine (C1 W b).mono ?_
      rintro e W' ⟨s1, rfl, e1, o1, _, bb⟩
      have b' := b.trans (bb.mono b.size)
      refine hK.out _ _ (HS _ b') (fun _ => ?_)
      clear hK K
      try simp only [List.setIfInBounds_toArray, List.set_cons_zero, List.set_cons_succ]
      exact L2_01 _ b' s0 s1 g0 g1 ⟨h0.1, h0.2.on bb⟩ ⟨e1, o1⟩ (n0.on bb) (n1.on bb) d01
    · go_simp
      have b' := b.alloc b.size (.cells #[.slice none 0 0] 24)
      refine hK.out _ _ (HS _ b') (fun _ => ?_)
      clear hK K
      try simp only [List.setIfInBounds_toArray, List.set_cons_zero, List.set_cons_succ]
      exact L1_012 _ b' s0 g0 g1 W.heap.size ⟨h0.1, h0.2.on (one_more W _)⟩ (n0.on (one_more W _)) (n1.on (one_more W _)) (NewBox.new b) d01 (n0.ne_new) (n1.ne_new)
  have L1_02 : ∀ (W : World) (b : Below W0.heap.size W0 W) (s0 : SV) (g0 : Nat) (g2 : Nat) (h0 : s0.ws = x1 ∧ s0.ok W W.heap.size) (n0 : NewBox W0 W g0) (n2 : NewBox W0 W g2) (d02 : g0 ≠ g2), wpAnyH Tryd.prog .any parts_ownOps (NoPanic Q) (fun w' => w'.cell? ⟨p3, 0, none⟩ = some (.slice Ax nx cx) ∧ w'.cell? ⟨p4, 0, none⟩ = some (.slice Ay ny cy) ∧ w'.cell? ⟨p5, 0, none⟩ = some (.slice Az nz cz)) 6 #[true, true, true, false, true, false, true, false, true, false, false, false] ⟨#[v0, v1, v2, .pointer (some ⟨p3, 0, none⟩), .pointer (some ⟨p4, 0, none⟩), .pointer (some ⟨p5, 0, none⟩), .bool false, .pointer (some ⟨g0, 0, none⟩), undef, .pointer (some ⟨g2, 0, none⟩), undef, undef, undef, undef, .bool true, .bool false, .agg #[.slice Ax nx cx], .agg #[.slice s0.A s0.n s0.c], .agg #[.slice Ay ny cy], undef, .agg #[.slice Az nz cz], undef, undef, undef, undef, undef, undef, undef, undef, undef, undef, undef, undef, undef, undef, undef, undef, undef, undef, undef, undef, undef, undef, undef, undef, undef, undef, undef, undef, undef, undef, undef, undef, undef, undef, undef, undef, undef, undef, undef, undef, undef, undef, undef, undef, undef, undef, undef, undef, undef, undef, undef, undef, undef, undef, undef, undef, undef, undef, undef, undef, undef, undef, undef, undef, undef, undef, undef, undef, undef, undef, undef, undef, undef, undef, undef, undef, undef, undef, undef, undef, undef, undef, undef, undef, undef, undef, undef, undef, undef, undef, undef, undef, undef, undef, undef, undef, undef, undef, undef, undef, undef, undef, undef, undef, undef, undef, undef, undef, undef, undef, undef, undef, undef, undef], []⟩ W := by
    intro W b s0 g0 g2 h0 n0 n2 d02
    refine wpAnyH_ready (rs := [3, 7]) (by kernel_rfl) (by simp) ?_
    refine AllReadyH.cons (o := { dst := some 19, op := Op.call { callee := Callee.value (Operand.func 10), args := #[Operand.tmp 18], argTypes := #[24] }, type := 24, pos := "outright.go:37", after := #[{ on := 2, ground := Ground.data }, { on := 1, ground := Ground.chain }], guard := none }) rfl (fun K hK => ?_) (AllReadyH.cons (o := { dst := some 8, op := Op.alloc 24, type := 0, pos := "outright.go:37", after := #[], guard := none }) rfl (fun K hK => ?_) (AllReadyH.nil))
    · go_simp
      refine (C1 W b).mono ?_
      rintro e W' ⟨s1, rfl, e1, o1, _, bb⟩
      have b' := b.trans (bb.mono b.size)
      refine hK.out _ _ (HS _ b') (fun _ => ?_)
      clear hK K
      try simp only [List.setIfInBounds_toArray, List.set_cons_zero, List.set_cons_succ]
      exact L2_02 _ b' s0 s1 g0 g2 ⟨h0.1, h0.2.on bb⟩ ⟨e1, o1⟩ (n0.on bb) (n2.on bb) d02
    · go_simp
      have b' := b.alloc b.size (.cells #[.slice none 0 0] 24)
      refine hK.out _ _ (HS _ b') (fun _ => ?_)
      clear hK K
      try simp only [List.setIfInBounds_toArray, List.set_cons_zero, List.set_cons_succ]
      exact L1_012 _ b' s0 g0 W.heap.size g2 ⟨h0.1, h0.2.on (one_more W _)⟩ (n0.on (one_more W _)) (NewBox.new b) (n2.on (one_more W _)) (n0.ne_new) d02 (n2.ne_new')
  have L1_12 : ∀ (W : World) (b : Below W0.heap.size W0 W) (s0 : SV) (g1 : Nat) (g2 : Nat) (h0 : s0.ws = x1 ∧ s0.ok W W.heap.size) (n1 : NewBox W0 W g1) (n2 : NewBox W0 W g2) (d12 : g1 ≠ g2), wpAnyH Tryd.prog .any parts_ownOps (NoPanic Q) (fun w' => w'.cell? ⟨p3, 0, none⟩ = some (.slice Ax nx cx) ∧ w'.cell? ⟨p4, 0, none⟩ = some (.slice Ay ny cy) ∧ w'.cell? ⟨p5, 0, none⟩ = some (.slice Az nz cz)) 6 #[true, true, true, false, true, false, false, true, true, false, false, false] ⟨#[v0, v1, v2, .pointer (some ⟨p3, 0, none⟩), .pointer (some ⟨p4, 0, none⟩), .pointer (some ⟨p5, 0, none⟩), .bool false, undef, .pointer (some ⟨g1, 0, none⟩), .pointer (some ⟨g2, 0, none⟩), undef, undef, undef, undef, .bool true, .bool false, .agg #[.slice Ax nx cx], .agg #[.slice s0.A s0.n s0.c], .agg #[.slice Ay ny cy], undef, .agg #[.slice Az nz cz], undef, undef, undef, undef, undef, undef, undef, undef, undef, undef, undef, undef, undef, undef, undef, undef, undef, undef, undef, undef, undef, undef, undef, undef, undef, undef, undef, undef, undef, undef, undef, undef, undef, undef, undef, undef, undef, undef, undef, undef, undef, undef, undef, undef, undef, undef, undef, undef, undef, undef, undef, undef, undef, undef, undef, undef, undef, undef, undef, undef, undef, undef, undef, undef, undef, undef, undef, undef, undef, undef, undef, undef, undef, undef, undef, undef, undef, undef, undef, undef, undef, undef, undef, undef, undef, undef, undef, undef, undef, undef, undef, undef, undef, undef, undef, undef, undef, undef, undef, undef, undef, undef, undef, undef, undef, undef, undef, undef, undef, undef, undef, undef, undef, undef], []⟩ W := by
    intro W b s0 g1 g2 h0 n1 n2 d12
    refine wpAnyH_ready (rs := [3, 6]) (by kernel_rfl) (by simp) ?_
    refine AllReadyH.cons (o := { dst := some 19, op := Op.call { callee := Callee.value (Operand.func 10), args := #[Operand.tmp 18], argTypes := #[24] }, type := 24, pos := "outright.go:37", after := #[{ on := 2, ground := Ground.data }, { on := 1, ground := Ground.chain }], guard := none }) rfl (fun K hK => ?_) (AllReadyH.cons (o := { dst := some 7, op := Op.alloc 24, type := 0, pos := "outright.go:37", after := #[], guard := none }) rfl (fun K hK => ?_) (AllReadyH.nil))
    · go_simp
      refine (C1 W b).mono ?_
      rintro e W' ⟨s1, rfl, e1, o1, _, bb⟩
      have b' := b.trans (bb.mono b.size)
      refine hK.out _ _ (HS _ b') (fun _ => ?_)
      clear hK K
      try simp only [List.setIfInBounds_toArray, List.set_cons_zero, List.set_cons_succ]
      exact L2_12 _ b' s0 s1 g1 g2 ⟨h0.1, h0.2.on bb⟩ ⟨e1, o1⟩ (n1.on bb) (n2.on bb) d12
    · go_simp
      have b' := b.alloc b.size (.cells #[.slice none 0 0] 24)
      refine hK.out _ _ (HS _ b') (fun _ => ?_)
      clear hK K
      try simp only [List.setIfInBounds_toArray, List.set_cons_zero, List.set_cons_succ]
      exact L1_012 _ b' s0 W.heap.size g1 g2 ⟨h0.1, h0.2.on (one_more W _)⟩ (NewBox.new b) (n1.on (one_more W _)) (n2.on (one_more W _)) (n1.ne_new') (n2.ne_new') d12
  have L0_012 : ∀ (W : World) (b : Below W0.heap.size W0 W) (g0 : Nat) (g1 : Nat) (g2 : Nat) (n0 : NewBox W0 W g0) (n1 : NewBox W0 W g1) (n2 : NewBox W0 W g2) (d01 : g0 ≠ g1) (d02 : g0 ≠ g2) (d12 : g1 ≠ g2), wpAnyH Tryd.prog .any parts_ownOps (NoPanic Q) (fun w' => w'.cell? ⟨p3, 0, none⟩ = some (.slice Ax nx cx) ∧ w'.cell? ⟨p4, 0, none⟩ = some (.slice Ay ny cy) ∧ w'.cell? ⟨p5, 0, none⟩ = some (.slice Az nz cz)) 6 #[true, false, true, false, true, false, true, true, true, false, false, false] ⟨#[v0, v1, v2, .pointer (some ⟨p3, 0, none⟩), .pointer (some ⟨p4, 0, none⟩), .pointer (some ⟨p5, 0, none⟩), .bool false, .pointer (some ⟨g0, 0, none⟩), .pointer (some ⟨g1, 0, none⟩), .pointer (some ⟨g2, 0, none⟩), undef, undef, undef, undef, .bool true, .bool false, .agg #[.slice Ax nx cx], undef, .agg #[.slice Ay ny cy], undef, .agg #[.slice Az nz cz], undef, undef, undef, undef, undef, undef, undef, undef, undef, undef, undef, undef, undef, undef, undef, undef, undef, undef, undef, undef, undef, undef, undef, undef, undef, undef, undef, undef, undef, undef, undef, undef, undef, undef, undef, undef, undef, undef, undef, undef, undef, undef, undef, undef, undef, undef, undef, undef, undef, undef, undef, undef, undef, undef, undef, undef, undef, undef, undef, undef, undef, undef, undef, undef, undef, undef, undef, undef, undef, undef, undef, undef, undef, undef, undef, undef, undef, undef, undef, undef, undef, undef, undef, undef, undef, undef, undef, undef, undef, undef, undef, undef, undef, undef, undef, undef, undef, undef, undef, undef, undef, undef, undef, undef, undef, undef, undef, undef, undef, undef, undef, undef, undef, undef], []⟩ W := by
    intro W b  g0 g1 g2 n0 n1 n2 d01 d02 d12
    refine wpAnyH_ready (rs := [1]) (by kernel_rfl) (by simp) ?_
    refine AllReadyH.cons (o := { dst := some 17, op := Op.call { callee := Callee.value (Operand.func 10), args := #[Operand.tmp 16], argTypes := #[24] }, type := 24, pos := "outright.go:37", after := #[{ on := 0, ground := Ground.data }], guard := none }) rfl (fun K hK => ?_) (AllReadyH.nil)
    · go_simp
      refine (C0 W b).mono ?_
      rintro e W' ⟨s0, rfl, e0, o0, _, bb⟩
      have b' := b.trans (bb.mono b.size)
      refine hK.out _ _ (HS _ b') (fun _ => ?_)
      clear hK K
      try simp only [List.setIfInBounds_toArray, List.set_cons_zero, List.set_cons_succ]
      exact L1_012 _ b' s0 g0 g1 g2 ⟨e0, o0⟩ (n0.on bb) (n1.on bb) (n2.on bb) d01 d02 d12
  have L2_ : ∀ (W : World) (b : Below W0.heap.size W0 W) (s0 : SV) (s1 : SV) (h0 : s0.ws = x1 ∧ s0.ok W W.heap.size) (h1 : s1.ws = x2 ∧ s1.ok W W.heap.size), wpAnyH Tryd.prog .any parts_ownOps (NoPanic Q) (fun w' => w'.cell? ⟨p3, 0, none⟩ = some (.slice Ax nx cx) ∧ w'.cell? ⟨p4, 0, none⟩ = some (.slice Ay ny cy) ∧ w'.cell? ⟨p5, 0, none⟩ = some (.slice Az nz cz)) 7 #[true, true, true, true, true, false, false, false, false, false, false, false] ⟨#[v0, v1, v2, .pointer (some ⟨p3, 0, none⟩), .pointer (some ⟨p4, 0, none⟩), .pointer (some ⟨p5, 0, none⟩), .bool false, undef, undef, undef, undef, undef, undef, undef, .bool true, .bool false, .agg #[.slice Ax nx cx], .agg #[.slice s0.A s0.n s0.c], .agg #[.slice Ay ny cy], .agg #[.slice s1.A s1.n s1.c], .agg #[.slice Az nz cz], undef, undef, undef, undef, undef, undef, undef, undef, undef, undef, undef, undef, undef, undef, undef, undef, undef, undef, undef, undef, undef, undef, undef, undef, undef, undef, undef, undef, undef, undef, undef, undef, undef, undef, undef, undef, undef, undef, undef, undef, undef, undef, undef, undef, undef, undef, undef, undef, undef, undef, undef, undef, undef, undef, undef, undef, undef, undef, undef, undef, undef, undef, undef, undef, undef, undef, undef, undef, undef, undef, undef, undef, undef, undef, undef, undef, undef, undef, undef, undef, undef, undef, undef, undef, undef, undef, undef, undef, undef, undef, undef, undef, undef, undef, undef, undef, undef, undef, undef, undef, undef, undef, undef, undef, undef, undef, undef, undef, undef, undef, undef, undef, undef, undef], []⟩ W := by
    intro W b s0 s1 h0 h1
    refine wpAnyH_ready (rs := [5, 6, 7, 8]) (by kernel_rfl) (by simp) ?_
    refine AllReadyH.cons (o := { dst := some 21, op := Op.call { callee := Callee.value (Operand.func 10), args := #[Operand.tmp 20], argTypes := #[24] }, type := 24, pos := "outright.go:37", after := #[{ on := 4, ground := Ground.data }, { on := 3, ground := Ground.chain }], guard := none }) rfl (fun K hK => ?_) (AllReadyH.cons (o := { dst := some 7, op := Op.alloc 24, type := 0, pos := "outright.go:37", after := #[], guard := none }) rfl (fun K hK => ?_) (AllReadyH.cons (o := { dst := some 8, op := Op.alloc 24, type := 0, pos := "outright.go:37", after := #[], guard := none }) rfl (fun K hK => ?_) (AllReadyH.cons (o := { dst := some 9, op := Op.alloc 24, type := 0, pos := "outright.go:37", after := #[], guard := none }) rfl (fun K hK => ?_) (AllReadyH.nil))))
    · go_simp
      refine (C2 W b).mono ?_
      rintro e W' ⟨s2, rfl, e2, o2, _, bb⟩
      have b' := b.trans (bb.mono b.size)
      refine hK.out _ _ (HS _ b') (fun _ => ?_)
      clear hK K
      try simp only [List.setIfInBounds_toArray, List.set_cons_zero, List.set_cons_succ]
      exact L3_ _ b' s0 s1 s2 ⟨h0.1, h0.2.on bb⟩ ⟨h1.1, h1.2.on bb⟩ ⟨e2, o2⟩
    · go_simp
      have b' := b.alloc b.size (.cells #[.slice none 0 0] 24)
      refine hK.out _ _ (HS _ b') (fun _ => ?_)
      clear hK K
      try simp only [List.setIfInBounds_toArray, List.set_cons_zero, List.set_cons_succ]
      exact L2_0 _ b' s0 s1 W.heap.size ⟨h0.1, h0.2.on (one_more W _)⟩ ⟨h1.1, h1.2.on (one_more W _)⟩ (NewBox.new b)
    · go_simp
      have b' := b.alloc b.size (.cells #[.slice none 0 0] 24)
      refine hK.out _ _ (HS _ b') (fun _ => ?_)
      clear hK K
      try simp only [List.setIfInBounds_toArray, List.set_cons_zero, List.set_cons_succ]
      exact L2_1 _ b' s0 s1 W.heap.size ⟨h0.1, h0.2.on (one_more W _)⟩ ⟨h1.1, h1.2.on (one_more W _)⟩ (NewBox.new b)
    · go_simp
      have b' := b.alloc b.size (.cells #[.slice none 0 0] 24)
      refine hK.out _ _ (HS _ b') (fun _ => ?_)
      clear hK K
      try simp only [List.setIfInBounds_toArray, List.set_cons_zero, List.set_cons_succ]
      exact L2_2 _ b' s0 s1 W.heap.size ⟨h0.1, h0.2.on (one_more W _)⟩ ⟨h1.1, h1.2.on (one_more W _)⟩ (NewBox.new b)
  have L1_0 : ∀ (W : World) (b : Below W0.heap.size W0 W) (s0 : SV) (g0 : Nat) (h0 : s0.ws = x1 ∧ s0.ok W W.heap.size) (n0 : NewBox W0 W g0), wpAnyH Tryd.prog .any parts_ownOps (NoPanic Q) (fun w' => w'.cell? ⟨p3, 0, none⟩ = some (.slice Ax nx cx) ∧ w'.cell? ⟨p4, 0, none⟩ = some (.slice Ay ny cy) ∧ w'.cell? ⟨p5, 0, none⟩ = some (.slice Az nz cz)) 7 #[true, true, true, false, true, false, true, false, false, false, false, false] ⟨#[v0, v1, v2, .pointer (some ⟨p3, 0, none⟩), .pointer (some ⟨p4, 0, none⟩), .pointer (some ⟨p5, 0, none⟩), .bool false, .pointer (some ⟨g0, 0, none⟩), undef, undef, undef, undef, undef, undef, .bool true, .bool false, .agg #[.slice Ax nx cx], .agg #[.slice s0.A s0.n s0.c], .agg #[.slice Ay ny cy], undef, .agg #[.slice Az nz cz], undef, undef, undef, undef, undef, undef, undef, undef, undef, undef, undef, undef, undef, undef, undef, undef, undef, undef, undef, undef, undef, undef, undef, undef, undef, undef, undef, undef, undef, undef, undef, undef, undef, undef, undef, undef, undef, undef, undef, undef, undef, undef, undef, undef, undef, undef, undef, undef, undef, undef, undef, undef, undef, undef, undef, undef, undef, undef, undef, undef, undef, undef, undef, undef, undef, undef, undef, undef, undef, undef, undef, undef, undef, undef, undef, undef, undef, undef, undef, undef, undef, undef, undef, undef, undef, undef, undef, undef, undef, undef, undef, undef, undef, undef, undef, undef, undef, undef, undef, undef, undef, undef, undef, undef, undef, undef, undef, undef, undef, undef, undef, undef, undef, undef], []⟩ W := by
    intro W b s0 g0 h0 n0
    refine wpAnyH_ready (rs := [3, 7, 8]) (by kernel_rfl) (by simp) ?_
    refine AllReadyH.cons (o := { dst := some 19, op := Op.call { callee := Callee.value (Operand.func 10), args := #[Operand.tmp 18], argTypes := #[24] }, type := 24, pos := "outright.go:37", after := #[{ on := 2, ground := Ground.data }, { on := 1, ground := Ground.chain }], guard := none }) rfl (fun K hK => ?_) (AllReadyH.cons (o := { dst := some 8, op := Op.alloc 24, type := 0, pos := "outright.go:37", after := #[], guard := none }) rfl (fun K hK => ?_) (AllReadyH.cons (o := { dst := some 9, op := Op.alloc 24, type := 0, pos := "outright.go:37", after := #[], guard := none }) rfl (fun K hK => ?_) (AllReadyH.nil)))
    · go_simp
      refine (C1 W b).mono ?_
      rintro e W' ⟨s1, rfl, e1, o1, _, bb⟩
      have b' := b.trans (bb.mono b.size)
      refine hK.out _ _ (HS _ b') (fun _ => ?_)
      clear hK K
      try simp only [List.setIfInBounds_toArray, List.set_cons_zero, List.set_cons_succ]
      exact L2_0 _ b' s0 s1 g0 ⟨h0.1, h0.2.on bb⟩ ⟨e1, o1⟩ (n0.on bb)
    · go_simp
      have b' := b.alloc b.size (.cells #[.slice none 0 0] 24)
      refine hK.out _ _ (HS _ b') (fun _ => ?_)
      clear hK K
      try simp only [List.setIfInBounds_toArray, List.set_cons_zero, List.set_cons_succ]
      exact L1_01 _ b' s0 g0 W.heap.size ⟨h0.1, h0.2.on (one_more W _)⟩ (n0.on (one_more W _)) (NewBox.new b) (n0.ne_new)
    · go_simp
      have b' := b.alloc b.size (.cells #[.slice none 0 0] 24)
      refine hK.out _ _ (HS _ b') (fun _ => ?_)
      clear hK K
      try simp only [List.setIfInBounds_toArray, List.set_cons_zero, List.set_cons_succ]
      exact L1_02 _ b' s0 g0 W.heap.size ⟨h0.1, h0.2.on (one_more W _)⟩ (n0.on (one_more W _)) (NewBox.new b) (n0.ne_new)
  have L1_1 : ∀ (W : World) (b : Below W0.heap.size W0 W) (s0 : SV) (g1 : Nat) (h0 : s0.ws = x1 ∧ s0.ok W W.heap.size) (n1 : NewBox W0 W g1), wpAnyH Tryd.prog .any parts_ownOps (NoPanic Q) (fun w' => w'.cell? ⟨p3, 0, none⟩ = some (.slice Ax nx cx) ∧ w'.cell? ⟨p4, 0, none⟩ = some (.slice Ay ny cy) ∧ w'.cell? ⟨p5, 0, none⟩ = some (.slice Az nz cz)) 7 #[true, true, true, false, true, false, false, true, false, false, false, false] ⟨#[v0, v1, v2, .pointer (some ⟨p3, 0, none⟩), .pointer (some ⟨p4, 0, none⟩), .pointer (some ⟨p5, 0, none⟩), .bool false, undef, .pointer (some ⟨g1, 0, none⟩), undef, undef, undef, undef, undef, .bool true, .bool false, .agg #[.slice Ax nx cx], .agg #[.slice s0.A s0.n s0.c], .agg #[.slice Ay ny cy], undef, .agg #[.slice Az nz cz], undef, undef, undef, undef, undef, undef, undef, undef, undef, undef, undef, undef, undef, undef, undef, undef, undef, undef, undef, undef, undef, undef, undef, undef, undef, undef, undef, undef, undef, undef, undef, undef, undef, undef, undef, undef, undef, undef, undef, undef, undef, undef, undef, undef, undef, undef, undef, undef, undef, undef, undef, undef, undef, undef, undef, undef, undef, undef, undef, undef, undef, undef, undef, undef, undef, undef, undef, undef, undef, undef, undef, undef, undef, undef, undef, undef, undef, undef, undef, undef, undef, undef, undef, undef, undef, undef, undef, undef, undef, undef, undef, undef, undef, undef, undef, undef, undef, undef, undef, undef, undef, undef, undef, undef, undef, undef, undef, undef, undef, undef, undef, undef, undef, undef], []⟩ W := by
    intro W b s0 g1 h0 n1
    refine wpAnyH_ready (rs := [3, 6, 8]) (by kernel_rfl) (by simp) ?_
    refine AllReadyH.cons (o := { dst := some 19, op := Op.call { callee := Callee.value (Operand.func 10), args := #[Operand.tmp 18], argTypes := #[24] }, type := 24, pos := "outright.go:37", after := #[{ on := 2, ground := Ground.data }, { on := 1, ground := Ground.chain }], guard := none }) rfl (fun K hK => ?_) (AllReadyH.cons (o := { dst := some 7, op := Op.alloc 24, type := 0, pos := "outright.go:37", after := #[], guard := none }) rfl (fun K hK => ?_) (AllReadyH.cons (o := { dst := some 9, op := Op.alloc 24, type := 0, pos := "outright.go:37", after := #[], guard := none }) rfl (fun K hK => ?_) (AllReadyH.nil)))
    · go_simp
      refine (C1 W b).mono ?_
      rintro e W' ⟨s1, rfl, e1, o1, _, bb⟩
      have b' := b.trans (bb.mono b.size)
      refine hK.out _ _ (HS _ b') (fun _ => ?_)
      clear hK K
      try simp only [List.setIfInBounds_toArray, List.set_cons_zero, List.set_cons_succ]
      exact L2_1 _ b' s0 s1 g1 ⟨h0.1, h0.2.on bb⟩ ⟨e1, o1⟩ (n1.on bb)
    · go_simp
      have b' := b.alloc b.size (.cells #[.slice none 0 0] 24)
      refine hK.out _ _ (HS _ b') (fun _ => ?_)
      clear hK K
      try simp only [List.setIfInBounds_toArray, List.set_cons_zero, List.set_cons_succ]
      exact L1_01 _ b' s0 W.heap.size g1 ⟨h0.1, h0.2.on (one_more W _)⟩ (NewBox.new b) (n1.on (one_more W _)) (n1.ne_new')
    · go_simp
      have b' := b.alloc b.size (.cells #[.slice none 0 0] 24)
      refine hK.out _ _ (HS _ b') (fun _ => ?_)
      clear hK K
      try simp only [List.setIfInBounds_toArray, List.set_cons_zero, List.set_cons_succ]
      exact L1_12 _ b' s0 g1 W.heap.size ⟨h0.1, h0.2.on (one_more W _)⟩ (n1.on (one_more W _)) (NewBox.new b) (n1.ne_new)
  have L1_2 : ∀ (W : World) (b : Below W0.heap.size W0 W) (s0 : SV) (g2 : Nat) (h0 : s0.ws = x1 ∧ s0.ok W W.heap.size) (n2 : NewBox W0 W g2), wpAnyH Tryd.prog .any parts_ownOps (NoPanic Q) (fun w' => w'.cell? ⟨p3, 0, none⟩ = some (.slice Ax nx cx) ∧ w'.cell? ⟨p4, 0, none⟩ = some (.slice Ay ny cy) ∧ w'.cell? ⟨p5, 0, none⟩ = some (.slice Az nz cz)) 7 #[true, true, true, false, true, false, false, false, true, false, false, false] ⟨#[v0, v1, v2, .pointer (some ⟨p3, 0, none⟩), .pointer (some ⟨p4, 0, none⟩), .pointer (some ⟨p5, 0, none⟩), .bool false, undef, undef, .pointer (some ⟨g2, 0, none⟩), undef, undef, undef, undef, .bool true, .bool false, .agg #[.slice Ax nx cx], .agg #[.slice s0.A s0.n s0.c], .agg #[.slice Ay ny cy], undef, .agg #[.slice Az nz cz], undef, undef, undef, undef, undef, undef, undef, undef, undef, undef, undef, undef, undef, undef, undef, undef, undef, undef, undef, undef, undef, undef, undef, undef, undef, undef, undef, undef, undef, undef, undef, undef, undef, undef, undef, undef, undef, undef, undef, undef, undef, undef, undef, undef, undef, undef, undef, undef, undef, undef, undef, undef, undef, undef, undef, undef, undef, undef, undef, undef, undef, undef, undef, undef, undef, undef, undef, undef, undef, undef, undef, undef, undef, undef, undef, undef, undef, undef, undef, undef, undef, undef, undef, undef, undef, undef, undef, undef, undef, undef, undef, undef, undef, undef, undef, undef, undef, undef, undef, undef, undef, undef, undef, undef, undef, undef, undef, undef, undef, undef, undef, undef, undef, undef], []⟩ W := by
    intro W b s0 g2 h0 n2
    refine wpAnyH_ready (rs := [3, 6, 7]) (by kernel_rfl) (by simp) ?_
    refine AllReadyH.cons (o := { dst := some 19, op := Op.call { callee := Callee.value (Operand.func 10), args := #[Operand.tmp 18], argTypes := #[24] }, type := 24, pos := "outright.go:37", after := #[{ on := 2, ground := Ground.data }, { on := 1, ground := Ground.chain }], guard := none }) rfl (fun K hK => ?_) (AllReadyH.cons (o := { dst := some 7, op := Op.alloc 24, type := 0, pos := "outright.go:37", after := #[], guard := none }) rfl (fun K hK => ?_) (AllReadyH.cons (o := { dst := some 8, op := Op.alloc 24, type := 0, pos := "outright.go:37", after := #[], guard := none }) rfl (fun K hK => ?_) (AllReadyH.nil)))
    · go_simp
      refine (C1 W b).mono ?_
      rintro e W' ⟨s1, rfl, e1, o1, _, bb⟩
      have b' := b.trans (bb.mono b.size)
      refine hK.out _ _ (HS _ b') (fun _ => ?_)
      clear hK K
      try simp only [List.setIfInBounds_toArray, List.set_cons_zero, List.set_cons_succ]
      exact L2_2 _ b' s0 s1 g2 ⟨h0.1, h0.2.on bb⟩ ⟨e1, o1⟩ (n2.on bb)
    · go_simp
      have b' := b.alloc b.size (.cells #[.slice none 0 0] 24)
      refine hK.out _ _ (HS _ b') (fun _ => ?_)
      clear hK K
      try simp only [List.setIfInBounds_toArray, List.set_cons_zero, List.set_cons_succ]
      exact L1_02 _ b' s0 W.heap.size g2 ⟨h0.1, h0.2.on (one_more W _)⟩ (NewBox.new b) (n2.on (one_more W _)) (n2.ne_new')
    · go_simp
      have b' := b.alloc b.size (.cells #[.slice none 0 0] 24)
      refine hK.out _ _ (HS _ b') (fun _ => ?_)
      clear hK K
      try simp only [List.setIfInBounds_toArray, List.set_cons_zero, List.set_cons_succ]
      exact L1_12 _ b' s0 W.heap.size g2 ⟨h0.1, h0.2.on (one_more W _)⟩ (NewBox.new b) (n2.on (one_more W _)) (n2.ne_new')
  have L0_01 : ∀ (W : World) (b : Below W0.heap.size W0 W) (g0 : Nat) (g1 : Nat) (n0 : NewBox W0 W g0) (n1 : NewBox W0 W g1) (d01 : g0 ≠ g1), wpAnyH Tryd.prog .any parts_ownOps (NoPanic Q) (fun w' => w'.cell? ⟨p3, 0, none⟩ = some (.slice Ax nx cx) ∧ w'.cell? ⟨p4, 0, none⟩ = some (.slice Ay ny cy) ∧ w'.cell? ⟨p5, 0, none⟩ = some (.slice Az nz cz)) 7 #[true, false, true, false, true, false, true, true, false, false, false, false] ⟨#[v0, v1, v2, .pointer (some ⟨p3, 0, none⟩), .pointer (some ⟨p4, 0, none⟩), .pointer (some ⟨p5, 0, none⟩), .bool false, .pointer (some ⟨g0, 0, none⟩), .pointer (some ⟨g1, 0, none⟩), undef, undef, undef, undef, undef, .bool true, .bool false, .agg #[.slice Ax nx cx], undef, .agg #[.slice Ay ny cy], undef, .agg #[.slice Az nz cz], undef, undef, undef, undef, undef, undef, undef, undef, undef, undef, undef, undef, undef, undef, undef, undef, undef, undef, undef, undef, undef, undef, undef, undef, undef, undef, undef, undef, undef, undef, undef, undef, undef, undef, undef, undef, undef, undef, undef, undef, undef, undef, undef, undef, undef, undef, undef, undef, undef, undef, undef, undef, undef, undef, undef, undef, undef, undef, undef, undef, undef, undef, undef, undef, undef, undef, undef, undef, undef, undef, undef, undef, undef, undef, undef, undef, undef, undef, undef, undef, undef, undef, undef, undef, undef, undef, undef, undef, undef, undef, undef, undef, undef, undef, undef, undef, undef, undef, undef, undef, undef, undef, undef, undef, undef, undef, undef, undef, undef, undef, undef, undef, undef, undef], []⟩ W := by
    intro W b  g0 g1 n0 n1 d01
    refine wpAnyH_ready (rs := [1, 8]) (by kernel_rfl) (by simp) ?_
    refine AllReadyH.cons (o := { dst := some 17, op := Op.call { callee := Callee.value (Operand.func 10), args := #[Operand.tmp 16], argTypes := #[24] }, type := 24, pos := "outright.go:37", after := #[{ on := 0, ground := Ground.data }], guard := none }) rfl (fun K hK => ?_) (AllReadyH.cons (o := { dst := some 9, op := Op.alloc 24, type := 0, pos := "outright.go:37", after := #[], guard := none }) rfl (fun K hK => ?_) (AllReadyH.nil))
    · go_simp
      refine (C0 W b).mono ?_
      rintro e W' ⟨s0, rfl, e0, o0, _, bb⟩
      have b' := b.trans (bb.mono b.size)
      refine hK.out _ _ (HS _ b') (fun _ => ?_)
      clear hK K
      try simp only [List.setIfInBounds_toArray, List.set_cons_zero, List.set_cons_succ]
      exact L1_01 _ b' s0 g0 g1 ⟨e0, o0⟩ (n0.on bb) (n1.on bb) d01
    · go_simp
      have b' := b.alloc b.size (.cells #[.slice none 0 0] 24)
      refine hK.out _ _ (HS _ b') (fun _ => ?_)
      clear hK K
      try simp only [List.setIfInBounds_toArray, List.set_cons_zero, List.set_cons_succ]
      exact L0_012 _ b' g0 g1 W.heap.size (n0.on (one_more W _)) (n1.on (one_more W _)) (NewBox.new b) d01 (n0.ne_new) (n1.ne_new)
  have L0_02 : ∀ (W : World) (b : Below W0.heap.size W0 W) (g0 : Nat) (g2 : Nat) (n0 : NewBox W0 W g0) (n2 : NewBox W0 W g2) (d02 : g0 ≠ g2), wpAnyH Tryd.prog .any parts_ownOps (NoPanic Q) (fun w' => w'.cell? ⟨p3, 0, none⟩ = some (.slice Ax nx cx) ∧ w'.cell? ⟨p4, 0, none⟩ = some (.slice Ay ny cy) ∧ w'.cell? ⟨p5, 0, none⟩ = some (.slice Az nz cz)) 7 #[true, false, true, false, true, false, true, false, true, false, false, false] ⟨#[v0, v1, v2, .pointer (some ⟨p3, 0, none⟩), .pointer (some ⟨p4, 0, none⟩), .pointer (some ⟨p5, 0, none⟩), .bool false, .pointer (some ⟨g0, 0, none⟩), undef, .pointer (some ⟨g2, 0, none⟩), undef, undef, undef, undef, .bool true, .bool false, .agg #[.slice Ax nx cx], undef, .agg #[.slice Ay ny cy], undef, .agg #[.slice Az nz cz], undef, undef, undef, undef, undef, undef, undef, undef, undef, undef, undef, undef, undef, undef, undef, undef, undef, undef, undef, undef, undef, undef, undef, undef, undef, undef, undef, undef, undef, undef, undef, undef, undef, undef, undef, undef, undef, undef, undef, undef, undef, undef, undef, undef, undef, undef, undef, undef, undef, undef, undef, undef, undef, undef, undef, undef, undef, undef, undef, undef, undef, undef, undef, undef, undef, undef, undef, undef, undef, undef, undef, undef, undef, undef, undef, undef, undef, undef, undef, undef, undef, undef, undef, undef, undef, undef, undef, undef, undef, undef, undef, undef, undef, undef, undef, undef, undef, undef, undef, undef, undef, undef, undef, undef, undef, undef, undef, undef, undef, undef, undef, undef, undef, undef], []⟩ W := by
    intro W b  g0 g2 n0 n2 d02
    refine wpAnyH_ready (rs := [1, 7]) (by kernel_rfl) (by simp) ?_
    refine AllReadyH.cons (o := { dst := some 17, op := Op.call { callee := Callee.value (Operand.func 10), args := #[Operand.tmp 16], argTypes := #[24] }, type := 24, pos := "outright.go:37", after := #[{ on := 0, ground := Ground.data }], guard := none }) rfl (fun K hK => ?_) (AllReadyH.cons (o := { dst := some 8, op := Op.alloc 24, type := 0, pos := "outright.go:37", after := #[], guard := none }) rfl (fun K hK => ?_) (AllReadyH.nil))
    · go_simp
      refine (C0 W b).mono ?_
      rintro e W' ⟨s0, rfl, e0, o0, _, bb⟩
      have b' := b.trans (bb.mono b.size)
      refine hK.out _ _ (HS _ b') (fun _ => ?_)
      clear hK K
      try simp only [List.setIfInBounds_toArray, List.set_cons_zero, List.set_cons_succ]
      exact L1_02 _ b' s0 g0 g2 ⟨e0, o0⟩ (n0.on bb) (n2.on bb) d02
    · go_simp
      have b' := b.alloc b.size (.cells #[.slice none 0 0] 24)
      refine hK.out _ _ (HS _ b') (fun _ => ?_)
      clear hK K
      try simp only [List.setIfInBounds_toArray, List.set_cons_zero, List.set_cons_succ]
      exact L0_012 _ b' g0 W.heap.size g2 (n0.on (one_more W _)) (NewBox.new b) (n2.on (one_more W _)) (n0.ne_new) d02 (n2.ne_new')
  have L0_12 : ∀ (W : World) (b : Below W0.heap.size W0 W) (g1 : Nat) (g2 : Nat) (n1 : NewBox W0 W g1) (n2 : NewBox W0 W g2) (d12 : g1 ≠ g2), wpAnyH Tryd.prog .any parts_ownOps (NoPanic Q) (fun w' => w'.cell? ⟨p3, 0, none⟩ = some (.slice Ax nx cx) ∧ w'.cell? ⟨p4, 0, none⟩ = some (.slice Ay ny cy) ∧ w'.cell? ⟨p5, 0, none⟩ = some (.slice Az nz cz)) 7 #[true, false, true, false, true, false, false, true, true, false, false, false] ⟨#[v0, v1, v2, .pointer (some ⟨p3, 0, none⟩), .pointer (some ⟨p4, 0, none⟩), .pointer (some ⟨p5, 0, none⟩), .bool false, undef, .pointer (some ⟨g1, 0, none⟩), .pointer (some ⟨g2, 0, none⟩), undef, undef, undef, undef, .bool true, .bool false, .agg #[.slice Ax nx cx], undef, .agg #[.slice Ay ny cy], undef, .agg #[.slice Az nz cz], undef, undef, undef, undef, undef, undef, undef, undef, undef, undef, undef, undef, undef, undef, undef, undef, undef, undef, undef, undef, undef, undef, undef, undef, undef, undef, undef, undef, undef, undef, undef, undef, undef, undef, undef, undef, undef, undef, undef, undef, undef, undef, undef, undef, undef, undef, undef, undef, undef, undef, undef, undef, undef, undef, undef, undef, undef, undef, undef, undef, undef, undef, undef, undef, undef, undef, undef, undef, undef, undef, undef, undef, undef, undef, undef, undef, undef, undef, undef, undef, undef, undef, undef, undef, undef, undef, undef, undef, undef, undef, undef, undef, undef, undef, undef, undef, undef, undef, undef, undef, undef, undef, undef, undef, undef, undef, undef, undef, undef, undef, undef, undef, undef, undef], []⟩ W := by
    intro W b  g1 g2 n1 n2 d12
    refine wpAnyH_ready (rs := [1, 6]) (by kernel_rfl) (by simp) ?_
    refine AllReadyH.cons (o := { dst := some 17, op := Op.call { callee := Callee.value (Operand.func 10), args := #[Operand.tmp 16], argTypes := #[24] }, type := 24, pos := "outright.go:37", after := #[{ on := 0, ground := Ground.data }], guard := none }) rfl (fun K hK => ?_) (AllReadyH.cons (o := { dst := some 7, op := Op.alloc 24, type := 0, pos := "outright.go:37", after := #[], guard := none }) rfl (fun K hK => ?_) (AllReadyH.nil))
    · go_simp
      refine (C0 W b).mono ?_
      rintro e W' ⟨s0, rfl, e0, o0, _, bb⟩
      have b' := b.trans (bb.mono b.size)
      refine hK.out _ _ (HS _ b') (fun _ => ?_)
      clear hK K
      try simp only [List.setIfInBounds_toArray, List.set_cons_zero, List.set_cons_succ]
      exact L1_12 _ b' s0 g1 g2 ⟨e0, o0⟩ (n1.on bb) (n2.on bb) d12
    · go_simp
      have b' := b.alloc b.size (.cells #[.slice none 0 0] 24)
      refine hK.out _ _ (HS _ b') (fun _ => ?_)
      clear hK K
      try simp only [List.setIfInBounds_toArray, List.set_cons_zero, List.set_cons_succ]
      exact L0_012 _ b' W.heap.size g1 g2 (NewBox.new b) (n1.on (one_more W _)) (n2.on (one_more W _)) (n1.ne_new') (n2.ne_new') d12
  have L1_ : ∀ (W : World) (b : Below W0.heap.size W0 W) (s0 : SV) (h0 : s0.ws = x1 ∧ s0.ok W W.heap.size), wpAnyH Tryd.prog .any parts_ownOps (NoPanic Q) (fun w' => w'.cell? ⟨p3, 0, none⟩ = some (.slice Ax nx cx) ∧ w'.cell? ⟨p4, 0, none⟩ = some (.slice Ay ny cy) ∧ w'.cell? ⟨p5, 0, none⟩ = some (.slice Az nz cz)) 8 #[true, true, true, false, true, false, false, false, false, false, false, false] ⟨#[v0, v1, v2, .pointer (some ⟨p3, 0, none⟩), .pointer (some ⟨p4, 0, none⟩), .pointer (some ⟨p5, 0, none⟩), .bool false, undef, undef, undef, undef, undef, undef, undef, .bool true, .bool false, .agg #[.slice Ax nx cx], .agg #[.slice s0.A s0.n s0.c], .agg #[.slice Ay ny cy], undef, .agg #[.slice Az nz cz], undef, undef, undef, undef, undef, undef, undef, undef, undef, undef, undef, undef, undef, undef, undef, undef, undef, undef, undef, undef, undef, undef, undef, undef, undef, undef, undef, undef, undef, undef, undef, undef, undef, undef, undef, undef, undef, undef, undef, undef, undef, undef, undef, undef, undef, undef, undef, undef, undef, undef, undef, undef, undef, undef, undef, undef, undef, undef, undef, undef, undef, undef, undef, undef, undef, undef, undef, undef, undef, undef, undef, undef, undef, undef, undef, undef, undef, undef, undef, undef, undef, undef, undef, undef, undef, undef, undef, undef, undef, undef, undef, undef, undef, undef, undef, undef, undef, undef, undef, undef, undef, undef, undef, undef, undef, undef, undef, undef, undef, undef, undef, undef, undef, undef], []⟩ W := by
    intro W b s0 h0
    refine wpAnyH_ready (rs := [3, 6, 7, 8]) (by kernel_rfl) (by simp) ?_
    refine AllReadyH.cons (o := { dst := some 19, op := Op.call { callee := Callee.value (Operand.func 10), args := #[Operand.tmp 18], argTypes := #[24] }, type := 24, pos := "outright.go:37", after := #[{ on := 2, ground := Ground.data }, { on := 1, ground := Ground.chain }], guard := none }) rfl (fun K hK => ?_) (AllReadyH.cons (o := { dst := some 7, op := Op.alloc 24, type := 0, pos := "outright.go:37", after := #[], guard := none }) rfl (fun K hK => ?_) (AllReadyH.cons (o := { dst := some 8, op := Op.alloc 24, type := 0, pos := "outright.go:37", after := #[], guard := none }) rfl (fun K hK => ?_) (AllReadyH.cons (o := { dst := some 9, op := Op.alloc 24, type := 0, pos := "outright.go:37", after := #[], guard := none }) rfl (fun K hK => ?_) (AllReadyH.nil))))
    · go_simp
      refine (C1 W b).mono ?_
      rintro e W' ⟨s1, rfl, e1, o1, _, bb⟩
      have b' := b.trans (bb.mono b.size)
      refine hK.out _ _ (HS _ b') (fun _ => ?_)
      clear hK K
      try simp only [List.setIfInBounds_toArray, List.set_cons_zero, List.set_cons_succ]
      exact L2_ _ b' s0 s1 ⟨h0.1, h0.2.on bb⟩ ⟨e1, o1⟩
    · go_simp
      have b' := b.alloc b.size (.cells #[.slice none 0 0] 24)
      refine hK.out _ _ (HS _ b') (fun _ => ?_)
      clear hK K
      try simp only [List.setIfInBounds_toArray, List.set_cons_zero, List.set_cons_succ]
      exact L1_0 _ b' s0 W.heap.size ⟨h0.1, h0.2.on (one_more W _)⟩ (NewBox.new b)
    · go_simp
      have b' := b.alloc b.size (.cells #[.slice none 0 0] 24)
      refine hK.out _ _ (HS _ b') (fun _ => ?_)
      clear hK K
      try simp only [List.setIfInBounds_toArray, List.set_cons_zero, List.set_cons_succ]
      exact L1_1 _ b' s0 W.heap.size ⟨h0.1, h0.2.on (one_more W _)⟩ (NewBox.new b)
    · go_simp
      have b' := b.alloc b.size (.cells #[.slice none 0 0] 24)
      refine hK.out _ _ (HS _ b') (fun _ => ?_)
      clear hK K
      try simp only [List.setIfInBounds_toArray, List.set_cons_zero, List.set_cons_succ]
      exact L1_2 _ b' s0 W.heap.size ⟨h0.1, h0.2.on (one_more W _)⟩ (NewBox.new b)
  have L0_0 : ∀ (W : World) (b : Below W0.heap.size W0 W) (g0 : Nat) (n0 : NewBox W0 W g0), wpAnyH Tryd.prog .any parts_ownOps (NoPanic Q) (fun w' => w'.cell? ⟨p3, 0, none⟩ = some (.slice Ax nx cx) ∧ w'.cell? ⟨p4, 0, none⟩ = some (.slice Ay ny cy) ∧ w'.cell? ⟨p5, 0, none⟩ = some (.slice Az nz cz)) 8 #[true, false, true, false, true, false, true, false, false, false, false, false] ⟨#[v0, v1, v2, .pointer (some ⟨p3, 0, none⟩), .pointer (some ⟨p4, 0, none⟩), .pointer (some ⟨p5, 0, none⟩), .bool false, .pointer (some ⟨g0, 0, none⟩), undef, undef, undef, undef, undef, undef, .bool true, .bool false, .agg #[.slice Ax nx cx], undef, .agg #[.slice Ay ny cy], undef, .agg #[.slice Az nz cz], undef, undef, undef, undef, undef, undef, undef, undef, undef, undef, undef, undef, undef, undef, undef, undef, undef, undef, undef, undef, undef, undef, undef, undef, undef, undef, undef, undef, undef, undef, undef, undef, undef, undef, undef, undef, undef, undef, undef, undef, undef, undef, undef, undef, undef, undef, undef, undef, undef, undef, undef, undef, undef, undef, undef, undef, undef, undef, undef, undef, undef, undef, undef, undef, undef, undef, undef, undef, undef, undef, undef, undef, undef, undef, undef, undef, undef, undef, undef, undef, undef, undef, undef, undef, undef, undef, undef, undef, undef, undef, undef, undef, undef, undef, undef, undef, undef, undef, undef, undef, undef, undef, undef, undef, undef, undef, undef, undef, undef, undef, undef, undef, undef, undef], []⟩ W := by
    intro W b  g0 n0
    refine wpAnyH_ready (rs := [1, 7, 8]) (by kernel_rfl) (by simp) ?_
    refine AllReadyH.cons (o := { dst := some 17, op := Op.call { callee := Callee.value (Operand.func 10), args := #[Operand.tmp 16], argTypes := #[24] }, type := 24, pos := "outright.go:37", after := #[{ on := 0, ground := Ground.data }], guard := none }) rfl (fun K hK => ?_) (AllReadyH.cons (o := { dst := some 8, op := Op.alloc 24, type := 0, pos := "outright.go:37", after := #[], guard := none }) rfl (fun K hK => ?_) (AllReadyH.cons (o := { dst := some 9, op := Op.alloc 24, type := 0, pos := "outright.go:37", after := #[], guard := none }) rfl (fun K hK => ?_) (AllReadyH.nil)))
    · go_simp
      refine (C0 W b).mono ?_
      rintro e W' ⟨s0, rfl, e0, o0, _, bb⟩
      have b' := b.trans (bb.mono b.size)
      refine hK.out _ _ (HS _ b') (fun _ => ?_)
      clear hK K
      try simp only [List.setIfInBounds_toArray, List.set_cons_zero, List.set_cons_succ]
      exact L1_0 _ b' s0 g0 ⟨e0, o0⟩ (n0.on bb)
    · go_simp
      have b' := b.alloc b.size (.cells #[.slice none 0 0] 24)
      refine hK.out _ _ (HS _ b') (fun _ => ?_)
      clear hK K
      try simp only [List.setIfInBounds_toArray, List.set_cons_zero, List.set_cons_succ]
      exact L0_01 _ b' g0 W.heap.size (n0.on (one_more W _)) (NewBox.new b) (n0.ne_new)
    · go_simp
      have b' := b.alloc b.size (.cells #[.slice none 0 0] 24)
      refine hK.out _ _ (HS _ b') (fun _ => ?_)
      clear hK K
      try simp only [List.setIfInBounds_toArray, List.set_cons_zero, List.set_cons_succ]
      exact L0_02 _ b' g0 W.heap.size (n0.on (one_more W _)) (NewBox.new b) (n0.ne_new)
  have L0_1 : ∀ (W : World) (b : Below W0.heap.size W0 W) (g1 : Nat) (n1 : NewBox W0 W g1), wpAnyH Tryd.prog .any parts_ownOps (NoPanic Q) (fun w' => w'.cell? ⟨p3, 0, none⟩ = some (.slice Ax nx cx) ∧ w'.cell? ⟨p4, 0, none⟩ = some (.slice Ay ny cy) ∧ w'.cell? ⟨p5, 0, none⟩ = some (.slice Az nz cz)) 8 #[true, false, true, false, true, false, false, true, false, false, false, false] ⟨#[v0, v1, v2, .pointer (some ⟨p3, 0, none⟩), .pointer (some ⟨p4, 0, none⟩), .pointer (some ⟨p5, 0, none⟩), .bool false, undef, .pointer (some ⟨g1, 0, none⟩), undef, undef, undef, undef, undef, .bool true, .bool false, .agg #[.slice Ax nx cx], undef, .agg #[.slice Ay ny cy], undef, .agg #[.slice Az nz cz], undef, undef, undef, undef, undef, undef, undef, undef, undef, undef, undef, undef, undef, undef, undef, undef, undef, undef, undef, undef, undef, undef, undef, undef, undef, undef, undef, undef, undef, undef, undef, undef, undef, undef, undef, undef, undef, undef, undef, undef, undef, undef, undef, undef, undef, undef, undef, undef, undef, undef, undef, undef, undef, undef, undef, undef, undef, undef, undef, undef, undef, undef, undef, undef, undef, undef, undef, undef, undef, undef, undef, undef, undef, undef, undef, undef, undef, undef, undef, undef, undef, undef, undef, undef, undef, undef, undef, undef, undef, undef, undef, undef, undef, undef, undef, undef, undef, undef, undef, undef, undef, undef, undef, undef, undef, undef, undef, undef, undef, undef, undef, undef, undef, undef], []⟩ W := by
    intro W b  g1 n1
    refine wpAnyH_ready (rs := [1, 6, 8]) (by kernel_rfl) (by simp) ?_
    refine AllReadyH.cons (o := { dst := some 17, op := Op.call { callee := Callee.value (Operand.func 10), args := #[Operand.tmp 16], argTypes := #[24] }, type := 24, pos := "outright.go:37", after := #[{ on := 0, ground := Ground.data }], guard := none }) rfl (fun K hK => ?_) (AllReadyH.cons (o := { dst := some 7, op := Op.alloc 24, type := 0, pos := "outright.go:37", after := #[], guard := none }) rfl (fun K hK => ?_) (AllReadyH.cons (o := { dst := some 9, op := Op.alloc 24, type := 0, pos := "outright.go:37", after := #[], guard := none }) rfl (fun K hK => ?_) (AllReadyH.nil)))
    · go_simp
      refine (C0 W b).mono ?_
      rintro e W' ⟨s0, rfl, e0, o0, _, bb⟩
      have b' := b.trans (bb.mono b.size)
      refine hK.out _ _ (HS _ b') (fun _ => ?_)
      clear hK K
      try simp only [List.setIfInBounds_toArray, List.set_cons_zero, List.set_cons_succ]
      exact L1_1 _ b' s0 g1 ⟨e0, o0⟩ (n1.on bb)
    · go_simp
      have b' := b.alloc b.size (.cells #[.slice none 0 0] 24)
      refine hK.out _ _ (HS _ b') (fun _ => ?_)
      clear hK K
      try simp only [List.setIfInBounds_toArray, List.set_cons_zero, List.set_cons_succ]
      exact L0_01 _ b' W.heap.size g1 (NewBox.new b) (n1.on (one_more W _)) (n1.ne_new')
    · go_simp
      have b' := b.alloc b.size (.cells #[.slice none 0 0] 24)
      refine hK.out _ _ (HS _ b') (fun _ => ?_)
      clear hK K
      try simp only [List.setIfInBounds_toArray, List.set_cons_zero, List.set_cons_succ]
      exact L0_12 _ b' g1 W.heap.size (n1.on (one_more W _)) (NewBox.new b) (n1.ne_new)
  have L0_2 : ∀ (W : World) (b : Below W0.heap.size W0 W) (g2 : Nat) (n2 : NewBox W0 W g2), wpAnyH Tryd.prog .any parts_ownOps (NoPanic Q) (fun w' => w'.cell? ⟨p3, 0, none⟩ = some (.slice Ax nx cx) ∧ w'.cell? ⟨p4, 0, none⟩ = some (.slice Ay ny cy) ∧ w'.cell? ⟨p5, 0, none⟩ = some (.slice Az nz cz)) 8 #[true, false, true, false, true, false, false, false, true, false, false, false] ⟨#[v0, v1, v2, .pointer (some ⟨p3, 0, none⟩), .pointer (some ⟨p4, 0, none⟩), .pointer (some ⟨p5, 0, none⟩), .bool false, undef, undef, .pointer (some ⟨g2, 0, none⟩), undef, undef, undef, undef, .bool true, .bool false, .agg #[.slice Ax nx cx], undef, .agg #[.slice Ay ny cy], undef, .agg #[.slice Az nz cz], undef, undef, undef, undef, undef, undef, undef, undef, undef, undef, undef, undef, undef, undef, undef, undef, undef, undef, undef, undef, undef, undef, undef, undef, undef, undef, undef, undef, undef, undef, undef, undef, undef, undef, undef, undef, undef, undef, undef, undef, undef, undef, undef, undef, undef, undef, undef, undef, undef, undef, undef, undef, undef, undef, undef, undef, undef, undef, undef, undef, undef, undef, undef, undef, undef, undef, undef, undef, undef, undef, undef, undef, undef, undef, undef, undef, undef, undef, undef, undef, undef, undef, undef, undef, undef, undef, undef, undef, undef, undef, undef, undef, undef, undef, undef, undef, undef, undef, undef, undef, undef, undef, undef, undef, undef, undef, undef, undef, undef, undef, undef, undef, undef, undef], []⟩ W := by
    intro W b  g2 n2
    refine wpAnyH_ready (rs := [1, 6, 7]) (by kernel_rfl) (by simp) ?_
    refine AllReadyH.cons (o := { dst := some 17, op := Op.call { callee := Callee.value (Operand.func 10), args := #[Operand.tmp 16], argTypes := #[24] }, type := 24, pos := "outright.go:37", after := #[{ on := 0, ground := Ground.data }], guard := none }) rfl (fun K hK => ?_) (AllReadyH.cons (o := { dst := some 7, op := Op.alloc 24, type := 0, pos := "outright.go:37", after := #[], guard := none }) rfl (fun K hK => ?_) (AllReadyH.cons (o := { dst := some 8, op := Op.alloc 24, type := 0, pos := "outright.go:37", after := #[], guard := none }) rfl (fun K hK => ?_) (AllReadyH.nil)))
    · go_simp
      refine (C0 W b).mono ?_
      rintro e W' ⟨s0, rfl, e0, o0, _, bb⟩
      have b' := b.trans (bb.mono b.size)
      refine hK.out _ _ (HS _ b') (fun _ => ?_)
      clear hK K
      try simp only [List.setIfInBounds_toArray, List.set_cons_zero, List.set_cons_succ]
      exact L1_2 _ b' s0 g2 ⟨e0, o0⟩ (n2.on bb)
    · go_simp
      have b' := b.alloc b.size (.cells #[.slice none 0 0] 24)
      refine hK.out _ _ (HS _ b') (fun _ => ?_)
      clear hK K
      try simp only [List.setIfInBounds_toArray, List.set_cons_zero, List.set_cons_succ]
      exact L0_02 _ b' W.heap.size g2 (NewBox.new b) (n2.on (one_more W _)) (n2.ne_new')
    · go_simp
      have b' := b.alloc b.size (.cells #[.slice none 0 0] 24)
      refine hK.out _ _ (HS _ b') (fun _ => ?_)
      clear hK K
      try simp only [List.setIfInBounds_toArray, List.set_cons_zero, List.set_cons_succ]
      exact L0_12 _ b' W.heap.size g2 (NewBox.new b) (n2.on (one_more W _)) (n2.ne_new')
  have L0_ : ∀ (W : World) (b : Below W0.heap.size W0 W)  , wpAnyH Tryd.prog .any parts_ownOps (NoPanic Q) (fun w' => w'.cell? ⟨p3, 0, none⟩ = some (.slice Ax nx cx) ∧ w'.cell? ⟨p4, 0, none⟩ = some (.slice Ay ny cy) ∧ w'.cell? ⟨p5, 0, none⟩ = some (.slice Az nz cz)) 9 #[true, false, true, false, true, false, false, false, false, false, false, false] ⟨#[v0, v1, v2, .pointer (some ⟨p3, 0, none⟩), .pointer (some ⟨p4, 0, none⟩), .pointer (some ⟨p5, 0, none⟩), .bool false, undef, undef, undef, undef, undef, undef, undef, .bool true, .bool false, .agg #[.slice Ax nx cx], undef, .agg #[.slice Ay ny cy], undef, .agg #[.slice Az nz cz], undef, undef, undef, undef, undef, undef, undef, undef, undef, undef, undef, undef, undef, undef, undef, undef, undef, undef, undef, undef, undef, undef, undef, undef, undef, undef, undef, undef, undef, undef, undef, undef, undef, undef, undef, undef, undef, undef, undef, undef, undef, undef, undef, undef, undef, undef, undef, undef, undef, undef, undef, undef, undef, undef, undef, undef, undef, undef, undef, undef, undef, undef, undef, undef, undef, undef, undef, undef, undef, undef, undef, undef, undef, undef, undef, undef, undef, undef, undef, undef, undef, undef, undef, undef, undef, undef, undef, undef, undef, undef, undef, undef, undef, undef, undef, undef, undef, undef, undef, undef, undef, undef, undef, undef, undef, undef, undef, undef, undef, undef, undef, undef, undef, undef], []⟩ W := by
    intro W b  
    refine wpAnyH_ready (rs := [1, 6, 7, 8]) (by kernel_rfl) (by simp) ?_
    refine AllReadyH.cons (o := { dst := some 17, op := Op.call { callee := Callee.value (Operand.func 10), args := #[Operand.tmp 16], argTypes := #[24] }, type := 24, pos := "outright.go:37", after := #[{ on := 0, ground := Ground.data }], guard := none }) rfl (fun K hK => ?_) (AllReadyH.cons (o := { dst := some 7, op := Op.alloc 24, type := 0, pos := "outright.go:37", after := #[], guard := none }) rfl (fun K hK => ?_) (AllReadyH.cons (o := { dst := some 8, op := Op.alloc 24, type := 0, pos := "outright.go:37", after := #[], guard := none }) rfl (fun K hK => ?_) (AllReadyH.cons (o := { dst := some 9, op := Op.alloc 24, type := 0, pos := "outright.go:37", after := #[], guard := none }) rfl (fun K hK => ?_) (AllReadyH.nil))))
    · go_simp
      refine (C0 W b).mono ?_
      rintro e W' ⟨s0, rfl, e0, o0, _, bb⟩
      have b' := b.trans (bb.mono b.size)
      refine hK.out _ _ (HS _ b') (fun _ => ?_)
      clear hK K
      try simp only [List.setIfInBounds_toArray, List.set_cons_zero, List.set_cons_succ]
      exact L1_ _ b' s0 ⟨e0, o0⟩
    · go_simp
      have b' := b.alloc b.size (.cells #[.slice none 0 0] 24)
      refine hK.out _ _ (HS _ b') (fun _ => ?_)
      clear hK K
      try simp only [List.setIfInBounds_toArray, List.set_cons_zero, List.set_cons_succ]
      exact L0_0 _ b' W.heap.size (NewBox.new b)
    · go_simp
      have b' := b.alloc b.size (.cells #[.slice none 0 0] 24)
      refine hK.out _ _ (HS _ b') (fun _ => ?_)
      clear hK K
      try simp only [List.setIfInBounds_toArray, List.set_cons_zero, List.set_cons_succ]
      exact L0_1 _ b' W.heap.size (NewBox.new b)
    · go_simp
      have b' := b.alloc b.size (.cells #[.slice none 0 0] 24)
      refine hK.out _ _ (HS _ b') (fun _ => ?_)
      clear hK K
      try simp only [List.setIfInBounds_toArray, List.set_cons_zero, List.set_cons_succ]
      exact L0_2 _ b' W.heap.size (NewBox.new b)
  have bd : Below W0.heap.size W0 W0.drew := below_drew' (Below.refl _ _)
  refine wp_region_noPanic ?_
  refine wp_region_held_drew (S := fun w' => w'.cell? ⟨p3, 0, none⟩ = some (.slice Ax nx cx) ∧ w'.cell? ⟨p4, 0, none⟩ = some (.slice Ay ny cy) ∧ w'.cell? ⟨p5, 0, none⟩ = some (.slice Az nz cz)) (by kernel_rfl) (HS _ bd) (fun hHeld => ?_)
  refine wpAnyH_take (i := 0) (oi := { dst := some 16, op := Op.load 24 (Operand.tmp 3), type := 24, pos := "outright.go:37", after := #[], guard := none }) (v := .agg #[.slice Ax nx cx]) rfl (by kernel_rfl) (by kernel_rfl) (by kernel_rfl) (fun _ _ _ h => h) (Or.inl ⟨by kernel_rfl, fun w' hSw => by (try dsimp only at hSw); go_simp⟩) (by assumption) ?_
  try simp only [Act.put, List.setIfInBounds_toArray, List.set_cons_zero, List.set_cons_succ]
  refine wpAnyH_take (i := 2) (oi := { dst := some 18, op := Op.load 24 (Operand.tmp 4), type := 24, pos := "outright.go:37", after := #[], guard := none }) (v := .agg #[.slice Ay ny cy]) rfl (by kernel_rfl) (by kernel_rfl) (by kernel_rfl) (fun _ _ _ h => h) (Or.inl ⟨by kernel_rfl, fun w' hSw => by (try dsimp only at hSw); go_simp⟩) (by assumption) ?_
  try simp only [Act.put, List.setIfInBounds_toArray, List.set_cons_zero, List.set_cons_succ]
  refine wpAnyH_take (i := 4) (oi := { dst := some 20, op := Op.load 24 (Operand.tmp 5), type := 24, pos := "outright.go:37", after := #[], guard := none }) (v := .agg #[.slice Az nz cz]) rfl (by kernel_rfl) (by kernel_rfl) (by kernel_rfl) (fun _ _ _ h => h) (Or.inl ⟨by kernel_rfl, fun w' hSw => by (try dsimp only at hSw); go_simp⟩) (by assumption) ?_
  try simp only [Act.put, List.setIfInBounds_toArray, List.set_cons_zero, List.set_cons_succ]
  exact L0_ W0.drew bd
end Go.Proofs.YtpkpfnilfabkaaaDoor
