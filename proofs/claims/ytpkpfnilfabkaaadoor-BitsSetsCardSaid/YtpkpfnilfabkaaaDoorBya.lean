/- BitsParts: the union and the meet; the differences. -/
import Derived.Test.YtpkpfnilfabkaaaDoorBy
namespace Go.Proofs.YtpkpfnilfabkaaaDoor
open Go.RowKit

/-- A row of sets in a block. -/
def RowAt (W : World) (g : Nat) (S : List SV) : Prop := Reads W W.heap.size 1 (some ⟨g, 0, none⟩) S.length (svs S)
theorem RowAt.on {W W' : World} {g : Nat} {S : List SV} (h : RowAt W g S) (hb : Below W.heap.size W W') : RowAt W' g S := Reads.more (Reads.below h hb) hb.size
theorem RowAt.new (W : World) (S : List SV) : RowAt (W.alloc (.cells (svs S).toArray 24)) W.heap.size S :=
  ⟨by unfold svs; simp, fun _ => ⟨_, rfl, by show W.heap.size < _; simp, fun j u hu => by
    rw [Go.WideShapes.add_plain, (Blk.new W 24 (svs S).toArray).cell, Nat.zero_add, List.getElem?_toArray]; exact hu⟩⟩
theorem Calls.got_row {W : World} {g n : Nat} {S : List SV} (hn : S.length = n) (hl : n ≤ 100000) (h : RowAt W g S) (hS : ∀ s ∈ S, s.ok W W.heap.size) :
    Calls Tryd.prog 31 #[.slice (some ⟨g, 0, none⟩) n n] W (GotSet (setW (unionF S)) W) := by
  subst hn
  exact (union_any _ S.length S.length S hl W h hS).mono fun _ _ h => got_of (can_set _).1 (setW_le _) h

/-- The operations of the region. -/
noncomputable def parts_pairOps : Array Oper := #[{ dst := some 22, op := Op.load 24 (Operand.tmp 7), type := 24, pos := "outright.go:38", after := #[], guard := none }, { dst := some 23, op := Op.load 24 (Operand.tmp 8), type := 24, pos := "outright.go:38", after := #[], guard := none }, { dst := some 24, op := Op.buildSlice 73 2 #[(0, Operand.tmp 22), (1, Operand.tmp 23)], type := 73, pos := "outright.go:38", after := #[{ on := 0, ground := Ground.data }, { on := 1, ground := Ground.data }], guard := none }, { dst := some 25, op := Op.call { callee := Callee.value (Operand.func 31), args := #[Operand.tmp 24], argTypes := #[73] }, type := 24, pos := "outright.go:38", after := #[{ on := 2, ground := Ground.data }], guard := none }, { dst := some 26, op := Op.load 24 (Operand.tmp 7), type := 24, pos := "outright.go:38", after := #[], guard := none }, { dst := some 27, op := Op.load 24 (Operand.tmp 8), type := 24, pos := "outright.go:38", after := #[], guard := none }, { dst := some 28, op := Op.call { callee := Callee.value (Operand.func 32), args := #[Operand.tmp 26, Operand.tmp 27], argTypes := #[24, 24] }, type := 24, pos := "outright.go:38", after := #[{ on := 4, ground := Ground.data }, { on := 5, ground := Ground.data }, { on := 3, ground := Ground.chain }], guard := none }, { dst := some 10, op := Op.alloc 24, type := 0, pos := "outright.go:38", after := #[], guard := none }, { dst := some 11, op := Op.alloc 24, type := 0, pos := "outright.go:38", after := #[], guard := none }, { dst := none, op := Op.store 24 (Operand.tmp 10) (Operand.tmp 25), type := 0, pos := "outright.go:38", after := #[{ on := 7, ground := Ground.data }, { on := 3, ground := Ground.data }, { on := 6, ground := Ground.chain }, { on := 0, ground := Ground.phase }, { on := 1, ground := Ground.phase }, { on := 2, ground := Ground.phase }, { on := 3, ground := Ground.phase }, { on := 4, ground := Ground.textOnly Departure.lateStores }, { on := 5, ground := Ground.textOnly Departure.lateStores }, { on := 6, ground := Ground.textOnly Departure.lateStoresUnsure }, { on := 7, ground := Ground.phase }, { on := 8, ground := Ground.phase }], guard := none }, { dst := none, op := Op.store 24 (Operand.tmp 11) (Operand.tmp 28), type := 0, pos := "outright.go:38", after := #[{ on := 8, ground := Ground.data }, { on := 6, ground := Ground.data }, { on := 9, ground := Ground.chain }, { on := 0, ground := Ground.phase }, { on := 1, ground := Ground.phase }, { on := 2, ground := Ground.phase }, { on := 3, ground := Ground.phase }, { on := 4, ground := Ground.phase }, { on := 5, ground := Ground.phase }, { on := 6, ground := Ground.phase }, { on := 7, ground := Ground.phase }, { on := 8, ground := Ground.phase }, { on := 9, ground := Ground.phase }], guard := none }]
set_option maxRecDepth 100000 in
set_option maxHeartbeats 8000000 in
theorem parts_pair (Q : Exit → Act → World → Prop) (W0 : World) (v0 v1 v2 v3 v4 v5 v16 v17 v18 v19 v20 v21 : Value) (u0 u1 u2 : Nat) (sa sb : SV) (x1 x2 : List Nat) (HS : ∀ W, Below W0.heap.size W0 W → (fun w' => w'.cell? ⟨u0, 0, none⟩ = some (.slice sa.A sa.n sa.c) ∧ w'.cell? ⟨u1, 0, none⟩ = some (.slice sb.A sb.n sb.c)) W) (C1 : ∀ W g, Below W0.heap.size W0 W → RowAt W g [sa, sb] → Calls Tryd.prog 31 #[.slice (some ⟨g, 0, none⟩) 2 2] W (GotSet x1 W)) (C2 : ∀ W, Below W0.heap.size W0 W → Calls Tryd.prog 32 #[.agg #[.slice sa.A sa.n sa.c], .agg #[.slice sb.A sb.n sb.c]] W (GotSet x2 W)) 
    (hQ : ∀ (W : World) (s1 s2 : SV) (g0 g1 q0 : Nat), Below W0.heap.size W0 W → (s1.ws = x1) → (s2.ws = x2) → InBox W0 W g0 s1 → InBox W0 W g1 s2 → Q .normal ⟨#[v0, v1, v2, v3, v4, v5, .bool false, .pointer (some ⟨u0, 0, none⟩), .pointer (some ⟨u1, 0, none⟩), .pointer (some ⟨u2, 0, none⟩), .pointer (some ⟨g0, 0, none⟩), .pointer (some ⟨g1, 0, none⟩), undef, undef, .bool true, .bool false, v16, v17, v18, v19, v20, v21, .agg #[.slice sa.A sa.n sa.c], .agg #[.slice sb.A sb.n sb.c], .slice (some ⟨q0, 0, none⟩) 2 2, .agg #[.slice s1.A s1.n s1.c], .agg #[.slice sa.A sa.n sa.c], .agg #[.slice sb.A sb.n sb.c], .agg #[.slice s2.A s2.n s2.c], undef, undef, undef, undef, undef, undef, undef, undef, undef, undef, undef, undef, undef, undef, undef, undef, undef, undef, undef, undef, undef, undef, undef, undef, undef, undef, undef, undef, undef, undef, undef, undef, undef, undef, undef, undef, undef, undef, undef, undef, undef, undef, undef, undef, undef, undef, undef, undef, undef, undef, undef, undef, undef, undef, undef, undef, undef, undef, undef, undef, undef, undef, undef, undef, undef, undef, undef, undef, undef, undef, undef, undef, undef, undef, undef, undef, undef, undef, undef, undef, undef, undef, undef, undef, undef, undef, undef, undef, undef, undef, undef, undef, undef, undef, undef, undef, undef, undef, undef, undef, undef, undef, undef, undef, undef, undef], []⟩ W) : (Code.region 4 parts_pairOps true).wp Tryd.prog Q ⟨#[v0, v1, v2, v3, v4, v5, .bool false, .pointer (some ⟨u0, 0, none⟩), .pointer (some ⟨u1, 0, none⟩), .pointer (some ⟨u2, 0, none⟩), undef, undef, undef, undef, .bool true, .bool false, v16, v17, v18, v19, v20, v21, undef, undef, undef, undef, undef, undef, undef, undef, undef, undef, undef, undef, undef, undef, undef, undef, undef, undef, undef, undef, undef, undef, undef, undef, undef, undef, undef, undef, undef, undef, undef, undef, undef, undef, undef, undef, undef, undef, undef, undef, undef, undef, undef, undef, undef, undef, undef, undef, undef, undef, undef, undef, undef, undef, undef, undef, undef, undef, undef, undef, undef, undef, undef, undef, undef, undef, undef, undef, undef, undef, undef, undef, undef, undef, undef, undef, undef, undef, undef, undef, undef, undef, undef, undef, undef, undef, undef, undef, undef, undef, undef, undef, undef, undef, undef, undef, undef, undef, undef, undef, undef, undef, undef, undef, undef, undef, undef, undef, undef, undef, undef, undef, undef], []⟩ W0 := by
  have L3_01 : ∀ (W : World) (b : Below W0.heap.size W0 W) (q0 : Nat) (s1 : SV) (s2 : SV) (g0 : Nat) (g1 : Nat) (h0 : RowAt W q0 [sa, sb]) (h1 : s1.ws = x1 ∧ s1.ok W W.heap.size) (h2 : s2.ws = x2 ∧ s2.ok W W.heap.size) (n0 : NewBox W0 W g0) (n1 : NewBox W0 W g1) (d01 : g0 ≠ g1), wpAnyH Tryd.prog .any parts_pairOps (NoPanic Q) (fun w' => w'.cell? ⟨u0, 0, none⟩ = some (.slice sa.A sa.n sa.c) ∧ w'.cell? ⟨u1, 0, none⟩ = some (.slice sb.A sb.n sb.c)) 2 #[true, true, true, true, true, true, true, true, true, false, false] ⟨#[v0, v1, v2, v3, v4, v5, .bool false, .pointer (some ⟨u0, 0, none⟩), .pointer (some ⟨u1, 0, none⟩), .pointer (some ⟨u2, 0, none⟩), .pointer (some ⟨g0, 0, none⟩), .pointer (some ⟨g1, 0, none⟩), undef, undef, .bool true, .bool false, v16, v17, v18, v19, v20, v21, .agg #[.slice sa.A sa.n sa.c], .agg #[.slice sb.A sb.n sb.c], .slice (some ⟨q0, 0, none⟩) 2 2, .agg #[.slice s1.A s1.n s1.c], .agg #[.slice sa.A sa.n sa.c], .agg #[.slice sb.A sb.n sb.c], .agg #[.slice s2.A s2.n s2.c], undef, undef, undef, undef, undef, undef, undef, undef, undef, undef, undef, undef, undef, undef, undef, undef, undef, undef, undef, undef, undef, undef, undef, undef, undef, undef, undef, undef, undef, undef, undef, undef, undef, undef, undef, undef, undef, undef, undef, undef, undef, undef, undef, undef, undef, undef, undef, undef, undef, undef, undef, undef, undef, undef, undef, undef, undef, undef, undef, undef, undef, undef, undef, undef, undef, undef, undef, undef, undef, undef, undef, undef, undef, undef, undef, undef, undef, undef, undef, undef, undef, undef, undef, undef, undef, undef, undef, undef, undef, undef, undef, undef, undef, undef, undef, undef, undef, undef, undef, undef, undef, undef, undef, undef, undef, undef], []⟩ W := by
    intro W b q0 s1 s2 g0 g1 h0 h1 h2 n0 n1 d01
    have c0 := n0.2.cell 0
    have f0 := n0.2.frozen 0
    have c1 := n1.2.cell 0
    have f1 := n1.2.frozen 0
    have o1 := h1.2
    have o2 := h2.2
    have b0 : Below W0.heap.size W0 (W.setCell ⟨g0, 0, none⟩ (.slice s1.A s1.n s1.c)) := b.setCell (p := ⟨g0, 0, none⟩) n0.1 _
    refine wpAnyH_ready (rs := [9]) (by kernel_rfl) (by simp) ?_
    refine AllReadyH.cons (o := { dst := none, op := Op.store 24 (Operand.tmp 10) (Operand.tmp 25), type := 0, pos := "outright.go:38", after := #[{ on := 7, ground := Ground.data }, { on := 3, ground := Ground.data }, { on := 6, ground := Ground.chain }, { on := 0, ground := Ground.phase }, { on := 1, ground := Ground.phase }, { on := 2, ground := Ground.phase }, { on := 3, ground := Ground.phase }, { on := 4, ground := Ground.textOnly Departure.lateStores }, { on := 5, ground := Ground.textOnly Departure.lateStores }, { on := 6, ground := Ground.textOnly Departure.lateStoresUnsure }, { on := 7, ground := Ground.phase }, { on := 8, ground := Ground.phase }], guard := none }) rfl (fun K hK => ?_) AllReadyH.nil
    go_simp
    refine hK.out _ _ (HS _ b0) (fun _ => ?_)
    clear hK K
    try simp only [List.setIfInBounds_toArray, List.set_cons_zero, List.set_cons_succ]
    replace o1 := o1.boxed (v := .slice s1.A s1.n s1.c) n0.2
    replace o2 := o2.boxed (v := .slice s1.A s1.n s1.c) n0.2
    replace n1 := n1.other (g := g0) (u := .slice s1.A s1.n s1.c) (fun e => d01 e.symm)
    replace c1 := n1.2.cell 0
    replace f1 := n1.2.frozen 0
    have k0 : HasBox W0 (W.setCell ⟨g0, 0, none⟩ (.slice s1.A s1.n s1.c)) g0 s1 := n0.put
    have b1 : Below W0.heap.size W0 ((W.setCell ⟨g0, 0, none⟩ (.slice s1.A s1.n s1.c)).setCell ⟨g1, 0, none⟩ (.slice s2.A s2.n s2.c)) := b0.setCell (p := ⟨g1, 0, none⟩) n1.1 _
    refine wpAnyH_ready (rs := [10]) (by kernel_rfl) (by simp) ?_
    refine AllReadyH.cons (o := { dst := none, op := Op.store 24 (Operand.tmp 11) (Operand.tmp 28), type := 0, pos := "outright.go:38", after := #[{ on := 8, ground := Ground.data }, { on := 6, ground := Ground.data }, { on := 9, ground := Ground.chain }, { on := 0, ground := Ground.phase }, { on := 1, ground := Ground.phase }, { on := 2, ground := Ground.phase }, { on := 3, ground := Ground.phase }, { on := 4, ground := Ground.phase }, { on := 5, ground := Ground.phase }, { on := 6, ground := Ground.phase }, { on := 7, ground := Ground.phase }, { on := 8, ground := Ground.phase }, { on := 9, ground := Ground.phase }], guard := none }) rfl (fun K hK => ?_) AllReadyH.nil
    go_simp
    refine hK.out _ _ (HS _ b1) (fun _ => ?_)
    clear hK K
    try simp only [List.setIfInBounds_toArray, List.set_cons_zero, List.set_cons_succ]
    replace o1 := o1.boxed (v := .slice s2.A s2.n s2.c) n1.2
    replace o2 := o2.boxed (v := .slice s2.A s2.n s2.c) n1.2
    have k0 := k0.other (g := g1) (u := .slice s2.A s2.n s2.c) (d01)
    have k1 : HasBox W0 ((W.setCell ⟨g0, 0, none⟩ (.slice s1.A s1.n s1.c)).setCell ⟨g1, 0, none⟩ (.slice s2.A s2.n s2.c)) g1 s2 := n1.put
    refine wpAnyH_done (by kernel_rfl) ?_ _
    refine NoPanic.normal ?_
    exact hQ _ s1 s2 g0 g1 q0 b1 h1.1 h2.1 ⟨k0, o1⟩ ⟨k1, o2⟩
  have L3_0 : ∀ (W : World) (b : Below W0.heap.size W0 W) (q0 : Nat) (s1 : SV) (s2 : SV) (g0 : Nat) (h0 : RowAt W q0 [sa, sb]) (h1 : s1.ws = x1 ∧ s1.ok W W.heap.size) (h2 : s2.ws = x2 ∧ s2.ok W W.heap.size) (n0 : NewBox W0 W g0), wpAnyH Tryd.prog .any parts_pairOps (NoPanic Q) (fun w' => w'.cell? ⟨u0, 0, none⟩ = some (.slice sa.A sa.n sa.c) ∧ w'.cell? ⟨u1, 0, none⟩ = some (.slice sb.A sb.n sb.c)) 3 #[true, true, true, true, true, true, true, true, false, false, false] ⟨#[v0, v1, v2, v3, v4, v5, .bool false, .pointer (some ⟨u0, 0, none⟩), .pointer (some ⟨u1, 0, none⟩), .pointer (some ⟨u2, 0, none⟩), .pointer (some ⟨g0, 0, none⟩), undef, undef, undef, .bool true, .bool false, v16, v17, v18, v19, v20, v21, .agg #[.slice sa.A sa.n sa.c], .agg #[.slice sb.A sb.n sb.c], .slice (some ⟨q0, 0, none⟩) 2 2, .agg #[.slice s1.A s1.n s1.c], .agg #[.slice sa.A sa.n sa.c], .agg #[.slice sb.A sb.n sb.c], .agg #[.slice s2.A s2.n s2.c], undef, undef, undef, undef, undef, undef, undef, undef, undef, undef, undef, undef, undef, undef, undef, undef, undef, undef, undef, undef, undef, undef, undef, undef, undef, undef, undef, undef, undef, undef, undef, undef, undef, undef, undef, undef, undef, undef, undef, undef, undef, undef, undef, undef, undef, undef, undef, undef, undef, undef, undef, undef, undef, undef, undef, undef, undef, undef, undef, undef, undef, undef, undef, undef, undef, undef, undef, undef, undef, undef, undef, undef, undef, undef, undef, undef, undef, undef, undef, undef, undef, undef, undef, undef, undef, undef, undef, undef, undef, undef, undef, undef, undef, undef, undef, undef, undef, undef, undef, undef, undef, undef, undef, undef, undef, undef], []⟩ W := by
    intro W b q0 s1 s2 g0 h0 h1 h2 n0
    refine wpAnyH_ready (rs := [8]) (by kernel_rfl) (by simp) ?_
    refine AllReadyH.cons (o := { dst := some 11, op := Op.alloc 24, type := 0, pos := "outright.go:38", after := #[], guard := none }) rfl (fun K hK => ?_) (AllReadyH.nil)
    · go_simp
      have b' := b.alloc b.size (.cells #[.slice none 0 0] 24)
      refine hK.out _ _ (HS _ b') (fun _ => ?_)
      clear hK K
      try simp only [List.setIfInBounds_toArray, List.set_cons_zero, List.set_cons_succ]
      exact L3_01 _ b' q0 s1 s2 g0 W.heap.size (h0.on (one_more W _)) ⟨h1.1, h1.2.on (one_more W _)⟩ ⟨h2.1, h2.2.on (one_more W _)⟩ (n0.on (one_more W _)) (NewBox.new b) (n0.ne_new)
  have L3_1 : ∀ (W : World) (b : Below W0.heap.size W0 W) (q0 : Nat) (s1 : SV) (s2 : SV) (g1 : Nat) (h0 : RowAt W q0 [sa, sb]) (h1 : s1.ws = x1 ∧ s1.ok W W.heap.size) (h2 : s2.ws = x2 ∧ s2.ok W W.heap.size) (n1 : NewBox W0 W g1), wpAnyH Tryd.prog .any parts_pairOps (NoPanic Q) (fun w' => w'.cell? ⟨u0, 0, none⟩ = some (.slice sa.A sa.n sa.c) ∧ w'.cell? ⟨u1, 0, none⟩ = some (.slice sb.A sb.n sb.c)) 3 #[true, true, true, true, true, true, true, false, true, false, false] ⟨#[v0, v1, v2, v3, v4, v5, .bool false, .pointer (some ⟨u0, 0, none⟩), .pointer (some ⟨u1, 0, none⟩), .pointer (some ⟨u2, 0, none⟩), undef, .pointer (some ⟨g1, 0, none⟩), undef, undef, .bool true, .bool false, v16, v17, v18, v19, v20, v21, .agg #[.slice sa.A sa.n sa.c], .agg #[.slice sb.A sb.n sb.c], .slice (some ⟨q0, 0, none⟩) 2 2, .agg #[.slice s1.A s1.n s1.c], .agg #[.slice sa.A sa.n sa.c], .agg #[.slice sb.A sb.n sb.c], .agg #[.slice s2.A s2.n s2.c], undef, undef, undef, undef, undef, undef, undef, undef, undef, undef, undef, undef, undef, undef, undef, undef, undef, undef, undef, undef, undef, undef, undef, undef, undef, undef, undef, undef, undef, undef, undef, undef, undef, undef, undef, undef, undef, undef, undef, undef, undef, undef, undef, undef, undef, undef, undef, undef, undef, undef, undef, undef, undef, undef, undef, undef, undef, undef, undef, undef, undef, undef, undef, undef, undef, undef, undef, undef, undef, undef, undef, undef, undef, undef, undef, undef, undef, undef, undef, undef, undef, undef, undef, undef, undef, undef, undef, undef, undef, undef, undef, undef, undef, undef, undef, undef, undef, undef, undef, undef, undef, undef, undef, undef, undef, undef], []⟩ W := by
    intro W b q0 s1 s2 g1 h0 h1 h2 n1
    refine wpAnyH_ready (rs := [7]) (by kernel_rfl) (by simp) ?_
    refine AllReadyH.cons (o := { dst := some 10, op := Op.alloc 24, type := 0, pos := "outright.go:38", after := #[], guard := none }) rfl (fun K hK => ?_) (AllReadyH.nil)
    · go_simp
      have b' := b.alloc b.size (.cells #[.slice none 0 0] 24)
      refine hK.out _ _ (HS _ b') (fun _ => ?_)
      clear hK K
      try simp only [List.setIfInBounds_toArray, List.set_cons_zero, List.set_cons_succ]
      exact L3_01 _ b' q0 s1 s2 W.heap.size g1 (h0.on (one_more W _)) ⟨h1.1, h1.2.on (one_more W _)⟩ ⟨h2.1, h2.2.on (one_more W _)⟩ (NewBox.new b) (n1.on (one_more W _)) (n1.ne_new')
  have L2_01 : ∀ (W : World) (b : Below W0.heap.size W0 W) (q0 : Nat) (s1 : SV) (g0 : Nat) (g1 : Nat) (h0 : RowAt W q0 [sa, sb]) (h1 : s1.ws = x1 ∧ s1.ok W W.heap.size) (n0 : NewBox W0 W g0) (n1 : NewBox W0 W g1) (d01 : g0 ≠ g1), wpAnyH Tryd.prog .any parts_pairOps (NoPanic Q) (fun w' => w'.cell? ⟨u0, 0, none⟩ = some (.slice sa.A sa.n sa.c) ∧ w'.cell? ⟨u1, 0, none⟩ = some (.slice sb.A sb.n sb.c)) 3 #[true, true, true, true, true, true, false, true, true, false, false] ⟨#[v0, v1, v2, v3, v4, v5, .bool false, .pointer (some ⟨u0, 0, none⟩), .pointer (some ⟨u1, 0, none⟩), .pointer (some ⟨u2, 0, none⟩), .pointer (some ⟨g0, 0, none⟩), .pointer (some ⟨g1, 0, none⟩), undef, undef, .bool true, .bool false, v16, v17, v18, v19, v20, v21, .agg #[.slice sa.A sa.n sa.c], .agg #[.slice sb.A sb.n sb.c], .slice (some ⟨q0, 0, none⟩) 2 2, .agg #[.slice s1.A s1.n s1.c], .agg #[.slice sa.A sa.n sa.c], .agg #[.slice sb.A sb.n sb.c], undef, undef, undef, undef, undef, undef, undef, undef, undef, undef, undef, undef, undef, undef, undef, undef, undef, undef, undef, undef, undef, undef, undef, undef, undef, undef, undef, undef, undef, undef, undef, undef, undef, undef, undef, undef, undef, undef, undef, undef, undef, undef, undef, undef, undef, undef, undef, undef, undef, undef, undef, undef, undef, undef, undef, undef, undef, undef, undef, undef, undef, undef, undef, undef, undef, undef, undef, undef, undef, undef, undef, undef, undef, undef, undef, undef, undef, undef, undef, undef, undef, undef, undef, undef, undef, undef, undef, undef, undef, undef, undef, undef, undef, undef, undef, undef, undef, undef, undef, undef, undef, undef, undef, undef, undef, undef, undef], []⟩ W := by
    intro W b q0 s1 g0 g1 h0 h1 n0 n1 d01
    refine wpAnyH_ready (rs := [6]) (by kernel_rfl) (by simp) ?_
    refine AllReadyH.cons (o := { dst := some 28, op := Op.call { callee := Callee.value (Operand.func 32), args := #[Operand.tmp 26, Operand.tmp 27], argTypes := #[24, 24] }, type := 24, pos := "outright.go:38", after := #[{ on := 4, ground := Ground.data }, { on := 5, ground := Ground.data }, { on := 3, ground := Ground.chain }], guard := none }) rfl (fun K hK => ?_) (AllReadyH.nil)
    · go_simp
      refine (C2 W b).mono ?_
      rintro e W' ⟨s2, rfl, e2, o2, _, bb⟩
      have b' := b.trans (bb.mono b.size)
      refine hK.out _ _ (HS _ b') (fun _ => ?_)
      clear hK K
      try simp only [List.setIfInBounds_toArray, List.set_cons_zero, List.set_cons_succ]
      exact L3_01 _ b' q0 s1 s2 g0 g1 (h0.on bb) ⟨h1.1, h1.2.on bb⟩ ⟨e2, o2⟩ (n0.on bb) (n1.on bb) d01
  have L3_ : ∀ (W : World) (b : Below W0.heap.size W0 W) (q0 : Nat) (s1 : SV) (s2 : SV) (h0 : RowAt W q0 [sa, sb]) (h1 : s1.ws = x1 ∧ s1.ok W W.heap.size) (h2 : s2.ws = x2 ∧ s2.ok W W.heap.size), wpAnyH Tryd.prog .any parts_pairOps (NoPanic Q) (fun w' => w'.cell? ⟨u0, 0, none⟩ = some (.slice sa.A sa.n sa.c) ∧ w'.cell? ⟨u1, 0, none⟩ = some (.slice sb.A sb.n sb.c)) 4 #[true, true, true, true, true, true, true, false, false, false, false] ⟨#[v0, v1, v2, v3, v4, v5, .bool false, .pointer (some ⟨u0, 0, none⟩), .pointer (some ⟨u1, 0, none⟩), .pointer (some ⟨u2, 0, none⟩), undef, undef, undef, undef, .bool true, .bool false, v16, v17, v18, v19, v20, v21, .agg #[.slice sa.A sa.n sa.c], .agg #[.slice sb.A sb.n sb.c], .slice (some ⟨q0, 0, none⟩) 2 2, .agg #[.slice s1.A s1.n s1.c], .agg #[.slice sa.A sa.n sa.c], .agg #[.slice sb.A sb.n sb.c], .agg #[.slice s2.A s2.n s2.c], undef, undef, undef, undef, undef, undef, undef, undef, undef, undef, undef, undef, undef, undef, undef, undef, undef, undef, undef, undef, undef, undef, undef, undef, undef, undef, undef, undef, undef, undef, undef, undef, undef, undef, undef, undef, undef, undef, undef, undef, undef, undef, undef, undef, undef, undef, undef, undef, undef, undef, undef, undef, undef, undef, undef, undef, undef, undef, undef, undef, undef, undef, undef, undef, undef, undef, undef, undef, undef, undef, undef, undef, undef, undef, undef, undef, undef, undef, undef, undef, undef, undef, undef, undef, undef, undef, undef, undef, undef, undef, undef, undef, undef, undef, undef, undef, undef, undef, undef, undef, undef, undef, undef, undef, undef, undef], []⟩ W := by
    intro W b q0 s1 s2 h0 h1 h2
    refine wpAnyH_ready (rs := [7, 8]) (by kernel_rfl) (by simp) ?_
    refine AllReadyH.cons (o := { dst := some 10, op := Op.alloc 24, type := 0, pos := "outright.go:38", after := #[], guard := none }) rfl (fun K hK => ?_) (AllReadyH.cons (o := { dst := some 11, op := Op.alloc 24, type := 0, pos := "outright.go:38", after := #[], guard := none }) rfl (fun K hK => ?_) (AllReadyH.nil))
    · go_simp
      have b' := b.alloc b.size (.cells #[.slice none 0 0] 24)
      refine hK.out _ _ (HS _ b') (fun _ => ?_)
      clear hK K
      try simp only [List.setIfInBounds_toArray, List.set_cons_zero, List.set_cons_succ]
      exact L3_0 _ b' q0 s1 s2 W.heap.size (h0.on (one_more W _)) ⟨h1.1, h1.2.on (one_more W _)⟩ ⟨h2.1, h2.2.on (one_more W _)⟩ (NewBox.new b)
    · go_simp
      have b' := b.alloc b.size (.cells #[.slice none 0 0] 24)
      refine hK.out _ _ (HS _ b') (fun _ => ?_)
      clear hK K
      try simp only [List.setIfInBounds_toArray, List.set_cons_zero, List.set_cons_succ]
      exact L3_1 _ b' q0 s1 s2 W.heap.size (h0.on (one_more W _)) ⟨h1.1, h1.2.on (one_more W _)⟩ ⟨h2.1, h2.2.on (one_more W _)⟩ (NewBox.new b)
  have L2_0 : ∀ (W : World) (b : Below W0.heap.size W0 W) (q0 : Nat) (s1 : SV) (g0 : Nat) (h0 : RowAt W q0 [sa, sb]) (h1 : s1.ws = x1 ∧ s1.ok W W.heap.size) (n0 : NewBox W0 W g0), wpAnyH Tryd.prog .any parts_pairOps (NoPanic Q) (fun w' => w'.cell? ⟨u0, 0, none⟩ = some (.slice sa.A sa.n sa.c) ∧ w'.cell? ⟨u1, 0, none⟩ = some (.slice sb.A sb.n sb.c)) 4 #[true, true, true, true, true, true, false, true, false, false, false] ⟨#[v0, v1, v2, v3, v4, v5, .bool false, .pointer (some ⟨u0, 0, none⟩), .pointer (some ⟨u1, 0, none⟩), .pointer (some ⟨u2, 0, none⟩), .pointer (some ⟨g0, 0, none⟩), undef, undef, undef, .bool true, .bool false, v16, v17, v18, v19, v20, v21, .agg #[.slice sa.A sa.n sa.c], .agg #[.slice sb.A sb.n sb.c], .slice (some ⟨q0, 0, none⟩) 2 2, .agg #[.slice s1.A s1.n s1.c], .agg #[.slice sa.A sa.n sa.c], .agg #[.slice sb.A sb.n sb.c], undef, undef, undef, undef, undef, undef, undef, undef, undef, undef, undef, undef, undef, undef, undef, undef, undef, undef, undef, undef, undef, undef, undef, undef, undef, undef, undef, undef, undef, undef, undef, undef, undef, undef, undef, undef, undef, undef, undef, undef, undef, undef, undef, undef, undef, undef, undef, undef, undef, undef, undef, undef, undef, undef, undef, undef, undef, undef, undef, undef, undef, undef, undef, undef, undef, undef, undef, undef, undef, undef, undef, undef, undef, undef, undef, undef, undef, undef, undef, undef, undef, undef, undef, undef, undef, undef, undef, undef, undef, undef, undef, undef, undef, undef, undef, undef, undef, undef, undef, undef, undef, undef, undef, undef, undef, undef, undef], []⟩ W := by
    intro W b q0 s1 g0 h0 h1 n0
    refine wpAnyH_ready (rs := [6, 8]) (by kernel_rfl) (by simp) ?_
    refine AllReadyH.cons (o := { dst := some 28, op := Op.call { callee := Callee.value (Operand.func 32), args := #[Operand.tmp 26, Operand.tmp 27], argTypes := #[24, 24] }, type := 24, pos := "outright.go:38", after := #[{ on := 4, ground := Ground.data }, { on := 5, ground := Ground.data }, { on := 3, ground := Ground.chain }], guard := none }) rfl (fun K hK => ?_) (AllReadyH.cons (o := { dst := some 11, op := Op.alloc 24, type := 0, pos := "outright.go:38", after := #[], guard := none }) rfl (fun K hK => ?_) (AllReadyH.nil))
    · go_simp
      refine (C2 W b).mono ?_
      rintro e W' ⟨s2, rfl, e2, o2, _, bb⟩
      have b' := b.trans (bb.mono b.size)
      refine hK.out _ _ (HS _ b') (fun _ => ?_)
      clear hK K
      try simp only [List.setIfInBounds_toArray, List.set_cons_zero, List.set_cons_succ]
      exact L3_0 _ b' q0 s1 s2 g0 (h0.on bb) ⟨h1.1, h1.2.on bb⟩ ⟨e2, o2⟩ (n0.on bb)
    · go_simp
      have b' := b.alloc b.size (.cells #[.slice none 0 0] 24)
      refine hK.out _ _ (HS _ b') (fun _ => ?_)
      clear hK K
      try simp only [List.setIfInBounds_toArray, List.set_cons_zero, List.set_cons_succ]
      exact L2_01 _ b' q0 s1 g0 W.heap.size (h0.on (one_more W _)) ⟨h1.1, h1.2.on (one_more W _)⟩ (n0.on (one_more W _)) (NewBox.new b) (n0.ne_new)
  have L2_1 : ∀ (W : World) (b : Below W0.heap.size W0 W) (q0 : Nat) (s1 : SV) (g1 : Nat) (h0 : RowAt W q0 [sa, sb]) (h1 : s1.ws = x1 ∧ s1.ok W W.heap.size) (n1 : NewBox W0 W g1), wpAnyH Tryd.prog .any parts_pairOps (NoPanic Q) (fun w' => w'.cell? ⟨u0, 0, none⟩ = some (.slice sa.A sa.n sa.c) ∧ w'.cell? ⟨u1, 0, none⟩ = some (.slice sb.A sb.n sb.c)) 4 #[true, true, true, true, true, true, false, false, true, false, false] ⟨#[v0, v1, v2, v3, v4, v5, .bool false, .pointer (some ⟨u0, 0, none⟩), .pointer (some ⟨u1, 0, none⟩), .pointer (some ⟨u2, 0, none⟩), undef, .pointer (some ⟨g1, 0, none⟩), undef, undef, .bool true, .bool false, v16, v17, v18, v19, v20, v21, .agg #[.slice sa.A sa.n sa.c], .agg #[.slice sb.A sb.n sb.c], .slice (some ⟨q0, 0, none⟩) 2 2, .agg #[.slice s1.A s1.n s1.c], .agg #[.slice sa.A sa.n sa.c], .agg #[.slice sb.A sb.n sb.c], undef, undef, undef, undef, undef, undef, undef, undef, undef, undef, undef, undef, undef, undef, undef, undef, undef, undef, undef, undef, undef, undef, undef, undef, undef, undef, undef, undef, undef, undef, undef, undef, undef, undef, undef, undef, undef, undef, undef, undef, undef, undef, undef, undef, undef, undef, undef, undef, undef, undef, undef, undef, undef, undef, undef, undef, undef, undef, undef, undef, undef, undef, undef, undef, undef, undef, undef, undef, undef, undef, undef, undef, undef, undef, undef, undef, undef, undef, undef, undef, undef, undef, undef, undef, undef, undef, undef, undef, undef, undef, undef, undef, undef, undef, undef, undef, undef, undef, undef, undef, undef, undef, undef, undef, undef, undef, undef], []⟩ W := by
    intro W b q0 s1 g1 h0 h1 n1
    refine wpAnyH_ready (rs := [6, 7]) (by kernel_rfl) (by simp) ?_
    refine AllReadyH.cons (o := { dst := some 28, op := Op.call { callee := Callee.value (Operand.func 32), args := #[Operand.tmp 26, Operand.tmp 27], argTypes := #[24, 24] }, type := 24, pos := "outright.go:38", after := #[{ on := 4, ground := Ground.data }, { on := 5, ground := Ground.data }, { on := 3, ground := Ground.chain }], guard := none }) rfl (fun K hK => ?_) (AllReadyH.cons (o := { dst := some 10, op := Op.alloc 24, type := 0, pos := "outright.go:38", after := #[], guard := none }) rfl (fun K hK => ?_) (AllReadyH.nil))
    · go_simp
      refine (C2 W b).mono ?_
      rintro e W' ⟨s2, rfl, e2, o2, _, bb⟩
      have b' := b.trans (bb.mono b.size)
      refine hK.out _ _ (HS _ b') (fun _ => ?_)
      clear hK K
      try simp only [List.setIfInBounds_toArray, List.set_cons_zero, List.set_cons_succ]
      exact L3_1 _ b' q0 s1 s2 g1 (h0.on bb) ⟨h1.1, h1.2.on bb⟩ ⟨e2, o2⟩ (n1.on bb)
    · go_simp
      have b' := b.alloc b.size (.cells #[.slice none 0 0] 24)
      refine hK.out _ _ (HS _ b') (fun _ => ?_)
      clear hK K
      try simp only [List.setIfInBounds_toArray, List.set_cons_zero, List.set_cons_succ]
      exact L2_01 _ b' q0 s1 W.heap.size g1 (h0.on (one_more W _)) ⟨h1.1, h1.2.on (one_more W _)⟩ (NewBox.new b) (n1.on (one_more W _)) (n1.ne_new')
  have L1_01 : ∀ (W : World) (b : Below W0.heap.size W0 W) (q0 : Nat) (g0 : Nat) (g1 : Nat) (h0 : RowAt W q0 [sa, sb]) (n0 : NewBox W0 W g0) (n1 : NewBox W0 W g1) (d01 : g0 ≠ g1), wpAnyH Tryd.prog .any parts_pairOps (NoPanic Q) (fun w' => w'.cell? ⟨u0, 0, none⟩ = some (.slice sa.A sa.n sa.c) ∧ w'.cell? ⟨u1, 0, none⟩ = some (.slice sb.A sb.n sb.c)) 4 #[true, true, true, false, true, true, false, true, true, false, false] ⟨#[v0, v1, v2, v3, v4, v5, .bool false, .pointer (some ⟨u0, 0, none⟩), .pointer (some ⟨u1, 0, none⟩), .pointer (some ⟨u2, 0, none⟩), .pointer (some ⟨g0, 0, none⟩), .pointer (some ⟨g1, 0, none⟩), undef, undef, .bool true, .bool false, v16, v17, v18, v19, v20, v21, .agg #[.slice sa.A sa.n sa.c], .agg #[.slice sb.A sb.n sb.c], .slice (some ⟨q0, 0, none⟩) 2 2, undef, .agg #[.slice sa.A sa.n sa.c], .agg #[.slice sb.A sb.n sb.c], undef, undef, undef, undef, undef, undef, undef, undef, undef, undef, undef, undef, undef, undef, undef, undef, undef, undef, undef, undef, undef, undef, undef, undef, undef, undef, undef, undef, undef, undef, undef, undef, undef, undef, undef, undef, undef, undef, undef, undef, undef, undef, undef, undef, undef, undef, undef, undef, undef, undef, undef, undef, undef, undef, undef, undef, undef, undef, undef, undef, undef, undef, undef, undef, undef, undef, undef, undef, undef, undef, undef, undef, undef, undef, undef, undef, undef, undef, undef, undef, undef, undef, undef, undef, undef, undef, undef, undef, undef, undef, undef, undef, undef, undef, undef, undef, undef, undef, undef, undef, undef, undef, undef, undef, undef, undef, undef], []⟩ W := by
    intro W b q0 g0 g1 h0 n0 n1 d01
    refine wpAnyH_ready (rs := [3]) (by kernel_rfl) (by simp) ?_
    refine AllReadyH.cons (o := { dst := some 25, op := Op.call { callee := Callee.value (Operand.func 31), args := #[Operand.tmp 24], argTypes := #[73] }, type := 24, pos := "outright.go:38", after := #[{ on := 2, ground := Ground.data }], guard := none }) rfl (fun K hK => ?_) (AllReadyH.nil)
    · go_simp
      refine (C1 W q0 b h0).mono ?_
      rintro e W' ⟨s1, rfl, e1, o1, _, bb⟩
      have b' := b.trans (bb.mono b.size)
      refine hK.out _ _ (HS _ b') (fun _ => ?_)
      clear hK K
      try simp only [List.setIfInBounds_toArray, List.set_cons_zero, List.set_cons_succ]
      exact L2_01 _ b' q0 s1 g0 g1 (h0.on bb) ⟨e1, o1⟩ (n0.on bb) (n1.on bb) d01
  have L2_ : ∀ (W : World) (b : Below W0.heap.size W0 W) (q0 : Nat) (s1 : SV) (h0 : RowAt W q0 [sa, sb]) (h1 : s1.ws = x1 ∧ s1.ok W W.heap.size), wpAnyH Tryd.prog .any parts_pairOps (NoPanic Q) (fun w' => w'.cell? ⟨u0, 0, none⟩ = some (.slice sa.A sa.n sa.c) ∧ w'.cell? ⟨u1, 0, none⟩ = some (.slice sb.A sb.n sb.c)) 5 #[true, true, true, true, true, true, false, false, false, false, false] ⟨#[v0, v1, v2, v3, v4, v5, .bool false, .pointer (some ⟨u0, 0, none⟩), .pointer (some ⟨u1, 0, none⟩), .pointer (some ⟨u2, 0, none⟩), undef, undef, undef, undef, .bool true, .bool false, v16, v17, v18, v19, v20, v21, .agg #[.slice sa.A sa.n sa.c], .agg #[.slice sb.A sb.n sb.c], .slice (some ⟨q0, 0, none⟩) 2 2, .agg #[.slice s1.A s1.n s1.c], .agg #[.slice sa.A sa.n sa.c], .agg #[.slice sb.A sb.n sb.c], undef, undef, undef, undef, undef, undef, undef, undef, undef, undef, undef, undef, undef, undef, undef, undef, undef, undef, undef, undef, undef, undef, undef, undef, undef, undef, undef, undef, undef, undef, undef, undef, undef, undef, undef, undef, undef, undef, undef, undef, undef, undef, undef, undef, undef, undef, undef, undef, undef, undef, undef, undef, undef, undef, undef, undef, undef, undef, undef, undef, undef, undef, undef, undef, undef, undef, undef, undef, undef, undef, undef, undef, undef, undef, undef, undef, undef, undef, undef, undef, undef, undef, undef, undef, undef, undef, undef, undef, undef, undef, undef, undef, undef, undef, undef, undef, undef, undef, undef, undef, undef, undef, undef, undef, undef, undef, undef], []⟩ W := by
    intro W b q0 s1 h0 h1
    refine wpAnyH_ready (rs := [6, 7, 8]) (by kernel_rfl) (by simp) ?_
    refine AllReadyH.cons (o := { dst := some 28, op := Op.call { callee := Callee.value (Operand.func 32), args := #[Operand.tmp 26, Operand.tmp 27], argTypes := #[24, 24] }, type := 24, pos := "outright.go:38", after := #[{ on := 4, ground := Ground.data }, { on := 5, ground := Ground.data }, { on := 3, ground := Ground.chain }], guard := none }) rfl (fun K hK => ?_) (AllReadyH.cons (o := { dst := some 10, op := Op.alloc 24, type := 0, pos := "outright.go:38", after := #[], guard := none }) rfl (fun K hK => ?_) (AllReadyH.cons (o := { dst := some 11, op := Op.alloc 24, type := 0, pos := "outright.go:38", after := #[], guard := none }) rfl (fun K hK => ?_) (AllReadyH.nil)))
    · go_simp
      refine (C2 W b).mono ?_
      rintro e W' ⟨s2, rfl, e2, o2, _, bb⟩
      have b' := b.trans (bb.mono b.size)
      refine hK.out _ _ (HS _ b') (fun _ => ?_)
      clear hK K
      try simp only [List.setIfInBounds_toArray, List.set_cons_zero, List.set_cons_succ]
      exact L3_ _ b' q0 s1 s2 (h0.on bb) ⟨h1.1, h1.2.on bb⟩ ⟨e2, o2⟩
    · go_simp
      have b' := b.alloc b.size (.cells #[.slice none 0 0] 24)
      refine hK.out _ _ (HS _ b') (fun _ => ?_)
      clear hK K
      try simp only [List.setIfInBounds_toArray, List.set_cons_zero, List.set_cons_succ]
      exact L2_0 _ b' q0 s1 W.heap.size (h0.on (one_more W _)) ⟨h1.1, h1.2.on (one_more W _)⟩ (NewBox.new b)
    · go_simp
      have b' := b.alloc b.size (.cells #[.slice none 0 0] 24)
      refine hK.out _ _ (HS _ b') (fun _ => ?_)
      clear hK K
      try simp only [List.setIfInBounds_toArray, List.set_cons_zero, List.set_cons_succ]
      exact L2_1 _ b' q0 s1 W.heap.size (h0.on (one_more W _)) ⟨h1.1, h1.2.on (one_more W _)⟩ (NewBox.new b)
  have L1_0 : ∀ (W : World) (b : Below W0.heap.size W0 W) (q0 : Nat) (g0 : Nat) (h0 : RowAt W q0 [sa, sb]) (n0 : NewBox W0 W g0), wpAnyH Tryd.prog .any parts_pairOps (NoPanic Q) (fun w' => w'.cell? ⟨u0, 0, none⟩ = some (.slice sa.A sa.n sa.c) ∧ w'.cell? ⟨u1, 0, none⟩ = some (.slice sb.A sb.n sb.c)) 5 #[true, true, true, false, true, true, false, true, false, false, false] ⟨#[v0, v1, v2, v3, v4, v5, .bool false, .pointer (some ⟨u0, 0, none⟩), .pointer (some ⟨u1, 0, none⟩), .pointer (some ⟨u2, 0, none⟩), .pointer (some ⟨g0, 0, none⟩), undef, undef, undef, .bool true, .bool false, v16, v17, v18, v19, v20, v21, .agg #[.slice sa.A sa.n sa.c], .agg #[.slice sb.A sb.n sb.c], .slice (some ⟨q0, 0, none⟩) 2 2, undef, .agg #[.slice sa.A sa.n sa.c], .agg #[.slice sb.A sb.n sb.c], undef, undef, undef, undef, undef, undef, undef, undef, undef, undef, undef, undef, undef, undef, undef, undef, undef, undef, undef, undef, undef, undef, undef, undef, undef, undef, undef, undef, undef, undef, undef, undef, undef, undef, undef, undef, undef, undef, undef, undef, undef, undef, undef, undef, undef, undef, undef, undef, undef, undef, undef, undef, undef, undef, undef, undef, undef, undef, undef, undef, undef, undef, undef, undef, undef, undef, undef, undef, undef, undef, undef, undef, undef, undef, undef, undef, undef, undef, undef, undef, undef, undef, undef, undef, undef, undef, undef, undef, undef, undef, undef, undef, undef, undef, undef, undef, undef, undef, undef, undef, undef, undef, undef, undef, undef, undef, undef], []⟩ W := by
    intro W b q0 g0 h0 n0
    refine wpAnyH_ready (rs := [3, 8]) (by kernel_rfl) (by simp) ?_
    refine AllReadyH.cons (o := { dst := some 25, op := Op.call { callee := Callee.value (Operand.func 31), args := #[Operand.tmp 24], argTypes := #[73] }, type := 24, pos := "outright.go:38", after := #[{ on := 2, ground := Ground.data }], guard := none }) rfl (fun K hK => ?_) (AllReadyH.cons (o := { dst := some 11, op := Op.alloc 24, type := 0, pos := "outright.go:38", after := #[], guard := none }) rfl (fun K hK => ?_) (AllReadyH.nil))
    · go_simp
      refine (C1 W q0 b h0).mono ?_
      rintro e W' ⟨s1, rfl, e1, o1, _, bb⟩
      have b' := b.trans (bb.mono b.size)
      refine hK.out _ _ (HS _ b') (fun _ => ?_)
      clear hK K
      try simp only [List.setIfInBounds_toArray, List.set_cons_zero, List.set_cons_succ]
      exact L2_0 _ b' q0 s1 g0 (h0.on bb) ⟨e1, o1⟩ (n0.on bb)
    · go_simp
      have b' := b.alloc b.size (.cells #[.slice none 0 0] 24)
      refine hK.out _ _ (HS _ b') (fun _ => ?_)
      clear hK K
      try simp only [List.setIfInBounds_toArray, List.set_cons_zero, List.set_cons_succ]
      exact L1_01 _ b' q0 g0 W.heap.size (h0.on (one_more W _)) (n0.on (one_more W _)) (NewBox.new b) (n0.ne_new)
  have L1_1 : ∀ (W : World) (b : Below W0.heap.size W0 W) (q0 : Nat) (g1 : Nat) (h0 : RowAt W q0 [sa, sb]) (n1 : NewBox W0 W g1), wpAnyH Tryd.prog .any parts_pairOps (NoPanic Q) (fun w' => w'.cell? ⟨u0, 0, none⟩ = some (.slice sa.A sa.n sa.c) ∧ w'.cell? ⟨u1, 0, none⟩ = some (.slice sb.A sb.n sb.c)) 5 #[true, true, true, false, true, true, false, false, true, false, false] ⟨#[v0, v1, v2, v3, v4, v5, .bool false, .pointer (some ⟨u0, 0, none⟩), .pointer (some ⟨u1, 0, none⟩), .pointer (some ⟨u2, 0, none⟩), undef, .pointer (some ⟨g1, 0, none⟩), undef, undef, .bool true, .bool false, v16, v17, v18, v19, v20, v21, .agg #[.slice sa.A sa.n sa.c], .agg #[.slice sb.A sb.n sb.c], .slice (some ⟨q0, 0, none⟩) 2 2, undef, .agg #[.slice sa.A sa.n sa.c], .agg #[.slice sb.A sb.n sb.c], undef, undef, undef, undef, undef, undef, undef, undef, undef, undef, undef, undef, undef, undef, undef, undef, undef, undef, undef, undef, undef, undef, undef, undef, undef, undef, undef, undef, undef, undef, undef, undef, undef, undef, undef, undef, undef, undef, undef, undef, undef, undef, undef, undef, undef, undef, undef, undef, undef, undef, undef, undef, undef, undef, undef, undef, undef, undef, undef, undef, undef, undef, undef, undef, undef, undef, undef, undef, undef, undef, undef, undef, undef, undef, undef, undef, undef, undef, undef, undef, undef, undef, undef, undef, undef, undef, undef, undef, undef, undef, undef, undef, undef, undef, undef, undef, undef, undef, undef, undef, undef, undef, undef, undef, undef, undef, undef], []⟩ W := by
    intro W b q0 g1 h0 n1
    refine wpAnyH_ready (rs := [3, 7]) (by kernel_rfl) (by simp) ?_
    refine AllReadyH.cons (o := { dst := some 25, op := Op.call { callee := Callee.value (Operand.func 31), args := #[Operand.tmp 24], argTypes := #[73] }, type := 24, pos := "outright.go:38", after := #[{ on := 2, ground := Ground.data }], guard := none }) rfl (fun K hK => ?_) (AllReadyH.cons (o := { dst := some 10, op := Op.alloc 24, type := 0, pos := "outright.go:38", after := #[], guard := none }) rfl (fun K hK => ?_) (AllReadyH.nil))
    · go_simp
      refine (C1 W q0 b h0).mono ?_
      rintro e W' ⟨s1, rfl, e1, o1, _, bb⟩
      have b' := b.trans (bb.mono b.size)
      refine hK.out _ _ (HS _ b') (fun _ => ?_)
      clear hK K
      try simp only [List.setIfInBounds_toArray, List.set_cons_zero, List.set_cons_succ]
      exact L2_1 _ b' q0 s1 g1 (h0.on bb) ⟨e1, o1⟩ (n1.on bb)
    · go_simp
      have b' := b.alloc b.size (.cells #[.slice none 0 0] 24)
      refine hK.out _ _ (HS _ b') (fun _ => ?_)
      clear hK K
      try simp only [List.setIfInBounds_toArray, List.set_cons_zero, List.set_cons_succ]
      exact L1_01 _ b' q0 W.heap.size g1 (h0.on (one_more W _)) (NewBox.new b) (n1.on (one_more W _)) (n1.ne_new')
  have L0_01 : ∀ (W : World) (b : Below W0.heap.size W0 W) (g0 : Nat) (g1 : Nat) (n0 : NewBox W0 W g0) (n1 : NewBox W0 W g1) (d01 : g0 ≠ g1), wpAnyH Tryd.prog .any parts_pairOps (NoPanic Q) (fun w' => w'.cell? ⟨u0, 0, none⟩ = some (.slice sa.A sa.n sa.c) ∧ w'.cell? ⟨u1, 0, none⟩ = some (.slice sb.A sb.n sb.c)) 5 #[true, true, false, false, true, true, false, true, true, false, false] ⟨#[v0, v1, v2, v3, v4, v5, .bool false, .pointer (some ⟨u0, 0, none⟩), .pointer (some ⟨u1, 0, none⟩), .pointer (some ⟨u2, 0, none⟩), .pointer (some ⟨g0, 0, none⟩), .pointer (some ⟨g1, 0, none⟩), undef, undef, .bool true, .bool false, v16, v17, v18, v19, v20, v21, .agg #[.slice sa.A sa.n sa.c], .agg #[.slice sb.A sb.n sb.c], undef, undef, .agg #[.slice sa.A sa.n sa.c], .agg #[.slice sb.A sb.n sb.c], undef, undef, undef, undef, undef, undef, undef, undef, undef, undef, undef, undef, undef, undef, undef, undef, undef, undef, undef, undef, undef, undef, undef, undef, undef, undef, undef, undef, undef, undef, undef, undef, undef, undef, undef, undef, undef, undef, undef, undef, undef, undef, undef, undef, undef, undef, undef, undef, undef, undef, undef, undef, undef, undef, undef, undef, undef, undef, undef, undef, undef, undef, undef, undef, undef, undef, undef, undef, undef, undef, undef, undef, undef, undef, undef, undef, undef, undef, undef, undef, undef, undef, undef, undef, undef, undef, undef, undef, undef, undef, undef, undef, undef, undef, undef, undef, undef, undef, undef, undef, undef, undef, undef, undef, undef, undef, undef], []⟩ W := by
    intro W b  g0 g1 n0 n1 d01
    refine wpAnyH_ready (rs := [2]) (by kernel_rfl) (by simp) ?_
    refine AllReadyH.cons (o := { dst := some 24, op := Op.buildSlice 73 2 #[(0, Operand.tmp 22), (1, Operand.tmp 23)], type := 73, pos := "outright.go:38", after := #[{ on := 0, ground := Ground.data }, { on := 1, ground := Ground.data }], guard := none }) rfl (fun K hK => ?_) (AllReadyH.nil)
    · go_simp
      have b' := b.alloc b.size (.cells #[.slice sa.A sa.n sa.c, .slice sb.A sb.n sb.c] 24)
      refine hK.out _ _ (HS _ b') (fun _ => ?_)
      clear hK K
      try simp only [List.setIfInBounds_toArray, List.set_cons_zero, List.set_cons_succ]
      exact L1_01 _ b' W.heap.size g0 g1 (RowAt.new W [sa, sb]) (n0.on (one_more W _)) (n1.on (one_more W _)) d01
  have L1_ : ∀ (W : World) (b : Below W0.heap.size W0 W) (q0 : Nat) (h0 : RowAt W q0 [sa, sb]), wpAnyH Tryd.prog .any parts_pairOps (NoPanic Q) (fun w' => w'.cell? ⟨u0, 0, none⟩ = some (.slice sa.A sa.n sa.c) ∧ w'.cell? ⟨u1, 0, none⟩ = some (.slice sb.A sb.n sb.c)) 6 #[true, true, true, false, true, true, false, false, false, false, false] ⟨#[v0, v1, v2, v3, v4, v5, .bool false, .pointer (some ⟨u0, 0, none⟩), .pointer (some ⟨u1, 0, none⟩), .pointer (some ⟨u2, 0, none⟩), undef, undef, undef, undef, .bool true, .bool false, v16, v17, v18, v19, v20, v21, .agg #[.slice sa.A sa.n sa.c], .agg #[.slice sb.A sb.n sb.c], .slice (some ⟨q0, 0, none⟩) 2 2, undef, .agg #[.slice sa.A sa.n sa.c], .agg #[.slice sb.A sb.n sb.c], undef, undef, undef, undef, undef, undef, undef, undef, undef, undef, undef, undef, undef, undef, undef, undef, undef, undef, undef, undef, undef, undef, undef, undef, undef, undef, undef, undef, undef, undef, undef, undef, undef, undef, undef, undef, undef, undef, undef, undef, undef, undef, undef, undef, undef, undef, undef, undef, undef, undef, undef, undef, undef, undef, undef, undef, undef, undef, undef, undef, undef, undef, undef, undef, undef, undef, undef, undef, undef, undef, undef, undef, undef, undef, undef, undef, undef, undef, undef, undef, undef, undef, undef, undef, undef, undef, undef, undef, undef, undef, undef, undef, undef, undef, undef, undef, undef, undef, undef, undef, undef, undef, undef, undef, undef, undef, undef], []⟩ W := by
    intro W b q0 h0
    refine wpAnyH_ready (rs := [3, 7, 8]) (by kernel_rfl) (by simp) ?_
    refine AllReadyH.cons (o := { dst := some 25, op := Op.call { callee := Callee.value (Operand.func 31), args := #[Operand.tmp 24], argTypes := #[73] }, type := 24, pos := "outright.go:38", after := #[{ on := 2, ground := Ground.data }], guard := none }) rfl (fun K hK => ?_) (AllReadyH.cons (o := { dst := some 10, op := Op.alloc 24, type := 0, pos := "outright.go:38", after := #[], guard := none }) rfl (fun K hK => ?_) (AllReadyH.cons (o := { dst := some 11, op := Op.alloc 24, type := 0, pos := "outright.go:38", after := #[], guard := none }) rfl (fun K hK => ?_) (AllReadyH.nil)))
    · go_simp
      refine (C1 W q0 b h0).mono ?_
      rintro e W' ⟨s1, rfl, e1, o1, _, bb⟩
      have b' := b.trans (bb.mono b.size)
      refine hK.out _ _ (HS _ b') (fun _ => ?_)
      clear hK K
      try simp only [List.setIfInBounds_toArray, List.set_cons_zero, List.set_cons_succ]
      exact L2_ _ b' q0 s1 (h0.on bb) ⟨e1, o1⟩
    · go_simp
      have b' := b.alloc b.size (.cells #[.slice none 0 0] 24)
      refine hK.out _ _ (HS _ b') (fun _ => ?_)
      clear hK K
      try simp only [List.setIfInBounds_toArray, List.set_cons_zero, List.set_cons_succ]
      exact L1_0 _ b' q0 W.heap.size (h0.on (one_more W _)) (NewBox.new b)
    · go_simp
      have b' := b.alloc b.size (.cells #[.slice none 0 0] 24)
      refine hK.out _ _ (HS _ b') (fun _ => ?_)
      clear hK K
      try simp only [List.setIfInBounds_toArray, List.set_cons_zero, List.set_cons_succ]
      exact L1_1 _ b' q0 W.heap.size (h0.on (one_more W _)) (NewBox.new b)
  have L0_0 : ∀ (W : World) (b : Below W0.heap.size W0 W) (g0 : Nat) (n0 : NewBox W0 W g0), wpAnyH Tryd.prog .any parts_pairOps (NoPanic Q) (fun w' => w'.cell? ⟨u0, 0, none⟩ = some (.slice sa.A sa.n sa.c) ∧ w'.cell? ⟨u1, 0, none⟩ = some (.slice sb.A sb.n sb.c)) 6 #[true, true, false, false, true, true, false, true, false, false, false] ⟨#[v0, v1, v2, v3, v4, v5, .bool false, .pointer (some ⟨u0, 0, none⟩), .pointer (some ⟨u1, 0, none⟩), .pointer (some ⟨u2, 0, none⟩), .pointer (some ⟨g0, 0, none⟩), undef, undef, undef, .bool true, .bool false, v16, v17, v18, v19, v20, v21, .agg #[.slice sa.A sa.n sa.c], .agg #[.slice sb.A sb.n sb.c], undef, undef, .agg #[.slice sa.A sa.n sa.c], .agg #[.slice sb.A sb.n sb.c], undef, undef, undef, undef, undef, undef, undef, undef, undef, undef, undef, undef, undef, undef, undef, undef, undef, undef, undef, undef, undef, undef, undef, undef, undef, undef, undef, undef, undef, undef, undef, undef, undef, undef, undef, undef, undef, undef, undef, undef, undef, undef, undef, undef, undef, undef, undef, undef, undef, undef, undef, undef, undef, undef, undef, undef, undef, undef, undef, undef, undef, undef, undef, undef, undef, undef, undef, undef, undef, undef, undef, undef, undef, undef, undef, undef, undef, undef, undef, undef, undef, undef, undef, undef, undef, undef, undef, undef, undef, undef, undef, undef, undef, undef, undef, undef, undef, undef, undef, undef, undef, undef, undef, undef, undef, undef, undef], []⟩ W := by
    intro W b  g0 n0
    refine wpAnyH_ready (rs := [2, 8]) (by kernel_rfl) (by simp) ?_
    refine AllReadyH.cons (o := { dst := some 24, op := Op.buildSlice 73 2 #[(0, Operand.tmp 22), (1, Operand.tmp 23)], type := 73, pos := "outright.go:38", after := #[{ on := 0, ground := Ground.data }, { on := 1, ground := Ground.data }], guard := none }) rfl (fun K hK => ?_) (AllReadyH.cons (o := { dst := some 11, op := Op.alloc 24, type := 0, pos := "outright.go:38", after := #[], guard := none }) rfl (fun K hK => ?_) (AllReadyH.nil))
    · go_simp
      have b' := b.alloc b.size (.cells #[.slice sa.A sa.n sa.c, .slice sb.A sb.n sb.c] 24)
      refine hK.out _ _ (HS _ b') (fun _ => ?_)
      clear hK K
      try simp only [List.setIfInBounds_toArray, List.set_cons_zero, List.set_cons_succ]
      exact L1_0 _ b' W.heap.size g0 (RowAt.new W [sa, sb]) (n0.on (one_more W _))
    · go_simp
      have b' := b.alloc b.size (.cells #[.slice none 0 0] 24)
      refine hK.out _ _ (HS _ b') (fun _ => ?_)
      clear hK K
      try simp only [List.setIfInBounds_toArray, List.set_cons_zero, List.set_cons_succ]
      exact L0_01 _ b' g0 W.heap.size (n0.on (one_more W _)) (NewBox.new b) (n0.ne_new)
  have L0_1 : ∀ (W : World) (b : Below W0.heap.size W0 W) (g1 : Nat) (n1 : NewBox W0 W g1), wpAnyH Tryd.prog .any parts_pairOps (NoPanic Q) (fun w' => w'.cell? ⟨u0, 0, none⟩ = some (.slice sa.A sa.n sa.c) ∧ w'.cell? ⟨u1, 0, none⟩ = some (.slice sb.A sb.n sb.c)) 6 #[true, true, false, false, true, true, false, false, true, false, false] ⟨#[v0, v1, v2, v3, v4, v5, .bool false, .pointer (some ⟨u0, 0, none⟩), .pointer (some ⟨u1, 0, none⟩), .pointer (some ⟨u2, 0, none⟩), undef, .pointer (some ⟨g1, 0, none⟩), undef, undef, .bool true, .bool false, v16, v17, v18, v19, v20, v21, .agg #[.slice sa.A sa.n sa.c], .agg #[.slice sb.A sb.n sb.c], undef, undef, .agg #[.slice sa.A sa.n sa.c], .agg #[.slice sb.A sb.n sb.c], undef, undef, undef, undef, undef, undef, undef, undef, undef, undef, undef, undef, undef, undef, undef, undef, undef, undef, undef, undef, undef, undef, undef, undef, undef, undef, undef, undef, undef, undef, undef, undef, undef, undef, undef, undef, undef, undef, undef, undef, undef, undef, undef, undef, undef, undef, undef, undef, undef, undef, undef, undef, undef, undef, undef, undef, undef, undef, undef, undef, undef, undef, undef, undef, undef, undef, undef, undef, undef, undef, undef, undef, undef, undef, undef, undef, undef, undef, undef, undef, undef, undef, undef, undef, undef, undef, undef, undef, undef, undef, undef, undef, undef, undef, undef, undef, undef, undef, undef, undef, undef, undef, undef, undef, undef, undef, undef], []⟩ W := by
    intro W b  g1 n1
    refine wpAnyH_ready (rs := [2, 7]) (by kernel_rfl) (by simp) ?_
    refine AllReadyH.cons (o := { dst := some 24, op := Op.buildSlice 73 2 #[(0, Operand.tmp 22), (1, Operand.tmp 23)], type := 73, pos := "outright.go:38", after := #[{ on := 0, ground := Ground.data }, { on := 1, ground := Ground.data }], guard := none }) rfl (fun K hK => ?_) (AllReadyH.cons (o := { dst := some 10, op := Op.alloc 24, type := 0, pos := "outright.go:38", after := #[], guard := none }) rfl (fun K hK => ?_) (AllReadyH.nil))
    · go_simp
      have b' := b.alloc b.size (.cells #[.slice sa.A sa.n sa.c, .slice sb.A sb.n sb.c] 24)
      refine hK.out _ _ (HS _ b') (fun _ => ?_)
      clear hK K
      try simp only [List.setIfInBounds_toArray, List.set_cons_zero, List.set_cons_succ]
      exact L1_1 _ b' W.heap.size g1 (RowAt.new W [sa, sb]) (n1.on (one_more W _))
    · go_simp
      have b' := b.alloc b.size (.cells #[.slice none 0 0] 24)
      refine hK.out _ _ (HS _ b') (fun _ => ?_)
      clear hK K
      try simp only [List.setIfInBounds_toArray, List.set_cons_zero, List.set_cons_succ]
      exact L0_01 _ b' W.heap.size g1 (NewBox.new b) (n1.on (one_more W _)) (n1.ne_new')
  have L0_ : ∀ (W : World) (b : Below W0.heap.size W0 W)  , wpAnyH Tryd.prog .any parts_pairOps (NoPanic Q) (fun w' => w'.cell? ⟨u0, 0, none⟩ = some (.slice sa.A sa.n sa.c) ∧ w'.cell? ⟨u1, 0, none⟩ = some (.slice sb.A sb.n sb.c)) 7 #[true, true, false, false, true, true, false, false, false, false, false] ⟨#[v0, v1, v2, v3, v4, v5, .bool false, .pointer (some ⟨u0, 0, none⟩), .pointer (some ⟨u1, 0, none⟩), .pointer (some ⟨u2, 0, none⟩), undef, undef, undef, undef, .bool true, .bool false, v16, v17, v18, v19, v20, v21, .agg #[.slice sa.A sa.n sa.c], .agg #[.slice sb.A sb.n sb.c], undef, undef, .agg #[.slice sa.A sa.n sa.c], .agg #[.slice sb.A sb.n sb.c], undef, undef, undef, undef, undef, undef, undef, undef, undef, undef, undef, undef, undef, undef, undef, undef, undef, undef, undef, undef, undef, undef, undef, undef, undef, undef, undef, undef, undef, undef, undef, undef, undef, undef, undef, undef, undef, undef, undef, undef, undef, undef, undef, undef, undef, undef, undef, undef, undef, undef, undef, undef, undef, undef, undef, undef, undef, undef, undef, undef, undef, undef, undef, undef, undef, undef, undef, undef, undef, undef, undef, undef, undef, undef, undef, undef, undef, undef, undef, undef, undef, undef, undef, undef, undef, undef, undef, undef, undef, undef, undef, undef, undef, undef, undef, undef, undef, undef, undef, undef, undef, undef, undef, undef, undef, undef, undef], []⟩ W := by
    intro W b  
    refine wpAnyH_ready (rs := [2, 7, 8]) (by kernel_rfl) (by simp) ?_
    refine AllReadyH.cons (o := { dst := some 24, op := Op.buildSlice 73 2 #[(0, Operand.tmp 22), (1, Operand.tmp 23)], type := 73, pos := "outright.go:38", after := #[{ on := 0, ground := Ground.data }, { on := 1, ground := Ground.data }], guard := none }) rfl (fun K hK => ?_) (AllReadyH.cons (o := { dst := some 10, op := Op.alloc 24, type := 0, pos := "outright.go:38", after := #[], guard := none }) rfl (fun K hK => ?_) (AllReadyH.cons (o := { dst := some 11, op := Op.alloc 24, type := 0, pos := "outright.go:38", after := #[], guard := none }) rfl (fun K hK => ?_) (AllReadyH.nil)))
    · go_simp
      have b' := b.alloc b.size (.cells #[.slice sa.A sa.n sa.c, .slice sb.A sb.n sb.c] 24)
      refine hK.out _ _ (HS _ b') (fun _ => ?_)
      clear hK K
      try simp only [List.setIfInBounds_toArray, List.set_cons_zero, List.set_cons_succ]
      exact L1_ _ b' W.heap.size (RowAt.new W [sa, sb])
    · go_simp
      have b' := b.alloc b.size (.cells #[.slice none 0 0] 24)
      refine hK.out _ _ (HS _ b') (fun _ => ?_)
      clear hK K
      try simp only [List.setIfInBounds_toArray, List.set_cons_zero, List.set_cons_succ]
      exact L0_0 _ b' W.heap.size (NewBox.new b)
    · go_simp
      have b' := b.alloc b.size (.cells #[.slice none 0 0] 24)
      refine hK.out _ _ (HS _ b') (fun _ => ?_)
      clear hK K
      try simp only [List.setIfInBounds_toArray, List.set_cons_zero, List.set_cons_succ]
      exact L0_1 _ b' W.heap.size (NewBox.new b)
  have bd : Below W0.heap.size W0 W0.drew := below_drew' (Below.refl _ _)
  refine wp_region_noPanic ?_
  refine wp_region_held_drew (S := fun w' => w'.cell? ⟨u0, 0, none⟩ = some (.slice sa.A sa.n sa.c) ∧ w'.cell? ⟨u1, 0, none⟩ = some (.slice sb.A sb.n sb.c)) (by kernel_rfl) (HS _ bd) (fun hHeld => ?_)
  refine wpAnyH_take (i := 0) (oi := { dst := some 22, op := Op.load 24 (Operand.tmp 7), type := 24, pos := "outright.go:38", after := #[], guard := none }) (v := .agg #[.slice sa.A sa.n sa.c]) rfl (by kernel_rfl) (by kernel_rfl) (by kernel_rfl) (fun _ _ _ h => h) (Or.inl ⟨by kernel_rfl, fun w' hSw => by (try dsimp only at hSw); go_simp⟩) (by assumption) ?_
  try simp only [Act.put, List.setIfInBounds_toArray, List.set_cons_zero, List.set_cons_succ]
  refine wpAnyH_take (i := 1) (oi := { dst := some 23, op := Op.load 24 (Operand.tmp 8), type := 24, pos := "outright.go:38", after := #[], guard := none }) (v := .agg #[.slice sb.A sb.n sb.c]) rfl (by kernel_rfl) (by kernel_rfl) (by kernel_rfl) (fun _ _ _ h => h) (Or.inl ⟨by kernel_rfl, fun w' hSw => by (try dsimp only at hSw); go_simp⟩) (by assumption) ?_
  try simp only [Act.put, List.setIfInBounds_toArray, List.set_cons_zero, List.set_cons_succ]
  refine wpAnyH_take (i := 4) (oi := { dst := some 26, op := Op.load 24 (Operand.tmp 7), type := 24, pos := "outright.go:38", after := #[], guard := none }) (v := .agg #[.slice sa.A sa.n sa.c]) rfl (by kernel_rfl) (by kernel_rfl) (by kernel_rfl) (fun _ _ _ h => h) (Or.inl ⟨by kernel_rfl, fun w' hSw => by (try dsimp only at hSw); go_simp⟩) (by assumption) ?_
  try simp only [Act.put, List.setIfInBounds_toArray, List.set_cons_zero, List.set_cons_succ]
  refine wpAnyH_take (i := 5) (oi := { dst := some 27, op := Op.load 24 (Operand.tmp 8), type := 24, pos := "outright.go:38", after := #[], guard := none }) (v := .agg #[.slice sb.A sb.n sb.c]) rfl (by kernel_rfl) (by kernel_rfl) (by kernel_rfl) (fun _ _ _ h => h) (Or.inl ⟨by kernel_rfl, fun w' hSw => by (try dsimp only at hSw); go_simp⟩) (by assumption) ?_
  try simp only [Act.put, List.setIfInBounds_toArray, List.set_cons_zero, List.set_cons_succ]
  exact L0_ W0.drew bd
/-- The operations of the region. -/
noncomputable def parts_restOps : Array Oper := #[{ dst := some 29, op := Op.load 24 (Operand.tmp 7), type := 24, pos := "outright.go:39", after := #[], guard := none }, { dst := some 30, op := Op.load 24 (Operand.tmp 8), type := 24, pos := "outright.go:39", after := #[], guard := none }, { dst := some 31, op := Op.call { callee := Callee.value (Operand.func 33), args := #[Operand.tmp 29, Operand.tmp 30], argTypes := #[24, 24] }, type := 24, pos := "outright.go:39", after := #[{ on := 0, ground := Ground.data }, { on := 1, ground := Ground.data }], guard := none }, { dst := some 32, op := Op.load 24 (Operand.tmp 8), type := 24, pos := "outright.go:39", after := #[], guard := none }, { dst := some 33, op := Op.load 24 (Operand.tmp 7), type := 24, pos := "outright.go:39", after := #[], guard := none }, { dst := some 34, op := Op.call { callee := Callee.value (Operand.func 33), args := #[Operand.tmp 32, Operand.tmp 33], argTypes := #[24, 24] }, type := 24, pos := "outright.go:39", after := #[{ on := 3, ground := Ground.data }, { on := 4, ground := Ground.data }, { on := 2, ground := Ground.chain }], guard := none }, { dst := some 12, op := Op.alloc 24, type := 0, pos := "outright.go:39", after := #[], guard := none }, { dst := some 13, op := Op.alloc 24, type := 0, pos := "outright.go:39", after := #[], guard := none }, { dst := none, op := Op.store 24 (Operand.tmp 12) (Operand.tmp 31), type := 0, pos := "outright.go:39", after := #[{ on := 6, ground := Ground.data }, { on := 2, ground := Ground.data }, { on := 5, ground := Ground.chain }, { on := 0, ground := Ground.phase }, { on := 1, ground := Ground.phase }, { on := 2, ground := Ground.phase }, { on := 3, ground := Ground.textOnly Departure.lateStores }, { on := 4, ground := Ground.textOnly Departure.lateStores }, { on := 5, ground := Ground.textOnly Departure.lateStoresUnsure }, { on := 6, ground := Ground.phase }, { on := 7, ground := Ground.phase }], guard := none }, { dst := none, op := Op.store 24 (Operand.tmp 13) (Operand.tmp 34), type := 0, pos := "outright.go:39", after := #[{ on := 7, ground := Ground.data }, { on := 5, ground := Ground.data }, { on := 8, ground := Ground.chain }, { on := 0, ground := Ground.phase }, { on := 1, ground := Ground.phase }, { on := 2, ground := Ground.phase }, { on := 3, ground := Ground.phase }, { on := 4, ground := Ground.phase }, { on := 5, ground := Ground.phase }, { on := 6, ground := Ground.phase }, { on := 7, ground := Ground.phase }, { on := 8, ground := Ground.phase }], guard := none }]
set_option maxRecDepth 100000 in
set_option maxHeartbeats 8000000 in
theorem parts_rest (Q : Exit → Act → World → Prop) (W0 : World) (v0 v1 v2 v3 v4 v5 v16 v17 v18 v19 v20 v21 v22 v23 v24 v25 v26 v27 v28 : Value) (u0 u1 u2 u3 u4 : Nat) (sa sb : SV) (x1 x2 : List Nat) (HS : ∀ W, Below W0.heap.size W0 W → (fun w' => w'.cell? ⟨u0, 0, none⟩ = some (.slice sa.A sa.n sa.c) ∧ w'.cell? ⟨u1, 0, none⟩ = some (.slice sb.A sb.n sb.c)) W) (C1 : ∀ W, Below W0.heap.size W0 W → Calls Tryd.prog 33 #[.agg #[.slice sa.A sa.n sa.c], .agg #[.slice sb.A sb.n sb.c]] W (GotSet x1 W)) (C2 : ∀ W, Below W0.heap.size W0 W → Calls Tryd.prog 33 #[.agg #[.slice sb.A sb.n sb.c], .agg #[.slice sa.A sa.n sa.c]] W (GotSet x2 W)) 
    (hQ : ∀ (W : World) (s0 s1 : SV) (g0 g1 : Nat), Below W0.heap.size W0 W → (s0.ws = x1) → (s1.ws = x2) → InBox W0 W g0 s0 → InBox W0 W g1 s1 → Q .normal ⟨#[v0, v1, v2, v3, v4, v5, .bool false, .pointer (some ⟨u0, 0, none⟩), .pointer (some ⟨u1, 0, none⟩), .pointer (some ⟨u2, 0, none⟩), .pointer (some ⟨u3, 0, none⟩), .pointer (some ⟨u4, 0, none⟩), .pointer (some ⟨g0, 0, none⟩), .pointer (some ⟨g1, 0, none⟩), .bool true, .bool false, v16, v17, v18, v19, v20, v21, v22, v23, v24, v25, v26, v27, v28, .agg #[.slice sa.A sa.n sa.c], .agg #[.slice sb.A sb.n sb.c], .agg #[.slice s0.A s0.n s0.c], .agg #[.slice sb.A sb.n sb.c], .agg #[.slice sa.A sa.n sa.c], .agg #[.slice s1.A s1.n s1.c], undef, undef, undef, undef, undef, undef, undef, undef, undef, undef, undef, undef, undef, undef, undef, undef, undef, undef, undef, undef, undef, undef, undef, undef, undef, undef, undef, undef, undef, undef, undef, undef, undef, undef, undef, undef, undef, undef, undef, undef, undef, undef, undef, undef, undef, undef, undef, undef, undef, undef, undef, undef, undef, undef, undef, undef, undef, undef, undef, undef, undef, undef, undef, undef, undef, undef, undef, undef, undef, undef, undef, undef, undef, undef, undef, undef, undef, undef, undef, undef, undef, undef, undef, undef, undef, undef, undef, undef, undef, undef, undef, undef, undef, undef, undef, undef, undef, undef, undef, undef], []⟩ W) : (Code.region 5 parts_restOps true).wp Tryd.prog Q ⟨#[v0, v1, v2, v3, v4, v5, .bool false, .pointer (some ⟨u0, 0, none⟩), .pointer (some ⟨u1, 0, none⟩), .pointer (some ⟨u2, 0, none⟩), .pointer (some ⟨u3, 0, none⟩), .pointer (some ⟨u4, 0, none⟩), undef, undef, .bool true, .bool false, v16, v17, v18, v19, v20, v21, v22, v23, v24, v25, v26, v27, v28, undef, undef, undef, undef, undef, undef, undef, undef, undef, undef, undef, undef, undef, undef, undef, undef, undef, undef, undef, undef, undef, undef, undef, undef, undef, undef, undef, undef, undef, undef, undef, undef, undef, undef, undef, undef, undef, undef, undef, undef, undef, undef, undef, undef, undef, undef, undef, undef, undef, undef, undef, undef, undef, undef, undef, undef, undef, undef, undef, undef, undef, undef, undef, undef, undef, undef, undef, undef, undef, undef, undef, undef, undef, undef, undef, undef, undef, undef, undef, undef, undef, undef, undef, undef, undef, undef, undef, undef, undef, undef, undef, undef, undef, undef, undef, undef, undef, undef, undef, undef, undef, undef, undef, undef, undef, undef], []⟩ W0 := by
  have L2_01 : ∀ (W : World) (b : Below W0.heap.size W0 W) (s0 : SV) (s1 : SV) (g0 : Nat) (g1 : Nat) (h0 : s0.ws = x1 ∧ s0.ok W W.heap.size) (h1 : s1.ws = x2 ∧ s1.ok W W.heap.size) (n0 : NewBox W0 W g0) (n1 : NewBox W0 W g1) (d01 : g0 ≠ g1), wpAnyH Tryd.prog .any parts_restOps (NoPanic Q) (fun w' => w'.cell? ⟨u0, 0, none⟩ = some (.slice sa.A sa.n sa.c) ∧ w'.cell? ⟨u1, 0, none⟩ = some (.slice sb.A sb.n sb.c)) 2 #[true, true, true, true, true, true, true, true, false, false] ⟨#[v0, v1, v2, v3, v4, v5, .bool false, .pointer (some ⟨u0, 0, none⟩), .pointer (some ⟨u1, 0, none⟩), .pointer (some ⟨u2, 0, none⟩), .pointer (some ⟨u3, 0, none⟩), .pointer (some ⟨u4, 0, none⟩), .pointer (some ⟨g0, 0, none⟩), .pointer (some ⟨g1, 0, none⟩), .bool true, .bool false, v16, v17, v18, v19, v20, v21, v22, v23, v24, v25, v26, v27, v28, .agg #[.slice sa.A sa.n sa.c], .agg #[.slice sb.A sb.n sb.c], .agg #[.slice s0.A s0.n s0.c], .agg #[.slice sb.A sb.n sb.c], .agg #[.slice sa.A sa.n sa.c], .agg #[.slice s1.A s1.n s1.c], undef, undef, undef, undef, undef, undef, undef, undef, undef, undef, undef, undef, undef, undef, undef, undef, undef, undef, undef, undef, undef, undef, undef, undef, undef, undef, undef, undef, undef, undef, undef, undef, undef, undef, undef, undef, undef, undef, undef, undef, undef, undef, undef, undef, undef, undef, undef, undef, undef, undef, undef, undef, undef, undef, undef, undef, undef, undef, undef, undef, undef, undef, undef, undef, undef, undef, undef, undef, undef, undef, undef, undef, undef, undef, undef, undef, undef, undef, undef, undef, undef, undef, undef, undef, undef, undef, undef, undef, undef, undef, undef, undef, undef, undef, undef, undef, undef, undef, undef, undef], []⟩ W := by
    intro W b s0 s1 g0 g1 h0 h1 n0 n1 d01
    have c0 := n0.2.cell 0
    have f0 := n0.2.frozen 0
    have c1 := n1.2.cell 0
    have f1 := n1.2.frozen 0
    have o0 := h0.2
    have o1 := h1.2
    have b0 : Below W0.heap.size W0 (W.setCell ⟨g0, 0, none⟩ (.slice s0.A s0.n s0.c)) := b.setCell (p := ⟨g0, 0, none⟩) n0.1 _
    refine wpAnyH_ready (rs := [8]) (by kernel_rfl) (by simp) ?_
    refine AllReadyH.cons (o := { dst := none, op := Op.store 24 (Operand.tmp 12) (Operand.tmp 31), type := 0, pos := "outright.go:39", after := #[{ on := 6, ground := Ground.data }, { on := 2, ground := Ground.data }, { on := 5, ground := Ground.chain }, { on := 0, ground := Ground.phase }, { on := 1, ground := Ground.phase }, { on := 2, ground := Ground.phase }, { on := 3, ground := Ground.textOnly Departure.lateStores }, { on := 4, ground := Ground.textOnly Departure.lateStores }, { on := 5, ground := Ground.textOnly Departure.lateStoresUnsure }, { on := 6, ground := Ground.phase }, { on := 7, ground := Ground.phase }], guard := none }) rfl (fun K hK => ?_) AllReadyH.nil
    go_simp
    refine hK.out _ _ (HS _ b0) (fun _ => ?_)
    clear hK K
    try simp only [List.setIfInBounds_toArray, List.set_cons_zero, List.set_cons_succ]
    replace o0 := o0.boxed (v := .slice s0.A s0.n s0.c) n0.2
    replace o1 := o1.boxed (v := .slice s0.A s0.n s0.c) n0.2
    replace n1 := n1.other (g := g0) (u := .slice s0.A s0.n s0.c) (fun e => d01 e.symm)
    replace c1 := n1.2.cell 0
    replace f1 := n1.2.frozen 0
    have k0 : HasBox W0 (W.setCell ⟨g0, 0, none⟩ (.slice s0.A s0.n s0.c)) g0 s0 := n0.put
    have b1 : Below W0.heap.size W0 ((W.setCell ⟨g0, 0, none⟩ (.slice s0.A s0.n s0.c)).setCell ⟨g1, 0, none⟩ (.slice s1.A s1.n s1.c)) := b0.setCell (p := ⟨g1, 0, none⟩) n1.1 _
    refine wpAnyH_ready (rs := [9]) (by kernel_rfl) (by simp) ?_
    refine AllReadyH.cons (o := { dst := none, op := Op.store 24 (Operand.tmp 13) (Operand.tmp 34), type := 0, pos := "outright.go:39", after := #[{ on := 7, ground := Ground.data }, { on := 5, ground := Ground.data }, { on := 8, ground := Ground.chain }, { on := 0, ground := Ground.phase }, { on := 1, ground := Ground.phase }, { on := 2, ground := Ground.phase }, { on := 3, ground := Ground.phase }, { on := 4, ground := Ground.phase }, { on := 5, ground := Ground.phase }, { on := 6, ground := Ground.phase }, { on := 7, ground := Ground.phase }, { on := 8, ground := Ground.phase }], guard := none }) rfl (fun K hK => ?_) AllReadyH.nil
    go_simp
    refine hK.out _ _ (HS _ b1) (fun _ => ?_)
    clear hK K
    try simp only [List.setIfInBounds_toArray, List.set_cons_zero, List.set_cons_succ]
    replace o0 := o0.boxed (v := .slice s1.A s1.n s1.c) n1.2
    replace o1 := o1.boxed (v := .slice s1.A s1.n s1.c) n1.2
    have k0 := k0.other (g := g1) (u := .slice s1.A s1.n s1.c) (d01)
    have k1 : HasBox W0 ((W.setCell ⟨g0, 0, none⟩ (.slice s0.A s0.n s0.c)).setCell ⟨g1, 0, none⟩ (.slice s1.A s1.n s1.c)) g1 s1 := n1.put
    refine wpAnyH_done (by kernel_rfl) ?_ _
    refine NoPanic.normal ?_
    exact hQ _ s0 s1 g0 g1 b1 h0.1 h1.1 ⟨k0, o0⟩ ⟨k1, o1⟩
  have L2_0 : ∀ (W : World) (b : Below W0.heap.size W0 W) (s0 : SV) (s1 : SV) (g0 : Nat) (h0 : s0.ws = x1 ∧ s0.ok W W.heap.size) (h1 : s1.ws = x2 ∧ s1.ok W W.heap.size) (n0 : NewBox W0 W g0), wpAnyH Tryd.prog .any parts_restOps (NoPanic Q) (fun w' => w'.cell? ⟨u0, 0, none⟩ = some (.slice sa.A sa.n sa.c) ∧ w'.cell? ⟨u1, 0, none⟩ = some (.slice sb.A sb.n sb.c)) 3 #[true, true, true, true, true, true, true, false, false, false] ⟨#[v0, v1, v2, v3, v4, v5, .bool false, .pointer (some ⟨u0, 0, none⟩), .pointer (some ⟨u1, 0, none⟩), .pointer (some ⟨u2, 0, none⟩), .pointer (some ⟨u3, 0, none⟩), .pointer (some ⟨u4, 0, none⟩), .pointer (some ⟨g0, 0, none⟩), undef, .bool true, .bool false, v16, v17, v18, v19, v20, v21, v22, v23, v24, v25, v26, v27, v28, .agg #[.slice sa.A sa.n sa.c], .agg #[.slice sb.A sb.n sb.c], .agg #[.slice s0.A s0.n s0.c], .agg #[.slice sb.A sb.n sb.c], .agg #[.slice sa.A sa.n sa.c], .agg #[.slice s1.A s1.n s1.c], undef, undef, undef, undef, undef, undef, undef, undef, undef, undef, undef, undef, undef, undef, undef, undef, undef, undef, undef, undef, undef, undef, undef, undef, undef, undef, undef, undef, undef, undef, undef, undef, undef, undef, undef, undef, undef, undef, undef, undef, undef, undef, undef, undef, undef, undef, undef, undef, undef, undef, undef, undef, undef, undef, undef, undef, undef, undef, undef, undef, undef, undef, undef, undef, undef, undef, undef, undef, undef, undef, undef, undef, undef, undef, undef, undef, undef, undef, undef, undef, undef, undef, undef, undef, undef, undef, undef, undef, undef, undef, undef, undef, undef, undef, undef, undef, undef, undef, undef, undef], []⟩ W := by
    intro W b s0 s1 g0 h0 h1 n0
    refine wpAnyH_ready (rs := [7]) (by kernel_rfl) (by simp) ?_
    refine AllReadyH.cons (o := { dst := some 13, op := Op.alloc 24, type := 0, pos := "outright.go:39", after := #[], guard := none }) rfl (fun K hK => ?_) (AllReadyH.nil)
    · go_simp
      have b' := b.alloc b.size (.cells #[.slice none 0 0] 24)
      refine hK.out _ _ (HS _ b') (fun _ => ?_)
      clear hK K
      try simp only [List.setIfInBounds_toArray, List.set_cons_zero, List.set_cons_succ]
      exact L2_01 _ b' s0 s1 g0 W.heap.size ⟨h0.1, h0.2.on (one_more W _)⟩ ⟨h1.1, h1.2.on (one_more W _)⟩ (n0.on (one_more W _)) (NewBox.new b) (n0.ne_new)
  have L2_1 : ∀ (W : World) (b : Below W0.heap.size W0 W) (s0 : SV) (s1 : SV) (g1 : Nat) (h0 : s0.ws = x1 ∧ s0.ok W W.heap.size) (h1 : s1.ws = x2 ∧ s1.ok W W.heap.size) (n1 : NewBox W0 W g1), wpAnyH Tryd.prog .any parts_restOps (NoPanic Q) (fun w' => w'.cell? ⟨u0, 0, none⟩ = some (.slice sa.A sa.n sa.c) ∧ w'.cell? ⟨u1, 0, none⟩ = some (.slice sb.A sb.n sb.c)) 3 #[true, true, true, true, true, true, false, true, false, false] ⟨#[v0, v1, v2, v3, v4, v5, .bool false, .pointer (some ⟨u0, 0, none⟩), .pointer (some ⟨u1, 0, none⟩), .pointer (some ⟨u2, 0, none⟩), .pointer (some ⟨u3, 0, none⟩), .pointer (some ⟨u4, 0, none⟩), undef, .pointer (some ⟨g1, 0, none⟩), .bool true, .bool false, v16, v17, v18, v19, v20, v21, v22, v23, v24, v25, v26, v27, v28, .agg #[.slice sa.A sa.n sa.c], .agg #[.slice sb.A sb.n sb.c], .agg #[.slice s0.A s0.n s0.c], .agg #[.slice sb.A sb.n sb.c], .agg #[.slice sa.A sa.n sa.c], .agg #[.slice s1.A s1.n s1.c], undef, undef, undef, undef, undef, undef, undef, undef, undef, undef, undef, undef, undef, undef, undef, undef, undef, undef, undef, undef, undef, undef, undef, undef, undef, undef, undef, undef, undef, undef, undef, undef, undef, undef, undef, undef, undef, undef, undef, undef, undef, undef, undef, undef, undef, undef, undef, undef, undef, undef, undef, undef, undef, undef, undef, undef, undef, undef, undef, undef, undef, undef, undef, undef, undef, undef, undef, undef, undef, undef, undef, undef, undef, undef, undef, undef, undef, undef, undef, undef, undef, undef, undef, undef, undef, undef, undef, undef, undef, undef, undef, undef, undef, undef, undef, undef, undef, undef, undef, undef], []⟩ W := by
    intro W b s0 s1 g1 h0 h1 n1
    refine wpAnyH_ready (rs := [6]) (by kernel_rfl) (by simp) ?_
    refine AllReadyH.cons (o := { dst := some 12, op := Op.alloc 24, type := 0, pos := "outright.go:39", after := #[], guard := none }) rfl (fun K hK => ?_) (AllReadyH.nil)
    · go_simp
      have b' := b.alloc b.size (.cells #[.slice none 0 0] 24)
      refine hK.out _ _ (HS _ b') (fun _ => ?_)
      clear hK K
      try simp only [List.setIfInBounds_toArray, List.set_cons_zero, List.set_cons_succ]
      exact L2_01 _ b' s0 s1 W.heap.size g1 ⟨h0.1, h0.2.on (one_more W _)⟩ ⟨h1.1, h1.2.on (one_more W _)⟩ (NewBox.new b) (n1.on (one_more W _)) (n1.ne_new')
  have L1_01 : ∀ (W : World) (b : Below W0.heap.size W0 W) (s0 : SV) (g0 : Nat) (g1 : Nat) (h0 : s0.ws = x1 ∧ s0.ok W W.heap.size) (n0 : NewBox W0 W g0) (n1 : NewBox W0 W g1) (d01 : g0 ≠ g1), wpAnyH Tryd.prog .any parts_restOps (NoPanic Q) (fun w' => w'.cell? ⟨u0, 0, none⟩ = some (.slice sa.A sa.n sa.c) ∧ w'.cell? ⟨u1, 0, none⟩ = some (.slice sb.A sb.n sb.c)) 3 #[true, true, true, true, true, false, true, true, false, false] ⟨#[v0, v1, v2, v3, v4, v5, .bool false, .pointer (some ⟨u0, 0, none⟩), .pointer (some ⟨u1, 0, none⟩), .pointer (some ⟨u2, 0, none⟩), .pointer (some ⟨u3, 0, none⟩), .pointer (some ⟨u4, 0, none⟩), .pointer (some ⟨g0, 0, none⟩), .pointer (some ⟨g1, 0, none⟩), .bool true, .bool false, v16, v17, v18, v19, v20, v21, v22, v23, v24, v25, v26, v27, v28, .agg #[.slice sa.A sa.n sa.c], .agg #[.slice sb.A sb.n sb.c], .agg #[.slice s0.A s0.n s0.c], .agg #[.slice sb.A sb.n sb.c], .agg #[.slice sa.A sa.n sa.c], undef, undef, undef, undef, undef, undef, undef, undef, undef, undef, undef, undef, undef, undef, undef, undef, undef, undef, undef, undef, undef, undef, undef, undef, undef, undef, undef, undef, undef, undef, undef, undef, undef, undef, undef, undef, undef, undef, undef, undef, undef, undef, undef, undef, undef, undef, undef, undef, undef, undef, undef, undef, undef, undef, undef, undef, undef, undef, undef, undef, undef, undef, undef, undef, undef, undef, undef, undef, undef, undef, undef, undef, undef, undef, undef, undef, undef, undef, undef, undef, undef, undef, undef, undef, undef, undef, undef, undef, undef, undef, undef, undef, undef, undef, undef, undef, undef, undef, undef, undef, undef], []⟩ W := by
    intro W b s0 g0 g1 h0 n0 n1 d01
    refine wpAnyH_ready (rs := [5]) (by kernel_rfl) (by simp) ?_
    refine AllReadyH.cons (o := { dst := some 34, op := Op.call { callee := Callee.value (Operand.func 33), args := #[Operand.tmp 32, Operand.tmp 33], argTypes := #[24, 24] }, type := 24, pos := "outright.go:39", after := #[{ on := 3, ground := Ground.data }, { on := 4, ground := Ground.data }, { on := 2, ground := Ground.chain }], guard := none }) rfl (fun K hK => ?_) (AllReadyH.nil)
    · go_simp
      refine (C2 W b).mono ?_
      rintro e W' ⟨s1, rfl, e1, o1, _, bb⟩
      have b' := b.trans (bb.mono b.size)
      refine hK.out _ _ (HS _ b') (fun _ => ?_)
      clear hK K
      try simp only [List.setIfInBounds_toArray, List.set_cons_zero, List.set_cons_succ]
      exact L2_01 _ b' s0 s1 g0 g1 ⟨h0.1, h0.2.on bb⟩ ⟨e1, o1⟩ (n0.on bb) (n1.on bb) d01
  have L2_ : ∀ (W : World) (b : Below W0.heap.size W0 W) (s0 : SV) (s1 : SV) (h0 : s0.ws = x1 ∧ s0.ok W W.heap.size) (h1 : s1.ws = x2 ∧ s1.ok W W.heap.size), wpAnyH Tryd.prog .any parts_restOps (NoPanic Q) (fun w' => w'.cell? ⟨u0, 0, none⟩ = some (.slice sa.A sa.n sa.c) ∧ w'.cell? ⟨u1, 0, none⟩ = some (.slice sb.A sb.n sb.c)) 4 #[true, true, true, true, true, true, false, false, false, false] ⟨#[v0, v1, v2, v3, v4, v5, .bool false, .pointer (some ⟨u0, 0, none⟩), .pointer (some ⟨u1, 0, none⟩), .pointer (some ⟨u2, 0, none⟩), .pointer (some ⟨u3, 0, none⟩), .pointer (some ⟨u4, 0, none⟩), undef, undef, .bool true, .bool false, v16, v17, v18, v19, v20, v21, v22, v23, v24, v25, v26, v27, v28, .agg #[.slice sa.A sa.n sa.c], .agg #[.slice sb.A sb.n sb.c], .agg #[.slice s0.A s0.n s0.c], .agg #[.slice sb.A sb.n sb.c], .agg #[.slice sa.A sa.n sa.c], .agg #[.slice s1.A s1.n s1.c], undef, undef, undef, undef, undef, undef, undef, undef, undef, undef, undef, undef, undef, undef, undef, undef, undef, undef, undef, undef, undef, undef, undef, undef, undef, undef, undef, undef, undef, undef, undef, undef, undef, undef, undef, undef, undef, undef, undef, undef, undef, undef, undef, undef, undef, undef, undef, undef, undef, undef, undef, undef, undef, undef, undef, undef, undef, undef, undef, undef, undef, undef, undef, undef, undef, undef, undef, undef, undef, undef, undef, undef, undef, undef, undef, undef, undef, undef, undef, undef, undef, undef, undef, undef, undef, undef, undef, undef, undef, undef, undef, undef, undef, undef, undef, undef, undef, undef, undef, undef], []⟩ W := by
    intro W b s0 s1 h0 h1
    refine wpAnyH_ready (rs := [6, 7]) (by kernel_rfl) (by simp) ?_
    refine AllReadyH.cons (o := { dst := some 12, op := Op.alloc 24, type := 0, pos := "outright.go:39", after := #[], guard := none }) rfl (fun K hK => ?_) (AllReadyH.cons (o := { dst := some 13, op := Op.alloc 24, type := 0, pos := "outright.go:39", after := #[], guard := none }) rfl (fun K hK => ?_) (AllReadyH.nil))
    · go_simp
      have b' := b.alloc b.size (.cells #[.slice none 0 0] 24)
      refine hK.out _ _ (HS _ b') (fun _ => ?_)
      clear hK K
      try simp only [List.setIfInBounds_toArray, List.set_cons_zero, List.set_cons_succ]
      exact L2_0 _ b' s0 s1 W.heap.size ⟨h0.1, h0.2.on (one_more W _)⟩ ⟨h1.1, h1.2.on (one_more W _)⟩ (NewBox.new b)
    · go_simp
      have b' := b.alloc b.size (.cells #[.slice none 0 0] 24)
      refine hK.out _ _ (HS _ b') (fun _ => ?_)
      clear hK K
      try simp only [List.setIfInBounds_toArray, List.set_cons_zero, List.set_cons_succ]
      exact L2_1 _ b' s0 s1 W.heap.size ⟨h0.1, h0.2.on (one_more W _)⟩ ⟨h1.1, h1.2.on (one_more W _)⟩ (NewBox.new b)
  have L1_0 : ∀ (W : World) (b : Below W0.heap.size W0 W) (s0 : SV) (g0 : Nat) (h0 : s0.ws = x1 ∧ s0.ok W W.heap.size) (n0 : NewBox W0 W g0), wpAnyH Tryd.prog .any parts_restOps (NoPanic Q) (fun w' => w'.cell? ⟨u0, 0, none⟩ = some (.slice sa.A sa.n sa.c) ∧ w'.cell? ⟨u1, 0, none⟩ = some (.slice sb.A sb.n sb.c)) 4 #[true, true, true, true, true, false, true, false, false, false] ⟨#[v0, v1, v2, v3, v4, v5, .bool false, .pointer (some ⟨u0, 0, none⟩), .pointer (some ⟨u1, 0, none⟩), .pointer (some ⟨u2, 0, none⟩), .pointer (some ⟨u3, 0, none⟩), .pointer (some ⟨u4, 0, none⟩), .pointer (some ⟨g0, 0, none⟩), undef, .bool true, .bool false, v16, v17, v18, v19, v20, v21, v22, v23, v24, v25, v26, v27, v28, .agg #[.slice sa.A sa.n sa.c], .agg #[.slice sb.A sb.n sb.c], .agg #[.slice s0.A s0.n s0.c], .agg #[.slice sb.A sb.n sb.c], .agg #[.slice sa.A sa.n sa.c], undef, undef, undef, undef, undef, undef, undef, undef, undef, undef, undef, undef, undef, undef, undef, undef, undef, undef, undef, undef, undef, undef, undef, undef, undef, undef, undef, undef, undef, undef, undef, undef, undef, undef, undef, undef, undef, undef, undef, undef, undef, undef, undef, undef, undef, undef, undef, undef, undef, undef, undef, undef, undef, undef, undef, undef, undef, undef, undef, undef, undef, undef, undef, undef, undef, undef, undef, undef, undef, undef, undef, undef, undef, undef, undef, undef, undef, undef, undef, undef, undef, undef, undef, undef, undef, undef, undef, undef, undef, undef, undef, undef, undef, undef, undef, undef, undef, undef, undef, undef, undef], []⟩ W := by
    intro W b s0 g0 h0 n0
    refine wpAnyH_ready (rs := [5, 7]) (by kernel_rfl) (by simp) ?_
    refine AllReadyH.cons (o := { dst := some 34, op := Op.call { callee := Callee.value (Operand.func 33), args := #[Operand.tmp 32, Operand.tmp 33], argTypes := #[24, 24] }, type := 24, pos := "outright.go:39", after := #[{ on := 3, ground := Ground.data }, { on := 4, ground := Ground.data }, { on := 2, ground := Ground.chain }], guard := none }) rfl (fun K hK => ?_) (AllReadyH.cons (o := { dst := some 13, op := Op.alloc 24, type := 0, pos := "outright.go:39", after := #[], guard := none }) rfl (fun K hK => ?_) (AllReadyH.nil))
    · go_simp
      refine (C2 W b).mono ?_
      rintro e W' ⟨s1, rfl, e1, o1, _, bb⟩
      have b' := b.trans (bb.mono b.size)
      refine hK.out _ _ (HS _ b') (fun _ => ?_)
      clear hK K
      try simp only [List.setIfInBounds_toArray, List.set_cons_zero, List.set_cons_succ]
      exact L2_0 _ b' s0 s1 g0 ⟨h0.1, h0.2.on bb⟩ ⟨e1, o1⟩ (n0.on bb)
    · go_simp
      have b' := b.alloc b.size (.cells #[.slice none 0 0] 24)
      refine hK.out _ _ (HS _ b') (fun _ => ?_)
      clear hK K
      try simp only [List.setIfInBounds_toArray, List.set_cons_zero, List.set_cons_succ]
      exact L1_01 _ b' s0 g0 W.heap.size ⟨h0.1, h0.2.on (one_more W _)⟩ (n0.on (one_more W _)) (NewBox.new b) (n0.ne_new)
  have L1_1 : ∀ (W : World) (b : Below W0.heap.size W0 W) (s0 : SV) (g1 : Nat) (h0 : s0.ws = x1 ∧ s0.ok W W.heap.size) (n1 : NewBox W0 W g1), wpAnyH Tryd.prog .any parts_restOps (NoPanic Q) (fun w' => w'.cell? ⟨u0, 0, none⟩ = some (.slice sa.A sa.n sa.c) ∧ w'.cell? ⟨u1, 0, none⟩ = some (.slice sb.A sb.n sb.c)) 4 #[true, true, true, true, true, false, false, true, false, false] ⟨#[v0, v1, v2, v3, v4, v5, .bool false, .pointer (some ⟨u0, 0, none⟩), .pointer (some ⟨u1, 0, none⟩), .pointer (some ⟨u2, 0, none⟩), .pointer (some ⟨u3, 0, none⟩), .pointer (some ⟨u4, 0, none⟩), undef, .pointer (some ⟨g1, 0, none⟩), .bool true, .bool false, v16, v17, v18, v19, v20, v21, v22, v23, v24, v25, v26, v27, v28, .agg #[.slice sa.A sa.n sa.c], .agg #[.slice sb.A sb.n sb.c], .agg #[.slice s0.A s0.n s0.c], .agg #[.slice sb.A sb.n sb.c], .agg #[.slice sa.A sa.n sa.c], undef, undef, undef, undef, undef, undef, undef, undef, undef, undef, undef, undef, undef, undef, undef, undef, undef, undef, undef, undef, undef, undef, undef, undef, undef, undef, undef, undef, undef, undef, undef, undef, undef, undef, undef, undef, undef, undef, undef, undef, undef, undef, undef, undef, undef, undef, undef, undef, undef, undef, undef, undef, undef, undef, undef, undef, undef, undef, undef, undef, undef, undef, undef, undef, undef, undef, undef, undef, undef, undef, undef, undef, undef, undef, undef, undef, undef, undef, undef, undef, undef, undef, undef, undef, undef, undef, undef, undef, undef, undef, undef, undef, undef, undef, undef, undef, undef, undef, undef, undef, undef], []⟩ W := by
    intro W b s0 g1 h0 n1
    refine wpAnyH_ready (rs := [5, 6]) (by kernel_rfl) (by simp) ?_
    refine AllReadyH.cons (o := { dst := some 34, op := Op.call { callee := Callee.value (Operand.func 33), args := #[Operand.tmp 32, Operand.tmp 33], argTypes := #[24, 24] }, type := 24, pos := "outright.go:39", after := #[{ on := 3, ground := Ground.data }, { on := 4, ground := Ground.data }, { on := 2, ground := Ground.chain }], guard := none }) rfl (fun K hK => ?_) (AllReadyH.cons (o := { dst := some 12, op := Op.alloc 24, type := 0, pos := "outright.go:39", after := #[], guard := none }) rfl (fun K hK => ?_) (AllReadyH.nil))
    · go_simp
      refine (C2 W b).mono ?_
      rintro e W' ⟨s1, rfl, e1, o1, _, bb⟩
      have b' := b.trans (bb.mono b.size)
      refine hK.out _ _ (HS _ b') (fun _ => ?_)
      clear hK K
      try simp only [List.setIfInBounds_toArray, List.set_cons_zero, List.set_cons_succ]
      exact L2_1 _ b' s0 s1 g1 ⟨h0.1, h0.2.on bb⟩ ⟨e1, o1⟩ (n1.on bb)
    · go_simp
      have b' := b.alloc b.size (.cells #[.slice none 0 0] 24)
      refine hK.out _ _ (HS _ b') (fun _ => ?_)
      clear hK K
      try simp only [List.setIfInBounds_toArray, List.set_cons_zero, List.set_cons_succ]
      exact L1_01 _ b' s0 W.heap.size g1 ⟨h0.1, h0.2.on (one_more W _)⟩ (NewBox.new b) (n1.on (one_more W _)) (n1.ne_new')
  have L0_01 : ∀ (W : World) (b : Below W0.heap.size W0 W) (g0 : Nat) (g1 : Nat) (n0 : NewBox W0 W g0) (n1 : NewBox W0 W g1) (d01 : g0 ≠ g1), wpAnyH Tryd.prog .any parts_restOps (NoPanic Q) (fun w' => w'.cell? ⟨u0, 0, none⟩ = some (.slice sa.A sa.n sa.c) ∧ w'.cell? ⟨u1, 0, none⟩ = some (.slice sb.A sb.n sb.c)) 4 #[true, true, false, true, true, false, true, true, false, false] ⟨#[v0, v1, v2, v3, v4, v5, .bool false, .pointer (some ⟨u0, 0, none⟩), .pointer (some ⟨u1, 0, none⟩), .pointer (some ⟨u2, 0, none⟩), .pointer (some ⟨u3, 0, none⟩), .pointer (some ⟨u4, 0, none⟩), .pointer (some ⟨g0, 0, none⟩), .pointer (some ⟨g1, 0, none⟩), .bool true, .bool false, v16, v17, v18, v19, v20, v21, v22, v23, v24, v25, v26, v27, v28, .agg #[.slice sa.A sa.n sa.c], .agg #[.slice sb.A sb.n sb.c], undef, .agg #[.slice sb.A sb.n sb.c], .agg #[.slice sa.A sa.n sa.c], undef, undef, undef, undef, undef, undef, undef, undef, undef, undef, undef, undef, undef, undef, undef, undef, undef, undef, undef, undef, undef, undef, undef, undef, undef, undef, undef, undef, undef, undef, undef, undef, undef, undef, undef, undef, undef, undef, undef, undef, undef, undef, undef, undef, undef, undef, undef, undef, undef, undef, undef, undef, undef, undef, undef, undef, undef, undef, undef, undef, undef, undef, undef, undef, undef, undef, undef, undef, undef, undef, undef, undef, undef, undef, undef, undef, undef, undef, undef, undef, undef, undef, undef, undef, undef, undef, undef, undef, undef, undef, undef, undef, undef, undef, undef, undef, undef, undef, undef, undef, undef], []⟩ W := by
    intro W b  g0 g1 n0 n1 d01
    refine wpAnyH_ready (rs := [2]) (by kernel_rfl) (by simp) ?_
    refine AllReadyH.cons (o := { dst := some 31, op := Op.call { callee := Callee.value (Operand.func 33), args := #[Operand.tmp 29, Operand.tmp 30], argTypes := #[24, 24] }, type := 24, pos := "outright.go:39", after := #[{ on := 0, ground := Ground.data }, { on := 1, ground := Ground.data }], guard := none }) rfl (fun K hK => ?_) (AllReadyH.nil)
    · go_simp
      refine (C1 W b).mono ?_
      rintro e W' ⟨s0, rfl, e0, o0, _, bb⟩
      have b' := b.trans (bb.mono b.size)
      refine hK.out _ _ (HS _ b') (fun _ => ?_)
      clear hK K
      try simp only [List.setIfInBounds_toArray, List.set_cons_zero, List.set_cons_succ]
      exact L1_01 _ b' s0 g0 g1 ⟨e0, o0⟩ (n0.on bb) (n1.on bb) d01
  have L1_ : ∀ (W : World) (b : Below W0.heap.size W0 W) (s0 : SV) (h0 : s0.ws = x1 ∧ s0.ok W W.heap.size), wpAnyH Tryd.prog .any parts_restOps (NoPanic Q) (fun w' => w'.cell? ⟨u0, 0, none⟩ = some (.slice sa.A sa.n sa.c) ∧ w'.cell? ⟨u1, 0, none⟩ = some (.slice sb.A sb.n sb.c)) 5 #[true, true, true, true, true, false, false, false, false, false] ⟨#[v0, v1, v2, v3, v4, v5, .bool false, .pointer (some ⟨u0, 0, none⟩), .pointer (some ⟨u1, 0, none⟩), .pointer (some ⟨u2, 0, none⟩), .pointer (some ⟨u3, 0, none⟩), .pointer (some ⟨u4, 0, none⟩), undef, undef, .bool true, .bool false, v16, v17, v18, v19, v20, v21, v22, v23, v24, v25, v26, v27, v28, .agg #[.slice sa.A sa.n sa.c], .agg #[.slice sb.A sb.n sb.c], .agg #[.slice s0.A s0.n s0.c], .agg #[.slice sb.A sb.n sb.c], .agg #[.slice sa.A sa.n sa.c], undef, undef, undef, undef, undef, undef, undef, undef, undef, undef, undef, undef, undef, undef, undef, undef, undef, undef, undef, undef, undef, undef, undef, undef, undef, undef, undef, undef, undef, undef, undef, undef, undef, undef, undef, undef, undef, undef, undef, undef, undef, undef, undef, undef, undef, undef, undef, undef, undef, undef, undef, undef, undef, undef, undef, undef, undef, undef, undef, undef, undef, undef, undef, undef, undef, undef, undef, undef, undef, undef, undef, undef, undef, undef, undef, undef, undef, undef, undef, undef, undef, undef, undef, undef, undef, undef, undef, undef, undef, undef, undef, undef, undef, undef, undef, undef, undef, undef, undef, undef, undef], []⟩ W := by
    intro W b s0 h0
    refine wpAnyH_ready (rs := [5, 6, 7]) (by kernel_rfl) (by simp) ?_
    refine AllReadyH.cons (o := { dst := some 34, op := Op.call { callee := Callee.value (Operand.func 33), args := #[Operand.tmp 32, Operand.tmp 33], argTypes := #[24, 24] }, type := 24, pos := "outright.go:39", after := #[{ on := 3, ground := Ground.data }, { on := 4, ground := Ground.data }, { on := 2, ground := Ground.chain }], guard := none }) rfl (fun K hK => ?_) (AllReadyH.cons (o := { dst := some 12, op := Op.alloc 24, type := 0, pos := "outright.go:39", after := #[], guard := none }) rfl (fun K hK => ?_) (AllReadyH.cons (o := { dst := some 13, op := Op.alloc 24, type := 0, pos := "outright.go:39", after := #[], guard := none }) rfl (fun K hK => ?_) (AllReadyH.nil)))
    · go_simp
      refine (C2 W b).mono ?_
      rintro e W' ⟨s1, rfl, e1, o1, _, bb⟩
      have b' := b.trans (bb.mono b.size)
      refine hK.out _ _ (HS _ b') (fun _ => ?_)
      clear hK K
      try simp only [List.setIfInBounds_toArray, List.set_cons_zero, List.set_cons_succ]
      exact L2_ _ b' s0 s1 ⟨h0.1, h0.2.on bb⟩ ⟨e1, o1⟩
    · go_simp
      have b' := b.alloc b.size (.cells #[.slice none 0 0] 24)
      refine hK.out _ _ (HS _ b') (fun _ => ?_)
      clear hK K
      try simp only [List.setIfInBounds_toArray, List.set_cons_zero, List.set_cons_succ]
      exact L1_0 _ b' s0 W.heap.size ⟨h0.1, h0.2.on (one_more W _)⟩ (NewBox.new b)
    · go_simp
      have b' := b.alloc b.size (.cells #[.slice none 0 0] 24)
      refine hK.out _ _ (HS _ b') (fun _ => ?_)
      clear hK K
      try simp only [List.setIfInBounds_toArray, List.set_cons_zero, List.set_cons_succ]
      exact L1_1 _ b' s0 W.heap.size ⟨h0.1, h0.2.on (one_more W _)⟩ (NewBox.new b)
  have L0_0 : ∀ (W : World) (b : Below W0.heap.size W0 W) (g0 : Nat) (n0 : NewBox W0 W g0), wpAnyH Tryd.prog .any parts_restOps (NoPanic Q) (fun w' => w'.cell? ⟨u0, 0, none⟩ = some (.slice sa.A sa.n sa.c) ∧ w'.cell? ⟨u1, 0, none⟩ = some (.slice sb.A sb.n sb.c)) 5 #[true, true, false, true, true, false, true, false, false, false] ⟨#[v0, v1, v2, v3, v4, v5, .bool false, .pointer (some ⟨u0, 0, none⟩), .pointer (some ⟨u1, 0, none⟩), .pointer (some ⟨u2, 0, none⟩), .pointer (some ⟨u3, 0, none⟩), .pointer (some ⟨u4, 0, none⟩), .pointer (some ⟨g0, 0, none⟩), undef, .bool true, .bool false, v16, v17, v18, v19, v20, v21, v22, v23, v24, v25, v26, v27, v28, .agg #[.slice sa.A sa.n sa.c], .agg #[.slice sb.A sb.n sb.c], undef, .agg #[.slice sb.A sb.n sb.c], .agg #[.slice sa.A sa.n sa.c], undef, undef, undef, undef, undef, undef, undef, undef, undef, undef, undef, undef, undef, undef, undef, undef, undef, undef, undef, undef, undef, undef, undef, undef, undef, undef, undef, undef, undef, undef, undef, undef, undef, undef, undef, undef, undef, undef, undef, undef, undef, undef, undef, undef, undef, undef, undef, undef, undef, undef, undef, undef, undef, undef, undef, undef, undef, undef, undef, undef, undef, undef, undef, undef, undef, undef, undef, undef, undef, undef, undef, undef, undef, undef, undef, undef, undef, undef, undef, undef, undef, undef, undef, undef, undef, undef, undef, undef, undef, undef, undef, undef, undef, undef, undef, undef, undef, undef, undef, undef, undef], []⟩ W := by
    intro W b  g0 n0
    refine wpAnyH_ready (rs := [2, 7]) (by kernel_rfl) (by simp) ?_
    refine AllReadyH.cons (o := { dst := some 31, op := Op.call { callee := Callee.value (Operand.func 33), args := #[Operand.tmp 29, Operand.tmp 30], argTypes := #[24, 24] }, type := 24, pos := "outright.go:39", after := #[{ on := 0, ground := Ground.data }, { on := 1, ground := Ground.data }], guard := none }) rfl (fun K hK => ?_) (AllReadyH.cons (o := { dst := some 13, op := Op.alloc 24, type := 0, pos := "outright.go:39", after := #[], guard := none }) rfl (fun K hK => ?_) (AllReadyH.nil))
    · go_simp
      refine (C1 W b).mono ?_
      rintro e W' ⟨s0, rfl, e0, o0, _, bb⟩
      have b' := b.trans (bb.mono b.size)
      refine hK.out _ _ (HS _ b') (fun _ => ?_)
      clear hK K
      try simp only [List.setIfInBounds_toArray, List.set_cons_zero, List.set_cons_succ]
      exact L1_0 _ b' s0 g0 ⟨e0, o0⟩ (n0.on bb)
    · go_simp
      have b' := b.alloc b.size (.cells #[.slice none 0 0] 24)
      refine hK.out _ _ (HS _ b') (fun _ => ?_)
      clear hK K
      try simp only [List.setIfInBounds_toArray, List.set_cons_zero, List.set_cons_succ]
      exact L0_01 _ b' g0 W.heap.size (n0.on (one_more W _)) (NewBox.new b) (n0.ne_new)
  have L0_1 : ∀ (W : World) (b : Below W0.heap.size W0 W) (g1 : Nat) (n1 : NewBox W0 W g1), wpAnyH Tryd.prog .any parts_restOps (NoPanic Q) (fun w' => w'.cell? ⟨u0, 0, none⟩ = some (.slice sa.A sa.n sa.c) ∧ w'.cell? ⟨u1, 0, none⟩ = some (.slice sb.A sb.n sb.c)) 5 #[true, true, false, true, true, false, false, true, false, false] ⟨#[v0, v1, v2, v3, v4, v5, .bool false, .pointer (some ⟨u0, 0, none⟩), .pointer (some ⟨u1, 0, none⟩), .pointer (some ⟨u2, 0, none⟩), .pointer (some ⟨u3, 0, none⟩), .pointer (some ⟨u4, 0, none⟩), undef, .pointer (some ⟨g1, 0, none⟩), .bool true, .bool false, v16, v17, v18, v19, v20, v21, v22, v23, v24, v25, v26, v27, v28, .agg #[.slice sa.A sa.n sa.c], .agg #[.slice sb.A sb.n sb.c], undef, .agg #[.slice sb.A sb.n sb.c], .agg #[.slice sa.A sa.n sa.c], undef, undef, undef, undef, undef, undef, undef, undef, undef, undef, undef, undef, undef, undef, undef, undef, undef, undef, undef, undef, undef, undef, undef, undef, undef, undef, undef, undef, undef, undef, undef, undef, undef, undef, undef, undef, undef, undef, undef, undef, undef, undef, undef, undef, undef, undef, undef, undef, undef, undef, undef, undef, undef, undef, undef, undef, undef, undef, undef, undef, undef, undef, undef, undef, undef, undef, undef, undef, undef, undef, undef, undef, undef, undef, undef, undef, undef, undef, undef, undef, undef, undef, undef, undef, undef, undef, undef, undef, undef, undef, undef, undef, undef, undef, undef, undef, undef, undef, undef, undef, undef], []⟩ W := by
    intro W b  g1 n1
    refine wpAnyH_ready (rs := [2, 6]) (by kernel_rfl) (by simp) ?_
    refine AllReadyH.cons (o := { dst := some 31, op := Op.call { callee := Callee.value (Operand.func 33), args := #[Operand.tmp 29, Operand.tmp 30], argTypes := #[24, 24] }, type := 24, pos := "outright.go:39", after := #[{ on := 0, ground := Ground.data }, { on := 1, ground := Ground.data }], guard := none }) rfl (fun K hK => ?_) (AllReadyH.cons (o := { dst := some 12, op := Op.alloc 24, type := 0, pos := "outright.go:39", after := #[], guard := none }) rfl (fun K hK => ?_) (AllReadyH.nil))
    · go_simp
      refine (C1 W b).mono ?_
      rintro e W' ⟨s0, rfl, e0, o0, _, bb⟩
      have b' := b.trans (bb.mono b.size)
      refine hK.out _ _ (HS _ b') (fun _ => ?_)
      clear hK K
      try simp only [List.setIfInBounds_toArray, List.set_cons_zero, List.set_cons_succ]
      exact L1_1 _ b' s0 g1 ⟨e0, o0⟩ (n1.on bb)
    · go_simp
      have b' := b.alloc b.size (.cells #[.slice none 0 0] 24)
      refine hK.out _ _ (HS _ b') (fun _ => ?_)
      clear hK K
      try simp only [List.setIfInBounds_toArray, List.set_cons_zero, List.set_cons_succ]
      exact L0_01 _ b' W.heap.size g1 (NewBox.new b) (n1.on (one_more W _)) (n1.ne_new')
  have L0_ : ∀ (W : World) (b : Below W0.heap.size W0 W)  , wpAnyH Tryd.prog .any parts_restOps (NoPanic Q) (fun w' => w'.cell? ⟨u0, 0, none⟩ = some (.slice sa.A sa.n sa.c) ∧ w'.cell? ⟨u1, 0, none⟩ = some (.slice sb.A sb.n sb.c)) 6 #[true, true, false, true, true, false, false, false, false, false] ⟨#[v0, v1, v2, v3, v4, v5, .bool false, .pointer (some ⟨u0, 0, none⟩), .pointer (some ⟨u1, 0, none⟩), .pointer (some ⟨u2, 0, none⟩), .pointer (some ⟨u3, 0, none⟩), .pointer (some ⟨u4, 0, none⟩), undef, undef, .bool true, .bool false, v16, v17, v18, v19, v20, v21, v22, v23, v24, v25, v26, v27, v28, .agg #[.slice sa.A sa.n sa.c], .agg #[.slice sb.A sb.n sb.c], undef, .agg #[.slice sb.A sb.n sb.c], .agg #[.slice sa.A sa.n sa.c], undef, undef, undef, undef, undef, undef, undef, undef, undef, undef, undef, undef, undef, undef, undef, undef, undef, undef, undef, undef, undef, undef, undef, undef, undef, undef, undef, undef, undef, undef, undef, undef, undef, undef, undef, undef, undef, undef, undef, undef, undef, undef, undef, undef, undef, undef, undef, undef, undef, undef, undef, undef, undef, undef, undef, undef, undef, undef, undef, undef, undef, undef, undef, undef, undef, undef, undef, undef, undef, undef, undef, undef, undef, undef, undef, undef, undef, undef, undef, undef, undef, undef, undef, undef, undef, undef, undef, undef, undef, undef, undef, undef, undef, undef, undef, undef, undef, undef, undef, undef, undef], []⟩ W := by
    intro W b  
    refine wpAnyH_ready (rs := [2, 6, 7]) (by kernel_rfl) (by simp) ?_
    refine AllReadyH.cons (o := { dst := some 31, op := Op.call { callee := Callee.value (Operand.func 33), args := #[Operand.tmp 29, Operand.tmp 30], argTypes := #[24, 24] }, type := 24, pos := "outright.go:39", after := #[{ on := 0, ground := Ground.data }, { on := 1, ground := Ground.data }], guard := none }) rfl (fun K hK => ?_) (AllReadyH.cons (o := { dst := some 12, op := Op.alloc 24, type := 0, pos := "outright.go:39", after := #[], guard := none }) rfl (fun K hK => ?_) (AllReadyH.cons (o := { dst := some 13, op := Op.alloc 24, type := 0, pos := "outright.go:39", after := #[], guard := none }) rfl (fun K hK => ?_) (AllReadyH.nil)))
    · go_simp
      refine (C1 W b).mono ?_
      rintro e W' ⟨s0, rfl, e0, o0, _, bb⟩
      have b' := b.trans (bb.mono b.size)
      refine hK.out _ _ (HS _ b') (fun _ => ?_)
      clear hK K
      try simp only [List.setIfInBounds_toArray, List.set_cons_zero, List.set_cons_succ]
      exact L1_ _ b' s0 ⟨e0, o0⟩
    · go_simp
      have b' := b.alloc b.size (.cells #[.slice none 0 0] 24)
      refine hK.out _ _ (HS _ b') (fun _ => ?_)
      clear hK K
      try simp only [List.setIfInBounds_toArray, List.set_cons_zero, List.set_cons_succ]
      exact L0_0 _ b' W.heap.size (NewBox.new b)
    · go_simp
      have b' := b.alloc b.size (.cells #[.slice none 0 0] 24)
      refine hK.out _ _ (HS _ b') (fun _ => ?_)
      clear hK K
      try simp only [List.setIfInBounds_toArray, List.set_cons_zero, List.set_cons_succ]
      exact L0_1 _ b' W.heap.size (NewBox.new b)
  have bd : Below W0.heap.size W0 W0.drew := below_drew' (Below.refl _ _)
  refine wp_region_noPanic ?_
  refine wp_region_held_drew (S := fun w' => w'.cell? ⟨u0, 0, none⟩ = some (.slice sa.A sa.n sa.c) ∧ w'.cell? ⟨u1, 0, none⟩ = some (.slice sb.A sb.n sb.c)) (by kernel_rfl) (HS _ bd) (fun hHeld => ?_)
  refine wpAnyH_take (i := 0) (oi := { dst := some 29, op := Op.load 24 (Operand.tmp 7), type := 24, pos := "outright.go:39", after := #[], guard := none }) (v := .agg #[.slice sa.A sa.n sa.c]) rfl (by kernel_rfl) (by kernel_rfl) (by kernel_rfl) (fun _ _ _ h => h) (Or.inl ⟨by kernel_rfl, fun w' hSw => by (try dsimp only at hSw); go_simp⟩) (by assumption) ?_
  try simp only [Act.put, List.setIfInBounds_toArray, List.set_cons_zero, List.set_cons_succ]
  refine wpAnyH_take (i := 1) (oi := { dst := some 30, op := Op.load 24 (Operand.tmp 8), type := 24, pos := "outright.go:39", after := #[], guard := none }) (v := .agg #[.slice sb.A sb.n sb.c]) rfl (by kernel_rfl) (by kernel_rfl) (by kernel_rfl) (fun _ _ _ h => h) (Or.inl ⟨by kernel_rfl, fun w' hSw => by (try dsimp only at hSw); go_simp⟩) (by assumption) ?_
  try simp only [Act.put, List.setIfInBounds_toArray, List.set_cons_zero, List.set_cons_succ]
  refine wpAnyH_take (i := 3) (oi := { dst := some 32, op := Op.load 24 (Operand.tmp 8), type := 24, pos := "outright.go:39", after := #[], guard := none }) (v := .agg #[.slice sb.A sb.n sb.c]) rfl (by kernel_rfl) (by kernel_rfl) (by kernel_rfl) (fun _ _ _ h => h) (Or.inl ⟨by kernel_rfl, fun w' hSw => by (try dsimp only at hSw); go_simp⟩) (by assumption) ?_
  try simp only [Act.put, List.setIfInBounds_toArray, List.set_cons_zero, List.set_cons_succ]
  refine wpAnyH_take (i := 4) (oi := { dst := some 33, op := Op.load 24 (Operand.tmp 7), type := 24, pos := "outright.go:39", after := #[], guard := none }) (v := .agg #[.slice sa.A sa.n sa.c]) rfl (by kernel_rfl) (by kernel_rfl) (by kernel_rfl) (fun _ _ _ h => h) (Or.inl ⟨by kernel_rfl, fun w' hSw => by (try dsimp only at hSw); go_simp⟩) (by assumption) ?_
  try simp only [Act.put, List.setIfInBounds_toArray, List.set_cons_zero, List.set_cons_succ]
  exact L0_ W0.drew bd
end Go.Proofs.YtpkpfnilfabkaaaDoor
