/- BitsMay: the statement that sets two variables at once; rows of numbers; a cut row. -/
import Derived.Test.YtpkpfnilfabkaaaDoorBRh
import Derived.Test.YtpkpfnilfabkaaaDoorBRg
namespace Go.Proofs.YtpkpfnilfabkaaaDoor
open Go.RowKit

theorem i_elem_size (W : World) : (sizeOf (Tryd.prog.elem 28)).run Tryd.prog W = .ok 1 W := by kernel_rfl
theorem i_slice_h (A : Option Addr) (len cap h : Nat) (hh : h ≤ cap) (W : World) :
    (Instr.slice 28 (.slice A len cap) none (some (.int .i64 (h : Int))) none).run Tryd.prog W = .ok (.slice A h cap) W := by
  have e0 : Value.slice (if cap = 0 then A else A.map (·.add (0 * 1))) (h - 0) (cap - 0) = .slice A h cap := by
    have : (if cap = 0 then A else A.map (·.add (0 * 1))) = A := by
      split
      · rfl
      · cases A <;> simp [Addr.add]
    rw [this, Nat.sub_zero, Nat.sub_zero]
  rw [run_slice_h W 28 A len cap (show Tryd.prog.underlying 28 = some (.slice (Tryd.prog.elem 28)) by kernel_rfl) .i64 h (by omega) (by omega), i_elem_size]
  exact congrArg (fun v => Result.ok v W) e0
/-- A row of rows of numbers. -/
structure Row where
  A : Option Addr
  n : Nat
  c : Nat
  l : List Int
def rowCells (rs : List Row) : List Value := rs.map fun r => .slice r.A r.n r.c
def RowsAt (w : World) (B : Nat) (A : Option Addr) (n : Nat) (rs : List Row) : Prop :=
  Reads w B 1 A n (rowCells rs) ∧ ∀ r ∈ rs, RI w B r.A r.n r.l ∧ r.n ≤ r.c ∧ r.c ≤ 9223372036854775807 ∧ all64 r.l
theorem RowsAt.below {w w' : World} {B n : Nat} {A : Option Addr} {rs : List Row} (h : RowsAt w B A n rs) (hb : Below B w w') : RowsAt w' B A n rs :=
  ⟨Reads.below h.1 hb, fun r hr => ⟨(h.2 r hr).1.below hb, (h.2 r hr).2⟩⟩
theorem RowsAt.len {w : World} {B n : Nat} {A : Option Addr} {rs : List Row} (h : RowsAt w B A n rs) : rs.length = n := by
  have := h.1.1
  unfold rowCells at this
  simp at this; omega
theorem RowsAt.at_ {w : World} {B n k : Nat} {A : Option Addr} {rs : List Row} (h : RowsAt w B A n rs) (hk : k < n) :
    ∃ (b o : Nat) (r : Row), A = some ⟨b, o, none⟩ ∧ b < B ∧ w.cell? ⟨b, o + k, none⟩ = some (.slice r.A r.n r.c) ∧ RI w B r.A r.n r.l ∧ r.n ≤ r.c ∧ r.c ≤ 9223372036854775807 ∧ all64 r.l := by
  have hl := h.len
  obtain ⟨ad, hA, hlt, hc⟩ := h.1.2 (by omega)
  obtain ⟨r, hr⟩ : ∃ r, rs[k]? = some r := ⟨_, List.getElem?_eq_getElem (by omega)⟩
  have hcell := hc k (.slice r.A r.n r.c) (by unfold rowCells; rw [List.getElem?_map, hr]; rfl)
  obtain ⟨r0, hr0⟩ : ∃ r, rs[0]? = some r := ⟨_, List.getElem?_eq_getElem (show 0 < rs.length by omega)⟩
  have h00 := hc 0 (.slice r0.A r0.n r0.c) (by unfold rowCells; rw [List.getElem?_map, hr0]; rfl)
  obtain ⟨b, o, spot⟩ := ad
  have hspot : spot = none := by simpa [Addr.add] using World.cell?_spot h00
  subst hspot
  rw [Go.WideShapes.add_plain] at hcell
  exact ⟨b, o, r, hA, hlt, hcell, h.2 r (List.mem_of_getElem? hr)⟩

/-- The operations of the region. -/
noncomputable def may_ownOps : Array Oper := #[{ dst := some 21, op := Op.load 24 (Operand.tmp 3), type := 24, pos := "law.go:33", after := #[], guard := none }, { dst := some 22, op := Op.call { callee := Callee.value (Operand.func 10), args := #[Operand.tmp 21], argTypes := #[24] }, type := 24, pos := "law.go:33", after := #[{ on := 0, ground := Ground.data }], guard := none }, { dst := some 23, op := Op.load 24 (Operand.tmp 4), type := 24, pos := "law.go:33", after := #[], guard := none }, { dst := some 24, op := Op.call { callee := Callee.value (Operand.func 10), args := #[Operand.tmp 23], argTypes := #[24] }, type := 24, pos := "law.go:33", after := #[{ on := 2, ground := Ground.data }, { on := 1, ground := Ground.chain }], guard := none }, { dst := some 7, op := Op.alloc 24, type := 0, pos := "law.go:33", after := #[], guard := none }, { dst := some 8, op := Op.alloc 24, type := 0, pos := "law.go:33", after := #[], guard := none }, { dst := none, op := Op.store 24 (Operand.tmp 7) (Operand.tmp 22), type := 0, pos := "law.go:33", after := #[{ on := 4, ground := Ground.data }, { on := 1, ground := Ground.data }, { on := 3, ground := Ground.chain }, { on := 0, ground := Ground.phase }, { on := 1, ground := Ground.phase }, { on := 2, ground := Ground.textOnly Departure.lateStores }, { on := 3, ground := Ground.textOnly Departure.lateStoresUnsure }, { on := 4, ground := Ground.phase }, { on := 5, ground := Ground.phase }], guard := none }, { dst := none, op := Op.store 24 (Operand.tmp 8) (Operand.tmp 24), type := 0, pos := "law.go:33", after := #[{ on := 5, ground := Ground.data }, { on := 3, ground := Ground.data }, { on := 6, ground := Ground.chain }, { on := 0, ground := Ground.phase }, { on := 1, ground := Ground.phase }, { on := 2, ground := Ground.phase }, { on := 3, ground := Ground.phase }, { on := 4, ground := Ground.phase }, { on := 5, ground := Ground.phase }, { on := 6, ground := Ground.phase }], guard := none }]
set_option maxRecDepth 100000 in
set_option maxHeartbeats 8000000 in
theorem may_own (Q : Exit → Act → World → Prop) (W0 : World) (v0 v1 v2 : Value) (p3 p4 : Nat) (Ax Ay : Option Addr) (nx cx ny cy : Nat) (x1 x2 : List Nat) (HS : ∀ W, Below W0.heap.size W0 W → (fun w' => w'.cell? ⟨p3, 0, none⟩ = some (.slice Ax nx cx) ∧ w'.cell? ⟨p4, 0, none⟩ = some (.slice Ay ny cy)) W) (C0 : ∀ W, Below W0.heap.size W0 W → Calls Tryd.prog 10 #[.agg #[.slice Ax nx cx]] W (GotSet x1 W)) (C1 : ∀ W, Below W0.heap.size W0 W → Calls Tryd.prog 10 #[.agg #[.slice Ay ny cy]] W (GotSet x2 W)) 
    (hQ : ∀ (W : World) (s0 s1 : SV) (g0 g1 : Nat), Below W0.heap.size W0 W → (s0.ws = x1) → (s1.ws = x2) → InBox W0 W g0 s0 → InBox W0 W g1 s1 → Q .normal ⟨#[v0, v1, v2, .pointer (some ⟨p3, 0, none⟩), .pointer (some ⟨p4, 0, none⟩), undef, .bool false, .pointer (some ⟨g0, 0, none⟩), .pointer (some ⟨g1, 0, none⟩), undef, undef, undef, undef, undef, undef, undef, undef, undef, undef, .bool true, .bool false, .agg #[.slice Ax nx cx], .agg #[.slice s0.A s0.n s0.c], .agg #[.slice Ay ny cy], .agg #[.slice s1.A s1.n s1.c], undef, undef, undef, undef, undef, undef, undef, undef, undef, undef, undef, undef, undef, undef, undef, undef, undef, undef, undef, undef, undef, undef, undef, undef, undef, undef, undef, undef, undef, undef, undef, undef, undef, undef, undef, undef, undef, undef, undef, undef, undef, undef, undef, undef, undef, undef, undef, undef, undef, undef, undef, undef, undef, undef, undef, undef, undef, undef, undef, undef, undef, undef, undef, undef, undef, undef, undef, undef, undef, undef, undef, undef, undef, undef, undef, undef, undef, undef, undef, undef, undef, undef, undef, undef, undef, undef, undef, undef, undef, undef, undef, undef, undef, undef, undef, undef], []⟩ W) : (Code.region 3 may_ownOps true).wp Tryd.prog Q ⟨#[v0, v1, v2, .pointer (some ⟨p3, 0, none⟩), .pointer (some ⟨p4, 0, none⟩), undef, .bool false, undef, undef, undef, undef, undef, undef, undef, undef, undef, undef, undef, undef, .bool true, .bool false, undef, undef, undef, undef, undef, undef, undef, undef, undef, undef, undef, undef, undef, undef, undef, undef, undef, undef, undef, undef, undef, undef, undef, undef, undef, undef, undef, undef, undef, undef, undef, undef, undef, undef, undef, undef, undef, undef, undef, undef, undef, undef, undef, undef, undef, undef, undef, undef, undef, undef, undef, undef, undef, undef, undef, undef, undef, undef, undef, undef, undef, undef, undef, undef, undef, undef, undef, undef, undef, undef, undef, undef, undef, undef, undef, undef, undef, undef, undef, undef, undef, undef, undef, undef, undef, undef, undef, undef, undef, undef, undef, undef, undef, undef, undef, undef, undef, undef, undef, undef], []⟩ W0 := by
  have L2_01 : ∀ (W : World) (b : Below W0.heap.size W0 W) (s0 : SV) (s1 : SV) (g0 : Nat) (g1 : Nat) (h0 : s0.ws = x1 ∧ s0.ok W W.heap.size) (h1 : s1.ws = x2 ∧ s1.ok W W.heap.size) (n0 : NewBox W0 W g0) (n1 : NewBox W0 W g1) (d01 : g0 ≠ g1), wpAnyH Tryd.prog .any may_ownOps (NoPanic Q) (fun w' => w'.cell? ⟨p3, 0, none⟩ = some (.slice Ax nx cx) ∧ w'.cell? ⟨p4, 0, none⟩ = some (.slice Ay ny cy)) 2 #[true, true, true, true, true, true, false, false] ⟨#[v0, v1, v2, .pointer (some ⟨p3, 0, none⟩), .pointer (some ⟨p4, 0, none⟩), undef, .bool false, .pointer (some ⟨g0, 0, none⟩), .pointer (some ⟨g1, 0, none⟩), undef, undef, undef, undef, undef, undef, undef, undef, undef, undef, .bool true, .bool false, .agg #[.slice Ax nx cx], .agg #[.slice s0.A s0.n s0.c], .agg #[.slice Ay ny cy], .agg #[.slice s1.A s1.n s1.c], undef, undef, undef, undef, undef, undef, undef, undef, undef, undef, undef, undef, undef, undef, undef, undef, undef, undef, undef, undef, undef, undef, undef, undef, undef, undef, undef, undef, undef, undef, undef, undef, undef, undef, undef, undef, undef, undef, undef, undef, undef, undef, undef, undef, undef, undef, undef, undef, undef, undef, undef, undef, undef, undef, undef, undef, undef, undef, undef, undef, undef, undef, undef, undef, undef, undef, undef, undef, undef, undef, undef, undef, undef, undef, undef, undef, undef, undef, undef, undef, undef, undef, undef, undef, undef, undef, undef, undef, undef, undef, undef, undef, undef, undef, undef, undef], []⟩ W := by
    intro W b s0 s1 g0 g1 h0 h1 n0 n1 d01
    have c0 := n0.2.cell 0
    have f0 := n0.2.frozen 0
    have c1 := n1.2.cell 0
    have f1 := n1.2.frozen 0
    have o0 := h0.2
    have o1 := h1.2
    have b0 : Below W0.heap.size W0 (W.setCell ⟨g0, 0, none⟩ (.slice s0.A s0.n s0.c)) := b.setCell (p := ⟨g0, 0, none⟩) n0.1 _
    refine wpAnyH_ready (rs := [6]) (by kernel_rfl) (by simp) ?_
    refine AllReadyH.cons (o := { dst := none, op := Op.store 24 (Operand.tmp 7) (Operand.tmp 22), type := 0, pos := "law.go:33", after := #[{ on := 4, ground := Ground.data }, { on := 1, ground := Ground.data }, { on := 3, ground := Ground.chain }, { on := 0, ground := Ground.phase }, { on := 1, ground := Ground.phase }, { on := 2, ground := Ground.textOnly Departure.lateStores }, { on := 3, ground := Ground.textOnly Departure.lateStoresUnsure }, { on := 4, ground := Ground.phase }, { on := 5, ground := Ground.phase }], guard := none }) rfl (fun K hK => ?_) AllReadyH.nil
    go_simp
    refine hK.out _ _ (HS _ b0) (fun _ => ?_)
    clear hK K
    try simp only [List.setIfInBounds_toArray, List.set_cons_zero, List.set_cons_succ]
    replace o0 := o0.boxed (v := .slice s0.A s0.n s0.c) n0.2
    replace o1 := o1.boxed (v := .slice s0.A s0.n s0.c) n0.2
    replace n1 := n1.other (g := g0) (u := .slice s0.A s0.n s0.c) (fun e => d01 e.symm)
    replace c1 := n1.2.cell 0
    replace f1 := n1.2.frozen 0
    have k0 : HasBox W0 (W.setCell ⟨g0, 0, none⟩ (.slice s0.A s0.n s0.c)) g0 s0 := n0.put
    have b1 : Below W0.heap.size W0 ((W.setCell ⟨g0, 0, none⟩ (.slice s0.A s0.n s0.c)).setCell ⟨g1, 0, none⟩ (.slice s1.A s1.n s1.c)) := b0.setCell (p := ⟨g1, 0, none⟩) n1.1 _
    refine wpAnyH_ready (rs := [7]) (by kernel_rfl) (by simp) ?_
    refine AllReadyH.cons (o := { dst := none, op := Op.store 24 (Operand.tmp 8) (Operand.tmp 24), type := 0, pos := "law.go:33", after := #[{ on := 5, ground := Ground.data }, { on := 3, ground := Ground.data }, { on := 6, ground := Ground.chain }, { on := 0, ground := Ground.phase }, { on := 1, ground := Ground.phase }, { on := 2, ground := Ground.phase }, { on := 3, ground := Ground.phase }, { on := 4, ground := Ground.phase }, { on := 5, ground := Ground.phase }, { on := 6, ground := Ground.phase }], guard := none }) rfl (fun K hK => ?_) AllReadyH.nil
    go_simp
    refine hK.out _ _ (HS _ b1) (fun _ => ?_)
    clear hK K
    try simp only [List.setIfInBounds_toArray, List.set_cons_zero, List.set_cons_succ]
    replace o0 := o0.boxed (v := .slice s1.A s1.n s1.c) n1.2
    replace o1 := o1.boxed (v := .slice s1.A s1.n s1.c) n1.2
    have k0 := k0.other (g := g1) (u := .slice s1.A s1.n s1.c) (d01)
    have k1 : HasBox W0 ((W.setCell ⟨g0, 0, none⟩ (.slice s0.A s0.n s0.c)).setCell ⟨g1, 0, none⟩ (.slice s1.A s1.n s1.c)) g1 s1 := n1.put
    refine wpAnyH_done (by kernel_rfl) ?_ _
    refine NoPanic.normal ?_
    exact hQ _ s0 s1 g0 g1 b1 h0.1 h1.1 ⟨k0, o0⟩ ⟨k1, o1⟩
  have L2_0 : ∀ (W : World) (b : Below W0.heap.size W0 W) (s0 : SV) (s1 : SV) (g0 : Nat) (h0 : s0.ws = x1 ∧ s0.ok W W.heap.size) (h1 : s1.ws = x2 ∧ s1.ok W W.heap.size) (n0 : NewBox W0 W g0), wpAnyH Tryd.prog .any may_ownOps (NoPanic Q) (fun w' => w'.cell? ⟨p3, 0, none⟩ = some (.slice Ax nx cx) ∧ w'.cell? ⟨p4, 0, none⟩ = some (.slice Ay ny cy)) 3 #[true, true, true, true, true, false, false, false] ⟨#[v0, v1, v2, .pointer (some ⟨p3, 0, none⟩), .pointer (some ⟨p4, 0, none⟩), undef, .bool false, .pointer (some ⟨g0, 0, none⟩), undef, undef, undef, undef, undef, undef, undef, undef, undef, undef, undef, .bool true, .bool false, .agg #[.slice Ax nx cx], .agg #[.slice s0.A s0.n s0.c], .agg #[.slice Ay ny cy], .agg #[.slice s1.A s1.n s1.c], undef, undef, undef, undef, undef, undef, undef, undef, undef, undef, undef, undef, undef, undef, undef, undef, undef, undef, undef, undef, undef, undef, undef, undef, undef, undef, undef, undef, undef, undef, undef, undef, undef, undef, undef, undef, undef, undef, undef, undef, undef, undef, undef, undef, undef, undef, undef, undef, undef, undef, undef, undef, undef, undef, undef, undef, undef, undef, undef, undef, undef, undef, undef, undef, undef, undef, undef, undef, undef, undef, undef, undef, undef, undef, undef, undef, undef, undef, undef, undef, undef, undef, undef, undef, undef, undef, undef, undef, undef, undef, undef, undef, undef, undef, undef, undef], []⟩ W := by
    intro W b s0 s1 g0 h0 h1 n0
    refine wpAnyH_ready (rs := [5]) (by kernel_rfl) (by simp) ?_
    refine AllReadyH.cons (o := { dst := some 8, op := Op.alloc 24, type := 0, pos := "law.go:33", after := #[], guard := none }) rfl (fun K hK => ?_) (AllReadyH.nil)
    · go_simp
      have b' := b.alloc b.size (.cells #[.slice none 0 0] 24)
      refine hK.out _ _ (HS _ b') (fun _ => ?_)
      clear hK K
      try simp only [List.setIfInBounds_toArray, List.set_cons_zero, List.set_cons_succ]
      exact L2_01 _ b' s0 s1 g0 W.heap.size ⟨h0.1, h0.2.on (one_more W _)⟩ ⟨h1.1, h1.2.on (one_more W _)⟩ (n0.on (one_more W _)) (NewBox.new b) (n0.ne_new)
  have L2_1 : ∀ (W : World) (b : Below W0.heap.size W0 W) (s0 : SV) (s1 : SV) (g1 : Nat) (h0 : s0.ws = x1 ∧ s0.ok W W.heap.size) (h1 : s1.ws = x2 ∧ s1.ok W W.heap.size) (n1 : NewBox W0 W g1), wpAnyH Tryd.prog .any may_ownOps (NoPanic Q) (fun w' => w'.cell? ⟨p3, 0, none⟩ = some (.slice Ax nx cx) ∧ w'.cell? ⟨p4, 0, none⟩ = some (.slice Ay ny cy)) 3 #[true, true, true, true, false, true, false, false] ⟨#[v0, v1, v2, .pointer (some ⟨p3, 0, none⟩), .pointer (some ⟨p4, 0, none⟩), undef, .bool false, undef, .pointer (some ⟨g1, 0, none⟩), undef, undef, undef, undef, undef, undef, undef, undef, undef, undef, .bool true, .bool false, .agg #[.slice Ax nx cx], .agg #[.slice s0.A s0.n s0.c], .agg #[.slice Ay ny cy], .agg #[.slice s1.A s1.n s1.c], undef, undef, undef, undef, undef, undef, undef, undef, undef, undef, undef, undef, undef, undef, undef, undef, undef, undef, undef, undef, undef, undef, undef, undef, undef, undef, undef, undef, undef, undef, undef, undef, undef, undef, undef, undef, undef, undef, undef, undef, undef, undef, undef, undef, undef, undef, undef, undef, undef, undef, undef, undef, undef, undef, undef, undef, undef, undef, undef, undef, undef, undef, undef, undef, undef, undef, undef, undef, undef, undef, undef, undef, undef, undef, undef, undef, undef, undef, undef, undef, undef, undef, undef, undef, undef, undef, undef, undef, undef, undef, undef, undef, undef, undef, undef, undef], []⟩ W := by
    intro W b s0 s1 g1 h0 h1 n1
    refine wpAnyH_ready (rs := [4]) (by kernel_rfl) (by simp) ?_
    refine AllReadyH.cons (o := { dst := some 7, op := Op.alloc 24, type := 0, pos := "law.go:33", after := #[], guard := none }) rfl (fun K hK => ?_) (AllReadyH.nil)
    · go_simp
      have b' := b.alloc b.size (.cells #[.slice none 0 0] 24)
      refine hK.out _ _ (HS _ b') (fun _ => ?_)
      clear hK K
      try simp only [List.setIfInBounds_toArray, List.set_cons_zero, List.set_cons_succ]
      exact L2_01 _ b' s0 s1 W.heap.size g1 ⟨h0.1, h0.2.on (one_more W _)⟩ ⟨h1.1, h1.2.on (one_more W _)⟩ (NewBox.new b) (n1.on (one_more W _)) (n1.ne_new')
  have L1_01 : ∀ (W : World) (b : Below W0.heap.size W0 W) (s0 : SV) (g0 : Nat) (g1 : Nat) (h0 : s0.ws = x1 ∧ s0.ok W W.heap.size) (n0 : NewBox W0 W g0) (n1 : NewBox W0 W g1) (d01 : g0 ≠ g1), wpAnyH Tryd.prog .any may_ownOps (NoPanic Q) (fun w' => w'.cell? ⟨p3, 0, none⟩ = some (.slice Ax nx cx) ∧ w'.cell? ⟨p4, 0, none⟩ = some (.slice Ay ny cy)) 3 #[true, true, true, false, true, true, false, false] ⟨#[v0, v1, v2, .pointer (some ⟨p3, 0, none⟩), .pointer (some ⟨p4, 0, none⟩), undef, .bool false, .pointer (some ⟨g0, 0, none⟩), .pointer (some ⟨g1, 0, none⟩), undef, undef, undef, undef, undef, undef, undef, undef, undef, undef, .bool true, .bool false, .agg #[.slice Ax nx cx], .agg #[.slice s0.A s0.n s0.c], .agg #[.slice Ay ny cy], undef, undef, undef, undef, undef, undef, undef, undef, undef, undef, undef, undef, undef, undef, undef, undef, undef, undef, undef, undef, undef, undef, undef, undef, undef, undef, undef, undef, undef, undef, undef, undef, undef, undef, undef, undef, undef, undef, undef, undef, undef, undef, undef, undef, undef, undef, undef, undef, undef, undef, undef, undef, undef, undef, undef, undef, undef, undef, undef, undef, undef, undef, undef, undef, undef, undef, undef, undef, undef, undef, undef, undef, undef, undef, undef, undef, undef, undef, undef, undef, undef, undef, undef, undef, undef, undef, undef, undef, undef, undef, undef, undef, undef, undef, undef, undef, undef], []⟩ W := by
    intro W b s0 g0 g1 h0 n0 n1 d01
    refine wpAnyH_ready (rs := [3]) (by kernel_rfl) (by simp) ?_
    refine AllReadyH.cons (o := { dst := some 24, op := Op.call { callee := Callee.value (Operand.func 10), args := #[Operand.tmp 23], argTypes := #[24] }, type := 24, pos := "law.go:33", after := #[{ on := 2, ground := Ground.data }, { on := 1, ground := Ground.chain }], guard := none }) rfl (fun K hK => ?_) (AllReadyH.nil)
    · go_simp
      refine (C1 W b).mono ?_
      rintro e W' ⟨s1, rfl, e1, o1, _, bb⟩
      have b' := b.trans (bb.mono b.size)
      refine hK.out _ _ (HS _ b') (fun _ => ?_)
      clear hK K
      try simp only [List.setIfInBounds_toArray, List.set_cons_zero, List.set_cons_succ]
      exact L2_01 _ b' s0 s1 g0 g1 ⟨h0.1, h0.2.on bb⟩ ⟨e1, o1⟩ (n0.on bb) (n1.on bb) d01
  have L2_ : ∀ (W : World) (b : Below W0.heap.size W0 W) (s0 : SV) (s1 : SV) (h0 : s0.ws = x1 ∧ s0.ok W W.heap.size) (h1 : s1.ws = x2 ∧ s1.ok W W.heap.size), wpAnyH Tryd.prog .any may_ownOps (NoPanic Q) (fun w' => w'.cell? ⟨p3, 0, none⟩ = some (.slice Ax nx cx) ∧ w'.cell? ⟨p4, 0, none⟩ = some (.slice Ay ny cy)) 4 #[true, true, true, true, false, false, false, false] ⟨#[v0, v1, v2, .pointer (some ⟨p3, 0, none⟩), .pointer (some ⟨p4, 0, none⟩), undef, .bool false, undef, undef, undef, undef, undef, undef, undef, undef, undef, undef, undef, undef, .bool true, .bool false, .agg #[.slice Ax nx cx], .agg #[.slice s0.A s0.n s0.c], .agg #[.slice Ay ny cy], .agg #[.slice s1.A s1.n s1.c], undef, undef, undef, undef, undef, undef, undef, undef, undef, undef, undef, undef, undef, undef, undef, undef, undef, undef, undef, undef, undef, undef, undef, undef, undef, undef, undef, undef, undef, undef, undef, undef, undef, undef, undef, undef, undef, undef, undef, undef, undef, undef, undef, undef, undef, undef, undef, undef, undef, undef, undef, undef, undef, undef, undef, undef, undef, undef, undef, undef, undef, undef, undef, undef, undef, undef, undef, undef, undef, undef, undef, undef, undef, undef, undef, undef, undef, undef, undef, undef, undef, undef, undef, undef, undef, undef, undef, undef, undef, undef, undef, undef, undef, undef, undef, undef], []⟩ W := by
    intro W b s0 s1 h0 h1
    refine wpAnyH_ready (rs := [4, 5]) (by kernel_rfl) (by simp) ?_
    refine AllReadyH.cons (o := { dst := some 7, op := Op.alloc 24, type := 0, pos := "law.go:33", after := #[], guard := none }) rfl (fun K hK => ?_) (AllReadyH.cons (o := { dst := some 8, op := Op.alloc 24, type := 0, pos := "law.go:33", after := #[], guard := none }) rfl (fun K hK => ?_) (AllReadyH.nil))
    · go_simp
      have b' := b.alloc b.size (.cells #[.slice none 0 0] 24)
      refine hK.out _ _ (HS _ b') (fun _ => ?_)
      clear hK K
      try simp only [List.setIfInBounds_toArray, List.set_cons_zero, List.set_cons_succ]
      exact L2_0 _ b' s0 s1 W.heap.size ⟨h0.1, h0.2.on (one_more W _)⟩ ⟨h1.1, h1.2.on (one_more W _)⟩ (NewBox.new b)
    · go_simp
      have b' := b.alloc b.size (.cells #[.slice none 0 0] 24)
      refine hK.out _ _ (HS _ b') (fun _ => ?_)
      clear hK K
      try simp only [List.setIfInBounds_toArray, List.set_cons_zero, List.set_cons_succ]
      exact L2_1 _ b' s0 s1 W.heap.size ⟨h0.1, h0.2.on (one_more W _)⟩ ⟨h1.1, h1.2.on (one_more W _)⟩ (NewBox.new b)
  have L1_0 : ∀ (W : World) (b : Below W0.heap.size W0 W) (s0 : SV) (g0 : Nat) (h0 : s0.ws = x1 ∧ s0.ok W W.heap.size) (n0 : NewBox W0 W g0), wpAnyH Tryd.prog .any may_ownOps (NoPanic Q) (fun w' => w'.cell? ⟨p3, 0, none⟩ = some (.slice Ax nx cx) ∧ w'.cell? ⟨p4, 0, none⟩ = some (.slice Ay ny cy)) 4 #[true, true, true, false, true, false, false, false] ⟨#[v0, v1, v2, .pointer (some ⟨p3, 0, none⟩), .pointer (some ⟨p4, 0, none⟩), undef, .bool false, .pointer (some ⟨g0, 0, none⟩), undef, undef, undef, undef, undef, undef, undef, undef, undef, undef, undef, .bool true, .bool false, .agg #[.slice Ax nx cx], .agg #[.slice s0.A s0.n s0.c], .agg #[.slice Ay ny cy], undef, undef, undef, undef, undef, undef, undef, undef, undef, undef, undef, undef, undef, undef, undef, undef, undef, undef, undef, undef, undef, undef, undef, undef, undef, undef, undef, undef, undef, undef, undef, undef, undef, undef, undef, undef, undef, undef, undef, undef, undef, undef, undef, undef, undef, undef, undef, undef, undef, undef, undef, undef, undef, undef, undef, undef, undef, undef, undef, undef, undef, undef, undef, undef, undef, undef, undef, undef, undef, undef, undef, undef, undef, undef, undef, undef, undef, undef, undef, undef, undef, undef, undef, undef, undef, undef, undef, undef, undef, undef, undef, undef, undef, undef, undef, undef, undef], []⟩ W := by
    intro W b s0 g0 h0 n0
    refine wpAnyH_ready (rs := [3, 5]) (by kernel_rfl) (by simp) ?_
    refine AllReadyH.cons (o := { dst := some 24, op := Op.call { callee := Callee.value (Operand.func 10), args := #[Operand.tmp 23], argTypes := #[24] }, type := 24, pos := "law.go:33", after := #[{ on := 2, ground := Ground.data }, { on := 1, ground := Ground.chain }], guard := none }) rfl (fun K hK => ?_) (AllReadyH.cons (o := { dst := some 8, op := Op.alloc 24, type := 0, pos := "law.go:33", after := #[], guard := none }) rfl (fun K hK => ?_) (AllReadyH.nil))
    · go_simp
      refine (C1 W b).mono ?_
      rintro e W' ⟨s1, rfl, e1, o1, _, bb⟩
      have b' := b.trans (bb.mono b.size)
      refine hK.out _ _ (HS _ b') (fun _ => ?_)
      clear hK K
      try simp only [List.setIfInBounds_toArray, List.set_cons_zero, List.set_cons_succ]
      exact L2_0 _ b' s0 s1 g0 ⟨h0.1, h0.2.on bb⟩ ⟨e1, o1⟩ (n0.on bb)
    · go_simp
      have b' := b.alloc b.size (.cells #[.slice none 0 0] 24)
      refine hK.out _ _ (HS _ b') (fun _ => ?_)
      clear hK K
      try simp only [List.setIfInBounds_toArray, List.set_cons_zero, List.set_cons_succ]
      exact L1_01 _ b' s0 g0 W.heap.size ⟨h0.1, h0.2.on (one_more W _)⟩ (n0.on (one_more W _)) (NewBox.new b) (n0.ne_new)
  have L1_1 : ∀ (W : World) (b : Below W0.heap.size W0 W) (s0 : SV) (g1 : Nat) (h0 : s0.ws = x1 ∧ s0.ok W W.heap.size) (n1 : NewBox W0 W g1), wpAnyH Tryd.prog .any may_ownOps (NoPanic Q) (fun w' => w'.cell? ⟨p3, 0, none⟩ = some (.slice Ax nx cx) ∧ w'.cell? ⟨p4, 0, none⟩ = some (.slice Ay ny cy)) 4 #[true, true, true, false, false, true, false, false] ⟨#[v0, v1, v2, .pointer (some ⟨p3, 0, none⟩), .pointer (some ⟨p4, 0, none⟩), undef, .bool false, undef, .pointer (some ⟨g1, 0, none⟩), undef, undef, undef, undef, undef, undef, undef, undef, undef, undef, .bool true, .bool false, .agg #[.slice Ax nx cx], .agg #[.slice s0.A s0.n s0.c], .agg #[.slice Ay ny cy], undef, undef, undef, undef, undef, undef, undef, undef, undef, undef, undef, undef, undef, undef, undef, undef, undef, undef, undef, undef, undef, undef, undef, undef, undef, undef, undef, undef, undef, undef, undef, undef, undef, undef, undef, undef, undef, undef, undef, undef, undef, undef, undef, undef, undef, undef, undef, undef, undef, undef, undef, undef, undef, undef, undef, undef, undef, undef, undef, undef, undef, undef, undef, undef, undef, undef, undef, undef, undef, undef, undef, undef, undef, undef, undef, undef, undef, undef, undef, undef, undef, undef, undef, undef, undef, undef, undef, undef, undef, undef, undef, undef, undef, undef, undef, undef, undef], []⟩ W := by
    intro W b s0 g1 h0 n1
    refine wpAnyH_ready (rs := [3, 4]) (by kernel_rfl) (by simp) ?_
    refine AllReadyH.cons (o := { dst := some 24, op := Op.call { callee := Callee.value (Operand.func 10), args := #[Operand.tmp 23], argTypes := #[24] }, type := 24, pos := "law.go:33", after := #[{ on := 2, ground := Ground.data }, { on := 1, ground := Ground.chain }], guard := none }) rfl (fun K hK => ?_) (AllReadyH.cons (o := { dst := some 7, op := Op.alloc 24, type := 0, pos := "law.go:33", after := #[], guard := none }) rfl (fun K hK => ?_) (AllReadyH.nil))
    · go_simp
      refine (C1 W b).mono ?_
      rintro e W' ⟨s1, rfl, e1, o1, _, bb⟩
      have b' := b.trans (bb.mono b.size)
      refine hK.out _ _ (HS _ b') (fun _ => ?_)
      clear hK K
      try simp only [List.setIfInBounds_toArray, List.set_cons_zero, List.set_cons_succ]
      exact L2_1 _ b' s0 s1 g1 ⟨h0.1, h0.2.on bb⟩ ⟨e1, o1⟩ (n1.on bb)
    · go_simp
      have b' := b.alloc b.size (.cells #[.slice none 0 0] 24)
      refine hK.out _ _ (HS _ b') (fun _ => ?_)
      clear hK K
      try simp only [List.setIfInBounds_toArray, List.set_cons_zero, List.set_cons_succ]
      exact L1_01 _ b' s0 W.heap.size g1 ⟨h0.1, h0.2.on (one_more W _)⟩ (NewBox.new b) (n1.on (one_more W _)) (n1.ne_new')
  have L0_01 : ∀ (W : World) (b : Below W0.heap.size W0 W) (g0 : Nat) (g1 : Nat) (n0 : NewBox W0 W g0) (n1 : NewBox W0 W g1) (d01 : g0 ≠ g1), wpAnyH Tryd.prog .any may_ownOps (NoPanic Q) (fun w' => w'.cell? ⟨p3, 0, none⟩ = some (.slice Ax nx cx) ∧ w'.cell? ⟨p4, 0, none⟩ = some (.slice Ay ny cy)) 4 #[true, false, true, false, true, true, false, false] ⟨#[v0, v1, v2, .pointer (some ⟨p3, 0, none⟩), .pointer (some ⟨p4, 0, none⟩), undef, .bool false, .pointer (some ⟨g0, 0, none⟩), .pointer (some ⟨g1, 0, none⟩), undef, undef, undef, undef, undef, undef, undef, undef, undef, undef, .bool true, .bool false, .agg #[.slice Ax nx cx], undef, .agg #[.slice Ay ny cy], undef, undef, undef, undef, undef, undef, undef, undef, undef, undef, undef, undef, undef, undef, undef, undef, undef, undef, undef, undef, undef, undef, undef, undef, undef, undef, undef, undef, undef, undef, undef, undef, undef, undef, undef, undef, undef, undef, undef, undef, undef, undef, undef, undef, undef, undef, undef, undef, undef, undef, undef, undef, undef, undef, undef, undef, undef, undef, undef, undef, undef, undef, undef, undef, undef, undef, undef, undef, undef, undef, undef, undef, undef, undef, undef, undef, undef, undef, undef, undef, undef, undef, undef, undef, undef, undef, undef, undef, undef, undef, undef, undef, undef, undef, undef, undef, undef], []⟩ W := by
    intro W b  g0 g1 n0 n1 d01
    refine wpAnyH_ready (rs := [1]) (by kernel_rfl) (by simp) ?_
    refine AllReadyH.cons (o := { dst := some 22, op := Op.call { callee := Callee.value (Operand.func 10), args := #[Operand.tmp 21], argTypes := #[24] }, type := 24, pos := "law.go:33", after := #[{ on := 0, ground := Ground.data }], guard := none }) rfl (fun K hK => ?_) (AllReadyH.nil)
    · go_simp
      refine (C0 W b).mono ?_
      rintro e W' ⟨s0, rfl, e0, o0, _, bb⟩
      have b' := b.trans (bb.mono b.size)
      refine hK.out _ _ (HS _ b') (fun _ => ?_)
      clear hK K
      try simp only [List.setIfInBounds_toArray, List.set_cons_zero, List.set_cons_succ]
      exact L1_01 _ b' s0 g0 g1 ⟨e0, o0⟩ (n0.on bb) (n1.on bb) d01
  have L1_ : ∀ (W : World) (b : Below W0.heap.size W0 W) (s0 : SV) (h0 : s0.ws = x1 ∧ s0.ok W W.heap.size), wpAnyH Tryd.prog .any may_ownOps (NoPanic Q) (fun w' => w'.cell? ⟨p3, 0, none⟩ = some (.slice Ax nx cx) ∧ w'.cell? ⟨p4, 0, none⟩ = some (.slice Ay ny cy)) 5 #[true, true, true, false, false, false, false, false] ⟨#[v0, v1, v2, .pointer (some ⟨p3, 0, none⟩), .pointer (some ⟨p4, 0, none⟩), undef, .bool false, undef, undef, undef, undef, undef, undef, undef, undef, undef, undef, undef, undef, .bool true, .bool false, .agg #[.slice Ax nx cx], .agg #[.slice s0.A s0.n s0.c], .agg #[.slice Ay ny cy], undef, undef, undef, undef, undef, undef, undef, undef, undef, undef, undef, undef, undef, undef, undef, undef, undef, undef, undef, undef, undef, undef, undef, undef, undef, undef, undef, undef, undef, undef, undef, undef, undef, undef, undef, undef, undef, undef, undef, undef, undef, undef, undef, undef, undef, undef, undef, undef, undef, undef, undef, undef, undef, undef, undef, undef, undef, undef, undef, undef, undef, undef, undef, undef, undef, undef, undef, undef, undef, undef, undef, undef, undef, undef, undef, undef, undef, undef, undef, undef, undef, undef, undef, undef, undef, undef, undef, undef, undef, undef, undef, undef, undef, undef, undef, undef, undef], []⟩ W := by
    intro W b s0 h0
    refine wpAnyH_ready (rs := [3, 4, 5]) (by kernel_rfl) (by simp) ?_
    refine AllReadyH.cons (o := { dst := some 24, op := Op.call { callee := Callee.value (Operand.func 10), args := #[Operand.tmp 23], argTypes := #[24] }, type := 24, pos := "law.go:33", after := #[{ on := 2, ground := Ground.data }, { on := 1, ground := Ground.chain }], guard := none }) rfl (fun K hK => ?_) (AllReadyH.cons (o := { dst := some 7, op := Op.alloc 24, type := 0, pos := "law.go:33", after := #[], guard := none }) rfl (fun K hK => ?_) (AllReadyH.cons (o := { dst := some 8, op := Op.alloc 24, type := 0, pos := "law.go:33", after := #[], guard := none }) rfl (fun K hK => ?_) (AllReadyH.nil)))
    · go_simp
      refine (C1 W b).mono ?_
      rintro e W' ⟨s1, rfl, e1, o1, _, bb⟩
      have b' := b.trans (bb.mono b.size)
      refine hK.out _ _ (HS _ b') (fun _ => ?_)
      clear hK K
      try simp only [List.setIfInBounds_toArray, List.set_cons_zero, List.set_cons_succ]
      exact L2_ _ b' s0 s1 ⟨h0.1, h0.2.on bb⟩ ⟨e1, o1⟩
    · go_simp
      have b' := b.alloc b.size (.cells #[.slice none 0 0] 24)
      refine hK.out _ _ (HS _ b') (fun _ => ?_)
      clear hK K
      try simp only [List.setIfInBounds_toArray, List.set_cons_zero, List.set_cons_succ]
      exact L1_0 _ b' s0 W.heap.size ⟨h0.1, h0.2.on (one_more W _)⟩ (NewBox.new b)
    · go_simp
      have b' := b.alloc b.size (.cells #[.slice none 0 0] 24)
      refine hK.out _ _ (HS _ b') (fun _ => ?_)
      clear hK K
      try simp only [List.setIfInBounds_toArray, List.set_cons_zero, List.set_cons_succ]
      exact L1_1 _ b' s0 W.heap.size ⟨h0.1, h0.2.on (one_more W _)⟩ (NewBox.new b)
  have L0_0 : ∀ (W : World) (b : Below W0.heap.size W0 W) (g0 : Nat) (n0 : NewBox W0 W g0), wpAnyH Tryd.prog .any may_ownOps (NoPanic Q) (fun w' => w'.cell? ⟨p3, 0, none⟩ = some (.slice Ax nx cx) ∧ w'.cell? ⟨p4, 0, none⟩ = some (.slice Ay ny cy)) 5 #[true, false, true, false, true, false, false, false] ⟨#[v0, v1, v2, .pointer (some ⟨p3, 0, none⟩), .pointer (some ⟨p4, 0, none⟩), undef, .bool false, .pointer (some ⟨g0, 0, none⟩), undef, undef, undef, undef, undef, undef, undef, undef, undef, undef, undef, .bool true, .bool false, .agg #[.slice Ax nx cx], undef, .agg #[.slice Ay ny cy], undef, undef, undef, undef, undef, undef, undef, undef, undef, undef, undef, undef, undef, undef, undef, undef, undef, undef, undef, undef, undef, undef, undef, undef, undef, undef, undef, undef, undef, undef, undef, undef, undef, undef, undef, undef, undef, undef, undef, undef, undef, undef, undef, undef, undef, undef, undef, undef, undef, undef, undef, undef, undef, undef, undef, undef, undef, undef, undef, undef, undef, undef, undef, undef, undef, undef, undef, undef, undef, undef, undef, undef, undef, undef, undef, undef, undef, undef, undef, undef, undef, undef, undef, undef, undef, undef, undef, undef, undef, undef, undef, undef, undef, undef, undef, undef, undef], []⟩ W := by
    intro W b  g0 n0
    refine wpAnyH_ready (rs := [1, 5]) (by kernel_rfl) (by simp) ?_
    refine AllReadyH.cons (o := { dst := some 22, op := Op.call { callee := Callee.value (Operand.func 10), args := #[Operand.tmp 21], argTypes := #[24] }, type := 24, pos := "law.go:33", after := #[{ on := 0, ground := Ground.data }], guard := none }) rfl (fun K hK => ?_) (AllReadyH.cons (o := { dst := some 8, op := Op.alloc 24, type := 0, pos := "law.go:33", after := #[], guard := none }) rfl (fun K hK => ?_) (AllReadyH.nil))
    · go_simp
      refine (C0 W b).mono ?_
      rintro e W' ⟨s0, rfl, e0, o0, _, bb⟩
      have b' := b.trans (bb.mono b.size)
      refine hK.out _ _ (HS _ b') (fun _ => ?_)
      clear hK K
      try simp only [List.setIfInBounds_toArray, List.set_cons_zero, List.set_cons_succ]
      exact L1_0 _ b' s0 g0 ⟨e0, o0⟩ (n0.on bb)
    · go_simp
      have b' := b.alloc b.size (.cells #[.slice none 0 0] 24)
      refine hK.out _ _ (HS _ b') (fun _ => ?_)
      clear hK K
      try simp only [List.setIfInBounds_toArray, List.set_cons_zero, List.set_cons_succ]
      exact L0_01 _ b' g0 W.heap.size (n0.on (one_more W _)) (NewBox.new b) (n0.ne_new)
  have L0_1 : ∀ (W : World) (b : Below W0.heap.size W0 W) (g1 : Nat) (n1 : NewBox W0 W g1), wpAnyH Tryd.prog .any may_ownOps (NoPanic Q) (fun w' => w'.cell? ⟨p3, 0, none⟩ = some (.slice Ax nx cx) ∧ w'.cell? ⟨p4, 0, none⟩ = some (.slice Ay ny cy)) 5 #[true, false, true, false, false, true, false, false] ⟨#[v0, v1, v2, .pointer (some ⟨p3, 0, none⟩), .pointer (some ⟨p4, 0, none⟩), undef, .bool false, undef, .pointer (some ⟨g1, 0, none⟩), undef, undef, undef, undef, undef, undef, undef, undef, undef, undef, .bool true, .bool false, .agg #[.slice Ax nx cx], undef, .agg #[.slice Ay ny cy], undef, undef, undef, undef, undef, undef, undef, undef, undef, undef, undef, undef, undef, undef, undef, undef, undef, undef, undef, undef, undef, undef, undef, undef, undef, undef, undef, undef, undef, undef, undef, undef, undef, undef, undef, undef, undef, undef, undef, undef, undef, undef, undef, undef, undef, undef, undef, undef, undef, undef, undef, undef, undef, undef, undef, undef, undef, undef, undef, undef, undef, undef, undef, undef, undef, undef, undef, undef, undef, undef, undef, undef, undef, undef, undef, undef, undef, undef, undef, undef, undef, undef, undef, undef, undef, undef, undef, undef, undef, undef, undef, undef, undef, undef, undef, undef, undef], []⟩ W := by
    intro W b  g1 n1
    refine wpAnyH_ready (rs := [1, 4]) (by kernel_rfl) (by simp) ?_
    refine AllReadyH.cons (o := { dst := some 22, op := Op.call { callee := Callee.value (Operand.func 10), args := #[Operand.tmp 21], argTypes := #[24] }, type := 24, pos := "law.go:33", after := #[{ on := 0, ground := Ground.data }], guard := none }) rfl (fun K hK => ?_) (AllReadyH.cons (o := { dst := some 7, op := Op.alloc 24, type := 0, pos := "law.go:33", after := #[], guard := none }) rfl (fun K hK => ?_) (AllReadyH.nil))
    · go_simp
      refine (C0 W b).mono ?_
      rintro e W' ⟨s0, rfl, e0, o0, _, bb⟩
      have b' := b.trans (bb.mono b.size)
      refine hK.out _ _ (HS _ b') (fun _ => ?_)
      clear hK K
      try simp only [List.setIfInBounds_toArray, List.set_cons_zero, List.set_cons_succ]
      exact L1_1 _ b' s0 g1 ⟨e0, o0⟩ (n1.on bb)
    · go_simp
      have b' := b.alloc b.size (.cells #[.slice none 0 0] 24)
      refine hK.out _ _ (HS _ b') (fun _ => ?_)
      clear hK K
      try simp only [List.setIfInBounds_toArray, List.set_cons_zero, List.set_cons_succ]
      exact L0_01 _ b' W.heap.size g1 (NewBox.new b) (n1.on (one_more W _)) (n1.ne_new')
  have L0_ : ∀ (W : World) (b : Below W0.heap.size W0 W)  , wpAnyH Tryd.prog .any may_ownOps (NoPanic Q) (fun w' => w'.cell? ⟨p3, 0, none⟩ = some (.slice Ax nx cx) ∧ w'.cell? ⟨p4, 0, none⟩ = some (.slice Ay ny cy)) 6 #[true, false, true, false, false, false, false, false] ⟨#[v0, v1, v2, .pointer (some ⟨p3, 0, none⟩), .pointer (some ⟨p4, 0, none⟩), undef, .bool false, undef, undef, undef, undef, undef, undef, undef, undef, undef, undef, undef, undef, .bool true, .bool false, .agg #[.slice Ax nx cx], undef, .agg #[.slice Ay ny cy], undef, undef, undef, undef, undef, undef, undef, undef, undef, undef, undef, undef, undef, undef, undef, undef, undef, undef, undef, undef, undef, undef, undef, undef, undef, undef, undef, undef, undef, undef, undef, undef, undef, undef, undef, undef, undef, undef, undef, undef, undef, undef, undef, undef, undef, undef, undef, undef, undef, undef, undef, undef, undef, undef, undef, undef, undef, undef, undef, undef, undef, undef, undef, undef, undef, undef, undef, undef, undef, undef, undef, undef, undef, undef, undef, undef, undef, undef, undef, undef, undef, undef, undef, undef, undef, undef, undef, undef, undef, undef, undef, undef, undef, undef, undef, undef, undef], []⟩ W := by
    intro W b  
    refine wpAnyH_ready (rs := [1, 4, 5]) (by kernel_rfl) (by simp) ?_
    refine AllReadyH.cons (o := { dst := some 22, op := Op.call { callee := Callee.value (Operand.func 10), args := #[Operand.tmp 21], argTypes := #[24] }, type := 24, pos := "law.go:33", after := #[{ on := 0, ground := Ground.data }], guard := none }) rfl (fun K hK => ?_) (AllReadyH.cons (o := { dst := some 7, op := Op.alloc 24, type := 0, pos := "law.go:33", after := #[], guard := none }) rfl (fun K hK => ?_) (AllReadyH.cons (o := { dst := some 8, op := Op.alloc 24, type := 0, pos := "law.go:33", after := #[], guard := none }) rfl (fun K hK => ?_) (AllReadyH.nil)))
    · go_simp
      refine (C0 W b).mono ?_
      rintro e W' ⟨s0, rfl, e0, o0, _, bb⟩
      have b' := b.trans (bb.mono b.size)
      refine hK.out _ _ (HS _ b') (fun _ => ?_)
      clear hK K
      try simp only [List.setIfInBounds_toArray, List.set_cons_zero, List.set_cons_succ]
      exact L1_ _ b' s0 ⟨e0, o0⟩
    · go_simp
      have b' := b.alloc b.size (.cells #[.slice none 0 0] 24)
      refine hK.out _ _ (HS _ b') (fun _ => ?_)
      clear hK K
      try simp only [List.setIfInBounds_toArray, List.set_cons_zero, List.set_cons_succ]
      exact L0_0 _ b' W.heap.size (NewBox.new b)
    · go_simp
      have b' := b.alloc b.size (.cells #[.slice none 0 0] 24)
      refine hK.out _ _ (HS _ b') (fun _ => ?_)
      clear hK K
      try simp only [List.setIfInBounds_toArray, List.set_cons_zero, List.set_cons_succ]
      exact L0_1 _ b' W.heap.size (NewBox.new b)
  have bd : Below W0.heap.size W0 W0.drew := below_drew' (Below.refl _ _)
  refine wp_region_noPanic ?_
  refine wp_region_held_drew (S := fun w' => w'.cell? ⟨p3, 0, none⟩ = some (.slice Ax nx cx) ∧ w'.cell? ⟨p4, 0, none⟩ = some (.slice Ay ny cy)) (by kernel_rfl) (HS _ bd) (fun hHeld => ?_)
  refine wpAnyH_take (i := 0) (oi := { dst := some 21, op := Op.load 24 (Operand.tmp 3), type := 24, pos := "law.go:33", after := #[], guard := none }) (v := .agg #[.slice Ax nx cx]) rfl (by kernel_rfl) (by kernel_rfl) (by kernel_rfl) (fun _ _ _ h => h) (Or.inl ⟨by kernel_rfl, fun w' hSw => by (try dsimp only at hSw); go_simp⟩) (by assumption) ?_
  try simp only [Act.put, List.setIfInBounds_toArray, List.set_cons_zero, List.set_cons_succ]
  refine wpAnyH_take (i := 2) (oi := { dst := some 23, op := Op.load 24 (Operand.tmp 4), type := 24, pos := "law.go:33", after := #[], guard := none }) (v := .agg #[.slice Ay ny cy]) rfl (by kernel_rfl) (by kernel_rfl) (by kernel_rfl) (fun _ _ _ h => h) (Or.inl ⟨by kernel_rfl, fun w' hSw => by (try dsimp only at hSw); go_simp⟩) (by assumption) ?_
  try simp only [Act.put, List.setIfInBounds_toArray, List.set_cons_zero, List.set_cons_succ]
  exact L0_ W0.drew bd
end Go.Proofs.YtpkpfnilfabkaaaDoor
