/- Layer path: Far: its contracts. -/
import Derived.Maps.OwnSet
import Derived.Maps.OwnOps
import Derived.Deep.RegionLawGrows
import Derived.Test.YtgbpaiffnhpafaaDoorM10
import Derived.Test.YtgbpaiffnhpafaaDoorM15
import Derived.Test.YtgbpaiffnhpafaaDoorM13
import Derived.Sort.CutIn
import Derived.Test.YtgbpaiffnhpafaaDoorM14
-- holds: YtgbpaiffnhpafaaDoorPi YtgbpaiffnhpafaaDoorPj YtgbpaiffnhpafaaDoorPk YtgbpaiffnhpafaaDoorPl YtgbpaiffnhpafaaDoorPn YtgbpaiffnhpafaaDoorPo YtgbpaiffnhpafaaDoorPp
namespace Go.Proofs.YtgbpaiffnhpafaaDoor
open Go.RowKit Go.Shelf
open Go.Maps (Keyed IsMap atKey_put_same atKey_put_other int_keyed keyOf_int_mk has_true_of_atKey has_false_of_atKey)

/-- A way that was met, and where its nodes lie. -/
structure Ent where
  A : Option Addr
  c : Nat
  row : List Int
def Ent.val (e : Ent) : Value := .slice e.A e.row.length e.c
def heldR (v : Value) : Option (DataW Value × List MemPlace) := some (.held v, [])
def metF (E : List Ent) (v : Int) : Option Ent := E.find? fun e => endO e.row == v
def MetD (D : DataW Value) (E : List Ent) : Prop := IsMap D ∧ ∀ (v : Int) (zd : DataW Value), D.atKey (.int .i64 v) zd = match metF E v with | some e => .held e.val | none => zd
theorem metD_none : MetD (.map []) [] := ⟨⟨[], rfl⟩, fun _ _ => rfl⟩
theorem metF_none {E : List Ent} {v : Int} (h : metF E v = none) : ¬ ∃ p ∈ E.map Ent.row, endO p = v := by
  rintro ⟨p, hp, e⟩
  obtain ⟨x, hx, rfl⟩ := List.mem_map.1 hp
  have := List.find?_eq_none.1 h x hx
  simp [e] at this
theorem metF_some {E : List Ent} {v : Int} {e : Ent} (h : metF E v = some e) : e ∈ E ∧ endO e.row = v := by
  refine ⟨List.mem_of_find?_eq_some h, ?_⟩
  have := List.find?_some h
  simpa using this
theorem MetD.put {D : DataW Value} {E : List Ent} (h : MetD D E) {e : Ent} (hn : metF E (endO e.row) = none) : MetD (D.put (.int .i64 (endO e.row)) (.held e.val)) (E ++ [e]) := by
  refine ⟨h.1.put _ _, fun v zd => ?_⟩
  unfold metF
  rw [List.find?_append]
  by_cases e1 : v = endO e.row
  · subst e1
    rw [atKey_put_same h.1 (show WideAt.IsKeyLit (.int .i64 (endO e.row)) from trivial)]
    have h2 : List.find? (fun e_1 => endO e_1.row == endO e.row) E = none := hn
    rw [h2]
    simp
  · rw [atKey_put_other (fun e2 => e1 (by injection e2)), h.2 v]
    have h2 : ([e] : List Ent).find? (fun e_1 => endO e_1.row == v) = none := by
      simp
      exact fun c => e1 c.symm
    rw [h2, Option.or_none]
    rfl
theorem MetD.first {e : Ent} : MetD ((DataW.map []).put (.int .i64 (endO e.row)) (.held e.val)) [e] := MetD.put metD_none (E := []) rfl

structure MetAt (N M : Nat) (E : List Ent) (W : World) : Prop where
  own : ∃ k D, W.ownsMap (H := Value) Tryd.prog 3 heldR M k D ∧ k ≤ E.length ∧ MetD D E
  lo : N ≤ M
  rows : ∀ e ∈ E, ∃ g cur, e.A = some ⟨g, 0, none⟩ ∧ N ≤ g ∧ Blk W g 3 cur ∧ e.row.length ≤ e.c ∧ e.c ≤ 9223372036854775807 ∧ ∀ j u, (ints e.row)[j]? = some u → W.cell? ⟨g, j, none⟩ = some u
section
variable {N M : Nat} {E : List Ent} {W W' : World}
theorem map_block {k : Nat} {D : DataW Value} (h : W.ownsMap (H := Value) Tryd.prog 3 heldR M k D) (hb : W'.heap[M]? = W.heap[M]?) : W'.ownsMap (H := Value) Tryd.prog 3 heldR M k D := by
  obtain ⟨es, clock, h1, r⟩ := h
  exact ⟨es, clock, hb.trans h1, r⟩
theorem MetAt.lt (h : MetAt N M E W) : M < W.heap.size := by
  obtain ⟨k, D, h1, _⟩ := h.own
  exact h1.lt
theorem MetAt.own_block (h : MetAt N M E W) {e : Ent} (he : e ∈ E) {g : Nat} (hg : e.val.ownBlock = some g) : N ≤ g ∧ g < W.heap.size ∧ ∃ cur, Blk W g 3 cur := by
  obtain ⟨g', cur, h1, h2, h3, _⟩ := h.rows e he
  unfold Ent.val at hg
  rw [h1] at hg
  injection hg with hg
  subst hg
  exact ⟨h2, h3.lt, cur, h3⟩
theorem MetAt.keep {S : Nat → Prop} (h : MetAt N M E W) (hk : Keep S W W') (hM : S M) (hS : ∀ e ∈ E, ∀ g, e.val.ownBlock = some g → S g) : MetAt N M E W' := by
  have hlt := h.lt
  obtain ⟨k, D, h1, h2, h3⟩ := h.own
  refine ⟨⟨k, D, map_block h1 (hk.block M hlt hM), h2, h3⟩, h.lo, fun e he => ?_⟩
  obtain ⟨g, cur, h4, h5, h6, h7, h8, h9⟩ := h.rows e he
  have hs : S g := hS e he g (by unfold Ent.val; rw [h4]; rfl)
  refine ⟨g, cur, h4, h5, hk.blk h6 hs, h7, h8, fun j u hu => ?_⟩
  have h10 := h9 j u hu
  rw [(hk.blk h6 hs).cell]
  rw [h6.cell] at h10
  exact h10
theorem MetAt.on (h : MetAt N M E W) (hb : Below W.heap.size W W') : MetAt N M E W' := h.keep (Keep.of_all (fun _ => True) hb) trivial fun _ _ _ _ => trivial
theorem MetAt.reads (h : MetAt N M E W) {e : Ent} (he : e ∈ E) : Reads W W.heap.size 1 e.A e.row.length (ints e.row) := by
  obtain ⟨g, cur, h4, _, h6, _, _, h9⟩ := h.rows e he
  refine ⟨by rw [ints_length, Nat.mul_one], fun _ => ⟨_, h4, h6.lt, fun j u hu => ?_⟩⟩
  rw [Go.WideShapes.add_plain, Nat.zero_add]
  exact h9 j u hu
set_option maxRecDepth 100000 in
theorem MetAt.look (h : MetAt N M E W) {x : Int} (hx : 0 ≤ x ∧ x ≤ 1000) :
    (Instr.lookup 100 (.map (some M)) (.int .i64 x) true).run Tryd.prog W = .ok (.tuple #[match metF E x with | some e => e.val | none => .slice none 0 0, .bool (metF E x).isSome]) W := by
  obtain ⟨k, D, h1, _, _, h3⟩ := h.own
  have hk : keyOf Tryd.prog 3 (.int .i64 x) = some (.int .i64 x) := keyOf_int_mk Tryd.underlying3 (WalkArith.wf_i64 (by omega))
  have hz : (zeroValue 30).run Tryd.prog W = .ok (.slice none 0 0) W := by kernel_rfl
  obtain ⟨v, ps, hrun, hv⟩ := h1.look_ok (int_keyed Tryd.underlying3) Tryd.underlying100 hz (zd := .held (.slice none 0 0)) (zp := []) rfl hk
  rw [hrun]
  unfold heldR at hv
  injection hv with hv
  injection hv with hv _
  cases hm : metF E x with
  | none =>
    have h4 : ∀ z, D.atKey (.int .i64 x) z = z := fun z => by rw [h3 x z, hm]
    rw [h4] at hv
    injection hv with hv
    rw [hv, has_false_of_atKey h4]
    rfl
  | some e =>
    have h4 : ∀ z, D.atKey (.int .i64 x) z = .held e.val := fun z => by rw [h3 x z, hm]
    rw [h4] at hv
    injection hv with hv
    rw [hv, has_true_of_atKey h4]
    rfl
set_option maxRecDepth 100000 in
theorem MetAt.look1 (h : MetAt N M E W) {x : Int} (hx : 0 ≤ x ∧ x ≤ 1000) {e : Ent} (he : metF E x = some e) :
    (Instr.lookup 100 (.map (some M)) (.int .i64 x) false).run Tryd.prog W = .ok e.val W := by
  obtain ⟨k, D, h1, _, _, h3⟩ := h.own
  have hk : keyOf Tryd.prog 3 (.int .i64 x) = some (.int .i64 x) := keyOf_int_mk Tryd.underlying3 (WalkArith.wf_i64 (by omega))
  have hz : (zeroValue 30).run Tryd.prog W = .ok (.slice none 0 0) W := by kernel_rfl
  obtain ⟨v, ps, hrun, hv⟩ := h1.lookup (int_keyed Tryd.underlying3) Tryd.underlying100 hz (zd := .held (.slice none 0 0)) (zp := []) rfl hk
  rw [hrun]
  unfold heldR at hv
  injection hv with hv
  injection hv with hv _
  rw [h3 x, he] at hv
  injection hv with hv
  rw [hv]
/-- A way more: its row lies there already, the map is written. -/
theorem MetAt.put (h : MetAt N M E W) {W1 W2 : World} {e : Ent} {g : Nat} {cur : Array Value} (hb : Below W.heap.size W W1) (hA : e.A = some ⟨g, 0, none⟩) (hg : W.heap.size ≤ g) (hN : N ≤ W.heap.size) (hblk : Blk W1 g 3 cur) (hc : e.row.length ≤ e.c ∧ e.c ≤ 9223372036854775807) (hcell : ∀ j u, (ints e.row)[j]? = some u → W1.cell? ⟨g, j, none⟩ = some u)
    (hn : metF E (endO e.row) = none) {k : Nat} {D : DataW Value} (h1 : W.ownsMap (H := Value) Tryd.prog 3 heldR M k D) (h2 : k ≤ E.length) (h3 : MetD D E) (h4 : W2.ownsMap (H := Value) Tryd.prog 3 heldR M (k + 1) (D.put (.int .i64 (endO e.row)) (.held e.val))) (hk2 : W1.grownBy W2 (some M)) :
    MetAt N M (E ++ [e]) W2 ∧ Keep (fun j => j ≠ M) W W2 := by
  have hk1 : Keep (fun j => j ≠ M) W1 W2 := (Keep.refl _ W1).grown hk2 fun g hg => .inr fun h => h (by injection hg with hg; exact hg.symm)
  have hMlt := h1.lt
  have hne : ∀ e ∈ E, ∀ g, e.val.ownBlock = some g → g ≠ M := fun e he g hg e2 => by
    obtain ⟨_, _, cur, hb⟩ := h.own_block he hg
    obtain ⟨es, clock, hm, _⟩ := h1
    unfold Blk at hb
    rw [e2, hm] at hb
    cases hb
  refine ⟨⟨⟨k + 1, _, h4, by simp; omega, h3.put hn⟩, h.lo, fun e' he' => ?_⟩, (Keep.of_all _ hb).trans hk1⟩
  rcases List.mem_append.1 he' with he' | he'
  · obtain ⟨g', cur', h5, h6, h7, h8, h9, h10⟩ := (h.on hb).rows e' he'
    have hs := hne e' he' g' (by unfold Ent.val; rw [h5]; rfl)
    refine ⟨g', cur', h5, h6, hk1.blk h7 hs, h8, h9, fun j u hu => ?_⟩
    have h11 := h10 j u hu
    rw [(hk1.blk h7 hs).cell]
    rw [h7.cell] at h11
    exact h11
  · simp at he'
    subst he'
    have hs : g ≠ M := fun e2 => by omega
    refine ⟨g, cur, hA, by omega, hk1.blk hblk hs, hc.1, hc.2, fun j u hu => ?_⟩
    have h11 := hcell j u hu
    rw [(hk1.blk hblk hs).cell]
    rw [hblk.cell] at h11
    exact h11
end
/-- So many ways, no more. -/
theorem Bw.count {R : Int → Int → Prop} {a : Int} {most k m : Nat} {L : List (List Int)} {D : Int → Prop} (hR : In R m) (ha : 0 ≤ a ∧ a < (m : Int)) (h : Bw R a most L k D) : L.length ≤ m := by
  have := nodes_few (m := m) h.ends fun x hx => by
    obtain ⟨p, hp, rfl⟩ := List.mem_map.1 hx
    have hw := (h.way p hp).1
    exact hw.nodes hR ha _ hw.end_in
  simpa using this
theorem Bw.node {R : Int → Int → Prop} {a : Int} {most k m : Nat} {L : List (List Int)} {D : Int → Prop} (hR : In R m) (ha : 0 ≤ a ∧ a < (m : Int)) (h : Bw R a most L k D) {p : List Int} (hp : p ∈ L) : 0 ≤ endO p ∧ endO p < (m : Int) := by
  have hw := (h.way p hp).1
  exact hw.nodes hR ha _ hw.end_in
theorem Bw.congr {R : Int → Int → Prop} {a : Int} {most k : Nat} {L : List (List Int)} {D D' : Int → Prop} (h : Bw R a most L k D) (hD : ∀ y, D y ↔ D' y) : Bw R a most L k D' := by
  have : D = D' := funext fun y => propext (hD y)
  rwa [← this]

/-- While the edges that lead out of a node are looked at. -/
structure OnAt (w : World) (N M : Nat) (E : List Ent) (R : Int → Int → Prop) (a : Int) (most k : Nat) (os : List Ed) (i : Nat) (E' : List Ent) (Ar : Option Addr) (cr : Nat) (W : World) : Prop where
  met : MetAt N M (E ++ E') W
  bw : Bw R a most ((E ++ E').map Ent.row) k (fun y => ∃ p ∈ os.take i, p.2.1 = y)
  new : ∀ e ∈ E', ∀ g, e.val.ownBlock = some g → w.heap.size ≤ g
  old : ∀ e ∈ E, ∀ g, e.val.ownBlock = some g → g < w.heap.size
  row : W.ownsRow w.heap.size 3 1 (.slice Ar E'.length cr) E'.length (ints (E'.map fun e => endO e.row))
  apart : ∀ e ∈ E', ∀ g, (Value.slice Ar E'.length cr).ownBlock = some g → e.val.ownBlock ≠ some g
  keep : Keep (fun j => j ≠ M) w W
  size : N ≤ w.heap.size
  mlt : M < w.heap.size
section
variable {w W W' : World} {N M : Nat} {E E' : List Ent} {R : Int → Int → Prop} {a : Int} {most k i : Nat} {os : List Ed} {Ar : Option Addr} {cr : Nat}
theorem OnAt.start (h : MetAt N M E w) (hN : N ≤ w.heap.size) (hb : Bw R a most (E.map Ent.row) k (fun _ => False)) (hw : Below w.heap.size w W) : OnAt w N M E R a most k os 0 [] none 0 W :=
  ⟨by rw [List.append_nil]; exact h.on hw, by rw [List.append_nil]; exact hb.congr fun y => by simp, fun e he => by simp at he, fun e he g hg => (h.own_block he hg).2.1, World.ownsRow_nil _ _ _ _, fun e he => by simp at he, Keep.of_all _ hw, hN, h.lt⟩
theorem OnAt.on (h : OnAt w N M E R a most k os i E' Ar cr W) (hb : Below W.heap.size W W') : OnAt w N M E R a most k os i E' Ar cr W' :=
  ⟨h.met.on hb, h.bw, h.new, h.old, (Keep.of_all (fun _ => True) hb).own h.row fun _ _ => trivial, h.apart, h.keep.trans (Keep.of_all _ hb), h.size, h.mlt⟩
theorem take_step {p : Ed} (hp : os[i]? = some p) (y : Int) : ((∃ q ∈ os.take i, q.2.1 = y) ∨ y = p.2.1) ↔ ∃ q ∈ os.take (i + 1), q.2.1 = y := by
  rw [List.take_add_one, hp]
  constructor
  · rintro (⟨q, hq, e⟩ | rfl)
    · exact ⟨q, List.mem_append_left _ hq, e⟩
    · exact ⟨p, by simp, rfl⟩
  · rintro ⟨q, hq, e⟩
    rcases List.mem_append.1 hq with hq | hq
    · exact .inl ⟨q, hq, e⟩
    · simp at hq; subst hq; exact .inr e.symm
theorem OnAt.skip (h : OnAt w N M E R a most k os i E' Ar cr W) {p : Ed} (hp : os[i]? = some p) (hx : ∀ q, ((E ++ E').map Ent.row)[k]? = some q → R (endO q) p.2.1 → ∃ r ∈ (E ++ E').map Ent.row, endO r = p.2.1) : OnAt w N M E R a most k os (i + 1) E' Ar cr W :=
  ⟨h.met, (h.bw.skip hx).congr (take_step hp), h.new, h.old, h.row, h.apart, h.keep, h.size, h.mlt⟩
/-- A way more, and its node at the end of the row. -/
theorem OnAt.add {W1 W2 W3 : World} (h : OnAt w N M E R a most k os i E' Ar cr W) {p : Ed} (hp : os[i]? = some p) {q : List Int} (hq : (E.map Ent.row)[k]? = some q) (hm : q.length < most) (hr : R (endO q) p.2.1) (hn : metF (E ++ E') p.2.1 = none) (hup : ∀ y ∈ os.take i, y.2.1 ≤ p.2.1)
    (hb : Below W.heap.size W W1) {g c5 : Nat} {cur : Array Value} (hg : W.heap.size ≤ g) (hblk : Blk W1 g 3 cur) (hc : (q ++ [p.2.1]).length ≤ c5 ∧ c5 ≤ 9223372036854775807) (hcell : ∀ j u, (ints (q ++ [p.2.1]))[j]? = some u → W1.cell? ⟨g, j, none⟩ = some u)
    {kk : Nat} {D : DataW Value} (h1 : W.ownsMap (H := Value) Tryd.prog 3 heldR M kk D) (h2 : kk ≤ (E ++ E').length) (h3 : MetD D (E ++ E')) (h4 : W2.ownsMap (H := Value) Tryd.prog 3 heldR M (kk + 1) (D.put (.int .i64 p.2.1) (.held (.slice (some ⟨g, 0, none⟩) (q ++ [p.2.1]).length c5)))) (hk2 : W1.grownBy W2 (some M))
    {A6 : Option Addr} {c6 : Nat} {W22 : World} (hb2 : Below W2.heap.size W2 W22) (hrow : W3.ownsRow w.heap.size 3 1 (.slice A6 (E'.length + 1) c6) (E'.length + 1) (ints (E'.map fun e => endO e.row) ++ [.int .i64 p.2.1])) (hk3 : W22.grownBy W3 (Value.slice Ar E'.length cr).ownBlock)
    (ho6 : (Value.slice A6 (E'.length + 1) c6).ownBlock = (Value.slice Ar E'.length cr).ownBlock ∨ (Value.slice A6 (E'.length + 1) c6).ownBlock = some W22.heap.size) :
    OnAt w N M E R a most k os (i + 1) (E' ++ [⟨some ⟨g, 0, none⟩, c5, q ++ [p.2.1]⟩]) A6 c6 W3 := by
  have hend : endO (q ++ [p.2.1]) = p.2.1 := endO_snoc _ _
  have hsz := h.keep.size
  obtain ⟨m2, k2⟩ := h.met.put (e := ⟨some ⟨g, 0, none⟩, c5, q ++ [p.2.1]⟩) hb rfl hg (Nat.le_trans h.size hsz) hblk hc hcell (by rw [hend]; exact hn) h1 h2 h3 (by rw [hend]; exact h4) hk2
  have hown : ∀ j, (Value.slice Ar E'.length cr).ownBlock = some j → w.heap.size ≤ j ∧ j < W.heap.size := fun j hj => by
    have := own_in h.row hj
    exact ⟨this.1, this.2.1⟩
  have hk3' : Keep (fun j => (Value.slice Ar E'.length cr).ownBlock ≠ some j) W22 W3 := (Keep.refl _ W22).grown hk3 fun j hj => .inr fun h => h hj
  have hgown : (Value.slice Ar E'.length cr).ownBlock ≠ some g := fun e => by have := (hown g e).2; omega
  have hall : ∀ e ∈ E ++ E' ++ [(⟨some ⟨g, 0, none⟩, c5, q ++ [p.2.1]⟩ : Ent)], ∀ j, e.val.ownBlock = some j → (Value.slice Ar E'.length cr).ownBlock ≠ some j := by
    intro e he j hj hj2
    rcases List.mem_append.1 he with he | he
    · rcases List.mem_append.1 he with he | he
      · have := h.old e he j hj
        have := (hown j hj2).1
        omega
      · exact h.apart e he j hj2 hj
    · simp at he
      subst he
      have hj : some g = some j := hj
      injection hj with hj
      subst hj
      exact hgown hj2
  have hMown : (Value.slice Ar E'.length cr).ownBlock ≠ some M := fun e => by have := (hown M e).1; have := h.mlt; omega
  have m3 := (m2.on hb2).keep hk3' hMown hall
  refine ⟨by rw [← List.append_assoc]; exact m3, ?_, ?_, h.old, ?_, ?_, ?_, h.size, h.mlt⟩
  · have hlen : k < (E.map Ent.row).length := (List.getElem?_eq_some_iff.1 hq).1
    have hq2 : ((E ++ E').map Ent.row)[k]? = some q := by rw [List.map_append, List.getElem?_append_left hlen]; exact hq
    have := h.bw.add hq2 hm hr (metF_none hn) (fun y ⟨z, hz, e⟩ => e ▸ hup z hz)
    have e2 : (E ++ (E' ++ [(⟨some ⟨g, 0, none⟩, c5, q ++ [p.2.1]⟩ : Ent)])).map Ent.row = (E ++ E').map Ent.row ++ [q ++ [p.2.1]] := by simp
    rw [e2]
    exact this.congr (take_step hp)
  · intro e he j hj
    rcases List.mem_append.1 he with he | he
    · exact h.new e he j hj
    · simp at he
      subst he
      have hj : some g = some j := hj
      injection hj with hj
      omega
  · have e2 : ints ((E' ++ [(⟨some ⟨g, 0, none⟩, c5, q ++ [p.2.1]⟩ : Ent)]).map fun e => endO e.row) = ints (E'.map fun e => endO e.row) ++ [.int .i64 p.2.1] := by
      rw [List.map_append, ints_append]
      simp [ints, hend]
    rw [e2, List.length_append]
    exact hrow
  · intro e he j hj hj2
    rw [List.length_append] at hj
    have hj : (Value.slice A6 (E'.length + 1) c6).ownBlock = some j := hj
    rcases ho6 with ho6 | ho6
    · rw [ho6] at hj
      exact hall e (by rw [List.append_assoc]; exact List.mem_append_right _ he) j hj2 hj
    · rw [ho6] at hj
      injection hj with hj
      have h5 := (m2.own_block (e := e) (by rw [List.append_assoc]; exact List.mem_append_right _ he) hj2).2.1
      have := hb2.size
      omega
  · exact (h.keep.trans (k2.trans (Keep.of_all _ hb2))).grown hk3 fun j hj => .inl (hown j hj).1
end
end Go.Proofs.YtgbpaiffnhpafaaDoor
namespace Go.Proofs.YtgbpaiffnhpafaaDoor
open Go.RowKit Go.Shelf
open Go.Maps (Keyed IsMap int_keyed keyOf_int_mk)

/-- 'm[k] = v' among operations that draw their order. -/
theorem step_mapUpdate {H : Type} {P : Program} {ops : Array Oper} {o : Oper} {a : Act} {w : World} {K' : Act → World → Prop} {Q : Exit → Act → World → Prop} {E : Prop}
    (hg : o.guard = none) (m x v : Operand) (t : TypeId) (hop : o.op = Op.mapUpdate t m x v)
    (k e : TypeId) (K : Keyed P k) (ht : P.underlying t = some (.map k e)) (R : Value → Option (DataW H × List MemPlace)) (b n : Nat) (D : DataW H)
    (hm : a.eval m = .map (some b)) (hown : w.ownsMap P k R b n D) (hn : n < maxLen) (key val : Value) (kl : Lit) (hx : a.eval x = key) (hv : a.eval v = val) (hkey : keyOf P k key = some kl)
    (d : DataW H) (ps : List MemPlace) (hval : R val = some (d, ps))
    (hK : ∀ w', w'.ownsMap P k R b (n + 1) (D.put kl d) → w.grownBy w' (some b) → K' (a.put o.dst undef) w') :
    if Region.wanted o (yielded ops a.tmps) = true then Oper.wp P o a w K' Q else E := by
  have hw : Region.wanted o (yielded ops a.tmps) = true := by simp [Region.wanted, hg]
  rw [if_pos hw]
  obtain ⟨w', hrun, r1, r2⟩ := hown.update K ht hn hkey hval
  unfold Oper.wp
  simp [execOp, hop, hm, hx, hv, hrun, Result.andThen]
  exact hK w' r1 r2
/-- A row that was made just now. -/
theorem own_new8 {W : World} {base k : Nat} {v : Value} {xs : List Value} (h : W.ownsRow base 3 1 v (k + 1) xs) :
    ∃ (g c : Nat) (cur : Array Value), v = .slice (some ⟨g, 0, none⟩) (k + 1) c ∧ base ≤ g ∧ Blk W g 3 cur ∧ (k + 1 ≤ c ∧ c ≤ 9223372036854775807) ∧ ∀ j u, xs[j]? = some u → W.cell? ⟨g, j, none⟩ = some u := by
  obtain ⟨hl, ⟨_, h⟩ | ⟨g, c, cur, h1, h2, h3, h4, h5, h6, h7⟩⟩ := h
  · omega
  · refine ⟨g, c, cur, h1, h2, h3, ⟨h4, by unfold maxLen at h5; omega⟩, fun j u hu => ?_⟩
    have hb : Blk W g 3 cur := h3
    rw [hb.cell, ← hu, ← h7, List.getElem?_take]
    have hj := (List.getElem?_eq_some_iff.1 hu).1
    rw [if_pos (by omega), ← Array.getElem?_toList]
theorem i8_elem_size (W : World) : (sizeOf (Tryd.prog.elem 30)).run Tryd.prog W = .ok 1 W := by kernel_rfl
theorem i8_slice_hm (g n c h : Nat) (y : Int) (hy : y = (h : Int)) (hn : 0 < h) (hh : h ≤ c) (W : World) :
    (Instr.slice 30 (.slice (some ⟨g, 0, none⟩) n c) none (some (.int .i64 y)) (some (.int .i64 y))).run Tryd.prog W = .ok (.slice (some ⟨g, 0, none⟩) h h) W := by
  subst hy
  have e0 : Value.slice (if h = 0 then some ⟨g, 0, none⟩ else (some (⟨g, 0, none⟩ : Addr)).map (·.add (0 * 1))) (h - 0) (h - 0) = .slice (some ⟨g, 0, none⟩) h h := by
    rw [if_neg (by omega)]
    simp [Addr.add]
  rw [run_slice_hm W 30 (some ⟨g, 0, none⟩) n c (show Tryd.prog.underlying 30 = some (.slice (Tryd.prog.elem 30)) by kernel_rfl) .i64 .i64 h h (by omega) (by omega) (by omega), i8_elem_size]
  exact congrArg (fun v => Result.ok v W) e0

def OnIs (w : World) (N M : Nat) (E : List Ent) (R : Int → Int → Prop) (a : Int) (most k : Nat) (os : List Ed) (e : Ending) (w' : World) : Prop :=
  ∃ (E' : List Ent) (Ar : Option Addr) (cr : Nat), e = .returned (.slice Ar E'.length cr) ∧ OnAt w N M E R a most k os os.length E' Ar cr w'

set_option maxRecDepth 100000 in
set_option maxHeartbeats 2400000 in
theorem onward_any (B N M : Nat) (A : Option Addr) (n c : Nat) (Sa : Option Addr) (sc m : Nat) (zs : List Ed) (hg : IsG (m : Int) zs) (hn : n ≤ 1000) (may : Int → Bool) (mf : Nat) (mb : Array Value) (a : Int) (ha : 0 ≤ a ∧ a < (m : Int)) (most : Nat) (E : List Ent) (k : Nat) (e0 : Ent) (he0 : E[k]? = some e0)
    (hb : Bw (StepR zs may) a most (E.map Ent.row) k (fun _ => False)) (hlen : e0.row.length < most) (w : World) (hP : PwAt B A n c Sa sc m zs w) (hB : B ≤ N) (hN : N ≤ w.heap.size) (hM : MetAt N M E w)
    (eg : ∀ args w, (callFunc mf args).run Tryd.prog w = .ok (.enter mf args) w)
    (hmay : ∀ (v : Int) (W : World), 0 ≤ v → v < (m : Int) → Below N w W → Calls Tryd.prog mf (#[.int .i64 v] ++ mb) W fun e W' => e = .returned (.bool (may v)) ∧ Below W.heap.size W W') :
    Calls Tryd.prog 67 #[.agg #[.slice A n c, .slice Sa (m + 1) sc], .slice e0.A e0.row.length e0.c, .map (some M), .func (.func mf) #[] mb] w (OnIs w N M E (StepR zs may) a most k (outE zs (endO e0.row))) := by
  have hRin : In (StepR zs may) m := StepR.in_ hg.all
  have hmem := List.mem_of_getElem? he0
  have hq0 : (E.map Ent.row)[k]? = some e0.row := by rw [List.getElem?_map, he0]; rfl
  have hnode := hb.node hRin ha (List.mem_of_getElem? hq0)
  have hpos := (hb.way _ (List.mem_of_getElem? hq0)).1.pos
  have hmn := hg.nodes
  obtain ⟨g0, cur0, hA0, hg0, hb0, hc0, -, hcell0⟩ := hM.rows e0 hmem
  obtain ⟨v, hv⟩ : ∃ v : Nat, endO e0.row = (v : Int) := ⟨(endO e0.row).toNat, by omega⟩
  obtain ⟨A0, c0, row0⟩ := e0
  simp only at hA0 hc0 hcell0 hlen hv hq0 hnode hpos ⊢
  subst hA0
  obtain ⟨l1, hl1⟩ : ∃ l1, row0.length = l1 + 1 := ⟨row0.length - 1, by omega⟩
  have hlast : (ints row0)[l1]? = some (.int .i64 (v : Int)) := by
    unfold ints
    rw [List.getElem?_map]
    have : row0[l1]? = some (v : Int) := by
      rw [← hv]
      unfold endO
      rw [List.getLastD_eq_getLast?, List.getLast?_eq_getElem?, show row0.length - 1 = l1 by omega]
      rw [List.getElem?_eq_getElem (by omega)]
      rfl
    rw [this]
    rfl
  have hl300 : l1 + 1 ≤ 300 := by
    have h1 := nodes_few (m := m) (hb.way _ (List.mem_of_getElem? hq0)).nodup fun x hx => (hb.way _ (List.mem_of_getElem? hq0)).1.nodes hRin ha x hx
    omega
  obtain ⟨ln, hln⟩ : ∃ ln, l1 + 1 = ln := ⟨_, rfl⟩
  rw [hln] at hl1 hl300
  rw [hl1] at hlen hc0 ⊢
  rw [hv]
  obtain ⟨os, hos⟩ : ∃ os, outE zs (v : Int) = os := ⟨_, rfl⟩
  rw [hos]
  have hvm : v < m := by omega
  have b0 : Below w.heap.size w (w.alloc (.cells #[.slice A n c, .slice Sa (m + 1) sc] 69)) := (Below.refl _ _).alloc (Nat.le_refl _) _
  have HO := Lib.hid fun W (h : Below w.heap.size w W) => out8_any B A n c Sa sc m zs v hg.row (by omega) hvm W (hP.on (h.mono (by omega))) (by have := h.size; omega)
  rw [hos] at HO
  have HOS := Lib.hid hos
  have hosn : os.length ≤ 1000 := by
    have h1 : (outE zs (v : Int)).length ≤ zs.length := List.length_filter_le _ _
    have := hP.len
    rw [← hos]
    omega
  have z0 : (w.alloc (.cells #[.slice A n c, .slice Sa (m + 1) sc] 69)).drew.cell? ⟨w.heap.size, 0, none⟩ = some (.slice A n c) := (Blk.new w 69 #[.slice A n c, .slice Sa (m + 1) sc]).cell 0
  have z1 : (w.alloc (.cells #[.slice A n c, .slice Sa (m + 1) sc] 69)).drew.cell? ⟨w.heap.size, 1, none⟩ = some (.slice Sa (m + 1) sc) := (Blk.new w 69 #[.slice A n c, .slice Sa (m + 1) sc]).cell 1
  have zc : (w.alloc (.cells #[.slice A n c, .slice Sa (m + 1) sc] 69)).drew.cell? ⟨g0, l1, none⟩ = some (.int .i64 (v : Int)) := (b0.drew.cell (p := ⟨g0, l1, none⟩) hb0.lt).trans (hcell0 _ _ hlast)
  have BD : Hid (Below w.heap.size w (w.alloc (.cells #[.slice A n c, .slice Sa (m + 1) sc] 69)).drew) := b0.drew
  have hbx : Blk (w.alloc (.cells #[.slice A n c, .slice Sa (m + 1) sc] 69)).drew w.heap.size 69 #[.slice A n c, .slice Sa (m + 1) sc] := Blk.new w 69 #[.slice A n c, .slice Sa (m + 1) sc]
  have HSTART := Lib.hid fun W (h : Below w.heap.size w W) => OnAt.start (os := os) hM hN hb h
  have HMAY : Hid (∀ (x : Int) (W : World), 0 ≤ x → x < (m : Int) → Below N w W → Calls Tryd.prog mf (#[.int .i64 x] ++ mb) W fun e W' => e = .returned (.bool (may x)) ∧ Below W.heap.size W W') := hmay
  have HG := Lib.hid hg
  have HLR : Hid ((ints row0).length = ln * 1) := by show _ = _; rw [ints_length, hl1, Nat.mul_one]
  have HNB : Hid (B ≤ N ∧ N ≤ w.heap.size) := ⟨hB, hN⟩
  have HQ0 : Hid ((E.map Ent.row)[k]? = some row0) := hq0
  have HROW : Hid (row0.length = ln ∧ endO row0 = (v : Int) ∧ row0.length < most) := ⟨hl1, hv, by omega⟩
  have HAM : Hid ((0 ≤ a ∧ a < (m : Int)) ∧ In (StepR zs may) m ∧ m ≤ 300) := ⟨ha, hRin, by omega⟩
  have hgM : g0 ≠ M := fun e => by
    obtain ⟨_, _, hm, _⟩ := hM.own
    obtain ⟨_, _, h1, _⟩ := hm
    unfold Blk at hb0
    rw [e, h1] at hb0
    cases hb0
  have HCR : Hid (∀ W, Keep (fun j => j ≠ M) w W → ∀ (b : Addr), some (⟨g0, 0, none⟩ : Addr) = some b → ∀ j u, (ints row0)[j]? = some u → W.cell? (b.add j) = some u) := by
    intro W hk b hbb j u hu
    injection hbb with hbb
    subst hbb
    rw [Go.WideShapes.add_plain, Nat.zero_add, (hk.blk hb0 hgM).cell, ← hb0.cell]
    exact hcell0 j u hu
  have hs8 := fun W => i8_slice_hm g0 ln c0 ln (ln : Int) rfl (by omega) hc0 W
  have hw1 : IntKind.i64.wrap ((ln : Int) - 1) = (l1 : Int) := by rw [IntKind.wrap_i64]; omega
  have hi0 : (0 : Int) ≤ (l1 : Int) := by omega
  have hi1 : (l1 : Int) < (ln : Int) := by omega
  obtain ⟨cnt, hcnt⟩ : ∃ cnt, os.length = cnt := ⟨_, rfl⟩
  rw [hcnt] at hosn
  have HCNT := Lib.hid hcnt
  obtain ⟨i0, hi, hz0, hz1, hz2⟩ := info_parts int_info
  have HHI := Lib.hid hb0.lt
  clear hos hcnt hln hP hB hN hM hb hmem hnode hpos hmn hb0 hcell0 hlast hmay hg hRin ha hlen hq0 hl1 hv he0 hgM b0 hg0
  go_enter Tryd.func67, Tryd.ntmps67
  go_upto_region 3 with fail
  generalize w.alloc (.cells #[.slice A n c, .slice Sa (m + 1) sc] 69) = W0 at *
  refine wp_region_noPanic ?_
  refine wp_region_held_drew (S := fun w' => w'.cell? ⟨w.heap.size, 0, none⟩ = some (.slice A n c) ∧ w'.cell? ⟨w.heap.size, 1, none⟩ = some (.slice Sa (m + 1) sc) ∧ w'.cell? ⟨g0, l1, none⟩ = some (.int .i64 (v : Int))) (by kernel_rfl) ⟨z0, z1, zc⟩ (fun hHeld => ?_)
  generalize W0.drew = wd at *
  refine wpAnyH_take (i := 0) (oi := { dst := some 17, op := Op.load 69 (Operand.tmp 4), type := 69, pos := "walk.go:94", after := #[], guard := none }) (v := .agg #[.slice A n c, .slice Sa (m + 1) sc]) rfl (by kernel_rfl) (by kernel_rfl) (by kernel_rfl) (fun _ _ _ h => h) (Or.inl ⟨by kernel_rfl, fun w' hSw => by (try dsimp only at hSw); go_simp⟩) (by assumption) ?_
  try simp only [Act.put, List.setIfInBounds_toArray, List.set_cons_zero, List.set_cons_succ]
  refine wpAnyH_take (i := 1) (oi := { dst := some 18, op := Op.move (Operand.tmp 1), type := 30, pos := "walk.go:94", after := #[], guard := none }) (v := .slice (some ⟨g0, 0, none⟩) ln c0) rfl (by kernel_rfl) (by kernel_rfl) (by kernel_rfl) (fun _ _ _ h => h) (Or.inl ⟨by kernel_rfl, fun w' hSw => by (try dsimp only at hSw); go_simp⟩) (by assumption) ?_
  try simp only [Act.put, List.setIfInBounds_toArray, List.set_cons_zero, List.set_cons_succ]
  refine wpAnyH_take (i := 2) (oi := { dst := some 19, op := Op.move (Operand.tmp 9), type := 3, pos := "walk.go:94", after := #[], guard := none }) (v := .int .i64 (ln : Int)) rfl (by kernel_rfl) (by kernel_rfl) (by kernel_rfl) (fun _ _ _ h => h) (Or.inl ⟨by kernel_rfl, fun w' hSw => by (try dsimp only at hSw); go_simp⟩) (by assumption) ?_
  try simp only [Act.put, List.setIfInBounds_toArray, List.set_cons_zero, List.set_cons_succ]
  refine wpAnyH_take (i := 3) (oi := { dst := some 20, op := Op.binOp BinOp.sub 3 (Operand.tmp 19) (Operand.const (Value.int IntKind.i64 1)) 3, type := 3, pos := "walk.go:94", after := #[{ on := 2, ground := Ground.data }], guard := none }) (v := .int .i64 (l1 : Int)) rfl (by kernel_rfl) (by kernel_rfl) (by kernel_rfl) (fun _ _ _ h => h) (Or.inl ⟨by kernel_rfl, fun w' hSw => by (try dsimp only at hSw); go_simp⟩) (by assumption) ?_
  try simp only [Act.put, List.setIfInBounds_toArray, List.set_cons_zero, List.set_cons_succ]
  refine wpAnyH_take (i := 4) (oi := { dst := some 21, op := Op.indexAddr 30 (Operand.tmp 18) (Operand.tmp 20), type := 0, pos := "walk.go:94", after := #[{ on := 1, ground := Ground.data }, { on := 3, ground := Ground.data }], guard := none }) (v := .pointer (some ⟨g0, l1, none⟩)) rfl (by kernel_rfl) (by kernel_rfl) (by kernel_rfl) (fun _ _ _ h => h) (Or.inl ⟨by kernel_rfl, fun w' hSw => by (try dsimp only at hSw); go_simp⟩) (by assumption) ?_
  try simp only [Act.put, List.setIfInBounds_toArray, List.set_cons_zero, List.set_cons_succ]
  refine wpAnyH_take (i := 5) (oi := { dst := some 22, op := Op.load 3 (Operand.tmp 21), type := 3, pos := "walk.go:94", after := #[{ on := 4, ground := Ground.data }], guard := none }) (v := .int .i64 (v : Int)) rfl (by kernel_rfl) (by kernel_rfl) (by kernel_rfl) (fun _ _ _ h => h) (Or.inl ⟨by kernel_rfl, fun w' hSw => by (try dsimp only at hSw); go_simp⟩) (by assumption) ?_
  try simp only [Act.put, List.setIfInBounds_toArray, List.set_cons_zero, List.set_cons_succ]
  refine wpAnyH_take (i := 8) (oi := { dst := some 25, op := Op.move (Operand.const (Value.int IntKind.i64 0)), type := 3, pos := "walk.go:94", after := #[], guard := none }) (v := .int .i64 0) rfl (by kernel_rfl) (by kernel_rfl) (by kernel_rfl) (fun _ _ _ h => h) (Or.inl ⟨by kernel_rfl, fun w' hSw => by (try dsimp only at hSw); go_simp⟩) (by assumption) ?_
  try simp only [Act.put, List.setIfInBounds_toArray, List.set_cons_zero, List.set_cons_succ]
  refine wpAnyH_ready (rs := [6]) (by kernel_rfl) (by simp) ?_
  refine AllReadyH.cons (o := { dst := some 23, op := Op.call { callee := Callee.value (Operand.func 79), args := #[Operand.tmp 17, Operand.tmp 22], argTypes := #[69, 3] }, type := 22, pos := "walk.go:94", after := #[{ on := 0, ground := Ground.data }, { on := 5, ground := Ground.data }], guard := none }) rfl (fun K hK => ?_) AllReadyH.nil
  go_simp
  refine (HO.out wd BD.out).mono ?_
  rintro e w1 ⟨C, rfl, hr, b1⟩
  rw [HCNT.out] at hr ⊢
  have J1 : Hid (Below w.heap.size w w1) := BD.out.trans (b1.mono BD.out.size)
  have HR1 := Lib.hid hr
  have hS1 := And.intro ((b1.cell (p := ⟨w.heap.size, 0, none⟩) hbx.lt).trans z0) (And.intro ((b1.cell (p := ⟨w.heap.size, 1, none⟩) hbx.lt).trans z1) ((b1.cell (p := ⟨g0, l1, none⟩) (Nat.lt_of_lt_of_le HHI.out BD.out.size)).trans zc))
  clear hr b1 hHeld
  refine hK.out _ _ hS1 (fun hHeld => ?_)
  clear hK K
  try simp only [Act.put, List.setIfInBounds_toArray, List.set_cons_zero, List.set_cons_succ]
  refine wpAnyH_take (i := 7) (oi := { dst := some 24, op := Op.call { callee := Callee.builtin Builtin.len, args := #[Operand.tmp 23], argTypes := #[22] }, type := 3, pos := "walk.go:94", after := #[{ on := 6, ground := Ground.data }], guard := none }) (v := .int .i64 (cnt : Int)) rfl (by kernel_rfl) (by kernel_rfl) (by kernel_rfl) (fun _ _ _ h => h) (Or.inl ⟨by kernel_rfl, fun w' hSw => by (try dsimp only at hSw); go_simp⟩) (by assumption) ?_
  try simp only [Act.put, List.setIfInBounds_toArray, List.set_cons_zero, List.set_cons_succ]
  refine wpAnyH_done (by kernel_rfl) ?_ _
  refine NoPanic.normal ?_
  have ON1 := Lib.hid (HSTART.out w1 J1.out)
  clear HSTART HO BD hbx z0 z1 zc hHeld hS1
  have HLO := Lib.hid (reads_len HR1.out)
  go_wp2_with fail
  go_loopg [10, 25] cnt (fun gg s10 s25 wr => ∃ (i : Nat) (E' : List Ent) (Ar : Option Addr) (cr : Nat), s25 = .int .i64 i ∧ i + gg = cnt ∧ s10 = .slice Ar E'.length cr ∧ Hid (OnAt w N M E (StepR zs may) a most k os i E' Ar cr wr) ∧ Hid (Below B w1 wr))
  case atStart => exact ⟨0, [], none, 0, rfl, by omega, rfl, ON1, Below.refl _ _⟩
  case round =>
    clear ON1
    obtain ⟨i, E', Ar, cr, rfl, hig, rfl, ON, HBW⟩ := hrel
    cases gk with
    | zero =>
      have hge : ¬ (i : Int) < (cnt : Int) := by omega
      obtain rfl : i = cnt := by omega
      have HE : Hid (OnIs w N M E (StepR zs may) a most k os (.returned (.slice Ar E'.length cr)) wr) := ⟨E', Ar, cr, rfl, by rw [HCNT.out]; exact ON.out⟩
      clear hig
      go_wp2_with fail
      go_ret
      exact HE.out
    | succ g2 =>
      have hlt : (i : Int) < (cnt : Int) := by omega
      obtain ⟨p, hp⟩ : ∃ p, os[i]? = some p := ⟨os[i]'(by rw [HCNT.out]; omega), List.getElem?_eq_getElem _⟩
      obtain ⟨b, o, rfl, hbl, c1, c2, c3⟩ := ed_at (HR1.out.below HBW.out) hp
      have hpm : p ∈ zs ∧ p.1 = (v : Int) := mem_outE.1 (by rw [HOS.out]; exact List.mem_of_getElem? hp)
      have hpr := of_decide_eq_true (HG.out.all p hpm.1)
      have HRX : Hid (EdR zs (v : Int) p.2.1) := ⟨p, hpm.1, hpm.2, rfl⟩
      have HUP : Hid (∀ y ∈ os.take i, y.2.1 ≤ p.2.1) := by
        intro y hy
        obtain ⟨j, hj, e⟩ := List.getElem_of_mem hy
        have h1 := List.pairwise_iff_getElem.1 (out_up HG.out (v : Int)) j i
        rw [HOS.out] at h1
        rw [List.length_take] at hj
        obtain ⟨hi2, e2⟩ := List.getElem?_eq_some_iff.1 hp
        have := h1 (by omega) hi2 (by omega)
        rw [List.getElem_take] at e
        rw [e, e2] at this
        exact this
      obtain ⟨p1, x, p3⟩ := p
      simp only at c1 c2 c3 hpr HRX HUP
      have hx0 : 0 ≤ x ∧ x < (m : Int) := hpr.2.1
      have hx9 : 0 ≤ x ∧ x ≤ 1000 := by have := HAM.out.2.2; omega
      have bn : Below wr.heap.size wr (wr.alloc (.cells #[.int .i64 p1, .int .i64 x, .int .i64 p3] 53)) := (Below.refl _ _).alloc (Nat.le_refl _) _
      have KY := Lib.hid (Blk.new wr 53 #[.int .i64 p1, .int .i64 x, .int .i64 p3])
      have y1 := KY.out.cell 1
      have ON1 := Lib.hid (ON.out.on bn)
      have hlook := ON1.out.met.look hx9
      have HBW1 : Hid (Below B w1 (wr.alloc (.cells #[.int .i64 p1, .int .i64 x, .int .i64 p3] 53))) := HBW.out.trans (bn.mono (by have := HNB.out; have := ON.out.keep.size; omega))
      have HBN : Hid (Below N w (wr.alloc (.cells #[.int .i64 p1, .int .i64 x, .int .i64 p3] 53))) := ON1.out.keep.below HNB.out.2 fun j hj e => by have := ON1.out.met.lo; omega
      have HIG := Lib.hid hig
      have HP := Lib.hid hp
      have HX0 := Lib.hid hx0
      clear hig hp hpm hpr bn hx9 ON HBW
      cases hm : metF (E ++ E') x with
      | some e1 =>
        rw [hm] at hlook
        simp only [Option.isSome_some] at hlook
        have ON3 := Lib.hid (ON1.out.skip HP.out fun q _ _ => ⟨_, List.mem_map_of_mem (metF_some hm).1, (metF_some hm).2⟩)
        clear ON1 hm
        go_wp2_with fail
        go_roundg g2
        case measure => omega
        case rel => exact ⟨i + 1, E', Ar, cr, by go_num, by have := HIG.out; omega, rfl, ON3, HBW1⟩
      | none =>
        rw [hm] at hlook
        simp only [Option.isSome_none] at hlook
        have HMC := Lib.hid (HMAY.out x _ HX0.out.1 HX0.out.2 HBN.out)
        have HM := Lib.hid hm
        clear hm
        cases hmy : may x
        · rw [hmy] at HMC
          have HSK : Hid (∀ q, ((E ++ E').map Ent.row)[k]? = some q → StepR zs may (endO q) x → ∃ r ∈ (E ++ E').map Ent.row, endO r = x) := fun q _ hs => by
            have := hs.2
            rw [hmy] at this
            cases this
          clear hmy
          go_wp2_with (go_at_fn mf; refine HMC.out.mono ?_; rintro e w2 ⟨rfl, b2⟩; have ON2 := Lib.hid (ON1.out.on b2); have HBW2 : Hid (Below B w1 w2) := HBW1.out.trans (b2.mono (by have := HNB.out; have := ON1.out.keep.size; omega)); clear b2)
          have ON3 := Lib.hid (ON2.out.skip HP.out HSK.out)
          go_roundg g2
          case measure => omega
          case rel => exact ⟨i + 1, E', Ar, cr, by go_num, by have := HIG.out; omega, rfl, ON3, HBW2⟩
        · rw [hmy] at HMC
          have HMY := Lib.hid hmy
          clear hmy
          go_wp2_with (go_at_fn mf; refine HMC.out.mono ?_; rintro e w2 ⟨rfl, b2⟩; have ON2 := Lib.hid (ON1.out.on b2); have HBW2 : Hid (Below B w1 w2) := HBW1.out.trans (b2.mono (by have := HNB.out; have := ON1.out.keep.size; omega)); have KD2 := Lib.hid (KY.out.below b2 KY.out.lt); clear b2)
          have KD : Hid (Blk w2.drew wr.heap.size 53 #[.int .i64 p1, .int .i64 x, .int .i64 p3]) := KD2.out
          have y2 : w2.drew.cell? ⟨wr.heap.size, 1, none⟩ = some (.int .i64 x) := KD.out.cell 1
          have BDD : Hid (Below w2.heap.size w2 w2.drew) := (Below.refl _ _).drew
          obtain ⟨kk, D, hown, hkk, hD⟩ := ON2.out.met.own
          have HOWN : Hid (w2.drew.ownsMap (H := Value) Tryd.prog 3 heldR M kk D) := hown
          have HOWN0 := Lib.hid hown
          have HD := Lib.hid hD
          have HCL : Hid ((E ++ E').length ≤ 300) := by
            have h1 := ON2.out.bw.count HAM.out.2.1 HAM.out.1
            rw [List.length_map] at h1
            have := HAM.out.2.2
            show _ ≤ _
            omega
          have HKK : Hid (kk ≤ (E ++ E').length ∧ kk ≤ 300) := ⟨hkk, by have := HCL.out; omega⟩
          have HKEY : Hid (keyOf Tryd.prog 3 (.int .i64 x) = some (.int .i64 x)) := keyOf_int_mk Tryd.underlying3 (WalkArith.wf_i64 (by have := HX0.out; have := HAM.out.2.2; omega))
          have HMLT : Hid (M < w2.drew.heap.size) := ON2.out.met.lt
          have HYM : Hid (wr.heap.size ≠ M) := fun e => by
            have h1 := KD.out
            obtain ⟨_, _, h2, _⟩ := HOWN.out
            unfold Blk at h1
            rw [e, h2] at h1
            cases h1
          have BD0 : Hid (w2.drew.heap.size = w2.heap.size) := rfl
          clear hown hkk hD KY y1 HMC
          refine wp_region_noPanic ?_
          refine wp_region_held_drew (S := fun w' => w'.cell? ⟨wr.heap.size, 1, none⟩ = some (.int .i64 x)) (by kernel_rfl) y2 (fun hHeld => ?_)
          generalize w2.drew = wd at *
          refine wpAnyH_take (i := 0) (oi := { dst := some 44, op := Op.move (Operand.tmp 2), type := 100, pos := "walk.go:99", after := #[], guard := none }) (v := .map (some M)) rfl (by kernel_rfl) (by kernel_rfl) (by kernel_rfl) (fun _ _ _ h => h) (Or.inl ⟨by kernel_rfl, fun w' hSw => by (try dsimp only at hSw); go_simp⟩) (by assumption) ?_
          try simp only [Act.put, List.setIfInBounds_toArray, List.set_cons_zero, List.set_cons_succ]
          refine wpAnyH_take (i := 1) (oi := { dst := some 45, op := Op.fieldAddr 53 (Operand.tmp 12) 1, type := 0, pos := "walk.go:99", after := #[], guard := none }) (v := .pointer (some ⟨wr.heap.size, 1, none⟩)) rfl (by kernel_rfl) (by kernel_rfl) (by kernel_rfl) (fun _ _ _ h => h) (Or.inl ⟨by kernel_rfl, fun w' hSw => by (try dsimp only at hSw); go_simp⟩) (by assumption) ?_
          try simp only [Act.put, List.setIfInBounds_toArray, List.set_cons_zero, List.set_cons_succ]
          refine wpAnyH_take (i := 2) (oi := { dst := some 46, op := Op.load 3 (Operand.tmp 45), type := 3, pos := "walk.go:99", after := #[{ on := 1, ground := Ground.data }], guard := none }) (v := .int .i64 x) rfl (by kernel_rfl) (by kernel_rfl) (by kernel_rfl) (fun _ _ _ h => h) (Or.inl ⟨by kernel_rfl, fun w' hSw => by (try dsimp only at hSw); go_simp⟩) (by assumption) ?_
          try simp only [Act.put, List.setIfInBounds_toArray, List.set_cons_zero, List.set_cons_succ]
          refine wpAnyH_take (i := 3) (oi := { dst := some 47, op := Op.move (Operand.tmp 1), type := 30, pos := "walk.go:99", after := #[], guard := none }) (v := .slice (some ⟨g0, 0, none⟩) ln c0) rfl (by kernel_rfl) (by kernel_rfl) (by kernel_rfl) (fun _ _ _ h => h) (Or.inl ⟨by kernel_rfl, fun w' hSw => by (try dsimp only at hSw); go_simp⟩) (by assumption) ?_
          try simp only [Act.put, List.setIfInBounds_toArray, List.set_cons_zero, List.set_cons_succ]
          refine wpAnyH_take (i := 4) (oi := { dst := some 48, op := Op.move (Operand.tmp 9), type := 3, pos := "walk.go:99", after := #[], guard := none }) (v := .int .i64 (ln : Int)) rfl (by kernel_rfl) (by kernel_rfl) (by kernel_rfl) (fun _ _ _ h => h) (Or.inl ⟨by kernel_rfl, fun w' hSw => by (try dsimp only at hSw); go_simp⟩) (by assumption) ?_
          try simp only [Act.put, List.setIfInBounds_toArray, List.set_cons_zero, List.set_cons_succ]
          refine wpAnyH_take (i := 5) (oi := { dst := some 49, op := Op.move (Operand.tmp 9), type := 3, pos := "walk.go:99", after := #[], guard := none }) (v := .int .i64 (ln : Int)) rfl (by kernel_rfl) (by kernel_rfl) (by kernel_rfl) (fun _ _ _ h => h) (Or.inl ⟨by kernel_rfl, fun w' hSw => by (try dsimp only at hSw); go_simp⟩) (by assumption) ?_
          try simp only [Act.put, List.setIfInBounds_toArray, List.set_cons_zero, List.set_cons_succ]
          refine wpAnyH_take (i := 6) (oi := { dst := some 50, op := Op.slice 30 (Operand.tmp 47) none (some (Operand.tmp 48)) (some (Operand.tmp 49)), type := 30, pos := "walk.go:99", after := #[{ on := 3, ground := Ground.data }, { on := 4, ground := Ground.data }, { on := 5, ground := Ground.data }], guard := none }) (v := .slice (some ⟨g0, 0, none⟩) ln ln) rfl (by kernel_rfl) (by kernel_rfl) (by kernel_rfl) (fun _ _ _ h => h) (Or.inl ⟨by kernel_rfl, fun w' hSw => by (try dsimp only at hSw); go_simp⟩) (by assumption) ?_
          try simp only [Act.put, List.setIfInBounds_toArray, List.set_cons_zero, List.set_cons_succ]
          refine wpAnyH_take (i := 7) (oi := { dst := some 51, op := Op.fieldAddr 53 (Operand.tmp 12) 1, type := 0, pos := "walk.go:99", after := #[], guard := none }) (v := .pointer (some ⟨wr.heap.size, 1, none⟩)) rfl (by kernel_rfl) (by kernel_rfl) (by kernel_rfl) (fun _ _ _ h => h) (Or.inl ⟨by kernel_rfl, fun w' hSw => by (try dsimp only at hSw); go_simp⟩) (by assumption) ?_
          try simp only [Act.put, List.setIfInBounds_toArray, List.set_cons_zero, List.set_cons_succ]
          refine wpAnyH_take (i := 8) (oi := { dst := some 52, op := Op.load 3 (Operand.tmp 51), type := 3, pos := "walk.go:99", after := #[{ on := 7, ground := Ground.data }], guard := none }) (v := .int .i64 x) rfl (by kernel_rfl) (by kernel_rfl) (by kernel_rfl) (fun _ _ _ h => h) (Or.inl ⟨by kernel_rfl, fun w' hSw => by (try dsimp only at hSw); go_simp⟩) (by assumption) ?_
          try simp only [Act.put, List.setIfInBounds_toArray, List.set_cons_zero, List.set_cons_succ]
          refine wpAnyH_ready (rs := [9]) (by kernel_rfl) (by simp) ?_
          refine AllReadyH.cons (o := { dst := some 53, op := Op.buildSlice 30 1 #[(0, Operand.tmp 52)], type := 30, pos := "walk.go:99", after := #[{ on := 8, ground := Ground.data }], guard := none }) rfl (fun K hK => ?_) AllReadyH.nil
          go_simp
          have K3 := Lib.hid (KD.out.alloc (.cells #[.int .i64 x] 3))
          clear hHeld KD
          refine hK.out _ _ (K3.out.cell 1) (fun hHeld => ?_)
          clear hK K
          try simp only [Act.put, List.setIfInBounds_toArray, List.set_cons_zero, List.set_cons_succ]
          refine wpAnyH_ready (rs := [10]) (by kernel_rfl) (by simp) ?_
          refine AllReadyH.cons (o := { dst := some 54, op := Op.call { callee := Callee.builtin Builtin.append, args := #[Operand.tmp 50, Operand.tmp 53], argTypes := #[30, 30] }, type := 30, pos := "walk.go:99", after := #[{ on := 6, ground := Ground.data }, { on := 9, ground := Ground.data }], guard := none }) rfl (fun K hK => ?_) AllReadyH.nil
          refine step_append_grows rfl (.tmp 50) (.tmp 53) 30 rfl 3 i0 _ 1 8 Tryd.underlying30 hi hz0 hz1 hz2 rfl (by decide) (some ⟨g0, 0, none⟩) ln ln (ints row0) rfl (fun h => by cases h) HLR.out (fun b hb j u hu => HCR.out _ (ON2.out.keep.trans (Keep.of_all _ (BDD.out.alloc BDD.out.size _))) b hb j u hu) ⟨wd.heap.size, 0, none⟩ 1 1 [.int .i64 x] rfl rfl (cell_one_new _ _ _) (by intro q hq; simp at hq; subst hq; rfl) (by omega) (by unfold maxLen; omega) (by omega) ?_
          intro v5 w5 hown5 hgrow5
          obtain ⟨g5, c5, cur5, rfl, hg5, hb5, hc5, hcell5⟩ := own_new8 hown5
          have J5 := Lib.hid (Below.grown (((Below.refl _ _).alloc (Nat.le_refl _) (.cells #[.int .i64 x] 3) : Below wd.heap.size wd _)) hgrow5 (by simp) (fun k hk => by cases hk))
          have K5 := Lib.hid (K3.out.grown hgrow5 (fun e => by cases e))
          have H5 := Lib.hid (And.intro hg5 (And.intro hb5 (And.intro hc5 hcell5)))
          have HM5 := Lib.hid (map_block HOWN.out (J5.out.block M HMLT.out))
          clear hown5 hgrow5 hHeld hg5 hb5 hc5 hcell5 K3
          refine hK.out _ _ (K5.out.cell 1) (fun hHeld => ?_)
          clear hK K
          try simp only [Act.put, List.setIfInBounds_toArray, List.set_cons_zero, List.set_cons_succ]
          refine wpAnyH_ready (rs := [11]) (by kernel_rfl) (by simp) ?_
          refine AllReadyH.cons (o := { dst := none, op := Op.mapUpdate 100 (Operand.tmp 44) (Operand.tmp 46) (Operand.tmp 54), type := 0, pos := "walk.go:99", after := #[{ on := 0, ground := Ground.data }, { on := 2, ground := Ground.data }, { on := 10, ground := Ground.data }, { on := 10, ground := Ground.chain }, { on := 0, ground := Ground.phase }, { on := 1, ground := Ground.phase }, { on := 2, ground := Ground.phase }, { on := 3, ground := Ground.phase }, { on := 4, ground := Ground.phase }, { on := 5, ground := Ground.phase }, { on := 6, ground := Ground.phase }, { on := 7, ground := Ground.phase }, { on := 8, ground := Ground.phase }, { on := 9, ground := Ground.phase }, { on := 10, ground := Ground.phase }], guard := none }) rfl (fun K hK => ?_) AllReadyH.nil
          refine step_mapUpdate rfl (.tmp 44) (.tmp 46) (.tmp 54) 100 rfl 3 30 (int_keyed Tryd.underlying3) Tryd.underlying100 heldR M kk D rfl HM5.out (by have := HKK.out; unfold maxLen; omega) (.int .i64 x) _ (.int .i64 x) rfl rfl HKEY.out _ [] rfl ?_
          intro w6 hown6 hgrow6
          have hk6 : Keep (fun j => j ≠ M) w5 w6 := (Keep.refl _ w5).grown hgrow6 fun g hg => .inr fun h => h (by injection hg with hg; exact hg.symm)
          have K6 := Lib.hid (hk6.blk K5.out HYM.out)
          have H6 := Lib.hid (And.intro hown6 (And.intro hgrow6 hk6))
          clear hown6 hgrow6 hk6 hHeld K5
          refine hK.out _ _ (K6.out.cell 1) (fun hHeld => ?_)
          clear hK K
          try simp only [Act.put]
          refine wpAnyH_done (by kernel_rfl) ?_ _
          refine NoPanic.normal ?_
          have HSZ6 : Hid (w2.heap.size ≤ wd.heap.size) := BDD.out.size
          have hown6 := H6.out.1
          have y6 := K6.out.cell 1
          have HE' : Hid (E'.length ≤ 300) := by have := HCL.out; rw [List.length_append] at this; show _ ≤ _; omega
          have ROW6 : Hid (w6.ownsRow w.heap.size 3 1 (.slice Ar E'.length cr) E'.length (ints (E'.map fun e => endO e.row))) :=
            H6.out.2.2.own ((Keep.of_all (fun _ => True) (BDD.out.trans (J5.out.mono BDD.out.size))).own ON2.out.row fun _ _ => trivial) fun g hg e => by
              have := (own_in ON2.out.row hg).1
              have := ON2.out.mlt
              omega
          have HW6 : Hid (w.heap.size ≤ w6.heap.size) := by
            have h1 := ON2.out.keep.size
            have h2 := BDD.out.size
            have h3 := J5.out.size
            have h4 := H6.out.2.2.size
            show _ ≤ _
            omega
          clear hown6 hHeld y2
          go_wp2_with (at_builtin; refine wpList_append_any _ rfl (.tmp 55) (.tmp 58) 30 rfl w.heap.size 3 i0 _ 1 8 Tryd.underlying30 hi hz0 hz1 hz2 rfl (by decide) (.slice Ar E'.length cr) E'.length _ rfl (ROW6.out.alloc _) (w6.heap.size + 1) (some ⟨w6.heap.size, 0, none⟩) 1 _ (ints [x]) rfl (int_one w6 x) (ints_one _) (by have := HE'.out; unfold maxLen; omega) (by have := HE'.out; omega) (by have := HW6.out; simp; omega) ?_; intro v7 w7 hown7 hgrow7 hat7)
          obtain ⟨A7, c7, rfl, -, -⟩ := own_form2 hown7
          have hJ : Below w2.heap.size w2 w5 := BDD.out.trans (J5.out.mono BDD.out.size)
          have h22 : Below w6.heap.size w6 (w6.alloc (.cells #[.int .i64 x] 3)) := (Below.refl _ _).alloc (Nat.le_refl _) _
          have hrl : (row0 ++ [x]).length = ln + 1 := by rw [List.length_append, HROW.out.1]; rfl
          have ON3 : Hid (OnAt w N M E (StepR zs may) a most k os (i + 1) (E' ++ [⟨some ⟨g5, 0, none⟩, c5, row0 ++ [x]⟩]) A7 c7 w7) :=
            ON2.out.add (W1 := w5) (W2 := w6) (W22 := w6.alloc (.cells #[.int .i64 x] 3)) HP.out HQ0.out HROW.out.2.2 ⟨by rw [HROW.out.2.1]; exact HRX.out, HMY.out⟩ HM.out HUP.out hJ
              (by have h1 := H5.out.1; have h2 := BDD.out.size; simp at h1; omega) H5.out.2.1 (by rw [hrl]; exact H5.out.2.2.1) (fun j u hu => H5.out.2.2.2 j u (by rw [ints_append] at hu; exact hu)) HOWN0.out HKK.out.1 HD.out (by rw [hrl]; exact H6.out.1) H6.out.2.1 h22 hown7 hgrow7 hat7
          have HBW3 : Hid (Below B w1 w7) := by
            have h1 := ON3.out.keep
            have h2 := HBW2.out
            have h3 : Below B w2 w7 := by
              have k1 : Keep (fun j => j < B) w2 w5 := Keep.of_all _ hJ
              have k2 : Keep (fun j => j < B) w5 w6 := H6.out.2.2.mono fun j _ hj e => by have := ON2.out.met.lo; have := HNB.out.1; omega
              have k3 : Keep (fun j => j < B) w6 (w6.alloc (.cells #[.int .i64 x] 3)) := Keep.of_all _ h22
              have k4 : Keep (fun j => j < B) (w6.alloc (.cells #[.int .i64 x] 3)) w7 := (Keep.refl _ _).grown hgrow7 fun j hj => .inr fun hl => by have := (own_in ON2.out.row hj).1; have := HNB.out; omega
              exact (((k1.trans k2).trans k3).trans k4).below (by have := HNB.out; have := ON2.out.keep.size; omega) fun j hj => hj
            exact h2.trans h3
          have HLE : Hid ((E' ++ [(⟨some ⟨g5, 0, none⟩, c5, row0 ++ [x]⟩ : Ent)]).length = E'.length + 1) := by show _ = _; simp
          clear hown7 hgrow7 hat7 hJ h22 hrl
          go_wp2_with fail
          go_roundg g2
          case measure => omega
          case rel => exact ⟨i + 1, _, A7, c7, by go_num, by have := HIG.out; omega, by rw [HLE.out], ON3, HBW3⟩
end Go.Proofs.YtgbpaiffnhpafaaDoor
namespace Go.Proofs.YtgbpaiffnhpafaaDoor
open Go.RowKit Go.Shelf
open Go.Maps (Keyed IsMap int_keyed keyOf_int_mk)

section
variable {F : Fence} {nF : Nat} {P : Program}
theorem wpListIn_insert_own {H : Type} (w : World) {ops : Array Oper} {rest : List Oper} {o : Oper} {a : Act} {Q : Exit → Act → World → Prop}
    (hg : o.guard = none) (m x v : Operand) (t : TypeId) (hop : o.op = Op.insert t m x v)
    (k e : TypeId) (K : Keyed P k) (ht : P.underlying t = some (.map k e)) (R : Value → Option (DataW H × List MemPlace)) (b n : Nat) (D : DataW H)
    (hm : a.eval m = .map (some b)) (hown : w.ownsMap P k R b n D) (hn : n < maxLen) (key val : Value) (kl : Lit) (hx : a.eval x = key) (hv : a.eval v = val) (hkey : keyOf P k key = some kl)
    (d : DataW H) (ps : List MemPlace) (hval : R val = some (d, ps))
    (hK : ∀ w', w'.ownsMap P k R b (n + 1) (D.put kl d) → w.grownBy w' (some b) → wpListIn F nF P ops Q rest (a.put o.dst undef) w') :
    wpListIn F nF P ops Q (o :: rest) a w := by
  refine wpListIn_plain hg fun K' hK' => ?_
  obtain ⟨w', hrun, r1, r2⟩ := hown.update K ht hn hkey hval
  unfold Oper.wpIn
  refine ⟨by simp [Oper.about, hop], ?_⟩
  rw [Oper.semAt_plain F _ _ (by rw [hop]; intro c hc'; cases hc')]
  simp [execOp, hop, hm, hx, hv, hrun, Result.andThen]
  exact hK' _ _ (hK w' r1 r2)
theorem wpListIn_append_any (w : World) {ops : Array Oper} {rest : List Oper} {o : Oper} {a : Act} {Q : Exit → Act → World → Prop} (hgd : o.guard = none) (s x : Operand) (t : TypeId)
    (ho : o.op = .call { callee := .builtin .append, args := #[s, x], argTypes := #[t, t] })
    (base : Nat) (e : TypeId) (i : TypeInfo) (z : Value) (size bytes : Nat) (ht : P.underlying t = some (.slice e)) (hi : P.info? e = some i) (hz : i.zero = some z)
    (hsize : i.size = size) (hby : i.bytes = bytes) (hzs : z.cells.size = size) (hsz : 0 < size)
    (v : Value) (n : Nat) (xs : List Value) (hs : a.eval s = v) (hown : w.ownsRow base e size v n xs)
    (B : Nat) (A : Option Addr) (m c : Nat) (news : List Value) (hx : a.eval x = .slice A m c) (hr : Reads w B size A m news) (h1 : ∀ u ∈ news, u.oneCell' = true)
    (h63 : n + m ≤ maxLen) (hbytes : (n + m) * bytes ≤ 140737488355328) (hbase : base ≤ w.heap.size)
    (h : ∀ v' w', w'.ownsRow base e size v' (n + m) (xs ++ news) → w.grownBy w' v.ownBlock → (v'.ownBlock = v.ownBlock ∨ v'.ownBlock = some w.heap.size) → wpListIn F nF P ops Q rest (a.put o.dst v') w') :
    wpListIn F nF P ops Q (o :: rest) a w := by
  refine wpListIn_plain hgd fun K hK => ?_
  obtain ⟨v', w', hr, h2, h3, h5⟩ := run_append_any (P := P) w base t o.type e i z size bytes ht hi hz hsize hby hzs hsz v n xs hown B A m c news hr h1 h63 hbytes hbase
  unfold Oper.wpIn
  refine ⟨by simp [Oper.about, ho, resolve, Target.leads, Sem.run_pure], ?_⟩
  rw [Oper.semAt_plain F _ _ (by rw [ho]; intro c hc'; cases hc')]
  simp [execOp, ho, resolve, invoke, builtin, hs, hx, hr, Result.andThen]
  exact hK _ _ (h v' w' h2 h3 h5)
end

def Ent.end_ (e : Ent) : Int := endO e.row
def Ent.told (e : Ent) : Value := .int .i64 (endO e.row)
theorem metF_at {E : List Ent} {k : Nat} {e : Ent} (hn : ((E.map Ent.row).map endO).Nodup) (he : E[k]? = some e) : metF E (endO e.row) = some e := by
  have hm := List.mem_of_getElem? he
  cases h : metF E (endO e.row) with
  | none => exact absurd ⟨_, List.mem_map_of_mem hm, rfl⟩ (metF_none h)
  | some e' =>
    obtain ⟨h1, h2⟩ := metF_some h
    obtain ⟨j, hj, rfl⟩ := List.getElem_of_mem h1
    have h3 : ((E.map Ent.row).map endO)[j]? = ((E.map Ent.row).map endO)[k]? := by
      rw [List.getElem?_map, List.getElem?_map, List.getElem?_map, List.getElem?_map, he, List.getElem?_eq_getElem hj]
      simp [h2]
    have h4 : j = k := (List.getElem?_inj (by simpa using hj) hn).1 h3
    subst h4
    rw [List.getElem?_eq_getElem hj] at he
    exact he
/-- A row that lies there. -/
def RowIn (W : World) (e : Ent) : Prop := ∃ g cur, e.A = some ⟨g, 0, none⟩ ∧ Blk W g 3 cur ∧ e.row.length ≤ e.c ∧ e.c ≤ 9223372036854775807 ∧ ∀ j u, (ints e.row)[j]? = some u → W.cell? ⟨g, j, none⟩ = some u
theorem RowIn.keep {W W' : World} {e : Ent} {S : Nat → Prop} (h : RowIn W e) (hk : Keep S W W') (hS : ∀ g cur, Blk W g 3 cur → S g) : RowIn W' e := by
  obtain ⟨g, cur, h4, h6, h7, h8, h9⟩ := h
  refine ⟨g, cur, h4, hk.blk h6 (hS g cur h6), h7, h8, fun j u hu => ?_⟩
  have h10 := h9 j u hu
  rw [(hk.blk h6 (hS g cur h6)).cell]
  rw [h6.cell] at h10
  exact h10
theorem RowIn.reads {W : World} {e : Ent} (h : RowIn W e) : Reads W W.heap.size 1 e.A e.row.length (ints e.row) := by
  obtain ⟨g, cur, h4, h6, _, _, h9⟩ := h
  refine ⟨by rw [ints_length, Nat.mul_one], fun _ => ⟨_, h4, h6.lt, fun j u hu => ?_⟩⟩
  rw [Go.WideShapes.add_plain, Nat.zero_add]
  exact h9 j u hu
theorem MetAt.rowIn {N M : Nat} {E : List Ent} {W : World} (h : MetAt N M E W) {e : Ent} (he : e ∈ E) : RowIn W e := by
  obtain ⟨g, cur, h4, _, h6, h7, h8, h9⟩ := h.rows e he
  exact ⟨g, cur, h4, h6, h7, h8, h9⟩
/-- What has been told, the last of it just now. -/
def ToldOk (R : Int → Int → Prop) (a : Int) (most : Nat) (cs : List Ent) (X : World) : Prop :=
  (∃ (E : List Ent) (k : Nat), Bw R a most (E.map Ent.row) k (fun _ => False) ∧ k < E.length ∧ cs = E.take (k + 1)) ∧ ∀ c, cs.getLast? = some c → RowIn X c
def ToldEnd (R : Int → Int → Prop) (a : Int) (most : Nat) (cs : List Ent) : Prop := ∃ k, Bw R a most (cs.map Ent.row) k (fun _ => False) ∧ cs.length ≤ k
theorem ToldOk.below {R : Int → Int → Prop} {a : Int} {most : Nat} (cs : List Ent) (X Y : World) (h : ToldOk R a most cs X) (hb : Below X.heap.size X Y) : ToldOk R a most cs Y :=
  ⟨h.1, fun c hc => (h.2 c hc).keep (Keep.of_all (fun _ => True) hb) fun _ _ _ => trivial⟩
theorem ToldOk.loop {R : Int → Int → Prop} {a : Int} {most : Nat} (cs : List Ent) (X Y : World) (l : Nat) (o : Loop) (h : ToldOk R a most cs X) (hl : X.heap[l]? = some (.loop o)) (hk : Keep (fun k => k ≠ l) X Y) : ToldOk R a most cs Y :=
  ⟨h.1, fun c hc => (h.2 c hc).keep hk fun g cur hb e => by
    unfold Blk at hb
    rw [e, hl] at hb
    cases hb⟩

/-- The memory of the function that tells the ways; k of them are told, kj that who asks has got. -/
structure WyAt (S : Nat → Prop) (N M : Nat) (R : Int → Int → Prop) (a : Int) (most : Nat) (J : List Ent → (Nat → Prop) → World → Prop) (w1 : World) (E : List Ent) (k kj : Nat) (C : Nat → Prop) (W : World) : Prop where
  met : MetAt N M E W
  bw : Bw R a most (E.map Ent.row) k (fun _ => False)
  j : J (E.take kj) C W
  keep : Keep S w1 W
  cC : ∀ j, C j → ¬ S j ∧ j < W.heap.size
  cM : ¬ C M
  cE : ∀ e ∈ E, ∀ g, e.val.ownBlock = some g → ¬ C g
  size : N ≤ W.heap.size
  sN : ∀ j, S j → j < N
/-- The wave that is told, from a place on. -/
structure WvAt (N : Nat) (E : List Ent) (k0 nw : Nat) (Aw : Option Addr) (cw : Nat) (vs : List Int) (C : Nat → Prop) (W : World) : Prop where
  row : W.ownsRow N 3 1 (.slice Aw nw cw) nw (ints vs)
  at_ : ∀ i, i < nw → ∃ e, E[k0 + i]? = some e ∧ vs[i]? = some (endO e.row)
  notC : ∀ g, (Value.slice Aw nw cw).ownBlock = some g → ¬ C g
/-- The next wave. -/
structure NxAt (N : Nat) (E : List Ent) (kn nn : Nat) (An : Option Addr) (cn : Nat) (wv : Value) (C : Nat → Prop) (W : World) : Prop where
  row : W.ownsRow N 3 1 (.slice An nn cn) nn (ints ((E.drop kn).map fun e => endO e.row))
  len : E.length = kn + nn
  notC : ∀ g, (Value.slice An nn cn).ownBlock = some g → ¬ C g
  apart : ∀ e ∈ E, ∀ g, (Value.slice An nn cn).ownBlock = some g → e.val.ownBlock ≠ some g
  apartW : ∀ g, (Value.slice An nn cn).ownBlock = some g → wv.ownBlock ≠ some g
section
variable {S : Nat → Prop} {N M : Nat} {R : Int → Int → Prop} {a : Int} {most : Nat} {J : List Ent → (Nat → Prop) → World → Prop} {w1 : World} {E : List Ent} {k kj : Nat} {C : Nat → Prop} {W W' : World} {k0 nw kn nn : Nat} {Aw An : Option Addr} {cw cn : Nat} {vs : List Int} {wv : Value}
theorem WvAt.keep {T : Nat → Prop} (h : WvAt N E k0 nw Aw cw vs C W) (hk : Keep T W W') (hT : ∀ g, (Value.slice Aw nw cw).ownBlock = some g → T g) : WvAt N E k0 nw Aw cw vs C W' := ⟨hk.own h.row hT, h.at_, h.notC⟩
theorem NxAt.keep {T : Nat → Prop} (h : NxAt N E kn nn An cn wv C W) (hk : Keep T W W') (hT : ∀ g, (Value.slice An nn cn).ownBlock = some g → T g) : NxAt N E kn nn An cn wv C W' := ⟨hk.own h.row hT, h.len, h.notC, h.apart, h.apartW⟩
theorem WvAt.more (h : WvAt N E k0 nw Aw cw vs C W) (E' : List Ent) : WvAt N (E ++ E') k0 nw Aw cw vs C W := ⟨h.row, fun i hi => by
  obtain ⟨e, h1, h2⟩ := h.at_ i hi
  exact ⟨e, by rw [List.getElem?_append_left (List.getElem?_eq_some_iff.1 h1).1]; exact h1, h2⟩, h.notC⟩
/-- Who asks has got one more, and turned what is theirs. -/
theorem WyAt.got {C' : Nat → Prop} {e : Ent} (h : WyAt S N M R a most J w1 E k k C W) (he : E[k]? = some e) (hC' : ∀ j, C' j → j < W'.heap.size ∧ (C j ∨ W.heap.size ≤ j)) (hk : Keep (fun j => ¬ C j) W W') (hj : J (E.take k ++ [e]) C' W') : WyAt S N M R a most J w1 E k (k + 1) C' W' := by
  have hn : ∀ j, ¬ C j → j < W.heap.size → ¬ C' j := fun j h1 h2 h3 => by
    rcases (hC' j h3).2 with h4 | h4
    · exact h1 h4
    · omega
  have htk : E.take (k + 1) = E.take k ++ [e] := by rw [List.take_add_one, he]; rfl
  refine ⟨h.met.keep hk h.cM h.cE, h.bw, by rw [htk]; exact hj, h.keep.trans (hk.mono fun j _ hS hC => (h.cC j hC).1 hS), fun j hj => ⟨?_, (hC' j hj).1⟩, hn _ h.cM h.met.lt, fun e' he' g hg => hn g (h.cE e' he' g hg) (h.met.own_block he' hg).2.1, Nat.le_trans h.size hk.size, h.sN⟩
  rcases (hC' j hj).2 with h4 | h4
  · exact (h.cC j h4).1
  · intro hS
    have := h.sN j hS
    have := h.size
    omega
theorem WvAt.got {C' : Nat → Prop} (h : WvAt N E k0 nw Aw cw vs C W) (hC' : ∀ j, C' j → j < W'.heap.size ∧ (C j ∨ W.heap.size ≤ j)) (hk : Keep (fun j => ¬ C j) W W') : WvAt N E k0 nw Aw cw vs C' W' :=
  ⟨hk.own h.row h.notC, h.at_, fun g hg hc => by
    rcases (hC' g hc).2 with h4 | h4
    · exact h.notC g hg h4
    · have := (own_in h.row hg).2.1
      omega⟩
theorem NxAt.got {C' : Nat → Prop} (h : NxAt N E kn nn An cn wv C W) (hC' : ∀ j, C' j → j < W'.heap.size ∧ (C j ∨ W.heap.size ≤ j)) (hk : Keep (fun j => ¬ C j) W W') : NxAt N E kn nn An cn wv C' W' :=
  ⟨hk.own h.row h.notC, h.len, fun g hg hc => by
    rcases (hC' g hc).2 with h4 | h4
    · exact h.notC g hg h4
    · have := (own_in h.row hg).2.1
      omega, h.apart, h.apartW⟩
/-- A way that is as long as ways may be is not gone on. -/
theorem WyAt.long {e : Ent} (h : WyAt S N M R a most J w1 E k (k + 1) C W) (he : E[k]? = some e) (hl : ¬ e.row.length < most) : WyAt S N M R a most J w1 E (k + 1) (k + 1) C W :=
  ⟨h.met, h.bw.next fun q x hq hm => by
    rw [List.getElem?_map, he] at hq
    simp at hq
    subst hq
    exact absurd hm hl, h.j, h.keep, h.cC, h.cM, h.cE, h.size, h.sN⟩
/-- A way is gone on: what comes next stands at the end. -/
theorem WyAt.on_ {W2 W3 : World} {e : Ent} {zs : List Ed} {may : Int → Bool} {E' : List Ent} {Ar A6 : Option Addr} {cr c6 : Nat} (hJ : ∀ cs C X Y, J cs C X → Keep (fun j => j < N ∨ C j) X Y → J cs C Y) (h : WyAt S N M (StepR zs may) a most J w1 E k (k + 1) C W) (he : E[k]? = some e)
    (ho : OnAt W N M E (StepR zs may) a most k (outE zs (endO e.row)) (outE zs (endO e.row)).length E' Ar cr W2) (hx : NxAt N E kn nn An cn wv C W) (hv : WvAt N E k0 nw Aw cw vs C W) (hwv : wv = .slice Aw nw cw)
    (hrow : W3.ownsRow N 3 1 (.slice A6 (nn + E'.length) c6) (nn + E'.length) (ints ((E.drop kn).map fun e => endO e.row) ++ ints (E'.map fun e => endO e.row))) (hg : W2.grownBy W3 (Value.slice An nn cn).ownBlock)
    (ho6 : (Value.slice A6 (nn + E'.length) c6).ownBlock = (Value.slice An nn cn).ownBlock ∨ (Value.slice A6 (nn + E'.length) c6).ownBlock = some W2.heap.size) :
    WyAt S N M (StepR zs may) a most J w1 (E ++ E') (k + 1) (k + 1) C W3 ∧ NxAt N (E ++ E') kn (nn + E'.length) A6 c6 wv C W3 ∧ WvAt N (E ++ E') k0 nw Aw cw vs C W3 := by
  have hlt := (List.getElem?_eq_some_iff.1 he).1
  have hk2 := ho.keep
  have hMx : (Value.slice An nn cn).ownBlock ≠ some M := fun e2 => by
    obtain ⟨_, _, cur, hb⟩ := own_in hx.row e2
    obtain ⟨_, _, h1, _⟩ := h.met.own
    obtain ⟨_, _, h2, _⟩ := h1
    unfold Blk at hb
    rw [h2] at hb
    cases hb
  have hMw : (Value.slice Aw nw cw).ownBlock ≠ some M := fun e2 => by
    obtain ⟨_, _, cur, hb⟩ := own_in hv.row e2
    obtain ⟨_, _, h1, _⟩ := h.met.own
    obtain ⟨_, _, h2, _⟩ := h1
    unfold Blk at hb
    rw [h2] at hb
    cases hb
  have hk3 : Keep (fun j => (Value.slice An nn cn).ownBlock ≠ some j) W2 W3 := (Keep.refl _ W2).grown hg fun g hg => .inr fun h => h hg
  have hxN : ∀ g, (Value.slice An nn cn).ownBlock = some g → N ≤ g ∧ g < W.heap.size := fun g hg => ⟨(own_in hx.row hg).1, (own_in hx.row hg).2.1⟩
  have hnew : ∀ e' ∈ E', ∀ g, e'.val.ownBlock = some g → W.heap.size ≤ g ∧ g < W2.heap.size := fun e' he' g hg => ⟨ho.new e' he' g hg, (ho.met.own_block (List.mem_append_right _ he') hg).2.1⟩
  have happ : ∀ e' ∈ E ++ E', ∀ g, e'.val.ownBlock = some g → (Value.slice An nn cn).ownBlock ≠ some g := fun e' he' g hg hg2 => by
    rcases List.mem_append.1 he' with he' | he'
    · exact hx.apart e' he' g hg2 hg
    · have := (hnew e' he' g hg).1
      have := (hxN g hg2).2
      omega
  have hkk : Keep (fun j => j ≠ M ∧ (Value.slice An nn cn).ownBlock ≠ some j) W W3 := (hk2.mono fun j _ hj => hj.1).trans (hk3.mono fun j _ hj => hj.2)
  have hSM : ∀ j, S j → j ≠ M ∧ (Value.slice An nn cn).ownBlock ≠ some j := fun j hj => by
    have h1 := h.sN j hj
    refine ⟨fun e2 => ?_, fun e2 => ?_⟩
    · have := h.met.lo
      omega
    · have := (hxN j e2).1
      omega
  have hCM : ∀ j, C j → j ≠ M ∧ (Value.slice An nn cn).ownBlock ≠ some j := fun j hj => ⟨fun e2 => h.cM (e2 ▸ hj), fun e2 => hx.notC j e2 hj⟩
  have hNM : ∀ j, j < N → j ≠ M ∧ (Value.slice An nn cn).ownBlock ≠ some j := fun j hj => ⟨fun e2 => by have := h.met.lo; omega, fun e2 => by have := (hxN j e2).1; omega⟩
  have hsz := hkk.size
  refine ⟨⟨ho.met.keep hk3 hMx happ, ?_, ?_, h.keep.trans (hkk.mono fun j _ hj => hSM j hj), fun j hj => ⟨(h.cC j hj).1, Nat.lt_of_lt_of_le (h.cC j hj).2 hsz⟩, h.cM, fun e' he' g hg hc => ?_, Nat.le_trans h.size hsz, h.sN⟩, ⟨?_, ?_, ?_, ?_, ?_⟩, ?_⟩
  · refine ho.bw.next fun q x hq _ hR => ?_
    have hq2 : q = e.row := by
      rw [List.map_append, List.getElem?_append_left (by simpa using hlt), List.getElem?_map, he] at hq
      simpa using hq.symm
    rw [hq2] at hR
    obtain ⟨p, hp, e2⟩ := edR_out.1 hR.1
    exact ⟨p, by rw [List.take_length]; exact hp, e2⟩
  · rw [List.take_append_of_le_length (by omega)]
    exact hJ _ _ _ _ h.j (hkk.mono fun j _ hj => hj.elim (hNM j) (hCM j))
  · rcases List.mem_append.1 he' with he' | he'
    · exact h.cE e' he' g hg hc
    · have := (hnew e' he' g hg).1
      have := (h.cC g hc).2
      omega
  · have e2 : ints (((E ++ E').drop kn).map fun e => endO e.row) = ints ((E.drop kn).map fun e => endO e.row) ++ ints (E'.map fun e => endO e.row) := by
      rw [List.drop_append_of_le_length (by have := hx.len; omega), List.map_append, ints_append]
    rw [e2]
    exact hrow
  · have := hx.len
    simp
    omega
  · intro g hg hc
    rcases ho6 with ho6 | ho6
    · rw [ho6] at hg
      exact hx.notC g hg hc
    · rw [ho6] at hg
      injection hg with hg
      have := (h.cC g hc).2
      have := hk2.size
      omega
  · intro e' he' g hg hg2
    rcases ho6 with ho6 | ho6
    · rw [ho6] at hg
      exact happ e' he' g hg2 hg
    · rw [ho6] at hg
      injection hg with hg
      have := (ho.met.own_block he' hg2).2.1
      omega
  · intro g hg hg2
    rcases ho6 with ho6 | ho6
    · rw [ho6] at hg
      exact hx.apartW g hg hg2
    · rw [ho6] at hg
      injection hg with hg
      rw [hwv] at hg2
      have := (own_in hv.row hg2).2.1
      have := hk2.size
      omega
  · refine (hv.keep hkk fun g hg => ⟨fun e2 => hMw (by rw [hg, e2]), fun e2 => hx.apartW g e2 (by rw [hwv]; exact hg)⟩).more E'
/-- The next wave begins. -/
theorem NxAt.turn (h : NxAt N E kn nn An cn wv C W) : WvAt N E kn nn An cn ((E.drop kn).map fun e => endO e.row) C W ∧ NxAt N E E.length 0 none 0 (.slice An nn cn) C W := by
  have hl := h.len
  refine ⟨⟨h.row, fun i hi => ?_, h.notC⟩, ⟨?_, by omega, (fun g hg => by cases hg), (fun _ _ g hg => by cases hg), (fun g hg => by cases hg)⟩⟩
  · have hlt : kn + i < E.length := by omega
    refine ⟨_, List.getElem?_eq_getElem hlt, ?_⟩
    rw [List.getElem?_map, List.getElem?_drop, List.getElem?_eq_getElem hlt]
    rfl
  · rw [List.drop_length]
    exact World.ownsRow_nil _ _ _ _
theorem WvAt.cell (h : WvAt N E k0 nw Aw cw vs C W) {i : Nat} (hi : i < nw) : ∃ g e, Aw = some ⟨g, 0, none⟩ ∧ E[k0 + i]? = some e ∧ W.cell? ⟨g, i, none⟩ = some (.int .i64 (endO e.row)) := by
  obtain ⟨e, h1, h2⟩ := h.at_ i hi
  obtain ⟨hl, ⟨h3, h4⟩ | ⟨g, cap, cur, h3, h4, h5, h6, h7, h8, h9⟩⟩ := h.row
  · omega
  · injection h3 with h3 _ _
    refine ⟨g, e, h3, h1, ?_⟩
    have hb : Blk W g 3 cur := h5
    have h10 : (ints vs)[i]? = some (.int .i64 (endO e.row)) := by unfold ints; rw [List.getElem?_map, h2]; rfl
    rw [hb.cell, ← h10, ← h9, List.getElem?_take, if_pos (by omega), ← Array.getElem?_toList]
end
end Go.Proofs.YtgbpaiffnhpafaaDoor
namespace Go.Proofs.YtgbpaiffnhpafaaDoor
open Go.RowKit Go.Shelf
open Go.Maps (Keyed IsMap int_keyed keyOf_int_mk)
attribute [local go_sem] Oper.semAt_some

/-- What the function that tells the ways holds. -/
structure HvAt (Bf Bm Bk Ba : Nat) (A : Option Addr) (n c : Nat) (Sa : Option Addr) (sc m : Nat) (a : Int) (most : Nat) (mf : Nat) (mb : Array Value) (W : World) : Prop where
  bf : Blk W Bf 3 #[.int .i64 a]
  bm : Blk W Bm 3 #[.int .i64 (most : Int)]
  bw : Blk W Bk 69 #[.slice A n c, .slice Sa (m + 1) sc]
  ba : Blk W Ba 75 #[.func (.func mf) #[] mb]
theorem HvAt.keep {Bf Bm Bk Ba : Nat} {A : Option Addr} {n c : Nat} {Sa : Option Addr} {sc m : Nat} {a : Int} {most mf : Nat} {mb : Array Value} {W W' : World} {S : Nat → Prop} (h : HvAt Bf Bm Bk Ba A n c Sa sc m a most mf mb W) (hk : Keep S W W') (h1 : S Bf) (h2 : S Bm) (h3 : S Bk) (h4 : S Ba) : HvAt Bf Bm Bk Ba A n c Sa sc m a most mf mb W' :=
  ⟨hk.blk h.bf h1, hk.blk h.bm h2, hk.blk h.bw h3, hk.blk h.ba h4⟩
def encW (e : Ent) : Array Value := #[.int .i64 (endO e.row), e.val]

set_option maxRecDepth 100000 in
set_option maxHeartbeats 8000000 in
theorem ways_seq (d0 : Nat) (S : Nat → Prop) (B Bf Bm Bk Ba : Nat) (A : Option Addr) (n c : Nat) (Sa : Option Addr) (sc m : Nat) (zs : List Ed) (hg : IsG (m : Int) zs) (hn : n ≤ 1000) (may : Int → Bool) (mf : Nat) (mb : Array Value) (a : Int) (ha : 0 ≤ a ∧ a < (m : Int)) (most : Nat) (hmost : 1 ≤ most ∧ most ≤ 1000) (w1 : World)
    (hP : PwAt B A n c Sa sc m zs w1) (hB : B ≤ w1.heap.size) (hH : HvAt Bf Bm Bk Ba A n c Sa sc m a most mf mb w1) (hSB : ∀ k, k < B → S k) (hS1 : S Bf) (hS2 : S Bm) (hS3 : S Bk) (hS4 : S Ba) (hSlt : ∀ k, S k → k < w1.heap.size)
    (eg : ∀ args w, (callFunc mf args).run Tryd.prog w = .ok (.enter mf args) w)
    (hmay : ∀ (v : Int) (W : World), 0 ≤ v → v < (m : Int) → Keep S w1 W → Calls Tryd.prog mf (#[.int .i64 v] ++ mb) W fun e W' => e = .returned (.bool (may v)) ∧ Below W.heap.size W W') :
    TwoSeq d0 Tryd.prog 66 #[.pointer (some ⟨Bf, 0, none⟩), .pointer (some ⟨Bm, 0, none⟩), .pointer (some ⟨Bk, 0, none⟩), .pointer (some ⟨Ba, 0, none⟩)] encW (ToldOk (StepR zs may) a most) (ToldEnd (StepR zs may) a most) S w1 := by
  intro l J Jx C0 W hW hC0 hJ _ hY h0
  have hRin : In (StepR zs may) m := StepR.in_ hg.all
  have hmn := hg.nodes
  have hSN : ∀ k, S k → k < W.heap.size := fun k hk => Nat.lt_of_lt_of_le (hSlt k hk) hW.size
  have HMAY : Hid (∀ (v : Int) (X : World), 0 ≤ v → v < (m : Int) → Keep S w1 X → Calls Tryd.prog mf (#[.int .i64 v] ++ mb) X fun e W' => e = .returned (.bool (may v)) ∧ Below X.heap.size X W') := hmay
  have HPW : Hid (∀ X, Keep S w1 X → PwAt B A n c Sa sc m zs X) := fun X hX => ⟨hX.reads hP.es hB fun k hk => hSB k hk, hX.reads hP.ss hB fun k hk => hSB k hk, hP.nc⟩
  have HHV : Hid (∀ X, Keep S w1 X → HvAt Bf Bm Bk Ba A n c Sa sc m a most mf mb X) := fun X hX => hH.keep hX hS1 hS2 hS3 hS4
  have HY := Lib.hid hY
  have HJ := Lib.hid hJ
  have HC0 := Lib.hid hC0
  have HG := Lib.hid hg
  have HSN := Lib.hid hSN
  have HBW : Hid (B ≤ W.heap.size) := Nat.le_trans hB hW.size
  have HAM : Hid ((0 ≤ a ∧ a < (m : Int)) ∧ In (StepR zs may) m ∧ m ≤ 300) := ⟨ha, hRin, by omega⟩
  have H0 := Lib.hid h0
  have HW := Lib.hid hW
  have f0 := (HHV.out W hW).bf.cell 0
  have HMO : Hid (1 ≤ most) := hmost.1
  have hmo2 := hmost.2
  have HKEY : Hid (keyOf Tryd.prog 3 (.int .i64 a) = some (.int .i64 a)) := keyOf_int_mk Tryd.underlying3 (WalkArith.wf_i64 (by omega))
  obtain ⟨i0, hi, hz0, hz1, hz2⟩ := info_parts int_info
  clear hP hB hH hSB hS1 hS2 hS3 hS4 hSlt hmay hW hC0 hJ hY h0 hg hRin hmn hSN ha hmost
  have hmm := @run_makeMap Tryd.prog
  refine callsIn_of_wp Tryd.func66 rfl trivial ?_ rfl
  simp only [Tryd.ntmps66, List.size_toArray, List.length_cons, List.length_nil, Nat.reduceAdd, Nat.reduceSub, Array.replicate_succ, Array.replicate_zero, List.push_toArray, List.append_toArray, List.nil_append, List.cons_append]
  refine wpIn_wide.2 (wp_scope_straight ((wpIn_wide (n := d0)).1 ?_))
  have HM0 := Lib.hid (World.ownsMap_made W Tryd.prog 3 heldR)
  have bm : Below W.heap.size W (W.alloc (.map #[] 0)) := (Below.refl _ _).alloc (Nat.le_refl _) _
  have f1 : (W.alloc (.map #[] 0)).cell? ⟨Bf, 0, none⟩ = some (.int .i64 a) := (bm.cell (p := ⟨Bf, 0, none⟩) (HHV.out W HW.out).bf.lt).trans f0
  gi_wp2_with (refine wpListIn_insert_own _ rfl _ _ _ 100 rfl 3 30 (int_keyed Tryd.underlying3) Tryd.underlying100 heldR W.heap.size 0 (.map []) rfl (HM0.out.alloc _) (by unfold maxLen; omega) (.int .i64 a) (.slice (some ⟨W.heap.size + 1, 0, none⟩) 1 1) (.int .i64 a) rfl rfl HKEY.out _ [] rfl ?_; intro w2 hown2 hgrow2; have hk2 : Keep (fun j => j ≠ W.heap.size) ((W.alloc (.map #[] 0)).alloc (.cells #[.int .i64 a] 3)) w2 := (Keep.refl _ _).grown hgrow2 (fun g hg => .inr fun h => h (by injection hg with hg; exact hg.symm)); have HK2 := Lib.hid hk2; have f2 := (hk2.blk ((((HHV.out W HW.out).bf).alloc (.map #[] 0)).alloc (.cells #[.int .i64 a] 3)) (Nat.ne_of_lt (HHV.out W HW.out).bf.lt)).cell 0; have H2 := Lib.hid (And.intro hown2 hgrow2); clear hk2 hown2 hgrow2)
  refine wpIn_label ?_
  have hsz0 : ((W.alloc (.map #[] 0)).alloc (.cells #[.int .i64 a] 3)).heap.size = W.heap.size + 2 := by simp
  have bz : Below W.heap.size W ((W.alloc (.map #[] 0)).alloc (.cells #[.int .i64 a] 3)) := bm.alloc bm.size _
  have hkW : Keep (fun j => j < W.heap.size) W (w2.alloc (.cells #[.int .i64 a] 3)) := ((Keep.of_below bz).trans (HK2.out.mono fun j _ hj e => by omega)).alloc _
  have hk3 : Keep (fun j => j ≠ W.heap.size) ((W.alloc (.map #[] 0)).alloc (.cells #[.int .i64 a] 3)) (w2.alloc (.cells #[.int .i64 a] 3)) := HK2.out.alloc _
  have hrow : Blk (w2.alloc (.cells #[.int .i64 a] 3)) (W.heap.size + 1) 3 #[.int .i64 a] := by
    have h1 := Blk.new (W.alloc (.map #[] 0)) 3 #[.int .i64 a]
    rw [show (W.alloc (.map #[] 0)).heap.size = W.heap.size + 1 by simp] at h1
    exact hk3.blk h1 (by omega)
  have HWY : Hid (WyAt S W.heap.size W.heap.size (StepR zs may) a most J w1 [⟨some ⟨W.heap.size + 1, 0, none⟩, 1, [a]⟩] 0 0 C0 (w2.alloc (.cells #[.int .i64 a] 3))) := by
    have hsz2 := HK2.out.size
    refine ⟨⟨⟨1, _, map_block H2.out.1 ?_, Nat.le_refl _, MetD.first (e := ⟨some ⟨W.heap.size + 1, 0, none⟩, 1, [a]⟩)⟩, Nat.le_refl _, fun e he => ?_⟩, Bw.start _ _ HMO.out, ?_, HW.out.trans (hkW.mono fun j _ hj => HSN.out j hj), fun j hj => ⟨(HC0.out j hj).1, ?_⟩, fun h => ?_, fun e he g hg hc => ?_, hkW.size, HSN.out⟩
    · exact Below.heap_alloc _ _ _ H2.out.1.lt
    · simp at he
      subst he
      refine ⟨W.heap.size + 1, _, rfl, Nat.le_succ _, hrow, Nat.le_refl _, by simp, fun j u hu => ?_⟩
      rw [hrow.cell, ← hu]
      simp [ints]
    · exact HJ.out _ _ _ _ H0.out (hkW.mono fun j _ hj => hj.elim id fun h => (HC0.out j h).2)
    · have := (HC0.out j hj).2
      have := hkW.size
      omega
    · have := (HC0.out _ h).2
      omega
    · simp at he
      subst he
      have hg : some (W.heap.size + 1) = some g := hg
      injection hg with hg
      have := (HC0.out g hc).2
      omega
  have HWV : Hid (WvAt W.heap.size [⟨some ⟨W.heap.size + 1, 0, none⟩, 1, [a]⟩] 0 1 (some ⟨w2.heap.size, 0, none⟩) 1 [a] C0 (w2.alloc (.cells #[.int .i64 a] 3))) := by
    have hsz2 := HK2.out.size
    refine ⟨⟨rfl, .inr ⟨w2.heap.size, 1, _, rfl, by omega, Blk.new w2 3 #[.int .i64 a], Nat.le_refl _, by decide, rfl, rfl⟩⟩, fun i hi => ?_, fun g hg hc => ?_⟩
    · obtain rfl : i = 0 := by omega
      exact ⟨_, rfl, rfl⟩
    · injection hg with hg
      have := (HC0.out g hc).2
      have hg : w2.heap.size = g := hg
      omega
  clear hsz0 bz hkW hk3 hrow bm f0 f1 f2 HM0 HK2 H2 HKEY hmm
  gi_wp2_with fail
  generalize w2.alloc (.cells #[.int .i64 a] 3) = w3 at *
  generalize W.heap.size = N at *
  gi_loopg [7] (m + 1) (fun gg s7 wr => ∃ (E : List Ent) (k nw : Nat) (Aw : Option Addr) (cw : Nat) (vs : List Int) (C : Nat → Prop), s7 = .slice Aw nw cw ∧ m + 1 - k ≤ gg ∧ Hid (WyAt S N N (StepR zs may) a most J w1 E k k C wr) ∧ Hid (WvAt N E k nw Aw cw vs C wr) ∧ Hid (E.length = k + nw))
  case atStart => exact ⟨_, 0, 1, _, 1, [a], C0, rfl, by omega, HWY, HWV, rfl⟩
  case round =>
    clear HWY HWV H0 HW HC0
    obtain ⟨E0, k0, nw, Aw, cw, vs, C1, rfl, hgk, HWY, HWV, HLE⟩ := hrel
    have HGK := Lib.hid hgk
    clear hgk
    rename World => wo
    rcases Nat.eq_zero_or_pos nw with h0 | h0
    · subst h0
      have HE : Hid (ToldEnd (StepR zs may) a most E0 ∧ J E0 C1 wo) := by
        have hl := HLE.out
        refine ⟨⟨k0, HWY.out.bw, by omega⟩, ?_⟩
        have := HWY.out.j
        rwa [List.take_of_length_le (by omega)] at this
      gi_wp2_with fail
      rw [Exit.noGoto_normal]
      go_end0
      exact ⟨⟨_, rfl⟩, .inl ⟨E0, C1, HE.out.1, HE.out.2⟩⟩
    · have hn0 : (0 : Int) < (nw : Int) := by omega
      have hcnt : E0.length ≤ m := by
        have := HWY.out.bw.count HAM.out.2.1 HAM.out.1
        simpa using this
      have hnw : nw ≤ 300 ∧ k0 + nw ≤ m := by have := HLE.out; have := HAM.out.2.2; omega
      have hnw3 := hnw.1
      have HNW := Lib.hid hnw.2
      have HNX : Hid (NxAt N E0 (k0 + nw) 0 none 0 (.slice Aw nw cw) C1 wo) := by
        have hl := HLE.out
        refine ⟨?_, by omega, (fun g hg => by cases hg), (fun _ _ g hg => by cases hg), (fun g hg => by cases hg)⟩
        rw [← hl, List.drop_length]
        exact World.ownsRow_nil _ _ _ _
      clear hcnt hnw HLE
      gi_wp2_with fail
      gi_loopg [8, 24] nw (fun g2 s8 s24 wx => ∃ (i : Nat) (E : List Ent) (C : Nat → Prop) (nn : Nat) (An : Option Addr) (cn : Nat), s24 = .int .i64 i ∧ i + g2 = nw ∧ s8 = .slice An nn cn ∧ Hid (WyAt S N N (StepR zs may) a most J w1 E (k0 + i) (k0 + i) C wx) ∧ Hid (WvAt N E k0 nw Aw cw vs C wx) ∧ Hid (NxAt N E (k0 + nw) nn An cn (.slice Aw nw cw) C wx))
      case atStart => exact ⟨0, E0, C1, 0, none, 0, rfl, by omega, rfl, HWY, HWV, HNX⟩
      case round =>
        clear HWY HWV HNX
        obtain ⟨i, E, C, nn, An, cn, rfl, hig, rfl, HWY, HWV, HNX⟩ := hrel
        cases gk with
        | zero =>
          have hge : ¬ (i : Int) < (nw : Int) := by omega
          obtain rfl : i = nw := by omega
          have HV2 := Lib.hid HNX.out.turn.1
          have HLE2 := Lib.hid HNX.out.len
          clear hig HWV
          gi_wp2_with fail
          gi_roundg (m + 1 - (k0 + i))
          case measure => have := HGK.out; have := HNW.out; omega
          case rel => exact ⟨E, k0 + i, nn, An, cn, _, C, rfl, Nat.le_refl _, HWY, HV2, HLE2⟩
        | succ g2 =>
          have hlt : (i : Int) < (nw : Int) := by omega
          have hil : i < nw := by omega
          obtain ⟨gw, e, rfl, he, hcw⟩ := HWV.out.cell hil
          have HIG := Lib.hid hig
          have HE := Lib.hid he
          have hnode := HWY.out.bw.node HAM.out.2.1 HAM.out.1 (p := e.row) (List.mem_map_of_mem (List.mem_of_getElem? he))
          obtain ⟨v, hv⟩ : ∃ v : Nat, endO e.row = (v : Int) := ⟨(endO e.row).toNat, by omega⟩
          have hlook := HWY.out.met.look1 (x := (v : Int)) (by have := HAM.out.2.2; omega) (by have := metF_at HWY.out.bw.ends he; rw [hv] at this; exact this)
          unfold Ent.val at hlook
          rw [hv] at hcw
          have HV := Lib.hid hv
          have hok : ToldOk (StepR zs may) a most (E.take (k0 + i) ++ [e]) wr := by
            have hlt := (List.getElem?_eq_some_iff.1 he).1
            refine ⟨⟨E, k0 + i, HWY.out.bw, hlt, by rw [List.take_add_one, he]; rfl⟩, fun c hc => ?_⟩
            rw [List.getLast?_append] at hc
            simp at hc
            subst hc
            exact HWY.out.met.rowIn (List.mem_of_getElem? he)
          obtain ⟨fn, tmps, assign, body, hy, hRR⟩ := HY.out (E.take (k0 + i)) e C wr HWY.out.j hok HWY.out.cC HWY.out.size
          unfold encW Ent.val at hy
          rw [hv] at hy
          have HRR := Lib.hid hRR
          have hrl : e.row.length ≤ 300 := by
            have h1 := nodes_few (m := m) (HWY.out.bw.way e.row (List.mem_map_of_mem (List.mem_of_getElem? he))).nodup fun x hx => (HWY.out.bw.way e.row (List.mem_map_of_mem (List.mem_of_getElem? he))).1.nodes HAM.out.2.1 HAM.out.1 x hx
            have := HAM.out.2.2
            omega
          clear hig he hnode hv hok hRR
          gi_wp2_with fail
          refine ⟨(fun h => by cases h), (RoundIn.deep rfl HRR.out).mono ?_⟩
          rintro e3 W3 (⟨C', hC', hk3, rfl, hJ3⟩ | ⟨rfl, _, hJ3⟩)
          · have HWY3 := Lib.hid (HWY.out.got HE.out hC' hk3 hJ3)
            have HWV3 := Lib.hid (HWV.out.got hC' hk3)
            have HNX3 := Lib.hid (HNX.out.got hC' hk3)
            have m0 := (HHV.out W3 HWY3.out.keep).bm.cell 0
            have w0 := (HHV.out W3 HWY3.out.keep).bw.cell 0
            have w1' := (HHV.out W3 HWY3.out.keep).bw.cell 1
            have a0 := (HHV.out W3 HWY3.out.keep).ba.cell 0
            clear hC' hk3 hJ3 hy HRR hcw hlook HWY HWV HNX
            by_cases hlm : e.row.length < most
            · have hlm2 : (e.row.length : Int) < (most : Int) := by omega
              have HLM := Lib.hid hlm
              have HON := Lib.hid (onward_any B N N A n c Sa sc m zs HG.out hn may mf mb a HAM.out.1 most E (k0 + i) e HE.out HWY3.out.bw hlm W3 (HPW.out W3 HWY3.out.keep) HBW.out HWY3.out.size HWY3.out.met eg
                (fun x X h1 h2 h3 => HMAY.out x X h1 h2 (HWY3.out.keep.trans ((Keep.of_below h3).mono fun j _ hj => HSN.out j hj))))
              clear hlm
              gi_wp2_with fail
              refine ⟨trivial, (fun h => by cases h), (callsIn_wide.2 HON.out).mono ?_⟩
              rintro e4 w4 ⟨E', Ar, cr, rfl, hon⟩
              have HO4 := Lib.hid hon
              have hen : E'.length ≤ 300 ∧ nn ≤ 300 ∧ N ≤ w4.heap.size := by
                have h1 := hon.bw.count HAM.out.2.1 HAM.out.1
                have h2 := HNX3.out.len
                have h3 := HAM.out.2.2
                have h4 := hon.keep.size
                have h5 := HWY3.out.size
                simp at h1
                omega
              have HEN := Lib.hid hen
              have R4 := Lib.hid (Reads.of_own hon.row)
              have hMx : (Value.slice An nn cn).ownBlock ≠ some N := fun e2 => by
                obtain ⟨_, _, cur, hb⟩ := own_in HNX3.out.row e2
                obtain ⟨_, _, h1, _⟩ := HWY3.out.met.own
                obtain ⟨_, _, h2, _⟩ := h1
                unfold Blk at hb
                rw [h2] at hb
                cases hb
              have X4 : Hid (w4.ownsRow N 3 1 (.slice An nn cn) nn (ints ((E.drop (k0 + nw)).map fun e => endO e.row))) := hon.keep.own HNX3.out.row fun g hg e2 => hMx (by rw [hg, e2])
              clear hon hen hMx m0 w0 w1' a0 HON
              gi_wp2_with (gi_at_builtin; refine wpListIn_append_any _ rfl _ _ 30 rfl N 3 i0 _ 1 8 Tryd.underlying30 hi hz0 hz1 hz2 rfl (by decide) (.slice An nn cn) nn _ rfl X4.out w4.heap.size Ar E'.length cr _ rfl R4.out (ints_one _) (by have := HEN.out; unfold maxLen; omega) (by have := HEN.out; omega) HEN.out.2.2 ?_; intro v5 w5 hown5 hgrow5 hat5)
              obtain ⟨A6, c6, rfl, -, -⟩ := own_form2 hown5
              obtain ⟨h1, h2, h3⟩ := WyAt.on_ HJ.out HWY3.out HE.out HO4.out HNX3.out HWV3.out rfl hown5 hgrow5 hat5
              have HWY5 := Lib.hid h1
              have HNX5 := Lib.hid h2
              have HWV5 := Lib.hid h3
              clear h1 h2 h3 hown5 hgrow5 hat5 X4 R4 HO4
              gi_wp2_with fail
              gi_roundg g2
              case measure => omega
              case rel => exact ⟨i + 1, _, C', _, A6, c6, by go_num, by have := HIG.out; omega, rfl, HWY5, HWV5, HNX5⟩
            · have hge2 : ¬ (e.row.length : Int) < (most : Int) := by omega
              have HWY4 := Lib.hid (HWY3.out.long HE.out hlm)
              clear hlm
              gi_wp2_with fail
              gi_roundg g2
              case measure => omega
              case rel => exact ⟨i + 1, E, C', nn, An, cn, by go_num, by have := HIG.out; omega, rfl, HWY4, HWV3, HNX3⟩
          · have HJ3 := Lib.hid hJ3
            clear hJ3 hy HRR hcw hlook
            gi_wp2_with fail
            rw [Exit.noGoto_normal]
            go_end0
            exact ⟨⟨_, rfl⟩, .inr HJ3.out⟩

theorem eg_ways : ∀ args w, (callFunc 66 args).run Tryd.prog w = .ok (.enter 66 args) w := enters_of Tryd.func66 (by kernel_rfl) rfl
theorem eg_any : ∀ args w, (callFunc 39 args).run Tryd.prog w = .ok (.enter 39 args) w := enters_of Tryd.func39 (by kernel_rfl) rfl
theorem eg_cyc : ∀ args w, (callFunc 50 args).run Tryd.prog w = .ok (.enter 50 args) w := enters_of Tryd.func50 (by kernel_rfl) rfl

theorem four_new (w : World) (a b c d : Array Value) (ta tb tc td : TypeId) :
    Blk ((((w.alloc (.cells a ta)).alloc (.cells b tb)).alloc (.cells c tc)).alloc (.cells d td)) w.heap.size ta a ∧ Blk ((((w.alloc (.cells a ta)).alloc (.cells b tb)).alloc (.cells c tc)).alloc (.cells d td)) (w.heap.size + 1) tb b ∧ Blk ((((w.alloc (.cells a ta)).alloc (.cells b tb)).alloc (.cells c tc)).alloc (.cells d td)) (w.heap.size + 2) tc c ∧
      Blk ((((w.alloc (.cells a ta)).alloc (.cells b tb)).alloc (.cells c tc)).alloc (.cells d td)) (w.heap.size + 3) td d ∧ Below w.heap.size w ((((w.alloc (.cells a ta)).alloc (.cells b tb)).alloc (.cells c tc)).alloc (.cells d td)) := by
  obtain ⟨h0, h1, h2, h3⟩ := three_new w a b c ta tb tc
  have h4 := Blk.new (((w.alloc (.cells a ta)).alloc (.cells b tb)).alloc (.cells c tc)) td d
  rw [show (((w.alloc (.cells a ta)).alloc (.cells b tb)).alloc (.cells c tc)).heap.size = w.heap.size + 3 by simp] at h4
  exact ⟨h0.alloc _, h1.alloc _, h2.alloc _, h4, h3.alloc h3.size _⟩

/-- What ways gives: a function to be ranged over, and what it holds. -/
def WaysIs (A : Option Addr) (n c : Nat) (Sa : Option Addr) (sc m : Nat) (a : Int) (most mf : Nat) (mb : Array Value) (w : World) (e : Ending) (w' : World) : Prop :=
  e = .returned (.func (.func 66) #[] #[.pointer (some ⟨w.heap.size + 1, 0, none⟩), .pointer (some ⟨w.heap.size + 2, 0, none⟩), .pointer (some ⟨w.heap.size, 0, none⟩), .pointer (some ⟨w.heap.size + 3, 0, none⟩)]) ∧
    HvAt (w.heap.size + 1) (w.heap.size + 2) w.heap.size (w.heap.size + 3) A n c Sa sc m a most mf mb w' ∧ w'.heap.size = w.heap.size + 4 ∧ Below w.heap.size w w'
set_option maxHeartbeats 1000000 in
theorem ways_any (A : Option Addr) (n c : Nat) (Sa : Option Addr) (sc m : Nat) (a : Int) (most mf : Nat) (mb : Array Value) (w : World) :
    Calls Tryd.prog 38 #[.agg #[.slice A n c, .slice Sa (m + 1) sc], .int .i64 a, .int .i64 (most : Int), .func (.func mf) #[] mb] w (WaysIs A n c Sa sc m a most mf mb w) := by
  obtain ⟨k0, k1, k2, k3, b⟩ := four_new w #[.slice A n c, .slice Sa (m + 1) sc] #[.int .i64 a] #[.int .i64 (most : Int)] #[.func (.func mf) #[] mb] 69 3 3 75
  have HE : Hid (HvAt (w.heap.size + 1) (w.heap.size + 2) w.heap.size (w.heap.size + 3) A n c Sa sc m a most mf mb ((((w.alloc (.cells #[.slice A n c, .slice Sa (m + 1) sc] 69)).alloc (.cells #[.int .i64 a] 3)).alloc (.cells #[.int .i64 (most : Int)] 3)).alloc (.cells #[.func (.func mf) #[] mb] 75))) := ⟨k1, k2, k0, k3⟩
  have HB := Lib.hid b
  clear k0 k1 k2 k3 b
  go_enter Tryd.func38, Tryd.ntmps38
  go_wp2_with fail
  go_ret
  exact ⟨by simp, HE.out, by simp, HB.out⟩
end Go.Proofs.YtgbpaiffnhpafaaDoor
namespace Go.Proofs.YtgbpaiffnhpafaaDoor
open Go.RowKit Go.Shelf
attribute [local go_sem] Oper.semAt_some

/-- What first gives: a way that was told, or nothing. -/
def FirstIs (R : Int → Int → Prop) (a : Int) (most : Nat) (ask : Int → Bool) (w : World) (e : Ending) (w' : World) : Prop :=
  ∃ (o : List Int) (A : Option Addr) (c : Nat), e = .returned (.slice A o.length c) ∧ Reads w' w'.heap.size 1 A o.length (ints o) ∧ o.length ≤ c ∧ c ≤ 9223372036854775807 ∧ Below w.heap.size w w' ∧
    ((∃ (L : List (List Int)) (k : Nat), Bw R a most L k (fun _ => False) ∧ L[k]? = some o ∧ ask (endO o) = true ∧ ∀ j p, j < k → L[j]? = some p → ask (endO p) = false) ∨
     (o = [] ∧ ∃ (L : List (List Int)) (k : Nat), Bw R a most L k (fun _ => False) ∧ L.length ≤ k ∧ ∀ p ∈ L, ask (endO p) = false))
theorem ToldOk.node {R : Int → Int → Prop} {a : Int} {most m : Nat} {cs : List Ent} {c : Ent} {X : World} (h : ToldOk R a most (cs ++ [c]) X) (hR : In R m) (ha : 0 ≤ a ∧ a < (m : Int)) : 0 ≤ endO c.row ∧ endO c.row < (m : Int) := by
  obtain ⟨⟨E, k, h1, _, h3⟩, _⟩ := h
  have hm : c ∈ E := List.mem_of_mem_take (i := k + 1) (by rw [← h3]; simp)
  exact h1.node hR ha (List.mem_map_of_mem hm)
structure FiI (ask : Int → Bool) (w : World) (fv : Value) (cs : List Ent) (C : Nat → Prop) (X : World) : Prop where
  eq : C = fun _ => False
  b0 : Blk X w.heap.size 75 #[fv]
  b1 : Blk X (w.heap.size + 1) 30 #[.slice none 0 0]
  below : Below w.heap.size w X
  none : ∀ c ∈ cs, ask c.end_ = false
theorem FiI.on {ask : Int → Bool} {w X Y : World} {fv : Value} {cs : List Ent} {C : Nat → Prop} (h : FiI ask w fv cs C X) (hb : Below X.heap.size X Y) : FiI ask w fv cs C Y :=
  ⟨h.eq, h.b0.below hb h.b0.lt, h.b1.below hb h.b1.lt, h.below.trans (hb.mono h.below.size), h.none⟩
def HitE (R : Int → Int → Prop) (a : Int) (most : Nat) (ask : Int → Bool) (o : List Int) : Prop := ∃ (L : List (List Int)) (k : Nat), Bw R a most L k (fun _ => False) ∧ L[k]? = some o ∧ ask (endO o) = true ∧ ∀ j p, j < k → L[j]? = some p → ask (endO p) = false
def FiX (R : Int → Int → Prop) (a : Int) (most : Nat) (ask : Int → Bool) (w w0 X : World) : Prop :=
  ∃ e : Ent, Blk X (w.heap.size + 1) 30 #[e.val] ∧ RowIn X e ∧ (∀ g, e.val.ownBlock = some g → g ≠ w0.heap.size ∧ g ≠ w0.heap.size + 1) ∧ Below w.heap.size w X ∧ HitE R a most ask e.row
theorem FiX.keep {R : Int → Int → Prop} {a : Int} {most : Nat} {ask : Int → Bool} {w w0 X Y : World} (h : FiX R a most ask w w0 X) (h1 : w.heap.size + 1 < w0.heap.size) (_ : w.heap.size ≤ w0.heap.size) (hk : Keep (fun k => k ≠ w0.heap.size ∧ k ≠ w0.heap.size + 1) X Y) : FiX R a most ask w w0 Y := by
  obtain ⟨e, h2, h3, h4, h5, h6⟩ := h
  refine ⟨e, hk.blk h2 ⟨by omega, by omega⟩, ?_, h4, h5.trans (hk.below h5.size fun j hj => ⟨by omega, by omega⟩), h6⟩
  obtain ⟨g, cur, g1, g2, g3, g4, g5⟩ := h3
  have hg := h4 g (by unfold Ent.val; rw [g1]; rfl)
  refine ⟨g, cur, g1, hk.blk g2 hg, g3, g4, fun j u hu => ?_⟩
  have := g5 j u hu
  rw [(hk.blk g2 hg).cell]
  rw [g2.cell] at this
  exact this
theorem HitE.of {R : Int → Int → Prop} {a : Int} {most : Nat} {ask : Int → Bool} {cs : List Ent} {c : Ent} {X : World} (h : ToldOk R a most (cs ++ [c]) X) (hn : ∀ d ∈ cs, ask d.end_ = false) (hy : ask c.end_ = true) : HitE R a most ask c.row := by
  obtain ⟨⟨E, k, h1, h2, h3⟩, _⟩ := h
  have hl : cs.length = k := by
    have := congrArg List.length h3
    rw [List.length_append, List.length_take] at this
    simp at this
    omega
  have hk : E[k]? = some c := by
    have : (E.take (k + 1))[k]? = some c := by rw [← h3, ← hl, List.getElem?_append_right (Nat.le_refl _), Nat.sub_self]; rfl
    rwa [List.getElem?_take, if_pos (Nat.lt_succ_self _)] at this
  refine ⟨E.map Ent.row, k, h1, by rw [List.getElem?_map, hk]; rfl, hy, fun j p hj hp => ?_⟩
  rw [List.getElem?_map] at hp
  cases hd : E[j]? with
  | none => rw [hd] at hp; cases hp
  | some d =>
    rw [hd] at hp
    simp at hp
    subst hp
    refine hn d ?_
    have h4 : (cs ++ [c])[j]? = some d := by rw [h3, List.getElem?_take, if_pos (by omega)]; exact hd
    rw [List.getElem?_append_left (by omega)] at h4
    exact List.mem_of_getElem? h4
theorem FiX.mk_ {R : Int → Int → Prop} {a : Int} {most : Nat} {ask : Int → Bool} {w w0 X : World} {fv : Value} {cs : List Ent} {c : Ent} {C : Nat → Prop} {o : Loop} (h : FiI ask w fv cs C X) (hok : ToldOk R a most (cs ++ [c]) X) (hy : ask c.end_ = true)
    (hlk : X.heap[w0.heap.size + 1]? = some (.loop o) ∧ X.heap[w0.heap.size]? = some (.deferred (some []))) : FiX R a most ask w w0 (X.setCell ⟨w.heap.size + 1, 0, none⟩ c.val) := by
  have hr : RowIn X c := hok.2 c (by simp)
  have hk : Keep (fun k => k ≠ w.heap.size + 1) X (X.setCell ⟨w.heap.size + 1, 0, none⟩ c.val) := (Keep.refl _ X).set (.inr fun h => h rfl) _ _
  refine ⟨c, by simpa using h.b1.set_ 0 c.val, hr.keep hk fun g cur hb e => ?_, fun g hg => ?_, h.below.setCell (p := ⟨w.heap.size + 1, 0, none⟩) (Nat.le_succ _) _, HitE.of hok h.none hy⟩
  · have h1 := h.b1
    unfold Blk at hb h1
    rw [e, h1] at hb
    injection hb with hb
    injection hb with _ hb _
    exact absurd hb (by decide)
  · obtain ⟨g', cur, g1, g2, _⟩ := hr
    unfold Ent.val at hg
    rw [g1] at hg
    injection hg with hg
    have hg : g' = g := hg
    subst hg
    refine ⟨fun e => ?_, fun e => ?_⟩
    · unfold Blk at g2
      rw [e, hlk.2] at g2
      cases g2
    · unfold Blk at g2
      rw [e, hlk.1] at g2
      cases g2
theorem FirstIs.none_ {R : Int → Int → Prop} {a : Int} {most : Nat} {ask : Int → Bool} {w W : World} {cs : List Ent} (h : ToldEnd R a most cs) (hn : ∀ c ∈ cs, ask c.end_ = false) (hb : Below w.heap.size w W) : FirstIs R a most ask w (.returned (.slice none 0 0)) W := by
  obtain ⟨k, h1, h2⟩ := h
  refine ⟨[], none, 0, rfl, Reads.none_, Nat.le_refl _, by decide, hb, .inr ⟨rfl, _, k, h1, by simpa using h2, fun p hp => ?_⟩⟩
  obtain ⟨c, hc, rfl⟩ := List.mem_map.1 hp
  exact hn c hc
theorem FirstIs.some_ {R : Int → Int → Prop} {a : Int} {most : Nat} {ask : Int → Bool} {w W : World} {e : Ent} (h : HitE R a most ask e.row) (hr : RowIn W e) (hb : Below w.heap.size w W) : FirstIs R a most ask w (.returned e.val) W := by
  refine ⟨e.row, e.A, e.c, rfl, hr.reads, ?_, ?_, hb, .inl h⟩
  · obtain ⟨_, _, _, _, h3, _⟩ := hr; exact h3
  · obtain ⟨_, _, _, _, _, h4, _⟩ := hr; exact h4

theorem eg_to : ∀ args w, (callFunc 42 args).run Tryd.prog w = .ok (.enter 42 args) w := enters_of Tryd.func42 (by kernel_rfl) rfl
set_option maxRecDepth 100000 in
set_option maxHeartbeats 8000000 in
theorem first_to (kb : Array Value) (ask : Int → Bool) (m : Nat) (R : Int → Int → Prop) (hR : In R m) (a : Int) (ha : 0 ≤ a ∧ a < (m : Int)) (most : Nat) (lb : Array Value) (S : Nat → Prop) (w : World) (hS : ∀ k, S k → k < w.heap.size)
    (hseq : ∀ d, TwoSeq d Tryd.prog 66 lb encW (ToldOk R a most) (ToldEnd R a most) S w)
    (hask : ∀ (v : Int) (W : World), 0 ≤ v → v < (m : Int) → Below w.heap.size w W → Calls Tryd.prog 42 (#[.int .i64 v] ++ kb) W fun e W' => e = .returned (.bool (ask v)) ∧ Below W.heap.size W W') :
    Calls Tryd.prog 41 #[.func (.func 66) #[] lb, .func (.func 42) #[] kb] w (FirstIs R a most ask w) := by
  obtain ⟨k0, k1, b0⟩ := two_new w #[.func (.func 42) #[] kb] #[.slice none 0 0] 75 30
  have B0 := Lib.hid b0
  have K0 := Lib.hid k0
  have K1 := Lib.hid k1
  have HSEQ := Lib.hid hseq
  have HASK : Hid (∀ (v : Int) (W : World), 0 ≤ v → v < (m : Int) → Below w.heap.size w W → Calls Tryd.prog 42 (#[.int .i64 v] ++ kb) W fun e W' => e = .returned (.bool (ask v)) ∧ Below W.heap.size W W') := hask
  have HAM : Hid (In R m ∧ 0 ≤ a ∧ a < (m : Int)) := ⟨hR, ha⟩
  have HSS := Lib.hid hS
  clear hseq hask k0 k1 b0 hR ha hS
  refine (callsIn_wide (n := 6)).1 (callsIn_of_wp_marks Tryd.func41 rfl trivial ?_ rfl)
  simp only [Tryd.ntmps41, List.size_toArray, List.length_cons, List.length_nil, Nat.reduceAdd, Nat.reduceSub, Array.replicate_succ, Array.replicate_zero, List.push_toArray, List.append_toArray, List.nil_append, List.cons_append]
  gi_upto_region 1 with fail
  generalize (w.alloc (.cells #[.func (.func 42) #[] kb] 75)).alloc (.cells #[.slice none 0 0] 30) = W0 at *
  gi_wp2_with fail
  refine range_pair none (by omega) (gf := 66) (lb := lb) rfl eg_ways (ex := Ent.told) (ey := Ent.val) (Ok := ToldOk R a most) (End := ToldEnd R a most) (S := S) (w1 := w) (HSEQ.out 5) ((Keep.of_below B0.out).mono fun j _ hj => HSS.out j hj) (fun k hk => Nat.lt_of_lt_of_le (HSS.out k hk) B0.out.size) 8 9 5 6 rfl (fun cs X Y => ToldOk.below cs X Y) (fun cs X Y l o => ToldOk.loop cs X Y l o)
    (FiI ask w (.func (.func 42) #[] kb)) (FiX R a most ask w W0) (fun _ => False) (fun k hk => hk.elim) ⟨rfl, K0.out, K1.out, B0.out, fun c hc => by simp at hc⟩ ?hI ?hIx ?assign ?body ?done ?stop
  case hI =>
    intro cs C X Y h hk
    have h1 := K0.out.lt
    have h2 := K1.out.lt
    exact ⟨h.eq, hk.blk h.b0 (.inl h1), hk.blk h.b1 (.inl h2), h.below.trans (hk.below h.below.size fun j hj => .inl (by omega)), h.none⟩
  case hIx =>
    intro X Y h hk
    have h2 := K1.out.lt
    exact h.keep (by omega) B0.out.size hk
  case assign =>
    intro l c W K hK
    simp only [List.setIfInBounds_toArray, List.set_cons_zero, List.set_cons_succ] at hK ⊢
    gi_wp2_with fail
    exact hK
  case body =>
    intro l cs c C X hI hok hCk hsz hlk
    have HI := Lib.hid hI
    have HOK := Lib.hid hok
    have HLK := Lib.hid hlk
    have HSZ := Lib.hid hsz
    have q0 := hI.b0.cell 0
    have hv : 0 ≤ endO c.row ∧ endO c.row < (m : Int) := hok.node HAM.out.1 HAM.out.2
    have HA := Lib.hid (HASK.out (endO c.row) X hv.1 hv.2 hI.below)
    have HAE : Hid (ask (endO c.row) = ask c.end_) := rfl
    unfold Ent.told Ent.val
    clear hI hok hCk hsz hlk hv
    simp only [List.setIfInBounds_toArray, List.set_cons_zero, List.set_cons_succ]
    gi_wp2_with fail
    refine ⟨trivial, ((callsIn_wide.2 HA.out).inRound l).mono ?_⟩
    rintro e X2 ⟨rfl, b2⟩
    rw [HAE.out]
    have HI2 := Lib.hid (HI.out.on b2)
    have HOK2 := Lib.hid (ToldOk.below _ _ _ HOK.out b2)
    have HB2 := Lib.hid b2
    have p0 := HI2.out.b1.cell 0
    have p1 := HI2.out.b1.frozen 0
    clear b2 q0 HI HA
    cases ha2 : ask c.end_
    · have HN := Lib.hid ha2
      clear ha2
      gi_wp2_with fail
      exact .inl ⟨C, fun k hk => by rw [HI2.out.eq] at hk; exact hk.elim, (Keep.of_all _ HB2.out), rfl, HI2.out.eq, HI2.out.b0, HI2.out.b1, HI2.out.below, fun d hd => by
        rcases List.mem_append.1 hd with hd | hd
        · exact HI2.out.none d hd
        · simp at hd; subst hd; exact HN.out⟩
    · have HN := Lib.hid ha2
      clear ha2
      have HX : Hid (FiX R a most ask w W0 (X2.setCell ⟨w.heap.size + 1, 0, none⟩ c.val)) :=
        FiX.mk_ HI2.out HOK2.out HN.out ⟨(Keep.of_all (fun _ => True) HB2.out).obj HLK.out.1.choose_spec trivial, (Keep.of_all (fun _ => True) HB2.out).obj HLK.out.2 trivial⟩
      have HK : Hid (Keep (fun k => W0.heap.size ≤ k ∧ ¬ C k) X (X2.setCell ⟨w.heap.size + 1, 0, none⟩ c.val)) :=
        (Keep.of_all _ HB2.out).set (.inr fun h => by have := K1.out.lt; omega) _ _
      clear HI2 HOK2
      gi_wp2_with fail
      exact .inr ⟨rfl, HK.out, HX.out⟩
  case done =>
    intro cs C D W hD hend hI hdef
    have q3 := hI.b1.frozen 0
    have q1 := hI.b1.cell 0
    have HDL : Hid (D ≠ w.heap.size + 1 ∧ w.heap.size < D) := by have := K1.out.lt; have := B0.out.size; show _ ∧ _; omega
    have HI := Lib.hid hI
    have HEND := Lib.hid hend
    have HDF : Hid ((W.setCell ⟨w.heap.size + 1, 0, none⟩ (.slice none 0 0)).heap[D]? = some (.deferred (some []))) := (Below.heap_setCell W ⟨w.heap.size + 1, 0, none⟩ _ D HDL.out.1).trans hdef
    clear hD hend hI hdef
    unfold mkMark
    gi_wp2_with fail
    refine ⟨by simp, .inl ⟨_, _, rfl, run_takeDeferred HDF.out, ?_⟩⟩
    have hk2 : ∀ o, Keep (fun k => k ≠ D) (W.setCell ⟨w.heap.size + 1, 0, none⟩ (.slice none 0 0)) ((W.setCell ⟨w.heap.size + 1, 0, none⟩ (.slice none 0 0)).putObj D o) := fun o => (Keep.refl _ _).put (.inr fun h => h rfl) o
    have e1 : Blk (W.setCell ⟨w.heap.size + 1, 0, none⟩ (.slice none 0 0)) (w.heap.size + 1) 30 #[.slice none 0 0] := by
      have := HI.out.b1.set_ 0 (.slice none 0 0)
      simpa using this
    have e3 : Below w.heap.size w (W.setCell ⟨w.heap.size + 1, 0, none⟩ (.slice none 0 0)) := HI.out.below.setCell (p := ⟨w.heap.size + 1, 0, none⟩) (Nat.le_succ _) _
    have y1 := fun o => ((hk2 o).blk e1 (Ne.symm HDL.out.1)).cell 0
    have hb6 := fun o => e3.trans ((hk2 o).below e3.size fun j hj => by have := HDL.out.2; omega)
    exact ⟨.slice none 0 0, by simp [results, Tryd.results41, go_sem, y1], FirstIs.none_ HEND.out HI.out.none (hb6 _)⟩
  case stop =>
    intro D W hD h hdef
    have HDL : Hid (D ≠ w.heap.size + 1 ∧ w.heap.size < D) := by have := K1.out.lt; have := B0.out.size; show _ ∧ _; omega
    have HDF := Lib.hid hdef
    have HX := Lib.hid h
    clear hD h hdef
    unfold jumpC mkMark
    gi_wp2_with fail
    refine ⟨by simp, .inl ⟨_, _, rfl, run_takeDeferred HDF.out, ?_⟩⟩
    obtain ⟨e, h1, h2, h3, h4, h5⟩ := HX.out
    have hk2 : ∀ o, Keep (fun k => k ≠ D) W (W.putObj D o) := fun o => (Keep.refl _ _).put (.inr fun h => h rfl) o
    have y1 := fun o => ((hk2 o).blk h1 (Ne.symm HDL.out.1)).cell 0
    have hb6 := fun o => h4.trans ((hk2 o).below h4.size fun j hj => by have := HDL.out.2; omega)
    exact ⟨e.val, by simp [results, Tryd.results41, go_sem, y1], FirstIs.some_ h5 (h2.keep (hk2 _) fun g cur hb e2 => by
      unfold Blk at hb
      rw [e2, HDF.out] at hb
      cases hb) (hb6 _)⟩

theorem eg_back : ∀ args w, (callFunc 70 args).run Tryd.prog w = .ok (.enter 70 args) w := enters_of Tryd.func70 (by kernel_rfl) rfl
set_option maxRecDepth 100000 in
set_option maxHeartbeats 8000000 in
theorem first_back (kb : Array Value) (ask : Int → Bool) (m : Nat) (R : Int → Int → Prop) (hR : In R m) (a : Int) (ha : 0 ≤ a ∧ a < (m : Int)) (most : Nat) (lb : Array Value) (S : Nat → Prop) (w : World) (hS : ∀ k, S k → k < w.heap.size)
    (hseq : ∀ d, TwoSeq d Tryd.prog 66 lb encW (ToldOk R a most) (ToldEnd R a most) S w)
    (hask : ∀ (v : Int) (W : World), 0 ≤ v → v < (m : Int) → Below w.heap.size w W → Calls Tryd.prog 70 (#[.int .i64 v] ++ kb) W fun e W' => e = .returned (.bool (ask v)) ∧ Below W.heap.size W W') :
    Calls Tryd.prog 41 #[.func (.func 66) #[] lb, .func (.func 70) #[] kb] w (FirstIs R a most ask w) := by
  obtain ⟨k0, k1, b0⟩ := two_new w #[.func (.func 70) #[] kb] #[.slice none 0 0] 75 30
  have B0 := Lib.hid b0
  have K0 := Lib.hid k0
  have K1 := Lib.hid k1
  have HSEQ := Lib.hid hseq
  have HASK : Hid (∀ (v : Int) (W : World), 0 ≤ v → v < (m : Int) → Below w.heap.size w W → Calls Tryd.prog 70 (#[.int .i64 v] ++ kb) W fun e W' => e = .returned (.bool (ask v)) ∧ Below W.heap.size W W') := hask
  have HAM : Hid (In R m ∧ 0 ≤ a ∧ a < (m : Int)) := ⟨hR, ha⟩
  have HSS := Lib.hid hS
  clear hseq hask k0 k1 b0 hR ha hS
  refine (callsIn_wide (n := 6)).1 (callsIn_of_wp_marks Tryd.func41 rfl trivial ?_ rfl)
  simp only [Tryd.ntmps41, List.size_toArray, List.length_cons, List.length_nil, Nat.reduceAdd, Nat.reduceSub, Array.replicate_succ, Array.replicate_zero, List.push_toArray, List.append_toArray, List.nil_append, List.cons_append]
  gi_upto_region 1 with fail
  generalize (w.alloc (.cells #[.func (.func 70) #[] kb] 75)).alloc (.cells #[.slice none 0 0] 30) = W0 at *
  gi_wp2_with fail
  refine range_pair none (by omega) (gf := 66) (lb := lb) rfl eg_ways (ex := Ent.told) (ey := Ent.val) (Ok := ToldOk R a most) (End := ToldEnd R a most) (S := S) (w1 := w) (HSEQ.out 5) ((Keep.of_below B0.out).mono fun j _ hj => HSS.out j hj) (fun k hk => Nat.lt_of_lt_of_le (HSS.out k hk) B0.out.size) 8 9 5 6 rfl (fun cs X Y => ToldOk.below cs X Y) (fun cs X Y l o => ToldOk.loop cs X Y l o)
    (FiI ask w (.func (.func 70) #[] kb)) (FiX R a most ask w W0) (fun _ => False) (fun k hk => hk.elim) ⟨rfl, K0.out, K1.out, B0.out, fun c hc => by simp at hc⟩ ?hI ?hIx ?assign ?body ?done ?stop
  case hI =>
    intro cs C X Y h hk
    have h1 := K0.out.lt
    have h2 := K1.out.lt
    exact ⟨h.eq, hk.blk h.b0 (.inl h1), hk.blk h.b1 (.inl h2), h.below.trans (hk.below h.below.size fun j hj => .inl (by omega)), h.none⟩
  case hIx =>
    intro X Y h hk
    have h2 := K1.out.lt
    exact h.keep (by omega) B0.out.size hk
  case assign =>
    intro l c W K hK
    simp only [List.setIfInBounds_toArray, List.set_cons_zero, List.set_cons_succ] at hK ⊢
    gi_wp2_with fail
    exact hK
  case body =>
    intro l cs c C X hI hok hCk hsz hlk
    have HI := Lib.hid hI
    have HOK := Lib.hid hok
    have HLK := Lib.hid hlk
    have HSZ := Lib.hid hsz
    have q0 := hI.b0.cell 0
    have hv : 0 ≤ endO c.row ∧ endO c.row < (m : Int) := hok.node HAM.out.1 HAM.out.2
    have HA := Lib.hid (HASK.out (endO c.row) X hv.1 hv.2 hI.below)
    have HAE : Hid (ask (endO c.row) = ask c.end_) := rfl
    unfold Ent.told Ent.val
    clear hI hok hCk hsz hlk hv
    simp only [List.setIfInBounds_toArray, List.set_cons_zero, List.set_cons_succ]
    gi_wp2_with fail
    refine ⟨trivial, ((callsIn_wide.2 HA.out).inRound l).mono ?_⟩
    rintro e X2 ⟨rfl, b2⟩
    rw [HAE.out]
    have HI2 := Lib.hid (HI.out.on b2)
    have HOK2 := Lib.hid (ToldOk.below _ _ _ HOK.out b2)
    have HB2 := Lib.hid b2
    have p0 := HI2.out.b1.cell 0
    have p1 := HI2.out.b1.frozen 0
    clear b2 q0 HI HA
    cases ha2 : ask c.end_
    · have HN := Lib.hid ha2
      clear ha2
      gi_wp2_with fail
      exact .inl ⟨C, fun k hk => by rw [HI2.out.eq] at hk; exact hk.elim, (Keep.of_all _ HB2.out), rfl, HI2.out.eq, HI2.out.b0, HI2.out.b1, HI2.out.below, fun d hd => by
        rcases List.mem_append.1 hd with hd | hd
        · exact HI2.out.none d hd
        · simp at hd; subst hd; exact HN.out⟩
    · have HN := Lib.hid ha2
      clear ha2
      have HX : Hid (FiX R a most ask w W0 (X2.setCell ⟨w.heap.size + 1, 0, none⟩ c.val)) :=
        FiX.mk_ HI2.out HOK2.out HN.out ⟨(Keep.of_all (fun _ => True) HB2.out).obj HLK.out.1.choose_spec trivial, (Keep.of_all (fun _ => True) HB2.out).obj HLK.out.2 trivial⟩
      have HK : Hid (Keep (fun k => W0.heap.size ≤ k ∧ ¬ C k) X (X2.setCell ⟨w.heap.size + 1, 0, none⟩ c.val)) :=
        (Keep.of_all _ HB2.out).set (.inr fun h => by have := K1.out.lt; omega) _ _
      clear HI2 HOK2
      gi_wp2_with fail
      exact .inr ⟨rfl, HK.out, HX.out⟩
  case done =>
    intro cs C D W hD hend hI hdef
    have q3 := hI.b1.frozen 0
    have q1 := hI.b1.cell 0
    have HDL : Hid (D ≠ w.heap.size + 1 ∧ w.heap.size < D) := by have := K1.out.lt; have := B0.out.size; show _ ∧ _; omega
    have HI := Lib.hid hI
    have HEND := Lib.hid hend
    have HDF : Hid ((W.setCell ⟨w.heap.size + 1, 0, none⟩ (.slice none 0 0)).heap[D]? = some (.deferred (some []))) := (Below.heap_setCell W ⟨w.heap.size + 1, 0, none⟩ _ D HDL.out.1).trans hdef
    clear hD hend hI hdef
    unfold mkMark
    gi_wp2_with fail
    refine ⟨by simp, .inl ⟨_, _, rfl, run_takeDeferred HDF.out, ?_⟩⟩
    have hk2 : ∀ o, Keep (fun k => k ≠ D) (W.setCell ⟨w.heap.size + 1, 0, none⟩ (.slice none 0 0)) ((W.setCell ⟨w.heap.size + 1, 0, none⟩ (.slice none 0 0)).putObj D o) := fun o => (Keep.refl _ _).put (.inr fun h => h rfl) o
    have e1 : Blk (W.setCell ⟨w.heap.size + 1, 0, none⟩ (.slice none 0 0)) (w.heap.size + 1) 30 #[.slice none 0 0] := by
      have := HI.out.b1.set_ 0 (.slice none 0 0)
      simpa using this
    have e3 : Below w.heap.size w (W.setCell ⟨w.heap.size + 1, 0, none⟩ (.slice none 0 0)) := HI.out.below.setCell (p := ⟨w.heap.size + 1, 0, none⟩) (Nat.le_succ _) _
    have y1 := fun o => ((hk2 o).blk e1 (Ne.symm HDL.out.1)).cell 0
    have hb6 := fun o => e3.trans ((hk2 o).below e3.size fun j hj => by have := HDL.out.2; omega)
    exact ⟨.slice none 0 0, by simp [results, Tryd.results41, go_sem, y1], FirstIs.none_ HEND.out HI.out.none (hb6 _)⟩
  case stop =>
    intro D W hD h hdef
    have HDL : Hid (D ≠ w.heap.size + 1 ∧ w.heap.size < D) := by have := K1.out.lt; have := B0.out.size; show _ ∧ _; omega
    have HDF := Lib.hid hdef
    have HX := Lib.hid h
    clear hD h hdef
    unfold jumpC mkMark
    gi_wp2_with fail
    refine ⟨by simp, .inl ⟨_, _, rfl, run_takeDeferred HDF.out, ?_⟩⟩
    obtain ⟨e, h1, h2, h3, h4, h5⟩ := HX.out
    have hk2 : ∀ o, Keep (fun k => k ≠ D) W (W.putObj D o) := fun o => (Keep.refl _ _).put (.inr fun h => h rfl) o
    have y1 := fun o => ((hk2 o).blk h1 (Ne.symm HDL.out.1)).cell 0
    have hb6 := fun o => h4.trans ((hk2 o).below h4.size fun j hj => by have := HDL.out.2; omega)
    exact ⟨e.val, by simp [results, Tryd.results41, go_sem, y1], FirstIs.some_ h5 (h2.keep (hk2 _) fun g cur hb e2 => by
      unfold Blk at hb
      rw [e2, HDF.out] at hb
      cases hb) (hb6 _)⟩
end Go.Proofs.YtgbpaiffnhpafaaDoor
namespace Go.Proofs.YtgbpaiffnhpafaaDoor
open Go.RowKit Go.Shelf

set_option maxHeartbeats 1000000 in
theorem to1_any (x y : Int) (Bt : Nat) (w : World) (hb : Blk w Bt 3 #[.int .i64 y]) : Calls Tryd.prog 42 #[.int .i64 x, .pointer (some ⟨Bt, 0, none⟩)] w fun e w' => e = .returned (.bool (x == y)) ∧ Below w.heap.size w w' := by
  have z0 := hb.cell 0
  clear hb
  go_enter Tryd.func42, Tryd.ntmps42
  go_wp2_with fail
  go_ret
  exact ⟨rfl, Below.refl _ _⟩
set_option maxHeartbeats 1000000 in
theorem cyc1_any (x y : Int) (Bt : Nat) (w : World) (hb : Blk w Bt 3 #[.int .i64 y]) : Calls Tryd.prog 50 #[.int .i64 x, .pointer (some ⟨Bt, 0, none⟩)] w fun e w' => e = .returned (.bool (decide (y < x))) ∧ Below w.heap.size w w' := by
  have z0 := hb.cell 0
  clear hb
  by_cases h : y < x
  · have h1 : x > y := h
    have HE : Hid (decide (y < x) = true) := decide_eq_true h
    clear h
    go_enter Tryd.func50, Tryd.ntmps50
    go_wp2_with fail
    go_ret
    exact ⟨by rw [HE.out]; rfl, Below.refl _ _⟩
  · have h1 : ¬ x > y := h
    have HE : Hid (decide (y < x) = false) := decide_eq_false h
    clear h
    go_enter Tryd.func50, Tryd.ntmps50
    go_wp2_with fail
    go_ret
    exact ⟨by rw [HE.out]; rfl, Below.refl _ _⟩
set_option maxHeartbeats 2000000 in
theorem back1_any (B : Nat) (A : Option Addr) (n c : Nat) (Sa : Option Addr) (sc m : Nat) (zs : List Ed) (hg : IsG (m : Int) zs) (hn : n ≤ 1000) (u : Nat) (v : Int) (hu : u < m) (hv : 0 ≤ v ∧ v ≤ 1000) (Bk Bv : Nat) (w : World) (h : PwAt B A n c Sa sc m zs w) (hB : B ≤ w.heap.size)
    (hk : Blk w Bk 69 #[.slice A n c, .slice Sa (m + 1) sc]) (hb : Blk w Bv 3 #[.int .i64 v]) :
    Calls Tryd.prog 70 #[.int .i64 (u : Int), .pointer (some ⟨Bk, 0, none⟩), .pointer (some ⟨Bv, 0, none⟩)] w fun e w' => e = .returned (.bool (edB zs (u : Int) v)) ∧ Below w.heap.size w w' := by
  have HL := Lib.hid (leads8_any B A n c Sa sc m zs hg hn u v hu hv w h hB)
  have z0 := hk.cell 0
  have z1 := hk.cell 1
  have y0 := hb.cell 0
  clear h hB hk hb hg
  go_enter Tryd.func70, Tryd.ntmps70
  go_wp2_with fail
  refine HL.out.mono ?_
  rintro e w1 ⟨rfl, b⟩
  have HB := Lib.hid b
  clear b HL z0 z1 y0
  go_wp2_with fail
  go_ret
  exact ⟨rfl, HB.out⟩

/-- What is found, as it lies. -/
def BackIs (R S : Int → Int → Prop) (v : Int) (most : Nat) (w : World) (e : Ending) (w' : World) : Prop :=
  ∃ (o : List Int) (A : Option Addr) (c : Nat), e = .returned (.slice A o.length c) ∧ Reads w' w'.heap.size 1 A o.length (ints o) ∧ o.length ≤ c ∧ c ≤ 9223372036854775807 ∧ Below w.heap.size w w' ∧ Found R S v most o
theorem BackIs.of {R S : Int → Int → Prop} {v : Int} {most : Nat} {ask : Int → Bool} {w w1 W : World} {e : Ending} (h : FirstIs R v most ask w1 e W) (hb : Below w.heap.size w w1) (hS : ∀ u, ask u = true ↔ S u v) : BackIs R S v most w e W := by
  obtain ⟨o, A, c, h1, h2, h3, h4, h5, h6⟩ := h
  refine ⟨o, A, c, h1, h2, h3, h4, hb.trans (h5.mono hb.size), ?_⟩
  rcases h6 with ⟨L, k, b1, b2, b3, b4⟩ | ⟨rfl, L, k, b1, b2, b3⟩
  · exact b1.found b2 b4 b3 hS
  · exact b1.lost b2 (fun j p _ hp => b3 p (List.mem_of_getElem? hp)) fun u hu => (hS u).2 hu

set_option maxRecDepth 100000 in
set_option maxHeartbeats 4000000 in
theorem back8_any (B : Nat) (A : Option Addr) (n c : Nat) (Sa : Option Addr) (sc m : Nat) (zs : List Ed) (hg : IsG (m : Int) zs) (hn : n ≤ 1000) (may : Int → Bool) (mf : Nat) (mb : Array Value) (v : Nat) (hv : v < m) (most : Nat) (hmost : 1 ≤ most ∧ most ≤ 1000) (w : World)
    (hP : PwAt B A n c Sa sc m zs w) (hB : B ≤ w.heap.size)
    (eg : ∀ args w, (callFunc mf args).run Tryd.prog w = .ok (.enter mf args) w)
    (hmay : ∀ (x : Int) (W : World), 0 ≤ x → x < (m : Int) → Below w.heap.size w W → Calls Tryd.prog mf (#[.int .i64 x] ++ mb) W fun e W' => e = .returned (.bool (may x)) ∧ Below W.heap.size W W') :
    Calls Tryd.prog 49 #[.agg #[.slice A n c, .slice Sa (m + 1) sc], .int .i64 (v : Int), .int .i64 (most : Int), .func (.func mf) #[] mb] w (BackIs (StepR zs may) (EdR zs) (v : Int) most w) := by
  obtain ⟨k0, k1, b0⟩ := two_new w #[.slice A n c, .slice Sa (m + 1) sc] #[.int .i64 (v : Int)] 69 3
  have hmn := hg.nodes
  have B0 := Lib.hid b0
  have K0 := Lib.hid k0
  have K1 := Lib.hid k1
  have z0 := k0.cell 0
  have z1 := k0.cell 1
  have y0 := k1.cell 0
  have HP := Lib.hid hP
  have HBB := Lib.hid hB
  have HMAY : Hid (∀ (x : Int) (W : World), 0 ≤ x → x < (m : Int) → Below w.heap.size w W → Calls Tryd.prog mf (#[.int .i64 x] ++ mb) W fun e W' => e = .returned (.bool (may x)) ∧ Below W.heap.size W W') := hmay
  have HG := Lib.hid hg
  have HMO := Lib.hid hmost
  have HV : Hid (v < m ∧ m ≤ 300) := ⟨hv, by omega⟩
  clear k0 k1 b0 hP hB hmay hg hmost hmn hv
  go_enter Tryd.func49, Tryd.ntmps49
  go_upto_region 1 with fail
  generalize (w.alloc (.cells #[.slice A n c, .slice Sa (m + 1) sc] 69)).alloc (.cells #[.int .i64 (v : Int)] 3) = W0 at *
  go_wp2_with fail
  refine (ways_any A n c Sa sc m (v : Int) most mf mb W0).mono ?_
  rintro e w1 ⟨rfl, hh, hsz, b1⟩
  have B1 : Hid (Below w.heap.size w w1) := B0.out.trans (b1.mono B0.out.size)
  have HF := Lib.hid (first_back #[.pointer (some ⟨w.heap.size, 0, none⟩), .pointer (some ⟨w.heap.size + 1, 0, none⟩)] (fun u => edB zs u (v : Int)) m (StepR zs may) (StepR.in_ HG.out.all) (v : Int) ⟨by omega, by have := HV.out; omega⟩ most
    #[.pointer (some ⟨W0.heap.size + 1, 0, none⟩), .pointer (some ⟨W0.heap.size + 2, 0, none⟩), .pointer (some ⟨W0.heap.size, 0, none⟩), .pointer (some ⟨W0.heap.size + 3, 0, none⟩)] (fun k => k < w1.heap.size) w1 (fun k hk => hk)
    (fun d => ways_seq d (fun k => k < w1.heap.size) B (W0.heap.size + 1) (W0.heap.size + 2) W0.heap.size (W0.heap.size + 3) A n c Sa sc m zs HG.out hn may mf mb (v : Int) ⟨by omega, by have := HV.out; omega⟩ most HMO.out w1
      (HP.out.on (B1.out.mono HBB.out)) (Nat.le_trans HBB.out B1.out.size) hh (fun k hk => Nat.lt_of_lt_of_le hk (Nat.le_trans HBB.out B1.out.size)) (by show _ < _; omega) (by show _ < _; omega) (by show _ < _; omega) (by show _ < _; omega) (fun k hk => hk) eg
      (fun x W h1 h2 h3 => HMAY.out x W h1 h2 (B1.out.trans ((h3.below (Nat.le_refl _) fun j hj => hj).mono B1.out.size))))
    (fun x W h1 h2 h3 => by
      obtain ⟨u, rfl⟩ : ∃ u : Nat, x = (u : Int) := ⟨x.toNat, by omega⟩
      have hb := B1.out.trans (h3.mono B1.out.size)
      have b01 := b1.trans (h3.mono b1.size)
      exact back1_any B A n c Sa sc m zs HG.out hn u (v : Int) (by omega) ⟨by omega, by have := HV.out; omega⟩ w.heap.size (w.heap.size + 1) W (HP.out.on (hb.mono HBB.out)) (Nat.le_trans HBB.out hb.size) (K0.out.below b01 K0.out.lt) (K1.out.below b01 K1.out.lt)))
  clear hh hsz b1 z0 z1 y0 K0 K1
  go_wp2_with fail
  refine HF.out.mono ?_
  rintro e w2 hx
  have HX := Lib.hid (BackIs.of hx B1.out fun u => edB_iff)
  obtain ⟨o, Ao, co, rfl, -⟩ := hx
  clear HF
  go_wp2_with fail
  go_ret
  exact HX.out

/-- The shorter one of two rows, of which the first may be none. -/
def shV (n1 n2 : Nat) (v1 v2 : Value) : Value := if n1 = 0 ∨ (n2 ≠ 0 ∧ n2 < n1) then v2 else v1
set_option maxRecDepth 100000 in
set_option maxHeartbeats 2000000 in
theorem shorter8_any (A1 A2 : Option Addr) (n1 c1 n2 c2 g : Nat) (w : World) (hb : Blk w g 30 #[.slice A1 n1 c1, .slice A2 n2 c2]) :
    Calls Tryd.prog 48 #[.slice (some ⟨g, 0, none⟩) 2 2] w fun e w' => e = .returned (shV n1 n2 (.slice A1 n1 c1) (.slice A2 n2 c2)) ∧ w = w' := by
  have z0 := hb.cell 0
  have z1 := hb.cell 1
  clear hb
  go_enter Tryd.func48, Tryd.ntmps48
  go_wp2_with fail
  go_loopg [3, 8] 2 (fun gg s3 s8 wr => wr = w ∧ ((gg = 2 ∧ s8 = .int .i64 0 ∧ s3 = .slice none 0 0) ∨ (gg = 1 ∧ s8 = .int .i64 1 ∧ s3 = .slice A1 n1 c1) ∨ (gg = 0 ∧ s8 = .int .i64 2 ∧ s3 = shV n1 n2 (.slice A1 n1 c1) (.slice A2 n2 c2))))
  case atStart => exact ⟨rfl, .inl ⟨rfl, rfl, rfl⟩⟩
  case round =>
    obtain ⟨rfl, ⟨rfl, rfl, rfl⟩ | ⟨rfl, rfl, rfl⟩ | ⟨rfl, rfl, rfl⟩⟩ := hrel
    · go_wp2_with fail
      go_roundg 1
      case measure => omega
      case rel => exact ⟨rfl, .inr (.inl ⟨rfl, rfl, rfl⟩)⟩
    · rcases Nat.eq_zero_or_pos n1 with h0 | h0
      · have HE : Hid (shV n1 n2 (.slice A1 n1 c1) (.slice A2 n2 c2) = .slice A2 n2 c2) := if_pos (.inl h0)
        have h1 : ((n1 : Int) == 0) = true := by simp [h0]
        clear h0
        go_wp2_with fail
        go_roundg 0
        case measure => omega
        case rel => exact ⟨rfl, .inr (.inr ⟨rfl, rfl, HE.out.symm⟩)⟩
      · have h1 : ((n1 : Int) == 0) = false := by simp; omega
        by_cases h2 : 0 < n2
        · have h3 : (0 : Int) < (n2 : Int) := by omega
          have h3b : decide ((0 : Int) < (n2 : Int)) = true := by simp; omega
          by_cases h4 : n2 < n1
          · have HE : Hid (shV n1 n2 (.slice A1 n1 c1) (.slice A2 n2 c2) = .slice A2 n2 c2) := if_pos (.inr ⟨by omega, h4⟩)
            have h5 : (n2 : Int) < (n1 : Int) := by omega
            have h5b : decide ((n2 : Int) < (n1 : Int)) = true := by simp; omega
            clear h0 h3 h5
            go_wp2_with fail
            go_roundg 0
            case measure => omega
            case rel => exact ⟨rfl, .inr (.inr ⟨rfl, rfl, HE.out.symm⟩)⟩
          · have HE : Hid (shV n1 n2 (.slice A1 n1 c1) (.slice A2 n2 c2) = .slice A1 n1 c1) := if_neg (by omega)
            have h5b : decide ((n2 : Int) < (n1 : Int)) = false := by simp; omega
            clear h0 h3
            go_wp2_with fail
            go_roundg 0
            case measure => omega
            case rel => exact ⟨rfl, .inr (.inr ⟨rfl, rfl, HE.out.symm⟩)⟩
        · have HE : Hid (shV n1 n2 (.slice A1 n1 c1) (.slice A2 n2 c2) = .slice A1 n1 c1) := if_neg (by omega)
          have h3b : decide ((0 : Int) < (n2 : Int)) = false := by simp; omega
          clear h0
          go_wp2_with fail
          go_roundg 0
          case measure => omega
          case rel => exact ⟨rfl, .inr (.inr ⟨rfl, rfl, HE.out.symm⟩)⟩
    · have HE : Hid (shV n1 n2 (.slice A1 n1 c1) (.slice A2 n2 c2) = shV n1 n2 (.slice A1 n1 c1) (.slice A2 n2 c2)) := rfl
      go_wp2_with fail
      go_ret
      exact ⟨rfl, rfl⟩

set_option maxHeartbeats 1000000 in
theorem some8_any (A : Option Addr) (n c : Nat) (w : World) : Calls Tryd.prog 40 #[.slice A n c] w fun e w' => w = w' ∧ ((n = 0 ∧ e = .returned (.tuple #[.slice none 0 0, .int .i64 4])) ∨ (n ≠ 0 ∧ e = .returned (.tuple #[.slice A n c, .int .i64 0]))) := by
  rcases Nat.eq_zero_or_pos n with h0 | h0
  · have h1 : ((n : Int) == 0) = true := by simp [h0]
    have HE := Lib.hid h0
    clear h0
    go_enter Tryd.func40, Tryd.ntmps40
    go_wp2_with fail
    go_ret2
    exact ⟨rfl, .inl ⟨HE.out, rfl⟩⟩
  · have h1 : ((n : Int) == 0) = false := by simp; omega
    have HE : Hid (n ≠ 0) := by show n ≠ 0; omega
    clear h0
    go_enter Tryd.func40, Tryd.ntmps40
    go_wp2_with fail
    go_ret2
    exact ⟨rfl, .inr ⟨HE.out, rfl⟩⟩
end Go.Proofs.YtgbpaiffnhpafaaDoor
namespace Go.Proofs.YtgbpaiffnhpafaaDoor
open Go.RowKit Go.Shelf
attribute [local go_sem] Oper.semAt_some

theorem stepR_any (zs : List Ed) : StepR zs (fun _ => true) = EdR zs := funext fun _ => funext fun _ => propext step_any
def NoRow (k : Int) (w : World) (e : Ending) (w' : World) : Prop := e = .returned (.tuple #[.slice none 0 0, .int .i64 k]) ∧ Below w.heap.size w w'
def BegAt (z : Int) (A : Option Addr) (n c : Nat) (vs : List Int) (k : Int) (f : FuncId) (w : World) : Prop :=
  ∀ (W : World) (A2 : Option Addr), Below w.heap.size w W → Reads W W.heap.size 1 A2 vs.length (ints vs) → Calls Tryd.prog f #[.agg #[.int .i64 z, .slice A n c], .slice A2 vs.length vs.length] W (BegNo k W)

set_option maxRecDepth 100000 in
set_option maxHeartbeats 4000000 in
theorem far8_err (z : Int) (A : Option Addr) (n c : Nat) (fr k : Int) (hk : (k != 0) = true) (w : World) (hbeg : BegAt z A n c [fr] k 37 w) :
    Calls Tryd.prog 12 #[.agg #[.int .i64 z, .slice A n c], .int .i64 fr] w (NoRow k w) := by
  obtain ⟨k0, k1, b0⟩ := two_new w #[.int .i64 z, .slice A n c] #[.int .i64 fr] 24 3
  have hil := int_lit (w.alloc (.cells #[.int .i64 z, .slice A n c] 24)) [fr] 3 #[.int .i64 fr] rfl
  have hsz : (w.alloc (.cells #[.int .i64 z, .slice A n c] 24)).heap.size = w.heap.size + 1 := by simp
  rw [hsz] at hil
  have HB := Lib.hid (hbeg _ _ b0 hil)
  have B0 := Lib.hid b0
  have x0 := (Blk.new w 24 #[.int .i64 z, .slice A n c]).cell 0
  have x1 := (Blk.new w 24 #[.int .i64 z, .slice A n c]).cell 1
  clear hil b0 hbeg k0 k1
  go_enter Tryd.func12, Tryd.ntmps12
  go_wp2_with fail
  refine HB.out.mono ?_
  rintro e w2 ⟨rfl, b2⟩
  have B2 : Hid (Below w.heap.size w w2) := B0.out.trans (b2.mono B0.out.size)
  have B3 := Lib.hid (B2.out.alloc B2.out.size (.cells #[.slice none 0 0, .slice none 0 0] 69))
  clear b2 B0 x0 x1 B2
  go_wp2_with fail
  go_ret2
  exact ⟨rfl, B3.out⟩

/-- How far those are that were told. -/
def farF (cs : List Ent) (m : Nat) : List Int := (List.range m).map fun u : Nat => match metF cs (u : Int) with | some e => (e.row.length : Int) - 1 | none => -1
theorem farF_len (cs : List Ent) (m : Nat) : (farF cs m).length = m := by unfold farF; simp
theorem farF_nil (m : Nat) : farF [] m = List.replicate m (-1) := by
  unfold farF
  apply List.ext_getElem
  · simp
  · intro i h1 h2
    simp [metF]
theorem farF_get (cs : List Ent) (m : Nat) {u : Nat} (hu : u < m) : (farF cs m)[u]? = some (match metF cs (u : Int) with | some e => (e.row.length : Int) - 1 | none => -1) := by
  unfold farF
  rw [List.getElem?_map, List.getElem?_range hu]
  rfl
theorem farF_set {cs : List Ent} {c : Ent} {m v : Nat} (hv : endO c.row = (v : Int)) (hn : metF cs (v : Int) = none) : (farF cs m).set v ((c.row.length : Int) - 1) = farF (cs ++ [c]) m := by
  apply List.ext_getElem?
  intro u
  by_cases hu : u < m
  · rw [farF_get _ _ hu]
    have h1 : metF (cs ++ [c]) (u : Int) = (metF cs (u : Int)).or (if endO c.row == (u : Int) then some c else none) := by
      unfold metF
      rw [List.find?_append]
      congr 1
      simp [List.find?]
      split <;> rename_i h <;> simp_all
    rw [h1]
    by_cases e : v = u
    · subst e
      rw [List.getElem?_set, if_pos rfl, if_pos (by rw [farF_len]; exact hu), hn, hv]
      simp
    · rw [List.getElem?_set, if_neg e, farF_get _ _ hu]
      have : (endO c.row == (u : Int)) = false := by rw [hv]; simp; omega
      rw [this]
      simp
  · rw [List.getElem?_eq_none (by rw [List.length_set, farF_len]; omega), List.getElem?_eq_none (by rw [farF_len]; omega)]
theorem farF_is {zs : List Ed} {m : Nat} {a : Int} {E : List Ent} (hz : ∀ p ∈ zs, rightE (m : Int) p = true) (ha : 0 ≤ a ∧ a < (m : Int)) (h : ToldEnd (StepR zs fun _ => true) a m E) : FarL (EdR zs) m a (farF E m) := by
  rw [stepR_any] at h
  obtain ⟨k, h1, h2⟩ := h
  refine ⟨farF_len E m, fun u d hd => ?_⟩
  have hu : u < m := by have := (List.getElem?_eq_some_iff.1 hd).1; rwa [farF_len] at this
  rw [farF_get _ _ hu] at hd
  injection hd with hd
  subst hd
  cases hm : metF E (u : Int) with
  | none =>
    refine .inl ⟨rfl, fun r hr => ?_⟩
    obtain ⟨q, h3, h4⟩ := hr.few (EdR.in_ hz) ha
    exact metF_none hm (h1.all (by simpa using h2) h3 h4)
  | some e =>
    obtain ⟨h3, h4⟩ := metF_some hm
    have h5 := h1.way e.row (List.mem_map_of_mem h3)
    rw [h4] at h5
    refine .inr ⟨⟨e.row, h5.1, by simp⟩, fun r hr => ?_⟩
    have := sle_len (h5.2 r hr)
    simp only
    omega
theorem ToldOk.fresh {R : Int → Int → Prop} {a : Int} {most : Nat} {cs : List Ent} {c : Ent} {X : World} (h : ToldOk R a most (cs ++ [c]) X) : metF cs (endO c.row) = none := by
  obtain ⟨⟨E, k, h1, h2, h3⟩, _⟩ := h
  cases hm : metF cs (endO c.row) with
  | none => rfl
  | some e =>
    exfalso
    obtain ⟨h4, h5⟩ := metF_some hm
    have h6 := h1.ends
    have h7 : ((cs ++ [c]).map Ent.row).map endO = ((E.map Ent.row).map endO).take (k + 1) := by rw [h3, List.map_take, List.map_take]
    have h8 : (((cs ++ [c]).map Ent.row).map endO).Nodup := by rw [h7]; exact (List.take_sublist _ _).nodup h6
    rw [List.map_append, List.map_append, List.nodup_append] at h8
    exact h8.2.2 _ (List.mem_map_of_mem (List.mem_map_of_mem h4)) (endO c.row) (by simp) h5
/-- What Far holds while ways are told. -/
structure FrI (m F : Nat) (w : World) (cs : List Ent) (C : Nat → Prop) (X : World) : Prop where
  eq : C = fun k => k = F
  far : Blk X F 3 (ints (farF cs m)).toArray
  box : Blk X (F + 1) 30 #[.slice (some ⟨F, 0, none⟩) m m]
  below : Below w.heap.size w X

set_option maxRecDepth 100000 in
set_option maxHeartbeats 8000000 in
theorem far8_ok (m : Nat) (A : Option Addr) (n c : Nat) (zs : List Ed) (fr : Nat) (hg : IsG (m : Int) zs) (hn : n ≤ 1000) (hnc : n ≤ c) (hf : fr < m) (w : World) (hR : Reads w w.heap.size 3 A n (cellsE zs)) :
    Calls Tryd.prog 12 #[.agg #[.int .i64 (m : Int), .slice A n c], .int .i64 (fr : Int)] w fun e w' => ∃ l, FarL (EdR zs) m (fr : Int) l ∧ IErr l 0 w e w' := by
  have hmn := hg.nodes
  obtain ⟨k0, k1, b0⟩ := two_new w #[.int .i64 (m : Int), .slice A n c] #[.int .i64 (fr : Int)] 24 3
  have hil := int_lit (w.alloc (.cells #[.int .i64 (m : Int), .slice A n c] 24)) [(fr : Int)] 3 #[.int .i64 (fr : Int)] rfl
  have hsz : (w.alloc (.cells #[.int .i64 (m : Int), .slice A n c] 24)).heap.size = w.heap.size + 1 := by simp
  rw [hsz] at hil
  have HB := Lib.hid (begun_ok m A (some ⟨w.heap.size + 1, 0, none⟩) n c 1 1 zs [(fr : Int)] hg hn hnc (by omega) (by simp [nodeB]; omega) _ ((hR.below b0).more b0.size) hil)
  have B0 := Lib.hid b0
  have K0 := Lib.hid k0
  have x0 := (Blk.new w 24 #[.int .i64 (m : Int), .slice A n c]).cell 0
  have x1 := (Blk.new w 24 #[.int .i64 (m : Int), .slice A n c]).cell 1
  have HG := Lib.hid hg
  have HM : Hid (m ≤ 300 ∧ fr < m) := ⟨by omega, hf⟩
  have hm3 : m ≤ 300 := by omega
  clear hil b0 k0 k1 hR hg hnc hmn hf
  refine (callsIn_wide (n := 6)).1 (callsIn_of_wp_marks Tryd.func12 rfl trivial ?_ rfl)
  simp only [Tryd.ntmps12, List.size_toArray, List.length_cons, List.length_nil, Nat.reduceAdd, Nat.reduceSub, Array.replicate_succ, Array.replicate_zero, List.push_toArray, List.append_toArray, List.nil_append, List.cons_append]
  gi_wp2_with fail
  refine ⟨trivial, (callsIn_wide.2 HB.out).mono ?_⟩
  rintro e w2 ⟨Sa, sc, rfl, hp2, b2⟩
  have hb3 := (Below.refl w2.heap.size w2).alloc (Nat.le_refl _) (.cells #[.slice A n c, .slice Sa (m + 1) sc] 69)
  have B3 : Hid (Below w.heap.size w (w2.alloc (.cells #[.slice A n c, .slice Sa (m + 1) sc] 69))) := B0.out.trans ((b2.mono B0.out.size).trans (hb3.mono (Nat.le_trans B0.out.size b2.size)))
  have KG := Lib.hid ((K0.out.below b2 K0.out.lt).alloc (.cells #[.slice A n c, .slice Sa (m + 1) sc] 69))
  have KW := Lib.hid (Blk.new w2 69 #[.slice A n c, .slice Sa (m + 1) sc])
  have HP := Lib.hid (hp2.on hb3)
  have HB2 : Hid (w2.heap.size < (w2.alloc (.cells #[.slice A n c, .slice Sa (m + 1) sc] 69)).heap.size) := by show _ < _; simp
  clear b2 hb3 hp2 B0 K0 HB x0 x1
  gi_upto_region 2 with fail
  generalize w2.alloc (.cells #[.slice A n c, .slice Sa (m + 1) sc] 69) = w3 at *
  have g0 := KG.out.cell 0
  have hmk := int_make m (m : Int) rfl (by omega) w3
  have hb4 : Below w3.heap.size w3 (w3.alloc (.cells (ints (List.replicate m 0)).toArray 3)) := (Below.refl _ _).alloc (Nat.le_refl _) _
  have hb5 := hb4.alloc hb4.size (.cells #[.slice (some ⟨w3.heap.size, 0, none⟩) m m] 30)
  have FA := Lib.hid ((Blk.new w3 3 (ints (List.replicate m 0)).toArray).alloc (.cells #[.slice (some ⟨w3.heap.size, 0, none⟩) m m] 30))
  have hsz4 : (w3.alloc (.cells (ints (List.replicate m 0)).toArray 3)).heap.size = w3.heap.size + 1 := by simp
  have fb := Blk.new (w3.alloc (.cells (ints (List.replicate m 0)).toArray 3)) 30 #[.slice (some ⟨w3.heap.size, 0, none⟩) m m]
  rw [hsz4] at fb
  have FB := Lib.hid fb
  have HB5 := Lib.hid hb5
  obtain ⟨F, hF⟩ : ∃ F, w3.heap.size = F := ⟨_, rfl⟩
  have HF := Lib.hid hF
  rw [hF] at hmk FA FB HB5
  clear hb4 hb5 fb hsz4 hF
  gi_upto_region 5 with fail
  rw [HF.out]
  have K5 : Hid (Keep (fun k => k < F) w3 ((w3.alloc (.cells (ints (List.replicate m 0)).toArray 3)).alloc (.cells #[.slice (some ⟨F, 0, none⟩) m m] 30))) := Keep.of_below HB5.out
  have KG5 := Lib.hid (K5.out.blk KG.out (by have := KG.out.lt; have := HF.out; show _ < _; omega))
  have KW5 := Lib.hid (K5.out.blk KW.out (by have := KW.out.lt; have := HF.out; show _ < _; omega))
  have HP5 := Lib.hid (HP.out.on (HB5.out.mono (by have := HB2.out; have := HF.out; omega)))
  have B5 : Hid (Below w.heap.size w ((w3.alloc (.cells (ints (List.replicate m 0)).toArray 3)).alloc (.cells #[.slice (some ⟨F, 0, none⟩) m m] 30))) := B3.out.trans (HB5.out.mono (by have := B3.out.size; have := HF.out; omega))
  have HFF : Hid (w2.heap.size < F ∧ w.heap.size < F) := by have h1 := HB2.out; have h2 := KG.out.lt; have h3 := HF.out; show _ ∧ _; omega
  clear HB5 K5 KG KW HP B3 HB2 hmk g0 HF
  generalize (w3.alloc (.cells (ints (List.replicate m 0)).toArray 3)).alloc (.cells #[.slice (some ⟨F, 0, none⟩) m m] 30) = w5 at *
  have t0 := FB.out.cell 0
  gi_wp2_with fail
  clear t0
  gi_loopg [27] m (fun gg s27 wr => ∃ v : Nat, s27 = .int .i64 v ∧ v + gg = m ∧ Hid (Blk wr F 3 (ints (List.replicate v (-1) ++ List.replicate (m - v) 0)).toArray) ∧ Hid (Blk wr (F + 1) 30 #[.slice (some ⟨F, 0, none⟩) m m]) ∧ Hid (Keep (fun k => k ≠ F) w5 wr))
  case atStart => exact ⟨0, rfl, by omega, (by unfold Hid; simpa using FA.out), FB.out, Keep.refl _ _⟩
  case round =>
    obtain ⟨v, rfl, hvm, FA2, FB2, KK⟩ := hrel
    have t0 := FB2.out.cell 0
    have HVM := Lib.hid hvm
    cases gk with
    | succ g2 =>
      have hlt : (v : Int) < (m : Int) := by omega
      have hv0 : (0 : Int) ≤ (v : Int) := by omega
      have hil : v < (ints (List.replicate v (-1) ++ List.replicate (m - v) 0)).length := by rw [ints_length, List.length_append, List.length_replicate, List.length_replicate]; omega
      obtain ⟨u0, hu0⟩ : ∃ u, (ints (List.replicate v (-1) ++ List.replicate (m - v) 0))[v]? = some u := ⟨_, List.getElem?_eq_getElem hil⟩
      have y0 : wr.cell? ⟨F, v, none⟩ = some u0 := by rw [FA2.out.cell, List.getElem?_toArray]; exact hu0
      have f0 : wr.frozen? ⟨F, v, none⟩ = false := FA2.out.frozen v
      have FA3 : Hid (Blk (wr.setCell ⟨F, v, none⟩ (.int .i64 (-1))) F 3 (ints (List.replicate (v + 1) (-1) ++ List.replicate (m - (v + 1)) 0)).toArray) := by
        have := FA2.out.set_ v (.int .i64 (-1))
        rw [List.setIfInBounds_toArray, ints_set, List.set_append_right _ _ (by simp), List.length_replicate, Nat.sub_self, show m - v = (m - (v + 1)) + 1 by omega, List.replicate_succ, List.set_cons_zero] at this
        rw [show List.replicate (v + 1) (-1 : Int) = List.replicate v (-1) ++ [-1] from List.replicate_succ', List.append_assoc]
        exact this
      have FB3 := Lib.hid (FB2.out.far (p := ⟨F, v, none⟩) (by simp) (.int .i64 (-1)))
      have KK3 : Hid (Keep (fun k => k ≠ F) w5 (wr.setCell ⟨F, v, none⟩ (.int .i64 (-1)))) := KK.out.set (.inr fun h => h rfl) _ _
      clear hvm hil hu0
      gi_wp2_with fail
      gi_roundg g2
      case measure => omega
      case rel => exact ⟨v + 1, by go_num, by have := HVM.out; omega, FA3, FB3, KK3⟩
    | zero =>
      have hge : ¬ (v : Int) < (m : Int) := by omega
      obtain rfl : v = m := by omega
      have FA3 : Hid (Blk wr F 3 (ints (farF [] v)).toArray) := by
        have := FA2.out
        rw [Nat.sub_self, List.replicate_zero, List.append_nil] at this
        rw [farF_nil]
        exact this
      have KG6 := Lib.hid (KK.out.blk KG5.out (by have := HFF.out; show _ ≠ _; omega))
      have KW6 := Lib.hid (KK.out.blk KW5.out (by have := HFF.out; show _ ≠ _; omega))
      have B6 : Hid (Below w.heap.size w wr) := B5.out.trans (KK.out.below B5.out.size fun j hj => by have := HFF.out; show _ ≠ _; omega)
      have HP6 : Hid (PwAt w2.heap.size A n c Sa sc v zs wr) := HP5.out.on (KK.out.below (by have := HFF.out; have := KW5.out.lt; omega) fun j hj => by have := HFF.out; show _ ≠ _; omega)
      have z0 := KW6.out.cell 0
      have z1 := KW6.out.cell 1
      have g0 := KG6.out.cell 0
      clear hvm FA FB FA2 KG5 KW5 B5 HP5 t0
      gi_wp2_with fail
      refine ⟨trivial, (callsIn_wide.2 (ways_any A n c Sa sc v (fr : Int) v 39 #[] wr)).mono ?_⟩
      rintro e w6 ⟨rfl, hh, hsz6, b6⟩
      have HSQ := Lib.hid fun d => ways_seq d (fun k => k < F ∨ (wr.heap.size ≤ k ∧ k < w6.heap.size)) w2.heap.size (wr.heap.size + 1) (wr.heap.size + 2) wr.heap.size (wr.heap.size + 3) A n c Sa sc v zs HG.out hn (fun _ => true) 39 #[] (fr : Int) ⟨by omega, by have := HM.out; omega⟩ v ⟨by have := HM.out; omega, by have := HM.out; omega⟩ w6
        (HP6.out.on (b6.mono (by have := KW6.out.lt; omega))) (by have := KW6.out.lt; omega) hh (fun k hk => .inl (by have := HFF.out; omega)) (.inr (by omega)) (.inr (by omega)) (.inr (by omega)) (.inr (by omega)) (fun k hk => by have := FA3.out.lt; omega) eg_any
        (fun x W _ _ _ => (anywhere_any x W).mono fun e W' ⟨h1, h2⟩ => ⟨h1, h2 ▸ Below.refl _ _⟩)
      have FA7 := Lib.hid (FA3.out.below b6 FA3.out.lt)
      have FB7 := Lib.hid (FB2.out.below b6 FB2.out.lt)
      have B7 : Hid (Below w.heap.size w w6) := B6.out.trans (b6.mono B6.out.size)
      have HS7 : Hid (wr.heap.size ≤ w6.heap.size ∧ F + 1 < wr.heap.size) := ⟨b6.size, FB2.out.lt⟩
      clear hh hsz6 b6 HP6 z0 z1 g0 KG6 KW6 FA3 FB2 B6 KK
      gi_wp2_with fail
      refine range_pair none (by omega) (gf := 66) rfl eg_ways (ex := Ent.told) (ey := Ent.val) (HSQ.out 5) (Keep.refl _ w6) (fun k hk => by have := HS7.out; omega) 39 40 10 11 rfl (fun cs X Y => ToldOk.below cs X Y) (fun cs X Y l o => ToldOk.loop cs X Y l o)
        (FrI v F w) (fun _ => False) (fun k => k = F) (fun k hk => ⟨fun h => by have := HS7.out; omega, by have := HS7.out; omega⟩) ⟨rfl, FA7.out, FB7.out, B7.out⟩ ?hI ?hIx ?assign ?body ?done ?stop
      case hI =>
        intro cs C X Y h hk
        have h1 := HS7.out
        refine ⟨h.eq, hk.blk h.far (.inl (by omega)), hk.blk h.box (.inl (by omega)), h.below.trans (hk.below h.below.size fun j hj => .inl (by have := HFF.out; omega))⟩
      case hIx =>
        intro X Y h _
        exact h
      case assign =>
        intro l c W K hK
        simp only [List.setIfInBounds_toArray, List.set_cons_zero, List.set_cons_succ] at hK ⊢
        gi_wp2_with fail
        exact hK
      case body =>
        intro l cs c C X hI hok hCk hsz hlk
        have hv := hok.node (StepR.in_ HG.out.all) ⟨by omega, by have := HM.out; omega⟩
        obtain ⟨u, hu⟩ : ∃ u : Nat, endO c.row = (u : Int) := ⟨(endO c.row).toNat, by omega⟩
        have hfr := hok.fresh
        rw [hu] at hfr
        have HF8 : Hid ((farF cs v).set u ((c.row.length : Int) - 1) = farF (cs ++ [c]) v) := farF_set hu hfr
        have hcl : c.row.length ≤ 300 := by
          obtain ⟨⟨E, k, h1, _, h3⟩, _⟩ := hok
          have hm : c ∈ E := List.mem_of_mem_take (i := k + 1) (by rw [← h3]; simp)
          have h4 := h1.way c.row (List.mem_map_of_mem hm)
          have := nodes_few (m := v) h4.nodup fun x hx => h4.1.nodes (StepR.in_ HG.out.all) ⟨by omega, by have := HM.out; omega⟩ x hx
          have := HM.out
          omega
        have hil : u < (ints (farF cs v)).length := by rw [ints_length, farF_len]; omega
        obtain ⟨u0, hu0⟩ : ∃ x, (ints (farF cs v))[u]? = some x := ⟨_, List.getElem?_eq_getElem hil⟩
        have y0 : X.cell? ⟨F, u, none⟩ = some u0 := by rw [hI.far.cell, List.getElem?_toArray]; exact hu0
        have f0 : X.frozen? ⟨F, u, none⟩ = false := hI.far.frozen u
        have t0 := hI.box.cell 0
        have hw1 : IntKind.i64.wrap ((c.row.length : Int) - 1) = (c.row.length : Int) - 1 := by rw [IntKind.wrap_i64]; omega
        have hu1 : (u : Int) < (v : Int) := by omega
        have FA8 : Hid (Blk (X.setCell ⟨F, u, none⟩ (.int .i64 ((c.row.length : Int) - 1))) F 3 (ints (farF (cs ++ [c]) v)).toArray) := by
          have := hI.far.set_ u (.int .i64 ((c.row.length : Int) - 1))
          rw [List.setIfInBounds_toArray, ints_set, HF8.out] at this
          exact this
        have HE : Hid (∀ ac, OnePost none w6.heap.size C (FrI v F w) (fun _ => False) (cs ++ [c]) X .normal ac (X.setCell ⟨F, u, none⟩ (.int .i64 ((c.row.length : Int) - 1)))) := by
          intro _
          refine .inl ⟨C, fun k hk => ?_, (Keep.refl _ _).set (.inr fun h => h (by rw [hI.eq])) _ _, rfl, hI.eq, FA8.out, hI.box.far (p := ⟨F, u, none⟩) (by simp) _, hI.below.setCell (p := ⟨F, u, none⟩) (by have := HFF.out; show _ ≤ F; omega) _⟩
          rw [World.size_setCell]
          exact ⟨(hCk k hk).2, .inl hk⟩
        unfold Ent.told Ent.val
        rw [hu]
        clear hI hok hCk hsz hlk hv hfr hil hu0 FA8 HF8 hu
        simp only [List.setIfInBounds_toArray, List.set_cons_zero, List.set_cons_succ]
        gi_wp2_with fail
        exact HE.out _
      case done =>
        intro cs C D W hD hend hI hdef
        have t0 := hI.box.cell 0
        have HDL : Hid (D ≠ F ∧ D ≠ F + 1 ∧ w.heap.size < D) := by have := HS7.out; have := HFF.out; show _ ∧ _ ∧ _; omega
        have HDF := Lib.hid hdef
        have HFL := Lib.hid (farF_is HG.out.all ⟨by omega, by have := HM.out; omega⟩ hend)
        have HI := Lib.hid hI
        unfold mkMark
        clear hD hend hI hdef
        gi_wp2_with fail
        refine ⟨by simp, .inl ⟨_, _, rfl, run_takeDeferred HDF.out, ?_⟩⟩
        have hk2 : ∀ o, Keep (fun k => k ≠ D) W (W.putObj D o) := fun o => (Keep.refl _ _).put (.inr fun h => h rfl) o
        have hb6 := fun o => HI.out.below.trans ((hk2 o).below HI.out.below.size fun j hj => by have := HDL.out; show _ ≠ _; omega)
        have y1 := fun o => (hk2 o).blk HI.out.far (Ne.symm HDL.out.1)
        refine ⟨.tuple #[.slice (some ⟨F, 0, none⟩) v v, .int .i64 0], by simp [results, Tryd.results12, go_sem], farF cs v, HFL.out, some ⟨F, 0, none⟩, v, by rw [farF_len], ⟨by rw [ints_length, Nat.mul_one], fun _ => ⟨_, rfl, (y1 _).lt, fun j u hu => ?_⟩⟩, by rw [farF_len]; exact Nat.le_refl _, by omega, hb6 _⟩
        rw [Go.WideShapes.add_plain, Nat.zero_add, (y1 _).cell, List.getElem?_toArray]
        exact hu
      case stop =>
        intro D W _ h _
        exact h.elim
end Go.Proofs.YtgbpaiffnhpafaaDoor
