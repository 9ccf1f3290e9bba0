/- Layer path: what follows, of shortest ways, of rounds, of an edge more: plain facts. -/
import Derived.Test.YtgbpaiffnhpafaaDoorM10
-- holds: YtgbpaiffnhpafaaDoorCr YtgbpaiffnhpafaaDoorCs YtgbpaiffnhpafaaDoorCt YtgbpaiffnhpafaaDoorCta YtgbpaiffnhpafaaDoorQb YtgbpaiffnhpafaaDoorQc YtgbpaiffnhpafaaDoorPh YtgbpaiffnhpafaaDoorPe
namespace Go.Proofs.YtgbpaiffnhpafaaDoor
open Go.RowKit

/-- The walk as it lies. -/
structure WalkAt (X P : Nat) (A : Option Addr) (n c : Nat) (Sa : Option Addr) (sn sc : Nat) (O : Option Addr) (k oc B2 m : Nat) (op pl : List Int) (W : World) : Prop where
  blk : Blk W X 118 #[.slice A n c, .slice Sa sn sc, .slice O k oc, .slice (some ⟨P, 0, none⟩) m m]
  pl : Blk W P 3 (ints pl).toArray
  op : W.ownsRow B2 3 1 (.slice O k oc) k (ints op)
  apart : (Value.slice O k oc).ownBlock ≠ some P
  lo : B2 ≤ X ∧ B2 ≤ P
section
variable {X P : Nat} {A : Option Addr} {n c : Nat} {Sa : Option Addr} {sn sc : Nat} {O : Option Addr} {k oc B2 m : Nat} {op pl : List Int} {W W' : World}
theorem WalkAt.len (h : WalkAt X P A n c Sa sn sc O k oc B2 m op pl W) : op.length = k := by have := h.op.1; rw [ints_length] at this; omega
theorem WalkAt.ne (h : WalkAt X P A n c Sa sn sc O k oc B2 m op pl W) : P ≠ X := fun e => by
  have := h.blk
  rw [← e] at this
  exact Blk.ne_ h.pl this (by decide) rfl
theorem WalkAt.kept (h : WalkAt X P A n c Sa sn sc O k oc B2 m op pl W) (hX : W'.heap[X]? = W.heap[X]?) (hP : W'.heap[P]? = W.heap[P]?) (hO : ∀ g, (Value.slice O k oc).ownBlock = some g → W'.heap[g]? = W.heap[g]?) : WalkAt X P A n c Sa sn sc O k oc B2 m op pl W' :=
  ⟨hX.trans h.blk, hP.trans h.pl, own_heap6 h.op hO, h.apart, h.lo⟩
theorem WalkAt.keep {S : Nat → Prop} (h : WalkAt X P A n c Sa sn sc O k oc B2 m op pl W) (hk : Keep S W W') (hX : S X) (hP : S P) (hO : ∀ g, (Value.slice O k oc).ownBlock = some g → S g) : WalkAt X P A n c Sa sn sc O k oc B2 m op pl W' :=
  ⟨hk.blk h.blk hX, hk.blk h.pl hP, hk.own h.op hO, h.apart, h.lo⟩
theorem WalkAt.alloc (h : WalkAt X P A n c Sa sn sc O k oc B2 m op pl W) (o : Obj) : WalkAt X P A n c Sa sn sc O k oc B2 m op pl (W.alloc o) :=
  ⟨h.blk.alloc o, h.pl.alloc o, h.op.alloc o, h.apart, h.lo⟩
/-- A cell of another block is set. -/
theorem WalkAt.other (h : WalkAt X P A n c Sa sn sc O k oc B2 m op pl W) {g : Nat} {t : TypeId} {cs : Array Value} (hg : Blk W g t cs) (ht : t ≠ 3) (ht2 : t ≠ 118) (i : Nat) (u : Value) : WalkAt X P A n c Sa sn sc O k oc B2 m op pl (W.setCell ⟨g, i, none⟩ u) :=
  ⟨h.blk.far (p := ⟨g, i, none⟩) (Blk.ne_ h.blk hg (Ne.symm ht2)) u, h.pl.far (p := ⟨g, i, none⟩) (Blk.ne_ h.pl hg (Ne.symm ht)) u, own_store h.op hg ht u, h.apart, h.lo⟩
/-- A place is written. -/
theorem WalkAt.place (h : WalkAt X P A n c Sa sn sc O k oc B2 m op pl W) (i : Nat) (q : Int) : WalkAt X P A n c Sa sn sc O k oc B2 m op (pl.set i q) (W.setCell ⟨P, i, none⟩ (.int .i64 q)) := by
  refine ⟨h.blk.far (p := ⟨P, i, none⟩) (Ne.symm h.ne) _, ?_, own_heap6 h.op fun g hg => Below.heap_setCell W ⟨P, i, none⟩ _ g (fun e => h.apart (by rw [hg]; exact congrArg some e)), h.apart, h.lo⟩
  have := h.pl.set_ i (.int .i64 q)
  rw [List.setIfInBounds_toArray, ints_set] at this
  exact this
theorem WalkAt.cut (h : WalkAt X P A n c Sa sn sc O k oc B2 m op pl W) {j : Nat} (hj : j ≤ k) : WalkAt X P A n c Sa sn sc O j oc B2 m (op.take j) pl (W.setCell ⟨X, 2, none⟩ (.slice O j oc)) := by
  have hb : (Value.slice O j oc).ownBlock = (Value.slice O k oc).ownBlock := by cases O <;> rfl
  refine ⟨?_, h.pl.far (p := ⟨X, 2, none⟩) h.ne _, ?_, by rw [hb]; exact h.apart, h.lo⟩
  · have := h.blk.set_ 2 (.slice O j oc)
    simpa using this
  · have := own_store (own_less h.op hj) h.blk (k := 2) (by decide) (.slice O j oc)
    have e : (ints op).take j = ints (op.take j) := by unfold ints; rw [List.map_take]
    rwa [e] at this
/-- A node is appended to the open ones. -/
theorem WalkAt.more {W1 w5 : World} {O5 : Option Addr} {c5 : Nat} {v : Int} (h : WalkAt X P A n c Sa sn sc O k oc B2 m op pl W1) (hown : w5.ownsRow B2 3 1 (.slice O5 (k + 1) c5) (k + 1) (ints op ++ [.int .i64 v])) (hgrow : W1.grownBy w5 (Value.slice O k oc).ownBlock)
    {N : Nat} (hat : (Value.slice O5 (k + 1) c5).ownBlock = (Value.slice O k oc).ownBlock ∨ (Value.slice O5 (k + 1) c5).ownBlock = some N) (hN : P < N) :
    WalkAt X P A n c Sa sn sc O5 (k + 1) c5 B2 m (op ++ [v]) pl (w5.setCell ⟨X, 2, none⟩ (.slice O5 (k + 1) c5)) := by
  have hX5 : Blk w5 X 118 _ := h.blk.grown hgrow fun e => own_blk_ne h.op h.blk (by decide) e.symm
  have hP5 : Blk w5 P 3 _ := h.pl.grown hgrow fun e => h.apart e.symm
  refine ⟨?_, hP5.far (p := ⟨X, 2, none⟩) h.ne _, ?_, ?_, h.lo⟩
  · have := hX5.set_ 2 (.slice O5 (k + 1) c5)
    simpa using this
  · rw [ints_append]
    exact own_store hown hX5 (by decide) _
  · rcases hat with e | e
    · rw [e]; exact h.apart
    · rw [e]
      intro e2
      injection e2 with e2
      omega
end

theorem starts_at {w : World} {B m v : Nat} {Sa : Option Addr} {zs : List Ed} (h : Reads w B 1 Sa (m + 1) (ints (startsE zs (m + 1)))) (hv : v < m) :
    ∃ b o, Sa = some ⟨b, o, none⟩ ∧ b < B ∧ w.cell? ⟨b, o + v, none⟩ = some (.int .i64 (startE zs (v : Int) : Int)) ∧ w.cell? ⟨b, o + (v + 1), none⟩ = some (.int .i64 (startE zs ((v : Int) + 1) : Int)) := by
  obtain ⟨b, o, e, hb, hc⟩ := reads_plain h (by omega)
  have hat : ∀ j, j < m + 1 → (ints (startsE zs (m + 1)))[j]? = some (.int .i64 (startE zs (j : Int) : Int)) := fun j hj => by
    unfold ints startsE
    rw [List.getElem?_map, List.getElem?_map, List.getElem?_range hj]
    rfl
  exact ⟨b, o, e, hb, hc _ _ (hat v (by omega)), hc _ _ (hat (v + 1) (by omega))⟩

def BegunIs (A : Option Addr) (n c : Nat) (Sa : Option Addr) (sn sc m : Nat) (w : World) (e : Ending) (w' : World) : Prop :=
  ∃ X P, e = .returned (.pointer (some ⟨X, 0, none⟩)) ∧ WalkAt X P A n c Sa sn sc none 0 0 w.heap.size m [] (List.replicate m (-1)) w' ∧ Below w.heap.size w w'

set_option maxRecDepth 100000 in
set_option maxHeartbeats 4000000 in
theorem begun_any (z : Int) (A : Option Addr) (n c : Nat) (Sa : Option Addr) (sn sc : Nat) (hz : 0 ≤ z ∧ z ≤ 300) (w : World) :
    Calls Tryd.prog 83 #[.agg #[.int .i64 z, .slice A n c], .slice Sa sn sc] w (BegunIs A n c Sa sn sc z.toNat w) := by
  obtain ⟨bx, b0⟩ := box_new w #[.int .i64 z, .slice A n c] 24
  obtain ⟨m, rfl⟩ : ∃ m : Nat, z = (m : Int) := ⟨z.toNat, by omega⟩
  rw [Int.toNat_natCast]
  have hm : m ≤ 300 := by omega
  have BX := Lib.hid bx
  have B0 := Lib.hid b0
  clear bx b0
  go_enter Tryd.func83, Tryd.ntmps83
  go_upto_region 1 with fail
  generalize w.alloc (.cells #[.int .i64 (m : Int), .slice A n c] 24) = W0 at *
  have hmk : (Instr.makeSlice 30 (.int .i64 (m : Int)) (.int .i64 (m : Int))).run Tryd.prog W0.drew = .ok (.slice (some ⟨W0.heap.size, 0, none⟩) m m) (W0.drew.alloc (.cells (ints (List.replicate m 0)).toArray 3)) := int_make m (m : Int) rfl (by omega) W0.drew
  have z0 := BX.out.cell 0
  have z1 := BX.out.cell 1
  have x0 : (W0.alloc (.cells (ints (List.replicate m 0)).toArray 3)).cell? ⟨w.heap.size, 0, none⟩ = _ := (BX.out.alloc (.cells (ints (List.replicate m 0)).toArray 3)).cell 0
  have x1 : (W0.alloc (.cells (ints (List.replicate m 0)).toArray 3)).cell? ⟨w.heap.size, 1, none⟩ = _ := (BX.out.alloc (.cells (ints (List.replicate m 0)).toArray 3)).cell 1
  have hs1 : (W0.alloc (.cells (ints (List.replicate m 0)).toArray 3)).heap.size = W0.heap.size + 1 := by rw [World.size_alloc]
  have B2 : Hid (Below w.heap.size w ((W0.alloc (.cells (ints (List.replicate m 0)).toArray 3)).alloc (.cells #[.slice A n c, .slice Sa sn sc, .slice none 0 0, .slice (some ⟨W0.heap.size, 0, none⟩) m m] 118)).drew) := by
    have b1 := B0.out.alloc B0.out.size (.cells (ints (List.replicate m 0)).toArray 3)
    exact (b1.alloc b1.size _).drew
  have K2 : Hid (Blk ((W0.alloc (.cells (ints (List.replicate m 0)).toArray 3)).alloc (.cells #[.slice A n c, .slice Sa sn sc, .slice none 0 0, .slice (some ⟨W0.heap.size, 0, none⟩) m m] 118)).drew (W0.heap.size + 1) 118 #[.slice A n c, .slice Sa sn sc, .slice none 0 0, .slice (some ⟨W0.heap.size, 0, none⟩) m m]) := by
    have := Blk.new (W0.alloc (.cells (ints (List.replicate m 0)).toArray 3)) 118 #[.slice A n c, .slice Sa sn sc, .slice none 0 0, .slice (some ⟨W0.heap.size, 0, none⟩) m m]
    rw [hs1] at this
    exact this.drew
  have K3 : Hid (Blk ((W0.alloc (.cells (ints (List.replicate m 0)).toArray 3)).alloc (.cells #[.slice A n c, .slice Sa sn sc, .slice none 0 0, .slice (some ⟨W0.heap.size, 0, none⟩) m m] 118)).drew W0.heap.size 3 (ints (List.replicate m 0)).toArray) := ((Blk.new W0 3 (ints (List.replicate m 0)).toArray).alloc _).drew
  have HSZ : Hid (w.heap.size ≤ W0.heap.size) := B0.out.size
  clear hs1
  go_region
  clear hmk x0 x1 z0 z1 B0 BX
  generalize ((W0.alloc (.cells (ints (List.replicate m 0)).toArray 3)).alloc (.cells #[.slice A n c, .slice Sa sn sc, .slice none 0 0, .slice (some ⟨W0.heap.size, 0, none⟩) m m] 118)).drew = W2 at *
  generalize W0.heap.size = P at *
  have HXP : Hid (P + 1 ≠ P) := Nat.succ_ne_self P
  have HX1 : Hid (w.heap.size ≤ P + 1) := Nat.le_succ_of_le HSZ.out
  generalize P + 1 = X at *
  have x3 := K2.out.cell 3
  go_wp2_with fail
  clear x3
  go_loopg [20] m (fun gg s20 wr => ∃ i : Nat, i + gg = m ∧ s20 = .int .i64 i ∧ Hid (Blk wr P 3 (ints (List.replicate i (-1) ++ List.replicate (m - i) 0)).toArray) ∧ Hid (Blk wr X 118 #[.slice A n c, .slice Sa sn sc, .slice none 0 0, .slice (some ⟨P, 0, none⟩) m m]) ∧ Hid (Below w.heap.size w wr))
  case atStart => exact ⟨0, by omega, rfl, K3, K2, B2⟩
  case round =>
    clear K3 K2 B2
    obtain ⟨i, hi, rfl, HN, HX, HB⟩ := hrel
    cases gk with
    | succ g2 =>
      have hlt : (i : Int) < (m : Int) := by omega
      have him : i < m := by omega
      have x3 := HX.out.cell 3
      have HI := Lib.hid hi
      have hil : i < (ints (List.replicate i (-1) ++ List.replicate (m - i) 0)).length := by rw [ints_length, List.length_append, List.length_replicate, List.length_replicate]; omega
      obtain ⟨u0, hu0⟩ : ∃ u, (ints (List.replicate i (-1) ++ List.replicate (m - i) 0))[i]? = some u := ⟨_, List.getElem?_eq_getElem hil⟩
      have y0 : wr.cell? ⟨P, i, none⟩ = some u0 := by rw [HN.out.cell, List.getElem?_toArray]; exact hu0
      have f0 : wr.frozen? ⟨P, i, none⟩ = false := HN.out.frozen i
      have HN3 : Hid (Blk (wr.setCell ⟨P, i, none⟩ (.int .i64 (-1))) P 3 (ints (List.replicate (i + 1) (-1) ++ List.replicate (m - (i + 1)) 0)).toArray) := by
        have := HN.out.set_ i (.int .i64 (-1))
        rw [List.setIfInBounds_toArray, ints_set, List.set_append_right _ _ (by simp), List.length_replicate, Nat.sub_self, show m - i = (m - (i + 1)) + 1 by omega, List.replicate_succ, List.set_cons_zero] at this
        rw [List.replicate_succ', List.append_assoc]
        exact this
      have HX3 := Lib.hid (HX.out.far (p := ⟨P, i, none⟩) HXP.out (.int .i64 (-1)))
      have HB3 := Lib.hid (HB.out.setCell (p := ⟨P, i, none⟩) HSZ.out (.int .i64 (-1)))
      have hi0 : (0 : Int) ≤ (i : Int) := by omega
      clear hil hu0 hi HN HX HB
      go_wp2_with fail
      go_roundg g2
      case measure => omega
      case rel => exact ⟨i + 1, by have := HI.out; omega, by go_num, HN3, HX3, HB3⟩
    | zero =>
      have hge : ¬ (i : Int) < (m : Int) := by omega
      obtain rfl : i = m := by omega
      have HE : Hid (BegunIs A n c Sa sn sc i w (.returned (.pointer (some ⟨X, 0, none⟩))) wr) := by
        refine ⟨X, P, rfl, ⟨HX.out, ?_, World.ownsRow_nil _ _ _ _, (fun e => by cases e), ⟨HX1.out, HSZ.out⟩⟩, HB.out⟩
        have := HN.out
        rwa [Nat.sub_self, List.replicate_zero, List.append_nil] at this
      clear hi
      go_wp2_with fail
      go_ret
      exact HE.out

/-- A node was met. -/
def OpenedIs (X P : Nat) (A : Option Addr) (n c : Nat) (Sa : Option Addr) (sn sc : Nat) (O : Option Addr) (k oc B2 m : Nat) (op pl : List Int) (zs : List Ed) (v : Nat) (w : World) (e : Ending) (w' : World) : Prop :=
  ∃ O' oc', e = .returned (.agg #[.int .i64 (k : Int), .int .i64 (k : Int), .slice (CutAt zs (v : Int) A) (outE zs (v : Int)).length (outE zs (v : Int)).length]) ∧
    WalkAt X P A n c Sa sn sc O' (k + 1) oc' B2 m (op ++ [(v : Int)]) (pl.set v (k : Int)) w' ∧ ((Value.slice O' (k + 1) oc').ownBlock = (Value.slice O k oc).ownBlock ∨ ∃ N, (Value.slice O' (k + 1) oc').ownBlock = some N ∧ w.heap.size ≤ N) ∧
    Keep (fun j => j ≠ X ∧ j ≠ P ∧ (Value.slice O k oc).ownBlock ≠ some j) w w'

set_option maxRecDepth 100000 in
set_option maxHeartbeats 4000000 in
theorem opened_any (X P : Nat) (A : Option Addr) (n c : Nat) (Sa : Option Addr) (sc : Nat) (O : Option Addr) (k oc B2 m v : Nat) (op pl : List Int) (zs : List Ed) (w : World) (h : WalkAt X P A n c Sa (m + 1) sc O k oc B2 m op pl w)
    (hR : Reads w B2 3 A n (cellsE zs)) (hS : Reads w B2 1 Sa (m + 1) (ints (startsE zs (m + 1)))) (hz : InRow zs) (hnc : n ≤ c) (hm : m ≤ 300) (hv : v < m) (hk : k ≤ 300) (hpl : pl.length = m) (hB : B2 ≤ w.heap.size) :
    Calls Tryd.prog 96 #[.pointer (some ⟨X, 0, none⟩), .int .i64 (v : Int)] w (OpenedIs X P A n c Sa (m + 1) sc O k oc B2 m op pl zs v w) := by
  obtain ⟨i0, hi, hz0, hz1, hz2⟩ := info_parts int_info
  have hl := reads_len hR
  have h1 := start_mono zs (u := (v : Int)) (v := (v : Int) + 1) (by omega)
  have h2 := start_le zs ((v : Int) + 1)
  have hcr := reads_len (cut_reads (v : Int) hz hR)
  have HCL : Hid ((outE zs (v : Int)).length = startE zs ((v : Int) + 1) - startE zs (v : Int)) := hcr
  have hsl := pr_slice_lhm A n c (startE zs (v : Int)) (startE zs ((v : Int) + 1)) (startE zs ((v : Int) + 1)) _ _ _ rfl rfl rfl h1 (Nat.le_refl _) (by omega)
  have HF : Hid (∀ (O' : Option Addr) (oc' : Nat) (w' : World), WalkAt X P A n c Sa (m + 1) sc O' (k + 1) oc' B2 m (op ++ [(v : Int)]) (pl.set v (k : Int)) w' → ((Value.slice O' (k + 1) oc').ownBlock = (Value.slice O k oc).ownBlock ∨ ∃ N, (Value.slice O' (k + 1) oc').ownBlock = some N ∧ w.heap.size ≤ N) →
      Keep (fun j => j ≠ X ∧ j ≠ P ∧ (Value.slice O k oc).ownBlock ≠ some j) w w' → OpenedIs X P A n c Sa (m + 1) sc O k oc B2 m op pl zs v w (.returned (.agg #[.int .i64 (k : Int), .int .i64 (k : Int), .slice (CutAt zs (v : Int) A) (startE zs ((v : Int) + 1) - startE zs (v : Int)) (startE zs ((v : Int) + 1) - startE zs (v : Int))])) w') :=
    fun O' oc' w' g1 g2 g3 => ⟨O', oc', by rw [HCL.out], g1, g2, g3⟩
  have HD : Hid (CutAt zs (v : Int) A = if startE zs ((v : Int) + 1) = startE zs (v : Int) then A else A.map (·.add (startE zs (v : Int) * 3))) := rfl
  rw [← HD.out] at hsl
  have HST := Lib.hid fun W (hb : Below B2 w W) => starts_at (hS.below hb) hv
  have hx2 := h.blk.cell 2
  have H0 : Hid (WalkAt X P A n c Sa (m + 1) sc O k oc B2 m op pl (w.alloc (.cells #[.int .i64 0, .int .i64 0, .slice none 0 0] 131))) := h.alloc _
  have R0 : Hid (Blk (w.alloc (.cells #[.int .i64 0, .int .i64 0, .slice none 0 0] 131)) w.heap.size 131 #[.int .i64 0, .int .i64 0, .slice none 0 0]) := Blk.new w _ _
  have K0 : Hid (Keep (fun j => j ≠ X ∧ j ≠ P ∧ (Value.slice O k oc).ownBlock ≠ some j) w (w.alloc (.cells #[.int .i64 0, .int .i64 0, .slice none 0 0] 131))) := (Keep.refl _ w).alloc _
  have x2 := H0.out.blk.cell 2
  have HPX : Hid (P < w.heap.size ∧ X < w.heap.size ∧ (∀ g, (Value.slice O k oc).ownBlock = some g → g < w.heap.size) ∧ ∀ g, (Value.slice O k oc).ownBlock = some g → B2 ≤ g) := ⟨h.pl.lt, h.blk.lt, fun g hg => (own_in h.op hg).2.1, fun g hg => (own_in h.op hg).1⟩
  have HB := Lib.hid hB
  have HPL := Lib.hid hpl
  have HZ := Lib.hid hz
  obtain ⟨v1, hv1⟩ : ∃ v1, v + 1 = v1 := ⟨_, rfl⟩
  have hwv : IntKind.i64.wrap ((v : Int) + 1) = (v1 : Int) := by rw [IntKind.wrap_i64]; omega
  rw [hv1] at HST
  have hv1m : (v1 : Int) < ((m + 1 : Nat) : Int) := by omega
  have hv0m : (v : Int) < ((m + 1 : Nat) : Int) := by omega
  clear h hR hS hl h1 h2 hcr HD hx2 hpl hz hv1 HCL
  generalize m + 1 = sn at *
  generalize CutAt zs (v : Int) A = C at *
  generalize startE zs (v : Int) = s at *
  generalize startE zs ((v : Int) + 1) = t at *
  go_enter Tryd.func96, Tryd.ntmps96
  go_upto_region 2 with fail
  generalize w.alloc (.cells #[.int .i64 0, .int .i64 0, .slice none 0 0] 131) = W0 at *
  have hs0 : B2 ≤ W0.heap.size := Nat.le_trans HB.out K0.out.size
  go_upto_region 3 with (at_builtin; refine wpList_append_own_at _ rfl _ _ 30 rfl B2 3 i0 _ 1 8 Tryd.underlying30 hi hz0 hz1 hz2 rfl (by decide) (.slice O k oc) k _ rfl (H0.out.op.alloc _) ⟨W0.heap.size, 0, none⟩ 1 1 [.int .i64 (v : Int)] rfl rfl (cell_one_new _ _ _) (by intro q hq; simp at hq; subst hq; rfl) (by unfold maxLen; omega) (by omega) (by simp; omega) ?_; intro v5 w5 hown5 hgrow5 _ hat5; obtain ⟨A5, c5, rfl, _, _⟩ := own_form2 hown5; have hs5 : (W0.alloc (.cells #[.int .i64 (v : Int)] 3)).heap.size = W0.heap.size + 1 := (by simp); rw [hs5] at hat5; have H5 : Hid (WalkAt X P A n c Sa sn sc A5 (k + 1) c5 B2 m (op ++ [(v : Int)]) pl (w5.setCell ⟨X, 2, none⟩ (.slice A5 (k + 1) c5))) := (WalkAt.more (H0.out.alloc _) hown5 hgrow5 hat5 (by have := HPX.out.1; have := K0.out.size; omega)); have K5 : Hid (Keep (fun j => j ≠ X ∧ j ≠ P ∧ (Value.slice O k oc).ownBlock ≠ some j) w (w5.setCell ⟨X, 2, none⟩ (.slice A5 (k + 1) c5))) := (((K0.out.alloc _).grown hgrow5 (fun g hg => .inr fun hS => hS.2.2 hg)).set (.inr fun hS => hS.1 rfl) _ _); have R5 : Hid (Blk (w5.setCell ⟨X, 2, none⟩ (.slice A5 (k + 1) c5)) w.heap.size 131 #[.int .i64 0, .int .i64 0, .slice none 0 0]) := (((R0.out.alloc _).grown hgrow5 (fun e => absurd (HPX.out.2.2.1 _ e.symm) (Nat.lt_irrefl _))).far (p := ⟨X, 2, none⟩) (Ne.symm (Nat.ne_of_lt HPX.out.2.1)) _); have hX5 : Blk w5 X 118 _ := ((H0.out.alloc (.cells #[.int .i64 (v : Int)] 3)).blk.grown hgrow5 fun e => own_blk_ne (H0.out.alloc (.cells #[.int .i64 (v : Int)] 3)).op (H0.out.alloc (.cells #[.int .i64 (v : Int)] 3)).blk (by decide) e.symm); have a2 := hX5.cell 2; have f2 := hX5.frozen 2; have HAT : Hid ((Value.slice A5 (k + 1) c5).ownBlock = (Value.slice O k oc).ownBlock ∨ ∃ N, (Value.slice A5 (k + 1) c5).ownBlock = some N ∧ w.heap.size ≤ N) := (hat5.imp id fun e => ⟨_, e, by have := K0.out.size; omega⟩); clear hown5 hgrow5 hat5 hX5 hs5 x2)
  clear a2 f2 H0 K0 R0 hs0
  generalize w5.setCell ⟨X, 2, none⟩ (.slice A5 (k + 1) c5) = w6 at *
  have x3 := H5.out.blk.cell 3
  have hvl : v < (ints pl).length := by rw [ints_length, HPL.out]; exact hv
  obtain ⟨u0, hu0⟩ : ∃ u, (ints pl)[v]? = some u := ⟨_, List.getElem?_eq_getElem hvl⟩
  have y0 : w6.cell? ⟨P, v, none⟩ = some u0 := by rw [H5.out.pl.cell, List.getElem?_toArray]; exact hu0
  have f0 : w6.frozen? ⟨P, v, none⟩ = false := H5.out.pl.frozen v
  have hv0 : (v : Int) < (m : Int) := by omega
  have H6 := Lib.hid (H5.out.place v (k : Int))
  have K6 : Hid (Keep (fun j => j ≠ X ∧ j ≠ P ∧ (Value.slice O k oc).ownBlock ≠ some j) w (w6.setCell ⟨P, v, none⟩ (.int .i64 (k : Int)))) := K5.out.set (.inr fun hS => hS.2.1 rfl) _ _
  have R6 := Lib.hid (R5.out.far (p := ⟨P, v, none⟩) (Ne.symm (Nat.ne_of_lt HPX.out.1)) (.int .i64 (k : Int)))
  clear hvl hu0 H5 K5 R5
  go_upto_region 4 with fail
  clear x3 y0 f0
  generalize w6.setCell ⟨P, v, none⟩ (.int .i64 (k : Int)) = w7 at *
  have hb7 : Below B2 w w7 := K6.out.below HB.out fun j hj => ⟨by have := H6.out.lo.1; omega, by have := H6.out.lo.2; omega, fun e => by have := HPX.out.2.2.2 _ e; omega⟩
  obtain ⟨b, o, rfl, hb, s0, s1⟩ := HST.out w7 hb7
  have x1 := H6.out.blk.cell 1
  clear hb7 hb
  go_quiet (fail)
  have H8 : Hid (WalkAt X P A n c (some ⟨b, o, none⟩) sn sc A5 (k + 1) c5 B2 m (op ++ [(v : Int)]) (pl.set v (k : Int)) (w7.drewN nq)) := ⟨H6.out.blk.drewN nq, H6.out.pl.drewN nq, H6.out.op, H6.out.apart, H6.out.lo⟩
  have K8 := Lib.hid (K6.out.drewN nq)
  have R8 := Lib.hid (R6.out.drewN nq)
  clear H6 K6 R6 x1 s0 s1
  generalize w7.drewN nq = w8 at *
  have x0 := H8.out.blk.cell 0
  have r0 := R8.out.cell 0
  have r1 := R8.out.cell 1
  have r2 := R8.out.cell 2
  have q0 := R8.out.frozen 0
  have q1 := R8.out.frozen 1
  have q2 := R8.out.frozen 2
  have HE : Hid (OpenedIs X P A n c (some ⟨b, o, none⟩) sn sc O k oc B2 m op pl zs v w (.returned (.agg #[.int .i64 (k : Int), .int .i64 (k : Int), .slice C (t - s) (t - s)])) (((w8.setCell ⟨w.heap.size, 0, none⟩ (.int .i64 (k : Int))).setCell ⟨w.heap.size, 1, none⟩ (.int .i64 (k : Int))).setCell ⟨w.heap.size, 2, none⟩ (.slice C (t - s) (t - s)))) := by
    have hr := R8.out
    have h1 := H8.out.other hr (by decide) (by decide) 0 (.int .i64 (k : Int))
    have hr1 := hr.set_ 0 (.int .i64 (k : Int))
    have h2 := h1.other hr1 (by decide) (by decide) 1 (.int .i64 (k : Int))
    have hr2 := hr1.set_ 1 (.int .i64 (k : Int))
    have h3 := h2.other hr2 (by decide) (by decide) 2 (.slice C (t - s) (t - s))
    exact HF.out A5 c5 _ h3 HAT.out (((K8.out.set (.inl (Nat.le_refl _)) _ _).set (.inl (Nat.le_refl _)) _ _).set (.inl (Nat.le_refl _)) _ _)
  have e3 : Blk (((w8.setCell ⟨w.heap.size, 0, none⟩ (.int .i64 (k : Int))).setCell ⟨w.heap.size, 1, none⟩ (.int .i64 (k : Int))).setCell ⟨w.heap.size, 2, none⟩ (.slice C (t - s) (t - s))) w.heap.size 131 #[.int .i64 (k : Int), .int .i64 (k : Int), .slice C (t - s) (t - s)] := by
    have := ((R8.out.set_ 0 (.int .i64 (k : Int))).set_ 1 (.int .i64 (k : Int))).set_ 2 (.slice C (t - s) (t - s))
    simpa using this
  have y0 := e3.cell 0
  have y1 := e3.cell 1
  have y2 := e3.cell 2
  clear e3 H8 K8 R8 HF HAT HST
  go_wp2_with fail
  exact bodyPost_ret (v := .agg #[.int .i64 (k : Int), .int .i64 (k : Int), .slice C (t - s) (t - s)]) (by simp [results, Tryd.results96, go_sem, y0, y1, y2]) rfl HE.out

/-- The open nodes, where there are some. -/
theorem WalkAt.form {X P : Nat} {A : Option Addr} {n c : Nat} {Sa : Option Addr} {sn sc : Nat} {O : Option Addr} {k oc B2 m : Nat} {op pl : List Int} {W : World} (h : WalkAt X P A n c Sa sn sc O k oc B2 m op pl W) (hk : 0 < k) :
    ∃ g, O = some ⟨g, 0, none⟩ ∧ k ≤ oc ∧ oc ≤ 9223372036854775807 ∧ g < W.heap.size ∧ B2 ≤ g ∧ g ≠ P ∧ ∀ (j : Nat) (x : Int), op[j]? = some x → W.cell? ⟨g, j, none⟩ = some (.int .i64 x) := by
  have hl := h.len
  have ha := h.apart
  rcases h.op.2 with ⟨_, e2⟩ | ⟨g, cap, cur, e1, hb, hk2, h3, h4, h5, h6⟩
  · omega
  · injection e1 with e1 e3 e4
    subst e1; subst e4
    refine ⟨g, rfl, h3, by unfold maxLen at h4; exact h4, (Array.getElem?_eq_some_iff.1 hk2).1, hb, fun e => ha (by simp [Value.ownBlock, e]), fun j x hx => ?_⟩
    have hj := (List.getElem?_eq_some_iff.1 hx).1
    rw [cell_of_row W g j cur _ (0, 0) hk2]
    have : (ints op)[j]? = some (.int .i64 x) := by unfold ints; rw [List.getElem?_map, hx]; rfl
    rw [← h6, List.getElem?_take, if_pos (by omega), Array.getElem?_toList] at this
    exact this
theorem WalkAt.ne_x {X P : Nat} {A : Option Addr} {n c : Nat} {Sa : Option Addr} {sn sc : Nat} {g k oc B2 m : Nat} {op pl : List Int} {W : World} (h : WalkAt X P A n c Sa sn sc (some ⟨g, 0, none⟩) k oc B2 m op pl W) : g ≠ X := fun e =>
  own_blk_ne h.op h.blk (by decide) (by simp [Value.ownBlock, e])

/-- Nodes were taken away from the open ones. -/
def ClosedIs (X P : Nat) (A : Option Addr) (n c : Nat) (Sa : Option Addr) (sn sc g k oc B2 m p : Nat) (op pl : List Int) (w : World) (e : Ending) (w' : World) : Prop :=
  e = .returned (.slice (some ⟨g, p, none⟩) (k - p) (k - p)) ∧ WalkAt X P A n c Sa sn sc (some ⟨g, 0, none⟩) p oc B2 m (op.take p) (putE pl 300 (op.drop p)) w' ∧
    Reads w' w'.heap.size 1 (some ⟨g, p, none⟩) (op.drop p).length (ints (op.drop p)) ∧ Keep (fun j => j ≠ X ∧ j ≠ P) w w'

set_option maxRecDepth 100000 in
set_option maxHeartbeats 4000000 in
theorem closed_any (X P : Nat) (A : Option Addr) (n c : Nat) (Sa : Option Addr) (sn sc g k oc B2 m p : Nat) (op pl : List Int) (w : World) (h : WalkAt X P A n c Sa sn sc (some ⟨g, 0, none⟩) k oc B2 m op pl w)
    (hp : p < k) (hk : k ≤ 300) (hpl : pl.length = m) (hx : ∀ x ∈ op, 0 ≤ x ∧ x < (m : Int)) :
    Calls Tryd.prog 97 #[.pointer (some ⟨X, 0, none⟩), .int .i64 (p : Int)] w (ClosedIs X P A n c Sa sn sc g k oc B2 m p op pl w) := by
  obtain ⟨g', hg', hkc, hc, hgl, hBg, hgP, hcell⟩ := h.form (by omega)
  obtain rfl : g = g' := by injection hg' with e; injection e
  have hgX := h.ne_x
  have hsl := fun W => ir_slice_lhm g k oc p k hp hkc W
  have hsh := fun W => ir_slice_h (some ⟨g, 0, none⟩) k oc p (by omega) W
  have hlen := h.len
  have x2 := h.blk.cell 2
  have H0 := Lib.hid h
  have K0 : Hid (Keep (fun j => j ≠ X ∧ j ≠ P) w w) := Keep.refl _ _
  have HX := Lib.hid hx
  have HPL := Lib.hid hpl
  have HLEN := Lib.hid hlen
  have HGP := Lib.hid (And.intro hgX (And.intro hgP hgl))
  obtain ⟨d, hd⟩ : ∃ d, k - p = d := ⟨_, rfl⟩
  have HD := Lib.hid hd
  have hd300 : d ≤ 300 := by omega
  clear h hg' hcell hgX hgP hgl hlen hpl hx
  rw [hd] at hsl
  go_enter Tryd.func97, Tryd.ntmps97
  clear hd
  go_wp2_with fail
  clear x2 hsl
  go_loopg [24] d (fun gg s24 wr => ∃ i : Nat, i + gg = d ∧ s24 = .int .i64 i ∧ Hid (WalkAt X P A n c Sa sn sc (some ⟨g, 0, none⟩) k oc B2 m op (putE pl 300 ((op.drop p).take i)) wr) ∧ Hid (Keep (fun j => j ≠ X ∧ j ≠ P) w wr))
  case atStart => exact ⟨0, by omega, rfl, H0, K0⟩
  case round =>
    clear H0 K0
    obtain ⟨i, hi, rfl, H1, K1⟩ := hrel
    cases gk with
    | succ g2 =>
      have hlt : (i : Int) < (d : Int) := by omega
      have HI := Lib.hid hi
      have hii : p + i < op.length := by have := HD.out; have := HLEN.out; omega
      obtain ⟨x, hx⟩ : ∃ x, op[p + i]? = some x := ⟨_, List.getElem?_eq_getElem hii⟩
      obtain ⟨a, rfl⟩ : ∃ a : Nat, x = (a : Int) := ⟨x.toNat, by have := HX.out x (List.mem_of_getElem? hx); omega⟩
      have hlt2 : (a : Int) < (m : Int) := (HX.out _ (List.mem_of_getElem? hx)).2
      obtain ⟨g', hg', _, _, _, _, _, hcell⟩ := H1.out.form (by have := HD.out; omega)
      obtain rfl : g = g' := by injection hg' with e; injection e
      have c0 := hcell _ _ hx
      have x3 := H1.out.blk.cell 3
      have hal : a < (ints (putE pl 300 ((op.drop p).take i))).length := by rw [ints_length, putE_len, HPL.out]; omega
      obtain ⟨u0, hu0⟩ : ∃ u, (ints (putE pl 300 ((op.drop p).take i)))[a]? = some u := ⟨_, List.getElem?_eq_getElem hal⟩
      have y0 : wr.cell? ⟨P, a, none⟩ = some u0 := by rw [H1.out.pl.cell, List.getElem?_toArray]; exact hu0
      have f0 : wr.frozen? ⟨P, a, none⟩ = false := H1.out.pl.frozen a
      have H2 : Hid (WalkAt X P A n c Sa sn sc (some ⟨g, 0, none⟩) k oc B2 m op (putE pl 300 ((op.drop p).take (i + 1))) (wr.setCell ⟨P, a, none⟩ (.int .i64 300))) := by
        have := H1.out.place a 300
        rw [putE_next (v := (a : Int)) (by rw [List.getElem?_drop]; exact hx)]
        exact this
      have K2 : Hid (Keep (fun j => j ≠ X ∧ j ≠ P) w (wr.setCell ⟨P, a, none⟩ (.int .i64 300))) := K1.out.set (.inr fun hS => hS.2 rfl) _ _
      clear hi hii hx hg' hcell hal hu0 H1 K1
      go_wp2_with fail
      go_roundg g2
      case measure => omega
      case rel => exact ⟨i + 1, by have := HI.out; omega, by go_num, H2, K2⟩
    | zero =>
      have hge : ¬ (i : Int) < (d : Int) := by omega
      obtain rfl : i = d := by omega
      have x2 := H1.out.blk.cell 2
      have f2 := H1.out.blk.frozen 2
      have htk : (op.drop p).take i = op.drop p := List.take_of_length_le (by rw [List.length_drop]; have := HD.out; have := HLEN.out; omega)
      have HE : Hid (ClosedIs X P A n c Sa sn sc g k oc B2 m p op pl w (.returned (.slice (some ⟨g, p, none⟩) i i)) (wr.setCell ⟨X, 2, none⟩ (.slice (some ⟨g, 0, none⟩) p oc))) := by
        have h1 := H1.out
        rw [htk] at h1
        obtain ⟨g', hg', _, _, hgl, _, _, hcell⟩ := h1.form (by have := HD.out; omega)
        obtain rfl : g = g' := by injection hg' with e; injection e
        refine ⟨by rw [HD.out], h1.cut (by omega), ⟨by rw [ints_length, Nat.mul_one], fun _ => ⟨_, rfl, ?_, fun j u hu => ?_⟩⟩, K1.out.set (.inr fun hS => hS.1 rfl) _ _⟩
        · rw [World.size_setCell]; exact hgl
        · have : ∃ x, op[p + j]? = some x ∧ u = .int .i64 x := by
            unfold ints at hu
            rw [List.getElem?_map, List.getElem?_drop] at hu
            cases hx : op[p + j]? with
            | none => rw [hx] at hu; simp at hu
            | some x => rw [hx] at hu; simp at hu; exact ⟨x, rfl, hu.symm⟩
          obtain ⟨x, hx, rfl⟩ := this
          rw [Go.WideShapes.add_plain]
          exact (World.cell?_of_block (Below.heap_setCell wr ⟨X, 2, none⟩ _ g HGP.out.1)).trans (hcell _ _ hx)
      clear hi H1 K1 htk
      go_wp2_with fail
      go_ret
      exact HE.out
end Go.Proofs.YtgbpaiffnhpafaaDoor
namespace Go.Proofs.YtgbpaiffnhpafaaDoor
open Go.RowKit

def frCells (f : Fr) : List Value := [.int .i64 (f.p : Int), .int .i64 (f.l : Int), .slice f.A f.left.length f.left.length]
def cellsF (fs : List Fr) : List Value := fs.flatMap frCells
theorem cellsF_length (fs : List Fr) : (cellsF fs).length = fs.length * 3 := by
  induction fs with
  | nil => rfl
  | cons f fs ih => show (frCells f ++ cellsF fs).length = _; rw [List.length_append, ih, List.length_cons]; show 3 + _ = _; omega
theorem cellsF_snoc (fs : List Fr) (f : Fr) : cellsF (fs ++ [f]) = cellsF fs ++ frCells f := by simp [cellsF]
theorem set_behind (xs ys : List Value) (j : Nat) (v : Value) : (xs ++ ys).set (xs.length + j) v = xs ++ ys.set j v := by
  rw [List.set_append_right _ _ (by omega), Nat.add_sub_cancel_left]
theorem own_put {W : World} {base g n c size i : Nat} {e : TypeId} {xs : List Value} (h : W.ownsRow base e size (.slice (some ⟨g, 0, none⟩) n c) n xs) (u : Value) : (W.setCell ⟨g, i, none⟩ u).ownsRow base e size (.slice (some ⟨g, 0, none⟩) n c) n (xs.set i u) := by
  refine ⟨by rw [List.length_set]; exact h.1, ?_⟩
  rcases h.2 with ⟨e1, _⟩ | ⟨g', cap, cur, e1, hb, hk, h3, h4, h5, h6⟩
  · cases e1
  · injection e1 with e1 e3 e4
    injection e1 with e1
    injection e1 with e1
    subst e1; subst e4
    have hk2 : Blk W g e cur := hk
    refine .inr ⟨g, c, _, rfl, hb, hk2.set_ i u, h3, h4, by simpa using h5, ?_⟩
    rw [Array.toList_setIfInBounds, List.take_set, h6]
theorem own_first {W : World} {base n2 c2 size : Nat} {e : TypeId} {A2 : Option Addr} {xs ys : List Value} (h : W.ownsRow base e size (.slice A2 n2 c2) n2 (xs ++ ys)) {j : Nat} (hj : j ≤ n2) (hx : xs.length = j * size) : W.ownsRow base e size (.slice A2 j c2) j xs := by
  refine ⟨hx, ?_⟩
  rcases h.2 with ⟨e1, e2⟩ | ⟨g, cap, cur, e1, hb, hk, h3, h4, h5, h6⟩
  · injection e1 with e1 e3 e4
    subst e1; subst e4
    exact .inl ⟨by rw [show j = 0 by omega], by omega⟩
  · injection e1 with e1 e3 e4
    subst e1; subst e4
    refine .inr ⟨g, c2, cur, rfl, hb, hk, by omega, h4, h5, ?_⟩
    have : cur.toList.take (j * size) = (cur.toList.take (n2 * size)).take (j * size) := by
      rw [List.take_take]
      congr 1
      have := Nat.mul_le_mul_right size hj
      omega
    rw [this, h6, ← hx, List.take_left]
section
variable {W : World} {B2 d rc : Nat} {R : Option Addr} {init : List Fr} {f : Fr}
/-- The last frame of a row. -/
theorem fr_at (h : W.ownsRow B2 131 3 (.slice R (d + 1) rc) (d + 1) (cellsF (init ++ [f]))) : init.length = d ∧ ∃ r, R = some ⟨r, 0, none⟩ ∧ d + 1 ≤ rc ∧ rc ≤ 9223372036854775807 ∧ r < W.heap.size ∧ B2 ≤ r ∧
    (∃ cur, Blk W r 131 cur) ∧ W.cell? ⟨r, d * 3, none⟩ = some (.int .i64 (f.p : Int)) ∧ W.cell? ⟨r, d * 3 + 1, none⟩ = some (.int .i64 (f.l : Int)) ∧ W.cell? ⟨r, d * 3 + 2, none⟩ = some (.slice f.A f.left.length f.left.length) ∧ ∀ i, W.frozen? ⟨r, i, none⟩ = false := by
  have hl := h.1
  rw [cellsF_length, List.length_append, List.length_singleton] at hl
  have hd : init.length = d := by omega
  refine ⟨hd, ?_⟩
  rcases h.2 with ⟨_, e2⟩ | ⟨g, cap, cur, e1, hb, hk, h3, h4, h5, h6⟩
  · omega
  · injection e1 with e1 e3 e4
    subst e1; subst e4
    have hk2 : Blk W g 131 cur := hk
    have hcell : ∀ j, j < 3 → W.cell? ⟨g, d * 3 + j, none⟩ = (frCells f)[j]? := fun j hj => by
      rw [hk2.cell]
      have h7 : (cellsF (init ++ [f]))[d * 3 + j]? = (frCells f)[j]? := by
        rw [cellsF_snoc, List.getElem?_append_right (by rw [cellsF_length]; omega), cellsF_length, hd, Nat.add_sub_cancel_left]
      rw [← h6, List.getElem?_take, if_pos (by omega), Array.getElem?_toList] at h7
      exact h7
    exact ⟨g, rfl, h3, h4, hk2.lt, hb, ⟨cur, hk2⟩, hcell 0 (by omega), hcell 1 (by omega), hcell 2 (by omega), fun i => hk2.frozen i⟩
theorem fr_store {r : Nat} (h : W.ownsRow B2 131 3 (.slice (some ⟨r, 0, none⟩) (d + 1) rc) (d + 1) (cellsF (init ++ [f]))) (t : Fr) :
    (((W.setCell ⟨r, d * 3, none⟩ (.int .i64 (t.p : Int))).setCell ⟨r, d * 3 + 1, none⟩ (.int .i64 (t.l : Int))).setCell ⟨r, d * 3 + 2, none⟩ (.slice t.A t.left.length t.left.length)).ownsRow B2 131 3 (.slice (some ⟨r, 0, none⟩) (d + 1) rc) (d + 1) (cellsF (init ++ [t])) := by
  have hd := (fr_at h).1
  have := own_put (own_put (own_put h (i := d * 3) (.int .i64 (t.p : Int))) (i := d * 3 + 1) (.int .i64 (t.l : Int))) (i := d * 3 + 2) (.slice t.A t.left.length t.left.length)
  have hl : (cellsF init).length = d * 3 := by rw [cellsF_length, hd]
  rw [cellsF_snoc, show d * 3 = (cellsF init).length + 0 by omega, set_behind, show (cellsF init).length + 0 + 1 = (cellsF init).length + 1 by omega, set_behind, show (cellsF init).length + 0 + 2 = (cellsF init).length + 2 by omega, set_behind] at this
  rw [cellsF_snoc, ← hl]
  exact this
theorem fr_least {r : Nat} (h : W.ownsRow B2 131 3 (.slice (some ⟨r, 0, none⟩) (d + 1) rc) (d + 1) (cellsF (init ++ [f]))) (l : Nat) :
    (W.setCell ⟨r, d * 3 + 1, none⟩ (.int .i64 (l : Int))).ownsRow B2 131 3 (.slice (some ⟨r, 0, none⟩) (d + 1) rc) (d + 1) (cellsF (init ++ [⟨f.p, l, f.A, f.left⟩])) := by
  have hd := (fr_at h).1
  have := own_put h (i := d * 3 + 1) (.int .i64 (l : Int))
  have hl : (cellsF init).length = d * 3 := by rw [cellsF_length, hd]
  rw [cellsF_snoc, ← hl, set_behind] at this
  rw [cellsF_snoc, ← hl]
  exact this
theorem fr_cut (h : W.ownsRow B2 131 3 (.slice R (d + 1) rc) (d + 1) (cellsF (init ++ [f]))) : W.ownsRow B2 131 3 (.slice R d rc) d (cellsF init) := by
  have hd := (fr_at h).1
  rw [cellsF_snoc] at h
  exact own_first h (by omega) (by rw [cellsF_length, hd])
end
theorem fr_info : (Tryd.prog.info? 131).map (fun i => (i.zero, i.size, i.bytes)) = some (some (.agg #[.int .i64 0, .int .i64 0, .slice none 0 0]), 3, 40) := by kernel_rfl
theorem fr_elem_size (W : World) : (sizeOf (Tryd.prog.elem 133)).run Tryd.prog W = .ok 3 W := by kernel_rfl
theorem fr_slice_h (A : Option Addr) (len cap h : Nat) (hh : h ≤ cap) (W : World) :
    (Instr.slice 133 (.slice A len cap) none (some (.int .i64 (h : Int))) none).run Tryd.prog W = .ok (.slice A h cap) W := by
  have e0 : Value.slice (if cap = 0 then A else A.map (·.add (0 * 3))) (h - 0) (cap - 0) = .slice A h cap := by
    have : (if cap = 0 then A else A.map (·.add (0 * 3))) = A := by
      split
      · rfl
      · cases A <;> simp [Addr.add]
    rw [this, Nat.sub_zero, Nat.sub_zero]
  rw [run_slice_h W 133 A len cap (show Tryd.prog.underlying 133 = some (.slice (Tryd.prog.elem 133)) by kernel_rfl) .i64 h (by omega) (by omega), fr_elem_size]
  exact congrArg (fun v => Result.ok v W) e0
/-- The edges behind the first one. -/
theorem left_tail {A : Option Addr} {e : Ed} {es : List Ed} (hL : es.length + 1 ≤ 1000) : ∃ A2 : Option Addr,
    (∀ W, (Instr.slice 22 (.slice A (es.length + 1) (es.length + 1)) (some (.int .i64 1)) (some (.int .i64 ((es.length + 1 : Nat) : Int))) (some (.int .i64 ((es.length + 1 : Nat) : Int)))).run Tryd.prog W = .ok (.slice A2 es.length es.length) W) ∧
    ∀ W B, Reads W B 3 A (es.length + 1) (cellsE (e :: es)) → Reads W B 3 A2 es.length (cellsE es) := by
  refine ⟨if es.length + 1 = 1 then A else A.map (·.add (1 * 3)), fun W => ?_, fun W B h => ?_⟩
  · exact pr_slice_lhm A (es.length + 1) (es.length + 1) 1 (es.length + 1) (es.length + 1) 1 _ _ rfl rfl rfl (by omega) (Nat.le_refl _) (Nat.le_refl _) W
  · have := reads_part (l := 1) (h := es.length + 1) h (by omega) (by omega)
    rw [← cellsE_drop, ← cellsE_take] at this
    simpa using this
end Go.Proofs.YtgbpaiffnhpafaaDoor
namespace Go.Proofs.YtgbpaiffnhpafaaDoor
open Go.RowKit

/-- The walk, with what has been told, and whoever is told. -/
structure CoAt (B1 B2 X P : Nat) (A : Option Addr) (n c : Nat) (Sa : Option Addr) (sn sc m : Nat) (zs : List Ed) (w1 : World) (J : List (List Int) → (Nat → Prop) → World → Prop) (C : Nat → Prop) (O : Option Addr) (k oc : Nat) (op pl : List Int) (cs : List (List Int)) (W : World) : Prop where
  walk : WalkAt X P A n c Sa sn sc O k oc B2 m op pl W
  tj : Tj zs m op pl cs
  below : Below B1 w1 W
  cX : ¬ C X
  cP : ¬ C P
  cO : ∀ g, (Value.slice O k oc).ownBlock = some g → ¬ C g
  cC : ∀ j, C j → B1 ≤ j ∧ j < W.heap.size
  j : J cs C W
  size : B2 ≤ W.heap.size
  lo : B1 ≤ B2
/-- .. and the frames: ms as they lie, fs as they stand, the last one ahead. -/
structure ThAt (B1 B2 X P : Nat) (A : Option Addr) (n c : Nat) (Sa : Option Addr) (sn sc m : Nat) (zs : List Ed) (w1 : World) (J : List (List Int) → (Nat → Prop) → World → Prop) (pl0 : List Int) (C : Nat → Prop) (O : Option Addr) (k oc : Nat) (op pl : List Int) (cs : List (List Int)) (R : Option Addr) (rn rc : Nat) (ms fs : List Fr) (W : World) : Prop where
  co : CoAt B1 B2 X P A n c Sa sn sc m zs w1 J C O k oc op pl cs W
  row : W.ownsRow B2 131 3 (.slice R rn rc) rn (cellsF ms)
  reads : ∀ f ∈ fs, Reads W B1 3 f.A f.left.length (cellsE f.left) ∧ f.left.length ≤ 1000
  far : Far zs op pl k fs
  cR : ∀ g, (Value.slice R rn rc).ownBlock = some g → ¬ C g
  met : ∀ (u : Nat) (q : Int), pl0[u]? = some q → q ≠ -1 → ∃ q', pl[u]? = some q' ∧ q' ≠ -1
/-- The frame at hand. -/
structure TopAt (B2 T : Nat) (R : Option Addr) (rn rc : Nat) (C : Nat → Prop) (f : Fr) (W : World) : Prop where
  blk : Blk W T 131 #[.int .i64 (f.p : Int), .int .i64 (f.l : Int), .slice f.A f.left.length f.left.length]
  nC : ¬ C T
  nR : (Value.slice R rn rc).ownBlock ≠ some T
  lo : B2 ≤ T
section
variable {B1 B2 X P : Nat} {A : Option Addr} {n c : Nat} {Sa : Option Addr} {sn sc m : Nat} {zs : List Ed} {w1 : World} {J : List (List Int) → (Nat → Prop) → World → Prop} {C : Nat → Prop} {O : Option Addr} {k oc : Nat} {op pl pl0 : List Int} {cs : List (List Int)} {W W' : World}
variable {R : Option Addr} {rn rc : Nat} {ms fs : List Fr}
theorem CoAt.keep (h : CoAt B1 B2 X P A n c Sa sn sc m zs w1 J C O k oc op pl cs W) (hJ : ∀ cs C X Y, J cs C X → Keep (fun j => j < B2 ∨ C j) X Y → J cs C Y)
    (hk : Keep (fun j => j < B2 ∨ C j ∨ j = X ∨ j = P ∨ (Value.slice O k oc).ownBlock = some j) W W') : CoAt B1 B2 X P A n c Sa sn sc m zs w1 J C O k oc op pl cs W' :=
  ⟨h.walk.keep hk (.inr (.inr (.inl rfl))) (.inr (.inr (.inr (.inl rfl)))) (fun _ hg => .inr (.inr (.inr (.inr hg)))), h.tj, h.below.trans (hk.below (Nat.le_trans h.lo h.size) fun _ hj => .inl (Nat.lt_of_lt_of_le hj h.lo)), h.cX, h.cP, h.cO,
    fun j hj => ⟨(h.cC j hj).1, Nat.lt_of_lt_of_le (h.cC j hj).2 hk.size⟩, hJ _ _ _ _ h.j (hk.mono fun _ _ hj => hj.elim .inl fun h => .inr (.inl h)), Nat.le_trans h.size hk.size, h.lo⟩
theorem ThAt.keep (h : ThAt B1 B2 X P A n c Sa sn sc m zs w1 J pl0 C O k oc op pl cs R rn rc ms fs W) (hJ : ∀ cs C X Y, J cs C X → Keep (fun j => j < B2 ∨ C j) X Y → J cs C Y)
    (hk : Keep (fun j => j < B2 ∨ C j ∨ j = X ∨ j = P ∨ (Value.slice O k oc).ownBlock = some j ∨ (Value.slice R rn rc).ownBlock = some j) W W') : ThAt B1 B2 X P A n c Sa sn sc m zs w1 J pl0 C O k oc op pl cs R rn rc ms fs W' :=
  ⟨h.co.keep hJ (hk.mono fun j _ hj => by rcases hj with hj | hj | hj | hj | hj <;> simp [hj]), hk.own h.row fun _ hg => .inr (.inr (.inr (.inr (.inr hg)))),
    fun f hf => ⟨hk.reads (h.reads f hf).1 (Nat.le_trans h.co.lo h.co.size) fun _ hj => .inl (Nat.lt_of_lt_of_le hj h.co.lo), (h.reads f hf).2⟩, h.far, h.cR, h.met⟩
theorem ThAt.all (h : ThAt B1 B2 X P A n c Sa sn sc m zs w1 J pl0 C O k oc op pl cs R rn rc ms fs W) (hJ : ∀ cs C X Y, J cs C X → Keep (fun j => j < B2 ∨ C j) X Y → J cs C Y)
    (hk : Below W.heap.size W W') : ThAt B1 B2 X P A n c Sa sn sc m zs w1 J pl0 C O k oc op pl cs R rn rc ms fs W' := h.keep hJ (Keep.of_all _ hk)
/-- The frame at hand is written. -/
theorem ThAt.top {T : Nat} {f : Fr} (h : ThAt B1 B2 X P A n c Sa sn sc m zs w1 J pl0 C O k oc op pl cs R rn rc ms fs W) (hJ : ∀ cs C X Y, J cs C X → Keep (fun j => j < B2 ∨ C j) X Y → J cs C Y)
    (ht : TopAt B2 T R rn rc C f W) (i : Nat) (u : Value) : ThAt B1 B2 X P A n c Sa sn sc m zs w1 J pl0 C O k oc op pl cs R rn rc ms fs (W.setCell ⟨T, i, none⟩ u) := by
  refine h.keep hJ ((Keep.refl _ W).set (.inr fun hs => ?_) i u)
  rcases hs with hs | hs | hs | hs | hs | hs
  · have := ht.lo; omega
  · exact ht.nC hs
  · have := h.co.walk.blk
    rw [← hs] at this
    exact Blk.ne_ this ht.blk (by decide) rfl
  · have := h.co.walk.pl
    rw [← hs] at this
    exact Blk.ne_ this ht.blk (by decide) rfl
  · exact own_blk_ne h.co.walk.op ht.blk (by decide) hs
  · exact ht.nR hs
theorem TopAt.all {T : Nat} {f : Fr} (ht : TopAt B2 T R rn rc C f W) (hk : Below W.heap.size W W') : TopAt B2 T R rn rc C f W' := ⟨ht.blk.below hk ht.blk.lt, ht.nC, ht.nR, ht.lo⟩
theorem TopAt.left_ {T : Nat} {f : Fr} (ht : TopAt B2 T R rn rc C f W) (A2 : Option Addr) (es : List Ed) : TopAt B2 T R rn rc C ⟨f.p, f.l, A2, es⟩ (W.setCell ⟨T, 2, none⟩ (.slice A2 es.length es.length)) :=
  ⟨by have := ht.blk.set_ 2 (.slice A2 es.length es.length); simpa using this, ht.nC, ht.nR, ht.lo⟩
theorem TopAt.least {T : Nat} {f : Fr} (ht : TopAt B2 T R rn rc C f W) (l : Nat) : TopAt B2 T R rn rc C ⟨f.p, l, f.A, f.left⟩ (W.setCell ⟨T, 1, none⟩ (.int .i64 (l : Int))) :=
  ⟨by have := ht.blk.set_ 1 (.int .i64 (l : Int)); simpa using this, ht.nC, ht.nR, ht.lo⟩
/-- A node is met. -/
theorem CoAt.opened {v : Nat} (h : CoAt B1 B2 X P A n c Sa sn sc m zs w1 J C O k oc op pl cs W) (hJ : ∀ cs C X Y, J cs C X → Keep (fun j => j < B2 ∨ C j) X Y → J cs C Y) (hv : pl[v]? = some (-1)) {O' : Option Addr} {oc' : Nat}
    (hw : WalkAt X P A n c Sa sn sc O' (k + 1) oc' B2 m (op ++ [(v : Int)]) (pl.set v (k : Int)) W') (hat : (Value.slice O' (k + 1) oc').ownBlock = (Value.slice O k oc).ownBlock ∨ ∃ N, (Value.slice O' (k + 1) oc').ownBlock = some N ∧ W.heap.size ≤ N)
    (hk : Keep (fun j => j ≠ X ∧ j ≠ P ∧ (Value.slice O k oc).ownBlock ≠ some j) W W') : CoAt B1 B2 X P A n c Sa sn sc m zs w1 J C O' (k + 1) oc' (op ++ [(v : Int)]) (pl.set v (k : Int)) cs W' := by
  have hlen := h.walk.len
  have hS : ∀ j, j < B2 ∨ C j → j ≠ X ∧ j ≠ P ∧ (Value.slice O k oc).ownBlock ≠ some j := fun j hj => by
    rcases hj with hj | hj
    · exact ⟨by have := h.walk.lo.1; omega, by have := h.walk.lo.2; omega, fun e => by have := (own_in h.walk.op e).1; omega⟩
    · exact ⟨fun e => h.cX (e ▸ hj), fun e => h.cP (e ▸ hj), fun e => h.cO _ e hj⟩
  have htj := h.tj.open_ (v := (v : Int)) (by omega) (by simpa using hv)
  rw [hlen, Int.toNat_natCast] at htj
  refine ⟨hw, htj, h.below.trans (hk.below (Nat.le_trans h.lo h.size) fun j hj => hS j (.inl (Nat.lt_of_lt_of_le hj h.lo))), h.cX, h.cP, fun g hg => ?_, fun j hj => ⟨(h.cC j hj).1, Nat.lt_of_lt_of_le (h.cC j hj).2 hk.size⟩, hJ _ _ _ _ h.j (hk.mono fun j _ hj => hS j hj), Nat.le_trans h.size hk.size, h.lo⟩
  rcases hat with e | ⟨N, e, hN⟩
  · exact h.cO g (e ▸ hg)
  · rw [e] at hg
    injection hg with hg
    subst hg
    intro hc
    have := (h.cC _ hc).2
    omega
/-- The frames are not touched by that. -/
theorem ThAt.rowKept (h : ThAt B1 B2 X P A n c Sa sn sc m zs w1 J pl0 C O k oc op pl cs R rn rc ms fs W) (hk : Keep (fun j => j ≠ X ∧ j ≠ P ∧ (Value.slice O k oc).ownBlock ≠ some j) W W') : W'.ownsRow B2 131 3 (.slice R rn rc) rn (cellsF ms) :=
  hk.own h.row fun g hg => by
    obtain ⟨_, _, cur, hb⟩ := own_in h.row hg
    exact ⟨Blk.ne_ hb h.co.walk.blk (by decide), Blk.ne_ hb h.co.walk.pl (by decide), own_blk_ne h.co.walk.op hb (by decide)⟩
/-- A frame more. -/
theorem ThAt.push {v : Nat} {O' R' : Option Addr} {oc' rn' rc' : Nat} {ms' : List Fr} (h : ThAt B1 B2 X P A n c Sa sn sc m zs w1 J pl0 C O k oc op pl cs R rn rc ms fs W) (hv : pl[v]? = some (-1)) (hj : ∀ g ∈ fs.head?, ∀ x, op[g.p]? = some x → Comes zs x (v : Int))
    (hco : CoAt B1 B2 X P A n c Sa sn sc m zs w1 J C O' (k + 1) oc' (op ++ [(v : Int)]) (pl.set v (k : Int)) cs W') (hb : Below B1 W W') (hrd : Reads W' B1 3 (CutAt zs (v : Int) A) (outE zs (v : Int)).length (cellsE (outE zs (v : Int))) ∧ (outE zs (v : Int)).length ≤ 1000)
    (hrow : W'.ownsRow B2 131 3 (.slice R' rn' rc') rn' (cellsF ms')) (hcR : ∀ g, (Value.slice R' rn' rc').ownBlock = some g → ¬ C g) :
    ThAt B1 B2 X P A n c Sa sn sc m zs w1 J pl0 C O' (k + 1) oc' (op ++ [(v : Int)]) (pl.set v (k : Int)) cs R' rn' rc' ms' (⟨k, k, CutAt zs (v : Int) A, outE zs (v : Int)⟩ :: fs) W' := by
  have hlen := h.co.walk.len
  have hfar := Far.push (A := CutAt zs (v : Int) A) (es := outE zs (v : Int)) h.co.tj (by rw [hlen]; exact h.far) (v := (v : Int)) (by simpa using hv) (fun e => by unfold outE; rw [List.mem_filter]; simp) hj
  rw [hlen, Int.toNat_natCast] at hfar
  refine ⟨hco, hrow, fun f hf => ?_, hfar, hcR, fun u q hu hq => ?_⟩
  · rcases List.mem_cons.1 hf with rfl | hf
    · exact hrd
    · exact ⟨(h.reads f hf).1.below hb, (h.reads f hf).2⟩
  · obtain ⟨q', h1, h2⟩ := h.met u q hu hq
    have hlt := (List.getElem?_eq_some_iff.1 hv).1
    rw [get_set hlt]
    split
    · exact ⟨_, rfl, by omega⟩
    · exact ⟨q', h1, h2⟩
/-- Nothing is open. -/
theorem ThAt.start (h : CoAt B1 B2 X P A n c Sa sn sc m zs w1 J C O 0 oc [] pl cs W) : ThAt B1 B2 X P A n c Sa sn sc m zs w1 J pl C O 0 oc [] pl cs none 0 0 [] [] W :=
  ⟨h, World.ownsRow_nil _ _ _ _, (fun f hf => by simp at hf), rfl, (fun g hg => by cases hg), fun _ q h1 h2 => ⟨q, h1, h2⟩⟩
theorem own_new_fr {base : Nat} {W : World} {t : TypeId} (hb : base ≤ W.heap.size) (f : Fr) : (W.alloc (.cells #[.int .i64 (f.p : Int), .int .i64 (f.l : Int), .slice f.A f.left.length f.left.length] t)).ownsRow base t 3 (.slice (some ⟨W.heap.size, 0, none⟩) 1 1) 1 (cellsF [f]) := by
  refine ⟨by simp [cellsF, frCells], .inr ⟨W.heap.size, 1, _, rfl, hb, heap_alloc_new W _, Nat.le_refl _, by unfold maxLen; omega, rfl, ?_⟩⟩
  simp [cellsF, frCells]
/-- A cell of the frames' row is written. -/
theorem ThAt.rowSet {r : Nat} (h : ThAt B1 B2 X P A n c Sa sn sc m zs w1 J pl0 C O k oc op pl cs (some ⟨r, 0, none⟩) rn rc ms fs W) (hJ : ∀ cs C X Y, J cs C X → Keep (fun j => j < B2 ∨ C j) X Y → J cs C Y) (i : Nat) (u : Value) {ms' : List Fr}
    (hrow : (W.setCell ⟨r, i, none⟩ u).ownsRow B2 131 3 (.slice (some ⟨r, 0, none⟩) rn rc) rn (cellsF ms')) : ThAt B1 B2 X P A n c Sa sn sc m zs w1 J pl0 C O k oc op pl cs (some ⟨r, 0, none⟩) rn rc ms' fs (W.setCell ⟨r, i, none⟩ u) := by
  have ho : (Value.slice (some ⟨r, 0, none⟩) rn rc).ownBlock = some r := rfl
  obtain ⟨hb, _, cur, hk⟩ := own_in h.row ho
  have hn : ¬ (r < B2 ∨ C r ∨ r = X ∨ r = P ∨ (Value.slice O k oc).ownBlock = some r) := fun hs => by
    rcases hs with hs | hs | hs | hs | hs
    · omega
    · exact h.cR _ ho hs
    · exact Blk.ne_ hk h.co.walk.blk (by decide) hs
    · exact Blk.ne_ hk h.co.walk.pl (by decide) hs
    · exact own_blk_ne h.co.walk.op hk (by decide) hs
  have hco := h.co.keep hJ ((Keep.refl _ W).set (.inr hn) i u)
  exact ⟨hco, hrow, fun f hf => ⟨(h.reads f hf).1.setCell (p := ⟨r, i, none⟩) (Nat.le_trans h.co.lo hb) u, (h.reads f hf).2⟩, h.far, h.cR, h.met⟩
theorem own_same {base size n2 : Nat} {e : TypeId} {v : Value} {xs ys : List Value} {W : World} (h : W.ownsRow base e size v n2 xs) (he : xs = ys) : W.ownsRow base e size v n2 ys := he ▸ h
/-- The frame at hand is put back. -/
theorem ThAt.stored {r d : Nat} {init : List Fr} {f : Fr} (h : ThAt B1 B2 X P A n c Sa sn sc m zs w1 J pl0 C O k oc op pl cs (some ⟨r, 0, none⟩) (d + 1) rc (init ++ [f]) fs W) (hJ : ∀ cs C X Y, J cs C X → Keep (fun j => j < B2 ∨ C j) X Y → J cs C Y) (t : Fr) :
    ThAt B1 B2 X P A n c Sa sn sc m zs w1 J pl0 C O k oc op pl cs (some ⟨r, 0, none⟩) (d + 1) rc (init ++ [t]) fs (((W.setCell ⟨r, d * 3, none⟩ (.int .i64 (t.p : Int))).setCell ⟨r, d * 3 + 1, none⟩ (.int .i64 (t.l : Int))).setCell ⟨r, d * 3 + 2, none⟩ (.slice t.A t.left.length t.left.length)) := by
  have hd := (fr_at h.row).1
  have hl : (cellsF init).length = d * 3 := by rw [cellsF_length, hd]
  have e1 : (cellsF (init ++ [f])).set (d * 3) (.int .i64 (t.p : Int)) = cellsF (init ++ [⟨t.p, f.l, f.A, f.left⟩]) := by
    rw [cellsF_snoc, cellsF_snoc, show d * 3 = (cellsF init).length + 0 by omega, set_behind]; rfl
  have h1 := h.rowSet hJ (d * 3) (.int .i64 (t.p : Int)) (own_same (own_put h.row _) e1)
  have h2 := h1.rowSet hJ (d * 3 + 1) (.int .i64 (t.l : Int)) (fr_least h1.row t.l)
  have e3 : (cellsF (init ++ [⟨t.p, t.l, f.A, f.left⟩])).set (d * 3 + 2) (.slice t.A t.left.length t.left.length) = cellsF (init ++ [t]) := by
    rw [cellsF_snoc, cellsF_snoc, ← hl, set_behind]; rfl
  exact h2.rowSet hJ (d * 3 + 2) _ (own_same (own_put h2.row _) e3)
/-- The row is cut by its last frame. -/
theorem ThAt.cut {d : Nat} {init : List Fr} {f : Fr} (h : ThAt B1 B2 X P A n c Sa sn sc m zs w1 J pl0 C O k oc op pl cs R (d + 1) rc (init ++ [f]) fs W) : ThAt B1 B2 X P A n c Sa sn sc m zs w1 J pl0 C O k oc op pl cs R d rc init fs W :=
  ⟨h.co, fr_cut h.row, h.reads, h.far, fun g hg => h.cR g (by cases R <;> exact hg), h.met⟩
/-- The last frame's least place is written. -/
theorem ThAt.lessened {r d : Nat} {init : List Fr} {f : Fr} (h : ThAt B1 B2 X P A n c Sa sn sc m zs w1 J pl0 C O k oc op pl cs (some ⟨r, 0, none⟩) (d + 1) rc (init ++ [f]) fs W) (hJ : ∀ cs C X Y, J cs C X → Keep (fun j => j < B2 ∨ C j) X Y → J cs C Y) (l : Nat) :
    ThAt B1 B2 X P A n c Sa sn sc m zs w1 J pl0 C O k oc op pl cs (some ⟨r, 0, none⟩) (d + 1) rc (init ++ [⟨f.p, l, f.A, f.left⟩]) fs (W.setCell ⟨r, d * 3 + 1, none⟩ (.int .i64 (l : Int))) :=
  h.rowSet hJ _ _ (fr_least h.row l)
/-- The frame at hand is another block. -/
theorem TopAt.far_ {T r : Nat} {f : Fr} (ht : TopAt B2 T (some ⟨r, 0, none⟩) rn rc C f W) (i : Nat) (u : Value) : TopAt B2 T (some ⟨r, 0, none⟩) rn rc C f (W.setCell ⟨r, i, none⟩ u) :=
  ⟨ht.blk.far (p := ⟨r, i, none⟩) (fun e => ht.nR (by rw [e]; rfl)) u, ht.nC, ht.nR, ht.lo⟩
/-- The frames stand otherwise. -/
theorem ThAt.turn {fs' : List Fr} (h : ThAt B1 B2 X P A n c Sa sn sc m zs w1 J pl0 C O k oc op pl cs R rn rc ms fs W) (hf : Far zs op pl k fs') (hr : ∀ f ∈ fs', Reads W B1 3 f.A f.left.length (cellsE f.left) ∧ f.left.length ≤ 1000) : ThAt B1 B2 X P A n c Sa sn sc m zs w1 J pl0 C O k oc op pl cs R rn rc ms fs' W :=
  ⟨h.co, h.row, hr, hf, h.cR, h.met⟩
/-- An edge to a node that was met. -/
theorem ThAt.step {t : Fr} {e : Ed} {es : List Ed} {rest : List Fr} {q : Int} {A2 : Option Addr} (h : ThAt B1 B2 X P A n c Sa sn sc m zs w1 J pl0 C O k oc op pl cs R rn rc ms (t :: rest) W) (hl : t.left = e :: es) (hq : pl[e.2.1.toNat]? = some q) (hq1 : q ≠ -1) (he0 : 0 ≤ e.2.1)
    (hrd : Reads W B1 3 A2 es.length (cellsE es)) : 0 ≤ q ∧ ThAt B1 B2 X P A n c Sa sn sc m zs w1 J pl0 C O k oc op pl cs R rn rc ms (⟨t.p, min t.l q.toNat, A2, es⟩ :: rest) W := by
  have hlen := h.co.walk.len
  have hf := h.far
  rw [← hlen] at hf
  obtain ⟨h1, h2⟩ := Far.step h.co.tj hf hl hq hq1 he0 A2
  rw [hlen] at h2
  refine ⟨h1, h.turn h2 fun f hf => ?_⟩
  rcases List.mem_cons.1 hf with rfl | hf
  · have := (h.reads t (.head _)).2
    rw [hl, List.length_cons] at this
    exact ⟨hrd, by show es.length ≤ 1000; omega⟩
  · exact h.reads f (.tail _ hf)
theorem Far.second {zs : List Ed} {op pl : List Int} {b : Nat} {f t : Fr} {rest : List Fr} {e : Ed} {es : List Ed} {q : Int} {A2 : Option Addr} (h : Far zs op pl b (f :: t :: rest)) (hl : t.left = e :: es) (hq : pl[e.2.1.toNat]? = some q) (hq1 : (t.l : Int) ≤ q) :
    Far zs op pl b (f :: ⟨t.p, t.l, A2, es⟩ :: rest) := by
  obtain ⟨h1, h2, h3, h4, h5, h6, h7⟩ := h
  refine ⟨h1, h2, fun g hg => ?_, h4, ⟨h5.low, fun a ha => h5.outs a (by rw [hl]; exact .tail _ ha), h5.both, h5.back, fun j x a k1 k2 k3 k4 k5 k6 => ?_⟩, h6, h7⟩
  · simp at hg
    subst hg
    exact h3 t rfl
  · by_cases hae : a = e
    · subst hae
      exact ⟨q, hq, hq1⟩
    · exact h5.gone j x a k1 k2 k3 k4 k5 fun e2 hm => by
        rw [hl] at hm
        rcases List.mem_cons.1 hm with hm | hm
        · exact hae hm
        · exact k6 e2 hm
/-- An edge to a node that was not met: its frame. -/
theorem ThAt.onward {t : Fr} {e : Ed} {es : List Ed} {rest : List Fr} {u : Nat} {A2 O' R' : Option Addr} {oc' rn' rc' : Nat} {ms' : List Fr} (h : ThAt B1 B2 X P A n c Sa sn sc m zs w1 J pl0 C O k oc op pl cs R rn rc ms (t :: rest) W) (hl : t.left = e :: es) (hu : e.2.1 = (u : Int)) (hv : pl[u]? = some (-1))
    (hco : CoAt B1 B2 X P A n c Sa sn sc m zs w1 J C O' (k + 1) oc' (op ++ [(u : Int)]) (pl.set u (k : Int)) cs W') (hb : Below B1 W W') (hrd : Reads W' B1 3 (CutAt zs (u : Int) A) (outE zs (u : Int)).length (cellsE (outE zs (u : Int))) ∧ (outE zs (u : Int)).length ≤ 1000)
    (hrd2 : Reads W B1 3 A2 es.length (cellsE es)) (hrow : W'.ownsRow B2 131 3 (.slice R' rn' rc') rn' (cellsF ms')) (hcR : ∀ g, (Value.slice R' rn' rc').ownBlock = some g → ¬ C g) :
    ThAt B1 B2 X P A n c Sa sn sc m zs w1 J pl0 C O' (k + 1) oc' (op ++ [(u : Int)]) (pl.set u (k : Int)) cs R' rn' rc' ms' (⟨k, k, CutAt zs (u : Int) A, outE zs (u : Int)⟩ :: ⟨t.p, t.l, A2, es⟩ :: rest) W' := by
  obtain ⟨f1, f2, f3, f4⟩ := h.far
  have hlow := f2.low
  have hp := h.push hv (fun g hg x hx => by
    simp at hg
    subst hg
    obtain ⟨z1, z2⟩ := f2.outs e (by rw [hl]; exact .head _)
    rw [← z2 x hx, ← hu]
    exact .edge z1) hco hb hrd hrow hcR
  refine hp.turn (Far.second hp.far hl (q := (k : Int)) ?_ (by omega)) fun f hf => ?_
  · have hlt := (List.getElem?_eq_some_iff.1 hv).1
    rw [hu, Int.toNat_natCast, get_set hlt, if_pos rfl]
  · rcases List.mem_cons.1 hf with rfl | hf
    · exact hrd
    · rcases List.mem_cons.1 hf with rfl | hf
      · have := (h.reads t (.head _)).2
        rw [hl, List.length_cons] at this
        exact ⟨hrd2.below hb, by show es.length ≤ 1000; omega⟩
      · exact ⟨((h.reads f (.tail _ hf)).1).below hb, (h.reads f (.tail _ hf)).2⟩
end
end Go.Proofs.YtgbpaiffnhpafaaDoor
namespace Go.Proofs.YtgbpaiffnhpafaaDoor
open Go.RowKit

section
variable {B1 B2 X P : Nat} {A : Option Addr} {n c : Nat} {Sa : Option Addr} {sn sc m : Nat} {zs : List Ed} {w1 : World} {J : List (List Int) → (Nat → Prop) → World → Prop} {C : Nat → Prop} {O : Option Addr} {k oc : Nat} {op pl pl0 : List Int} {cs : List (List Int)} {W : World}
variable {R : Option Addr} {rn rc : Nat} {ms fs : List Fr}
/-- A node is met, and its frame is appended. -/
theorem ThAt.pushed {r d u : Nat} {t : Fr} {rest : List Fr} {e : Ed} {es : List Ed} {A2 O' R5 : Option Addr} {oc' c5 N : Nat} {w4 w5 : World} {o : Obj}
    (h : ThAt B1 B2 X P A n c Sa sn sc m zs w1 J pl0 C O k oc op pl cs (some ⟨r, 0, none⟩) (d + 1) rc (rest.reverse ++ [⟨t.p, t.l, A2, es⟩]) (t :: rest) W)
    (hJ : ∀ cs C X Y, J cs C X → Keep (fun j => j < B2 ∨ C j) X Y → J cs C Y) (hl : t.left = e :: es) (hu : e.2.1 = (u : Int)) (hv : pl[u]? = some (-1))
    (hw : WalkAt X P A n c Sa sn sc O' (k + 1) oc' B2 m (op ++ [(u : Int)]) (pl.set u (k : Int)) w4) (hat : (Value.slice O' (k + 1) oc').ownBlock = (Value.slice O k oc).ownBlock ∨ ∃ N, (Value.slice O' (k + 1) oc').ownBlock = some N ∧ W.heap.size ≤ N)
    (hk : Keep (fun j => j ≠ X ∧ j ≠ P ∧ (Value.slice O k oc).ownBlock ≠ some j) W w4)
    (hown : w5.ownsRow B2 131 3 (.slice R5 (d + 1 + 1) c5) (d + 1 + 1) (cellsF (rest.reverse ++ [⟨t.p, t.l, A2, es⟩]) ++ frCells ⟨k, k, CutAt zs (u : Int) A, outE zs (u : Int)⟩))
    (hgrow : (w4.alloc o).grownBy w5 (some r)) (hat5 : (Value.slice R5 (d + 1 + 1) c5).ownBlock = some r ∨ (Value.slice R5 (d + 1 + 1) c5).ownBlock = some N) (hN : w4.heap.size ≤ N)
    (HRD : ∀ (W : World) (v : Int), Below B1 w1 W → Reads W B1 3 (CutAt zs v A) (outE zs v).length (cellsE (outE zs v)) ∧ (outE zs v).length ≤ 1000)
    (hrd2 : Reads W B1 3 A2 es.length (cellsE es)) :
    ThAt B1 B2 X P A n c Sa sn sc m zs w1 J pl0 C O' (k + 1) oc' (op ++ [(u : Int)]) (pl.set u (k : Int)) cs R5 (d + 1 + 1) c5 (⟨k, k, CutAt zs (u : Int) A, outE zs (u : Int)⟩ :: ⟨t.p, t.l, A2, es⟩ :: rest).reverse (⟨k, k, CutAt zs (u : Int) A, outE zs (u : Int)⟩ :: ⟨t.p, t.l, A2, es⟩ :: rest) w5 := by
  have hco := h.co.opened hJ hv hw hat hk
  have hrow4 := h.rowKept hk
  have hro : (Value.slice (some ⟨r, 0, none⟩) (d + 1) rc).ownBlock = some r := rfl
  obtain ⟨hb, _, cur, hbk⟩ := own_in hrow4 hro
  have hk5 : Keep (fun j => j ≠ r) w4 w5 := ((Keep.refl _ w4).alloc o).grown hgrow (fun g hg => by injection hg with hg; exact .inr fun hS => hS hg.symm)
  have hco5 := hco.keep hJ (hk5.mono fun j _ hj e => by
    subst e
    rcases hj with hj | hj | hj | hj | hj
    · omega
    · exact h.cR _ hro hj
    · exact Blk.ne_ hbk hco.walk.blk (by decide) hj
    · exact Blk.ne_ hbk hco.walk.pl (by decide) hj
    · exact own_blk_ne hco.walk.op hbk (by decide) hj)
  have hb4 : Below B1 W w4 := hk.below (Nat.le_trans h.co.lo h.co.size) fun j hj => by
    have := h.co.lo
    exact ⟨by have := h.co.walk.lo.1; omega, by have := h.co.walk.lo.2; omega, fun e => by have := (own_in h.co.walk.op e).1; omega⟩
  have hb5 : Below B1 w4 w5 := hk5.below (Nat.le_trans hco.lo hco.size) fun j hj => by have := h.co.lo; omega
  have hrow5 : w5.ownsRow B2 131 3 (.slice R5 (d + 1 + 1) c5) (d + 1 + 1) (cellsF (⟨k, k, CutAt zs (u : Int) A, outE zs (u : Int)⟩ :: ⟨t.p, t.l, A2, es⟩ :: rest).reverse) := own_same hown (by rw [← cellsF_snoc]; simp)
  refine h.onward hl hu hv hco5 (hb4.trans hb5) (HRD _ _ hco5.below) hrd2 hrow5 ?_
  intro g hg hc
  rcases hat5 with e5 | e5
  · rw [e5] at hg
    injection hg with hg
    subst hg
    exact h.cR _ hro hc
  · rw [e5] at hg
    injection hg with hg
    subst hg
    have := (hco.cC _ hc).2
    omega
/-- The last frame is done, and its node came to one ahead. -/
theorem ThAt.merged {t g : Fr} {rest : List Fr} (h : ThAt B1 B2 X P A n c Sa sn sc m zs w1 J pl0 C O k oc op pl cs R rn rc ms (t :: g :: rest) W) (hl : t.left = []) (hlt : t.l < t.p) :
    ThAt B1 B2 X P A n c Sa sn sc m zs w1 J pl0 C O k oc op pl cs R rn rc ms (⟨g.p, min g.l t.l, g.A, g.left⟩ :: rest) W := by
  have hlen := h.co.walk.len
  have hf := h.far
  rw [← hlen] at hf
  have h2 := Far.merge hf hl hlt
  rw [hlen] at h2
  refine h.turn h2 fun f hf => ?_
  rcases List.mem_cons.1 hf with rfl | hf
  · exact h.reads g (.tail _ (.head _))
  · exact h.reads f (.tail _ (.tail _ hf))
theorem Far.least_alone {zs : List Ed} {op pl : List Int} {b : Nat} {t : Fr} (h : Far zs op pl b [t]) : t.p = 0 ∧ t.l = t.p := by
  obtain ⟨_, h2, _, h4⟩ := h
  have h4 : t.p = 0 := h4
  have := h2.low
  omega
theorem Far.least_kept {zs : List Ed} {op pl : List Int} {b : Nat} {t g : Fr} {rest : List Fr} (h : Far zs op pl b (t :: g :: rest)) (he : t.l = t.p) : min g.l t.l = g.l := by
  obtain ⟨_, _, _, h4, h5, _⟩ := h
  have := h5.low
  omega
/-- The last frame is done, and its node is the first one met of its component, which is told. -/
theorem ThAt.told {t : Fr} {rest : List Fr} {g : Nat} {W2 : World} (h : ThAt B1 B2 X P A n c Sa sn sc m zs w1 J pl0 C (some ⟨g, 0, none⟩) k oc op pl cs R rn rc ms (t :: rest) W)
    (hJ : ∀ cs C X Y, J cs C X → Keep (fun j => j < B2 ∨ C j) X Y → J cs C Y) (hz : ∀ e ∈ zs, 0 ≤ e.1 ∧ 0 ≤ e.2.1 ∧ e.2.1 < (m : Int)) (hl : t.left = []) (he : t.l = t.p)
    (hw : WalkAt X P A n c Sa sn sc (some ⟨g, 0, none⟩) t.p oc B2 m (op.take t.p) (putE pl 300 (op.drop t.p)) W2) (hk : Keep (fun j => j ≠ X ∧ j ≠ P) W W2) :
    J cs C W2 ∧ PartsIn zs m (cs ++ [op.drop t.p]) ∧ ¬ C g ∧ (∀ j, C j → B1 ≤ j ∧ j < W2.heap.size) ∧ B2 ≤ W2.heap.size ∧ (putE pl 300 (op.drop t.p)).count (-1) ≤ pl.count (-1) ∧
    ∀ (C' : Nat → Prop) (W3 : World), (∀ j, C' j → j < W3.heap.size ∧ (C j ∨ W2.heap.size ≤ j)) → Keep (fun j => ¬ C j) W2 W3 → J (cs ++ [op.drop t.p]) C' W3 →
      ThAt B1 B2 X P A n c Sa sn sc m zs w1 J pl0 C' (some ⟨g, 0, none⟩) t.p oc (op.take t.p) (putE pl 300 (op.drop t.p)) (cs ++ [op.drop t.p]) R rn rc ms rest W3 := by
  have hlen := h.co.walk.len
  have hf := h.far
  rw [← hlen] at hf
  obtain ⟨htj, hfar, _⟩ := Far.close h.co.tj hz hf hl he
  have hgo : (Value.slice (some ⟨g, 0, none⟩) k oc).ownBlock = some g := rfl
  have hS : ∀ j, j < B2 ∨ C j → j ≠ X ∧ j ≠ P := fun j hj => by
    rcases hj with hj | hj
    · exact ⟨by have := h.co.walk.lo.1; omega, by have := h.co.walk.lo.2; omega⟩
    · exact ⟨fun e => h.co.cX (e ▸ hj), fun e => h.co.cP (e ▸ hj)⟩
  have hs2 : W.heap.size ≤ W2.heap.size := hk.size
  have hj2 : J cs C W2 := hJ _ _ _ _ h.co.j (hk.mono fun j _ hj => hS j hj)
  refine ⟨hj2, htj.parts, h.co.cO g hgo, fun j hj => ⟨(h.co.cC j hj).1, Nat.lt_of_lt_of_le (h.co.cC j hj).2 hs2⟩, Nat.le_trans h.co.size hs2, putE_count 300 (by omega) _ _, fun C' W3 hC' hk3 hj3 => ?_⟩
  have hn : ∀ j, ¬ C j → j < W2.heap.size → ¬ C' j := fun j h1 h2 h3 => by
    rcases (hC' j h3).2 with h4 | h4
    · exact h1 h4
    · omega
  have hg2 : g < W2.heap.size := by have := (own_in h.co.walk.op hgo).2.1; omega
  have hX2 : X < W2.heap.size := by have := h.co.walk.blk.lt; omega
  have hP2 : P < W2.heap.size := by have := h.co.walk.pl.lt; omega
  have hb2 : Below B1 W W2 := hk.below (Nat.le_trans h.co.lo h.co.size) fun j hj => hS j (.inl (Nat.lt_of_lt_of_le hj h.co.lo))
  have hb3 : Below B1 W2 W3 := hk3.below (by have := h.co.lo; have := h.co.size; omega) fun j hj hc => by have := (h.co.cC j hc).1; omega
  have hw3 := hw.keep hk3 h.co.cX h.co.cP (fun g' hg' => by injection hg' with hg'; subst hg'; exact h.co.cO _ hgo)
  have hrow2 := hk.own h.row fun g' hg' => by
    obtain ⟨_, _, cur, hb⟩ := own_in h.row hg'
    exact ⟨Blk.ne_ hb h.co.walk.blk (by decide), Blk.ne_ hb h.co.walk.pl (by decide)⟩
  have hrow3 := hk3.own hrow2 fun g' hg' => h.cR g' hg'
  refine ⟨⟨hw3, htj, (h.co.below.trans hb2).trans hb3, hn X h.co.cX hX2, hn P h.co.cP hP2, fun g' hg' => ?_, fun j hj => ?_, hj3, ?_, h.co.lo⟩, hrow3, fun f hf => ⟨((h.reads f (.tail _ hf)).1.below hb2).below hb3, (h.reads f (.tail _ hf)).2⟩, hfar, fun g' hg' => hn g' (h.cR g' hg') ?_, fun u q hu hq => ?_⟩
  · injection hg' with hg'
    subst hg'
    exact hn _ (h.co.cO _ hgo) hg2
  · obtain ⟨h1, h2⟩ := hC' j hj
    refine ⟨?_, h1⟩
    rcases h2 with h2 | h2
    · exact (h.co.cC j h2).1
    · have := h.co.lo
      have := h.co.size
      omega
  · have := hk3.size
    have := h.co.size
    omega
  · exact (own_in hrow2 hg').2.1
  · obtain ⟨q', h1, h2⟩ := h.met u q hu hq
    have hlt := (List.getElem?_eq_some_iff.1 h1).1
    rw [putE_get pl _ 300 u hlt (fun x hx => by obtain ⟨j, _, hj⟩ := mem_drop_iff.1 hx; exact (h.co.tj.opn j x hj).1)]
    split
    · exact ⟨_, rfl, by omega⟩
    · exact ⟨q', h1, h2⟩
theorem ThAt.again (h : ThAt B1 B2 X P A n c Sa sn sc m zs w1 J pl0 C O k oc op pl cs R rn rc ms fs W) : ThAt B1 B2 X P A n c Sa sn sc m zs w1 J pl C O k oc op pl cs R rn rc ms fs W :=
  ⟨h.co, h.row, h.reads, h.far, h.cR, fun _ q h1 h2 => ⟨q, h1, h2⟩⟩
theorem Far.few {zs : List Ed} {op pl : List Int} : ∀ {fs : List Fr} {b : Nat}, Far zs op pl b fs → fs.length ≤ b
  | [], _, _ => Nat.zero_le _
  | f :: fs, b, h => by
    obtain ⟨h1, _, _, h4⟩ := h
    have := Far.few h4
    rw [List.length_cons]
    omega
theorem ThAt.few (h : ThAt B1 B2 X P A n c Sa sn sc m zs w1 J pl0 C O k oc op pl cs R rn rc ms fs W) : fs.length ≤ k ∧ k ≤ 300 := by
  have := h.co.tj.op_len
  rw [h.co.walk.len] at this
  exact ⟨Far.few h.far, this⟩
theorem fr_new (w : World) (f : Fr) (t : TypeId) : ∀ j u, (frCells f)[j]? = some u → (w.alloc (.cells #[.int .i64 (f.p : Int), .int .i64 (f.l : Int), .slice f.A f.left.length f.left.length] t)).cell? ((⟨w.heap.size, 0, none⟩ : Addr).add j) = some u := by
  intro j u hu
  have hb := Blk.new w t #[.int .i64 (f.p : Int), .int .i64 (f.l : Int), .slice f.A f.left.length f.left.length]
  rw [Go.WideShapes.add_plain, Nat.zero_add, hb.cell, ← hu, ← List.getElem?_toArray]
  rfl
theorem frCells_one (f : Fr) : ∀ u ∈ frCells f, u.oneCell' = true := by simp [frCells, Value.oneCell']
end
end Go.Proofs.YtgbpaiffnhpafaaDoor
namespace Go.Proofs.YtgbpaiffnhpafaaDoor
open Go.RowKit Go.Shelf

/-- A function that tells values one by one, whatever it is asked by: S are the blocks that it reads, C those that who asks may turn; Ok: what may be told, End: what is told at the end. -/
def OneSeq {α : Type} (n : Nat) (P : Program) (gf : Nat) (lb : Array Value) (enc : α → Value) (Ok End : List α → Prop) (S : Nat → Prop) (w1 : World) : Prop :=
  ∀ (l : Nat) (J : List α → (Nat → Prop) → World → Prop) (Jx : World → Prop) (C0 : Nat → Prop) (W : World),
    Keep S w1 W → (∀ k, C0 k → ¬ S k ∧ k < W.heap.size) →
    (∀ cs C X Y, J cs C X → Keep (fun k => k < W.heap.size ∨ C k) X Y → J cs C Y) → (∀ X Y, Jx X → Keep (fun k => k < W.heap.size) X Y → Jx Y) →
    (∀ cs c C X, J cs C X → Ok (cs ++ [c]) → (∀ k, C k → ¬ S k ∧ k < X.heap.size) → W.heap.size ≤ X.heap.size →
      YieldAt Fence.wide n P l #[enc c] X fun e X' => (∃ C' : Nat → Prop, (∀ k, C' k → k < X'.heap.size ∧ (C k ∨ X.heap.size ≤ k)) ∧ Keep (fun k => ¬ C k) X X' ∧ e = .returned (.bool true) ∧ J (cs ++ [c]) C' X') ∨
        (e = .returned (.bool false) ∧ Keep (fun k => W.heap.size ≤ k ∧ ¬ C k) X X' ∧ Jx X')) →
    J [] C0 W →
    CallsIn Fence.wide n P gf (#[.func (.yield l) #[] #[]] ++ lb) W fun e X => (∃ v, e = .returned v) ∧ ((∃ cs C, End cs ∧ J cs C X) ∨ Jx X)

/-- How a range is left from within. -/
def jumpE : Option Nat → Exit
  | none => .ret
  | some i => .exit i
def jumpC : Option Nat → Code
  | none => .ret
  | some i => .exit i
/-- What a round hands on; N: where the range began. -/
def OnePost {α : Type} (jm : Option Nat) (N : Nat) (C : Nat → Prop) (I : List α → (Nat → Prop) → World → Prop) (Ix : World → Prop) (cs : List α) (X : World) : Exit → Act → World → Prop := fun e _ X' =>
  (∃ C' : Nat → Prop, (∀ k, C' k → k < X'.heap.size ∧ (C k ∨ X.heap.size ≤ k)) ∧ Keep (fun k => ¬ C k) X X' ∧ e = .normal ∧ I cs C' X') ∨ (e = jumpE jm ∧ Keep (fun k => N ≤ k ∧ ¬ C k) X X' ∧ Ix X')

theorem range_ones {n : Nat} {P : Program} {g : Operand} {ps : Array Tmp} {assign body : Code} {Q : Exit → Act → World → Prop} {a : Act} {w : World} (jm : Option Nat) (h1 : 1 ≤ n) {gf : Nat} {lb : Array Value} (hg : a.eval g = .func (.func gf) #[] lb)
    (eg : ∀ args w, (callFunc gf args).run P w = .ok (.enter gf args) w) {α : Type} {enc : α → Value} {Ok End : List α → Prop} {S : Nat → Prop} {w1 : World} (hseq : OneSeq (n - 1) P gf lb enc Ok End S w1) (hb : Keep S w1 w) (hS : ∀ k, S k → k < w.heap.size) (hps : ps.size = 1)
    (I : List α → (Nat → Prop) → World → Prop) (Ix : World → Prop) (C0 : Nat → Prop) (hC0 : ∀ k, C0 k → ¬ S k ∧ k < w.heap.size) (h0 : I [] C0 w)
    (hI : ∀ cs C X Y, I cs C X → Keep (fun k => k < w.heap.size ∨ C k) X Y → I cs C Y) (hIx : ∀ X Y, Ix X → Keep (fun k => k < w.heap.size) X Y → Ix Y)
    (Q1 : α → Act → World → Prop) (hQ1 : ∀ c a' X Y l o, Q1 c a' X → X.heap[l]? = some (.loop o) → Keep (fun k => k ≠ l) X Y → Q1 c a' Y)
    (hassign : ∀ (l : Nat) (cs : List α) (c : α) (C : Nat → Prop) (W : World) (K : Act → World → Prop), I cs C W → w.heap.size ≤ W.heap.size → (∀ a' W', Below W.heap.size W W' → Q1 c a' W' → K a' W') →
      assign.wpIn (Fence.wide.inRound l) (n - 1) P (Exit.then K (fun _ _ _ => False)) { tmps := (ps.zip #[enc c]).foldl (fun t (p, v) => t.setIfInBounds p v) a.tmps, defers := [] } W)
    (hbody : ∀ (l : Nat) (cs : List α) (c : α) (C : Nat → Prop) (a' : Act) (X : World), I cs C X → Ok (cs ++ [c]) → (∀ k, C k → ¬ S k ∧ k < X.heap.size) → w.heap.size ≤ X.heap.size → Q1 c a' X →
      body.wpIn (Fence.wide.inRound l) (n - 1) P (OnePost jm w.heap.size C I Ix (cs ++ [c]) X) a' X)
    (hdone : ∀ (cs : List α) (C : Nat → Prop) (D : Nat) (W : World), w.heap.size ≤ D → End cs → I cs C W → W.heap[D]? = some (.deferred (some [])) → Q .normal { a with defers := { target := .collected D, args := #[] } :: a.defers } W)
    (hstop : ∀ (D : Nat) (W : World), w.heap.size ≤ D → Ix W → W.heap[D]? = some (.deferred (some [])) → (jumpC jm).wpIn Fence.wide n P Q { a with defers := { target := .collected D, args := #[] } :: a.defers } W) :
    (Code.rangeFunc g ps assign body).wpIn Fence.wide n P Q a w := by
  refine wpIn_rangeFunc fun fn hfn => ?_
  rw [show Fence.wide.round = none from rfl]
  obtain ⟨rec, hrec⟩ : ∃ rec : LoopState → Option Code → Loop, rec = fun st pe => { state := st, pending := pe, fn, tmps := a.tmps, params := ps, assign, body, defers := w.heap.size } := ⟨_, rfl⟩
  obtain ⟨W1, hW1⟩ : ∃ W1, (w.alloc (.deferred (some []))).alloc (.loop (rec .ready none)) = W1 := ⟨_, rfl⟩
  have hL1 : W1.heap[w.heap.size + 1]? = some (.loop (rec .ready none)) := by
    rw [← hW1]; have := World.alloc_heap_new (w.alloc (.deferred (some []))) (.loop (rec .ready none)); rwa [World.size_alloc] at this
  have hK1 : W1.heap[w.heap.size]? = some (.deferred (some [])) := by
    rw [← hW1]; exact (Below.heap_alloc _ _ _ (by simp)).trans (World.alloc_heap_new w _)
  have hsz1 : W1.heap.size = w.heap.size + 2 := by rw [← hW1]; simp
  have hkw : Keep (fun k => k < w.heap.size ∨ C0 k) w W1 := by rw [← hW1]; exact ((Keep.refl _ w).alloc _).alloc _
  have hI1 : I [] C0 W1 := hI _ _ _ _ h0 hkw
  have hb1 : Keep S w1 W1 := by
    rw [← hW1]; exact (hb.alloc _).alloc _
  refine ⟨w.heap.size + 1, [{ target := .collected w.heap.size, args := #[] }], W1, { target := .fn (.func gf) lb, args := #[.func (.yield (w.heap.size + 1)) #[] #[]] }, W1, gf,
    #[.func (.yield (w.heap.size + 1)) #[] #[]] ++ lb, W1, ?_, ?_, ?_, ?_, fun _ => h1, ?_⟩
  · rw [← hW1, hrec]; exact run_enterLoop_outer _ _ _ _ _
  · simp only [resolve, hg]
    simp [go_sem]
  · intro f' hf'; trivial
  · simp [invoke, go_sem, eg]
  · refine (hseq (w.heap.size + 1)
      (fun cs C2 W => ∃ C : Nat → Prop, C2 = (fun k => C k ∨ k = w.heap.size ∨ k = w.heap.size + 1) ∧ I cs C W ∧ ¬ C w.heap.size ∧ ¬ C (w.heap.size + 1) ∧ W.heap[w.heap.size + 1]? = some (.loop (rec .ready none)) ∧ W.heap[w.heap.size]? = some (.deferred (some [])))
      (fun W => Ix W ∧ W.heap[w.heap.size + 1]? = some (.loop (rec .done (some (jumpC jm)))) ∧ W.heap[w.heap.size]? = some (.deferred (some [])))
      (fun k => C0 k ∨ k = w.heap.size ∨ k = w.heap.size + 1) W1 hb1 ?_ ?_ ?_ ?_ ⟨C0, rfl, hI1, fun h => by have := (hC0 _ h).2; omega, fun h => by have := (hC0 _ h).2; omega, hL1, hK1⟩).mono ?_
    · rintro k (h | rfl | rfl)
      · have := hC0 k h; exact ⟨this.1, by omega⟩
      · exact ⟨fun h => by have := hS _ h; omega, by omega⟩
      · exact ⟨fun h => by have := hS _ h; omega, by omega⟩
    · rintro cs C2 X Y ⟨C, rfl, hi, n1, n2, hl, hk⟩ hkeep
      exact ⟨C, rfl, hI _ _ _ _ hi (hkeep.mono fun k _ hk => by
        rcases hk with hk | hk
        · exact .inl (by omega)
        · exact .inr (.inl hk)), n1, n2, hkeep.obj hl (.inr (.inr (.inr rfl))), hkeep.obj hk (.inr (.inr (.inl rfl)))⟩
    · rintro X Y ⟨hi, hl, hk⟩ hkeep
      exact ⟨hIx _ _ hi (hkeep.mono fun k _ hk => by omega), hkeep.obj hl (by omega), hkeep.obj hk (by omega)⟩
    · rintro cs c C2 W0 ⟨C, rfl, hi0, n1, n2, hl0, hk0⟩ hpi hCk0 hsz0
      have hlt0 : w.heap.size + 1 < W0.heap.size := (Array.getElem?_eq_some_iff.1 hl0).1
      have hy := run_yield (P := P) (args := #[enc c]) hl0 (by rw [hrec]; exact hps.symm)
      rw [hrec] at hy
      refine ⟨fn, _, assign, body, hy, roundIn_of_wpIn hfn (hassign _ cs c C W0 _ hi0 (Nat.le_trans (by omega) hsz0) ?_)⟩
      clear hy
      intro a' W hb0 hq0
      have hk00 : Keep (fun _ => True) W0 W := Keep.of_all _ hb0
      have hl := hk00.obj hl0 trivial
      have hk := hk00.obj hk0 trivial
      have hi := hI _ _ _ _ hi0 (Keep.of_all _ hb0)
      have hsz := Nat.le_trans hsz0 hb0.size
      have hCk : ∀ k, (C k ∨ k = w.heap.size ∨ k = w.heap.size + 1) → ¬ S k ∧ k < W.heap.size := fun k h => ⟨(hCk0 k h).1, Nat.lt_of_lt_of_le (hCk0 k h).2 hb0.size⟩
      have hlt : w.heap.size + 1 < W.heap.size := Nat.lt_of_lt_of_le hlt0 hb0.size
      refine ⟨_, run_beginRound hl (by rw [hrec]), ?_⟩
      have hl2 : (W.putObj (w.heap.size + 1) (.loop { rec .ready none with state := .busy })).heap[w.heap.size + 1]? = some (.loop { rec .ready none with state := .busy }) := World.putObj_heap_same hlt
      have hk2 : (W.putObj (w.heap.size + 1) (.loop { rec .ready none with state := .busy })).heap[w.heap.size]? = some (.deferred (some [])) := (World.putObj_heap_other (by omega)).trans hk
      have hkeep2 : Keep (fun k => ¬ (C k ∨ k = w.heap.size ∨ k = w.heap.size + 1)) W (W.putObj (w.heap.size + 1) (.loop { rec .ready none with state := .busy })) := (Keep.refl _ W).put (.inr fun h => h (.inr (.inr rfl))) _
      have hi2 : I cs C (W.putObj (w.heap.size + 1) (.loop { rec .ready none with state := .busy })) := hI _ _ _ _ hi ((Keep.refl _ W).put (.inr fun h => by
        rcases h with h | h
        · omega
        · exact n2 h) _)
      have hsz2 : (W.putObj (w.heap.size + 1) (.loop { rec .ready none with state := .busy })).heap.size = W.heap.size := by simp [World.putObj]
      refine wpIn_mono (hbody _ cs c C a' _ hi2 hpi (fun k hk => by rw [hsz2]; exact hCk k (.inl hk)) (by rw [hsz2]; omega) (hQ1 _ _ _ _ _ _ hq0 hl ((Keep.refl _ W).put (.inr fun h => h rfl) _))) ?_
      rintro e a3 W3 (⟨C', hC', hk3, rfl, hi3⟩ | ⟨he, hk3, hi3⟩)
      · rw [hsz2] at hC'
        have hs0 := hb0.size
        have hl3 := hk3.obj hl2 n2
        have hD3 := hk3.obj hk2 n1
        have hk4 : Keep (fun k => ¬ (C k ∨ k = w.heap.size ∨ k = w.heap.size + 1)) W0 W3 := ((Keep.of_all _ hb0).trans hkeep2).trans (hk3.mono fun k _ h h2 => h (.inl h2))
        have n3 : ¬ C' w.heap.size := fun h => by
          rcases (hC' _ h).2 with h | h
          · exact n1 h
          · omega
        have n4 : ¬ C' (w.heap.size + 1) := fun h => by
          rcases (hC' _ h).2 with h | h
          · exact n2 h
          · omega
        have hr := run_endRound (P := P) none hl3
        refine ⟨_, _, hr, .inl ⟨(fun k => C' k ∨ k = w.heap.size ∨ k = w.heap.size + 1), fun k hk => ?_, hk4.put (.inr fun h => h (.inr (.inr rfl))) _, rfl, C', rfl, hI _ _ _ _ hi3 ((Keep.refl _ W3).put (.inr fun h => ?_) _), n3, n4, ?_, ?_⟩⟩
        · have hs3 := hk4.size
          simp only [World.putObj, Array.size_setIfInBounds]
          rcases hk with hk | rfl | rfl
          · have := hC' k hk
            exact ⟨this.1, this.2.elim (fun h => .inl (.inl h)) (fun h => .inr (by omega))⟩
          · exact ⟨by omega, .inl (.inr (.inl rfl))⟩
          · exact ⟨by omega, .inl (.inr (.inr rfl))⟩
        · rcases h with h | h
          · omega
          · exact n4 h
        · rw [World.putObj_heap_same (Array.getElem?_eq_some_iff.1 hl3).1, hrec]
          rfl
        · exact (World.putObj_heap_other (by omega)).trans hD3
      · have hl3 := hk3.obj hl2 ⟨Nat.le_succ _, n2⟩
        have hD3 := hk3.obj hk2 ⟨Nat.le_refl _, n1⟩
        have hr := run_endRound (P := P) (some (jumpC jm)) hl3
        have hk5 : Keep (fun k => W1.heap.size ≤ k ∧ ¬ (C k ∨ k = w.heap.size ∨ k = w.heap.size + 1)) W0 W3 := ((Keep.of_all _ hb0).trans (hkeep2.mono fun k _ h => h.2)).trans (hk3.mono fun k _ h => ⟨by omega, fun c => h.2 (.inl c)⟩)
        cases jm with
        | none =>
          obtain rfl : e = .ret := he
          refine ⟨_, _, hr, .inr ⟨rfl, hk5.put (.inr fun h => h.2 (.inr (.inr rfl))) _, hIx _ _ hi3 ((Keep.refl _ W3).put (.inr fun h => by omega) _), ?_, ?_⟩⟩
          · rw [World.putObj_heap_same (Array.getElem?_eq_some_iff.1 hl3).1, hrec]
            rfl
          · exact (World.putObj_heap_other (by omega)).trans hD3
        | some i =>
          obtain rfl : e = .exit i := he
          refine ⟨_, _, hr, .inr ⟨rfl, hk5.put (.inr fun h => h.2 (.inr (.inr rfl))) _, hIx _ _ hi3 ((Keep.refl _ W3).put (.inr fun h => by omega) _), ?_, ?_⟩⟩
          · rw [World.putObj_heap_same (Array.getElem?_eq_some_iff.1 hl3).1, hrec]
            rfl
          · exact (World.putObj_heap_other (by omega)).trans hD3
    · rintro e W2 ⟨⟨v, rfl⟩, (⟨cs, _, hall, C, rfl, hi, n1, n2, hl, hk⟩ | ⟨hi, hl, hk⟩)⟩
      · refine ⟨none, _, by have := run_endLoop (P := P) hl (by rw [hrec]; simp); rw [hrec] at this; exact this, hdone cs C _ _ (Nat.le_refl _) hall (hI _ _ _ _ hi ((Keep.refl _ W2).put (.inr fun h => ?_) _)) ((World.putObj_heap_other (by omega)).trans hk)⟩
        rcases h with h | h
        · omega
        · exact n2 h
      · exact ⟨some (jumpC jm), _, by have := run_endLoop (P := P) hl (by rw [hrec]; simp); rw [hrec] at this; exact this, hstop _ _ (Nat.le_refl _) (hIx _ _ hi ((Keep.refl _ W2).put (.inr fun h => by omega) _)) ((World.putObj_heap_other (by omega)).trans hk)⟩
end Go.Proofs.YtgbpaiffnhpafaaDoor
namespace Go.Proofs.YtgbpaiffnhpafaaDoor
open Go.RowKit Go.Shelf

theorem Keep.then_ {S : Nat → Prop} {W X Y : World} (h : Keep S W X) (k : Keep (fun j => j < W.heap.size ∧ S j) X Y) : Keep S W Y :=
  ⟨k.os.trans h.os, k.tape.trans h.tape, k.output.trans h.output, Nat.le_trans h.size k.size, fun i hi hs => (k.block i (Nat.lt_of_lt_of_le hi h.size) ⟨hi, hs⟩).trans (h.block i hi hs)⟩

def mkMark (D : Nat) : Deferred := { target := .collected D, args := #[] }
/-- The marks of the ranges that have ended: blocks of the call's own, which who asks does not turn. -/
structure MarksAt (B : Nat) (C : Nat → Prop) (Ds : List Nat) (w : World) : Prop where
  once : Ds.Nodup
  all : ∀ D ∈ Ds, B ≤ D ∧ ¬ C D ∧ w.heap[D]? = some (.deferred (some []))
section
variable {B : Nat} {C : Nat → Prop} {Ds : List Nat} {w w' : World}
theorem MarksAt.nil (B : Nat) (C : Nat → Prop) (w : World) : MarksAt B C [] w := ⟨List.nodup_nil, fun D h => by simp at h⟩
theorem MarksAt.lt (h : MarksAt B C Ds w) {D : Nat} (hD : D ∈ Ds) : D < w.heap.size := (Array.getElem?_eq_some_iff.1 (h.all D hD).2.2).1
theorem MarksAt.ne (h : MarksAt B C Ds w) {g : Nat} {t : TypeId} {cs : Array Value} (hb : Blk w g t cs) {D : Nat} (hD : D ∈ Ds) : D ≠ g := fun e => by
  have h1 := (h.all D hD).2.2
  rw [e] at h1
  unfold Blk at hb
  rw [hb] at h1
  cases h1
theorem MarksAt.keep {S : Nat → Prop} (h : MarksAt B C Ds w) (hk : Keep S w w') (hS : ∀ D ∈ Ds, S D) : MarksAt B C Ds w' :=
  ⟨h.once, fun D hD => ⟨(h.all D hD).1, (h.all D hD).2.1, hk.obj (h.all D hD).2.2 (hS D hD)⟩⟩
theorem MarksAt.to {C' : Nat → Prop} (h : MarksAt B C Ds w) (hC : ∀ D ∈ Ds, C' D → C D) : MarksAt B C' Ds w := ⟨h.once, fun D hD => ⟨(h.all D hD).1, fun c => (h.all D hD).2.1 (hC D hD c), (h.all D hD).2.2⟩⟩
theorem MarksAt.cons (h : MarksAt B C Ds w) {D : Nat} (h1 : B ≤ D) (h2 : ¬ C D) (h3 : w.heap[D]? = some (.deferred (some []))) (h4 : D ∉ Ds) : MarksAt B C (D :: Ds) w :=
  ⟨List.nodup_cons.2 ⟨h4, h.once⟩, fun E hE => by
    rcases List.mem_cons.1 hE with rfl | hE
    · exact ⟨h1, h2, h3⟩
    · exact h.all E hE⟩
end
/-- A function leaves, mark by mark. -/
theorem leaves_marks {F : Fence} {n : Nat} {P : Program} {fn : Func} {tmps : Array Value} {R : Ending → World → Prop} {B : Nat} {C : Nat → Prop} : ∀ (Ds : List Nat) (w : World), MarksAt B C Ds w →
    (∀ w', Keep (fun k => k ∉ Ds) w w' → LeavesIn F n P fn tmps R [] .returning w') → LeavesInM F n P fn tmps R (Ds.map mkMark) .returning w
  | [], w, _, h => h w (Keep.refl _ _)
  | D :: Ds, w, hm, h => by
    have h1 := hm.all D (.head _)
    have hnd := List.nodup_cons.1 hm.once
    have hk : Keep (fun k => k ≠ D) w (w.putObj D (.deferred none)) := (Keep.refl _ w).put (.inr fun e => e rfl) _
    refine ⟨by simp, .inl ⟨D, w.putObj D (.deferred none), rfl, run_takeDeferred h1.2.2, ?_⟩⟩
    refine leaves_marks Ds _ (MarksAt.keep ⟨hnd.2, fun E hE => hm.all E (.tail _ hE)⟩ hk fun E hE e => hnd.1 (e ▸ hE)) fun w' hk' => h w' ?_
    exact (hk.mono fun k _ hk => fun e => hk (e ▸ .head _)).trans (hk'.mono fun k _ hk => fun e => hk (.tail _ e))

theorem range_box {n : Nat} {P : Program} {g : Operand} {ps : Array Tmp} {assign body : Code} {Q : Exit → Act → World → Prop} {a : Act} {w : World} (jm : Option Nat) (h1 : 1 ≤ n) {gf : Nat} {lb : Array Value} (hg : a.eval g = .func (.func gf) #[] lb)
    (eg : ∀ args w, (callFunc gf args).run P w = .ok (.enter gf args) w) {α : Type} {enc : α → Value} {Ok End : List α → Prop} {S : Nat → Prop} {w1 : World} (hseq : OneSeq (n - 1) P gf lb enc Ok End S w1) (hb : Keep S w1 w) (hS : ∀ k, S k → k < w.heap.size)
    (cells : α → Array Value) (te : TypeId) (q r : Nat) (hps : ps = #[q])
    (I : List α → (Nat → Prop) → World → Prop) (Ix : World → Prop) (C0 : Nat → Prop) (hC0 : ∀ k, C0 k → ¬ S k ∧ k < w.heap.size) (h0 : I [] C0 w)
    (hI : ∀ cs C X Y, I cs C X → Keep (fun k => k < w.heap.size ∨ C k) X Y → I cs C Y) (hIx : ∀ X Y, Ix X → Keep (fun k => k < w.heap.size) X Y → Ix Y)
    (hassign : ∀ (l : Nat) (c : α) (W : World) (K : Act → World → Prop), K { tmps := (a.tmps.setIfInBounds q (enc c)).setIfInBounds r (.pointer (some ⟨W.heap.size, 0, none⟩)), defers := [] } (W.alloc (.cells (cells c) te)) →
      assign.wpIn (Fence.wide.inRound l) (n - 1) P (Exit.then K (fun _ _ _ => False)) { tmps := a.tmps.setIfInBounds q (enc c), defers := [] } W)
    (hbody : ∀ (l : Nat) (cs : List α) (c : α) (C : Nat → Prop) (Bx : Nat) (X : World), I cs C X → Ok (cs ++ [c]) → (∀ k, C k → ¬ S k ∧ k < X.heap.size) → w.heap.size ≤ X.heap.size → w.heap.size ≤ Bx → Blk X Bx te (cells c) →
      body.wpIn (Fence.wide.inRound l) (n - 1) P (OnePost jm w.heap.size C I Ix (cs ++ [c]) X) { tmps := (a.tmps.setIfInBounds q (enc c)).setIfInBounds r (.pointer (some ⟨Bx, 0, none⟩)), defers := [] } X)
    (hdone : ∀ (cs : List α) (C : Nat → Prop) (D : Nat) (W : World), w.heap.size ≤ D → End cs → I cs C W → W.heap[D]? = some (.deferred (some [])) → Q .normal { a with defers := mkMark D :: a.defers } W)
    (hstop : ∀ (D : Nat) (W : World), w.heap.size ≤ D → Ix W → W.heap[D]? = some (.deferred (some [])) → (jumpC jm).wpIn Fence.wide n P Q { a with defers := mkMark D :: a.defers } W) :
    (Code.rangeFunc g ps assign body).wpIn Fence.wide n P Q a w := by
  subst hps
  refine range_ones jm h1 hg eg hseq hb hS rfl I Ix C0 hC0 h0 hI hIx
    (fun c a' X => ∃ Bx, w.heap.size ≤ Bx ∧ Blk X Bx te (cells c) ∧ a' = { tmps := (a.tmps.setIfInBounds q (enc c)).setIfInBounds r (.pointer (some ⟨Bx, 0, none⟩)), defers := [] }) ?_ ?_ ?_ hdone hstop
  · rintro c a' X Y l o ⟨Bx, h2, h3, h4⟩ hl hk
    refine ⟨Bx, h2, hk.blk h3 fun e => ?_, h4⟩
    unfold Blk at h3
    rw [← e, h3] at hl
    cases hl
  · intro l cs c C W K _ hsz hK
    have e : (Array.zip #[q] #[enc c]).foldl (fun t (x : Tmp × Value) => match x with | (p, v) => t.setIfInBounds p v) a.tmps = a.tmps.setIfInBounds q (enc c) := by simp
    rw [e]
    exact hassign l c W K (hK _ _ ((Below.refl _ _).alloc (Nat.le_refl _) _) ⟨W.heap.size, hsz, Blk.new W _ _, rfl⟩)
  · rintro l cs c C a' X hi hok hC hsz ⟨Bx, h2, h3, rfl⟩
    exact hbody l cs c C Bx X hi hok hC hsz h2 h3
theorem range_val {n : Nat} {P : Program} {g : Operand} {ps : Array Tmp} {assign body : Code} {Q : Exit → Act → World → Prop} {a : Act} {w : World} (jm : Option Nat) (h1 : 1 ≤ n) {gf : Nat} {lb : Array Value} (hg : a.eval g = .func (.func gf) #[] lb)
    (eg : ∀ args w, (callFunc gf args).run P w = .ok (.enter gf args) w) {α : Type} {enc : α → Value} {Ok End : List α → Prop} {S : Nat → Prop} {w1 : World} (hseq : OneSeq (n - 1) P gf lb enc Ok End S w1) (hb : Keep S w1 w) (hS : ∀ k, S k → k < w.heap.size)
    (q r : Nat) (hps : ps = #[q])
    (I : List α → (Nat → Prop) → World → Prop) (Ix : World → Prop) (C0 : Nat → Prop) (hC0 : ∀ k, C0 k → ¬ S k ∧ k < w.heap.size) (h0 : I [] C0 w)
    (hI : ∀ cs C X Y, I cs C X → Keep (fun k => k < w.heap.size ∨ C k) X Y → I cs C Y) (hIx : ∀ X Y, Ix X → Keep (fun k => k < w.heap.size) X Y → Ix Y)
    (hassign : ∀ (l : Nat) (c : α) (W : World) (K : Act → World → Prop), K { tmps := (a.tmps.setIfInBounds q (enc c)).setIfInBounds r (enc c), defers := [] } W →
      assign.wpIn (Fence.wide.inRound l) (n - 1) P (Exit.then K (fun _ _ _ => False)) { tmps := a.tmps.setIfInBounds q (enc c), defers := [] } W)
    (hbody : ∀ (l : Nat) (cs : List α) (c : α) (C : Nat → Prop) (X : World), I cs C X → Ok (cs ++ [c]) → (∀ k, C k → ¬ S k ∧ k < X.heap.size) → w.heap.size ≤ X.heap.size →
      body.wpIn (Fence.wide.inRound l) (n - 1) P (OnePost jm w.heap.size C I Ix (cs ++ [c]) X) { tmps := (a.tmps.setIfInBounds q (enc c)).setIfInBounds r (enc c), defers := [] } X)
    (hdone : ∀ (cs : List α) (C : Nat → Prop) (D : Nat) (W : World), w.heap.size ≤ D → End cs → I cs C W → W.heap[D]? = some (.deferred (some [])) → Q .normal { a with defers := mkMark D :: a.defers } W)
    (hstop : ∀ (D : Nat) (W : World), w.heap.size ≤ D → Ix W → W.heap[D]? = some (.deferred (some [])) → (jumpC jm).wpIn Fence.wide n P Q { a with defers := mkMark D :: a.defers } W) :
    (Code.rangeFunc g ps assign body).wpIn Fence.wide n P Q a w := by
  subst hps
  refine range_ones jm h1 hg eg hseq hb hS rfl I Ix C0 hC0 h0 hI hIx
    (fun c a' _ => a' = { tmps := (a.tmps.setIfInBounds q (enc c)).setIfInBounds r (enc c), defers := [] }) ?_ ?_ ?_ hdone hstop
  · intro c a' X Y l o h _ _
    exact h
  · intro l cs c C W K _ _ hK
    have e : (Array.zip #[q] #[enc c]).foldl (fun t (x : Tmp × Value) => match x with | (p, v) => t.setIfInBounds p v) a.tmps = a.tmps.setIfInBounds q (enc c) := by simp
    rw [e]
    exact hassign l c W K (hK _ _ (Below.refl _ _) rfl)
  · rintro l cs c C a' X hi hok hC hsz rfl
    exact hbody l cs c C X hi hok hC hsz
end Go.Proofs.YtgbpaiffnhpafaaDoor
namespace Go.Proofs.YtgbpaiffnhpafaaDoor
open Go.RowKit Go.Shelf

/-- A function that tells values, several at once, one by one, whatever it is asked by: S are the blocks that it reads, C those that who asks may turn; Ok: what may be told, End: what is told at the end. -/
def TwoSeq {α : Type} (n : Nat) (P : Program) (gf : Nat) (lb : Array Value) (enc : α → Array Value) (Ok : List α → World → Prop) (End : List α → Prop) (S : Nat → Prop) (w1 : World) : Prop :=
  ∀ (l : Nat) (J : List α → (Nat → Prop) → World → Prop) (Jx : World → Prop) (C0 : Nat → Prop) (W : World),
    Keep S w1 W → (∀ k, C0 k → ¬ S k ∧ k < W.heap.size) →
    (∀ cs C X Y, J cs C X → Keep (fun k => k < W.heap.size ∨ C k) X Y → J cs C Y) → (∀ X Y, Jx X → Below X.heap.size X Y → Jx Y) →
    (∀ cs c C X, J cs C X → Ok (cs ++ [c]) X → (∀ k, C k → ¬ S k ∧ k < X.heap.size) → W.heap.size ≤ X.heap.size →
      YieldAt Fence.wide n P l (enc c) X fun e X' => (∃ C' : Nat → Prop, (∀ k, C' k → k < X'.heap.size ∧ (C k ∨ X.heap.size ≤ k)) ∧ Keep (fun k => ¬ C k) X X' ∧ e = .returned (.bool true) ∧ J (cs ++ [c]) C' X') ∨
        (e = .returned (.bool false) ∧ Keep (fun k => W.heap.size ≤ k ∧ ¬ C k) X X' ∧ Jx X')) →
    J [] C0 W →
    CallsIn Fence.wide n P gf (#[.func (.yield l) #[] #[]] ++ lb) W fun e X => (∃ v, e = .returned v) ∧ ((∃ cs C, End cs ∧ J cs C X) ∨ Jx X)

theorem range_twos {n : Nat} {P : Program} {g : Operand} {ps : Array Tmp} {assign body : Code} {Q : Exit → Act → World → Prop} {a : Act} {w : World} (jm : Option Nat) (h1 : 1 ≤ n) {gf : Nat} {lb : Array Value} (hg : a.eval g = .func (.func gf) #[] lb)
    (eg : ∀ args w, (callFunc gf args).run P w = .ok (.enter gf args) w) {α : Type} {enc : α → Array Value} {Ok : List α → World → Prop} {End : List α → Prop} {S : Nat → Prop} {w1 : World} (hseq : TwoSeq (n - 1) P gf lb enc Ok End S w1) (hb : Keep S w1 w) (hS : ∀ k, S k → k < w.heap.size) (hps : ∀ c, ps.size = (enc c).size)
    (hOk0 : ∀ cs X Y, Ok cs X → Below X.heap.size X Y → Ok cs Y) (hOk : ∀ cs X Y (l : Nat) o, Ok cs X → X.heap[l]? = some (.loop o) → Keep (fun k => k ≠ l) X Y → Ok cs Y)
    (I : List α → (Nat → Prop) → World → Prop) (Ix : World → Prop) (C0 : Nat → Prop) (hC0 : ∀ k, C0 k → ¬ S k ∧ k < w.heap.size) (h0 : I [] C0 w)
    (hI : ∀ cs C X Y, I cs C X → Keep (fun k => k < w.heap.size ∨ C k) X Y → I cs C Y) (hIx : ∀ X Y, Ix X → Keep (fun k => k ≠ w.heap.size ∧ k ≠ w.heap.size + 1) X Y → Ix Y)
    (Q1 : α → Act → World → Prop) (hQ1 : ∀ c a' X Y l o, Q1 c a' X → X.heap[l]? = some (.loop o) → Keep (fun k => k ≠ l) X Y → Q1 c a' Y)
    (hassign : ∀ (l : Nat) (cs : List α) (c : α) (C : Nat → Prop) (W : World) (K : Act → World → Prop), I cs C W → w.heap.size ≤ W.heap.size → (∀ a' W', Below W.heap.size W W' → Q1 c a' W' → K a' W') →
      assign.wpIn (Fence.wide.inRound l) (n - 1) P (Exit.then K (fun _ _ _ => False)) { tmps := (ps.zip (enc c)).foldl (fun t (p, v) => t.setIfInBounds p v) a.tmps, defers := [] } W)
    (hbody : ∀ (l : Nat) (cs : List α) (c : α) (C : Nat → Prop) (a' : Act) (X : World), I cs C X → Ok (cs ++ [c]) X → (∀ k, C k → ¬ S k ∧ k < X.heap.size) → w.heap.size ≤ X.heap.size → ((∃ o, X.heap[w.heap.size + 1]? = some (.loop o)) ∧ X.heap[w.heap.size]? = some (.deferred (some []))) → Q1 c a' X →
      body.wpIn (Fence.wide.inRound l) (n - 1) P (OnePost jm w.heap.size C I Ix (cs ++ [c]) X) a' X)
    (hdone : ∀ (cs : List α) (C : Nat → Prop) (D : Nat) (W : World), w.heap.size ≤ D → End cs → I cs C W → W.heap[D]? = some (.deferred (some [])) → Q .normal { a with defers := { target := .collected D, args := #[] } :: a.defers } W)
    (hstop : ∀ (D : Nat) (W : World), w.heap.size ≤ D → Ix W → W.heap[D]? = some (.deferred (some [])) → (jumpC jm).wpIn Fence.wide n P Q { a with defers := { target := .collected D, args := #[] } :: a.defers } W) :
    (Code.rangeFunc g ps assign body).wpIn Fence.wide n P Q a w := by
  refine wpIn_rangeFunc fun fn hfn => ?_
  rw [show Fence.wide.round = none from rfl]
  obtain ⟨rec, hrec⟩ : ∃ rec : LoopState → Option Code → Loop, rec = fun st pe => { state := st, pending := pe, fn, tmps := a.tmps, params := ps, assign, body, defers := w.heap.size } := ⟨_, rfl⟩
  obtain ⟨W1, hW1⟩ : ∃ W1, (w.alloc (.deferred (some []))).alloc (.loop (rec .ready none)) = W1 := ⟨_, rfl⟩
  have hL1 : W1.heap[w.heap.size + 1]? = some (.loop (rec .ready none)) := by
    rw [← hW1]; have := World.alloc_heap_new (w.alloc (.deferred (some []))) (.loop (rec .ready none)); rwa [World.size_alloc] at this
  have hK1 : W1.heap[w.heap.size]? = some (.deferred (some [])) := by
    rw [← hW1]; exact (Below.heap_alloc _ _ _ (by simp)).trans (World.alloc_heap_new w _)
  have hsz1 : W1.heap.size = w.heap.size + 2 := by rw [← hW1]; simp
  have hkw : Keep (fun k => k < w.heap.size ∨ C0 k) w W1 := by rw [← hW1]; exact ((Keep.refl _ w).alloc _).alloc _
  have hI1 : I [] C0 W1 := hI _ _ _ _ h0 hkw
  have hb1 : Keep S w1 W1 := by
    rw [← hW1]; exact (hb.alloc _).alloc _
  refine ⟨w.heap.size + 1, [{ target := .collected w.heap.size, args := #[] }], W1, { target := .fn (.func gf) lb, args := #[.func (.yield (w.heap.size + 1)) #[] #[]] }, W1, gf,
    #[.func (.yield (w.heap.size + 1)) #[] #[]] ++ lb, W1, ?_, ?_, ?_, ?_, fun _ => h1, ?_⟩
  · rw [← hW1, hrec]; exact run_enterLoop_outer _ _ _ _ _
  · simp only [resolve, hg]
    simp [go_sem]
  · intro f' hf'; trivial
  · simp [invoke, go_sem, eg]
  · refine (hseq (w.heap.size + 1)
      (fun cs C2 W => ∃ C : Nat → Prop, C2 = (fun k => C k ∨ k = w.heap.size ∨ k = w.heap.size + 1) ∧ I cs C W ∧ ¬ C w.heap.size ∧ ¬ C (w.heap.size + 1) ∧ W.heap[w.heap.size + 1]? = some (.loop (rec .ready none)) ∧ W.heap[w.heap.size]? = some (.deferred (some [])))
      (fun W => Ix W ∧ W.heap[w.heap.size + 1]? = some (.loop (rec .done (some (jumpC jm)))) ∧ W.heap[w.heap.size]? = some (.deferred (some [])))
      (fun k => C0 k ∨ k = w.heap.size ∨ k = w.heap.size + 1) W1 hb1 ?_ ?_ ?_ ?_ ⟨C0, rfl, hI1, fun h => by have := (hC0 _ h).2; omega, fun h => by have := (hC0 _ h).2; omega, hL1, hK1⟩).mono ?_
    · rintro k (h | rfl | rfl)
      · have := hC0 k h; exact ⟨this.1, by omega⟩
      · exact ⟨fun h => by have := hS _ h; omega, by omega⟩
      · exact ⟨fun h => by have := hS _ h; omega, by omega⟩
    · rintro cs C2 X Y ⟨C, rfl, hi, n1, n2, hl, hk⟩ hkeep
      exact ⟨C, rfl, hI _ _ _ _ hi (hkeep.mono fun k _ hk => by
        rcases hk with hk | hk
        · exact .inl (by omega)
        · exact .inr (.inl hk)), n1, n2, hkeep.obj hl (.inr (.inr (.inr rfl))), hkeep.obj hk (.inr (.inr (.inl rfl)))⟩
    · rintro X Y ⟨hi, hl, hk⟩ hbel
      exact ⟨hIx _ _ hi (Keep.of_all _ hbel), (Keep.of_all (fun _ => True) hbel).obj hl trivial, (Keep.of_all (fun _ => True) hbel).obj hk trivial⟩
    · rintro cs c C2 W0 ⟨C, rfl, hi0, n1, n2, hl0, hk0⟩ hpi hCk0 hsz0
      have hlt0 : w.heap.size + 1 < W0.heap.size := (Array.getElem?_eq_some_iff.1 hl0).1
      have hy := run_yield (P := P) (args := (enc c)) hl0 (by rw [hrec]; exact (hps c).symm)
      rw [hrec] at hy
      refine ⟨fn, _, assign, body, hy, roundIn_of_wpIn hfn (hassign _ cs c C W0 _ hi0 (Nat.le_trans (by omega) hsz0) ?_)⟩
      clear hy
      intro a' W hb0 hq0
      have hk00 : Keep (fun _ => True) W0 W := Keep.of_all _ hb0
      have hl := hk00.obj hl0 trivial
      have hk := hk00.obj hk0 trivial
      have hi := hI _ _ _ _ hi0 (Keep.of_all _ hb0)
      have hsz := Nat.le_trans hsz0 hb0.size
      have hCk : ∀ k, (C k ∨ k = w.heap.size ∨ k = w.heap.size + 1) → ¬ S k ∧ k < W.heap.size := fun k h => ⟨(hCk0 k h).1, Nat.lt_of_lt_of_le (hCk0 k h).2 hb0.size⟩
      have hlt : w.heap.size + 1 < W.heap.size := Nat.lt_of_lt_of_le hlt0 hb0.size
      refine ⟨_, run_beginRound hl (by rw [hrec]), ?_⟩
      have hl2 : (W.putObj (w.heap.size + 1) (.loop { rec .ready none with state := .busy })).heap[w.heap.size + 1]? = some (.loop { rec .ready none with state := .busy }) := World.putObj_heap_same hlt
      have hk2 : (W.putObj (w.heap.size + 1) (.loop { rec .ready none with state := .busy })).heap[w.heap.size]? = some (.deferred (some [])) := (World.putObj_heap_other (by omega)).trans hk
      have hkeep2 : Keep (fun k => ¬ (C k ∨ k = w.heap.size ∨ k = w.heap.size + 1)) W (W.putObj (w.heap.size + 1) (.loop { rec .ready none with state := .busy })) := (Keep.refl _ W).put (.inr fun h => h (.inr (.inr rfl))) _
      have hi2 : I cs C (W.putObj (w.heap.size + 1) (.loop { rec .ready none with state := .busy })) := hI _ _ _ _ hi ((Keep.refl _ W).put (.inr fun h => by
        rcases h with h | h
        · omega
        · exact n2 h) _)
      have hsz2 : (W.putObj (w.heap.size + 1) (.loop { rec .ready none with state := .busy })).heap.size = W.heap.size := by simp [World.putObj]
      refine wpIn_mono (hbody _ cs c C a' _ hi2 (hOk _ _ _ _ _ (hOk0 _ _ _ hpi hb0) hl ((Keep.refl _ W).put (.inr fun h => h rfl) _)) (fun k hk => by rw [hsz2]; exact hCk k (.inl hk)) (by rw [hsz2]; omega) ⟨⟨_, hl2⟩, hk2⟩ (hQ1 _ _ _ _ _ _ hq0 hl ((Keep.refl _ W).put (.inr fun h => h rfl) _))) ?_
      rintro e a3 W3 (⟨C', hC', hk3, rfl, hi3⟩ | ⟨he, hk3, hi3⟩)
      · rw [hsz2] at hC'
        have hs0 := hb0.size
        have hl3 := hk3.obj hl2 n2
        have hD3 := hk3.obj hk2 n1
        have hk4 : Keep (fun k => ¬ (C k ∨ k = w.heap.size ∨ k = w.heap.size + 1)) W0 W3 := ((Keep.of_all _ hb0).trans hkeep2).trans (hk3.mono fun k _ h h2 => h (.inl h2))
        have n3 : ¬ C' w.heap.size := fun h => by
          rcases (hC' _ h).2 with h | h
          · exact n1 h
          · omega
        have n4 : ¬ C' (w.heap.size + 1) := fun h => by
          rcases (hC' _ h).2 with h | h
          · exact n2 h
          · omega
        have hr := run_endRound (P := P) none hl3
        refine ⟨_, _, hr, .inl ⟨(fun k => C' k ∨ k = w.heap.size ∨ k = w.heap.size + 1), fun k hk => ?_, hk4.put (.inr fun h => h (.inr (.inr rfl))) _, rfl, C', rfl, hI _ _ _ _ hi3 ((Keep.refl _ W3).put (.inr fun h => ?_) _), n3, n4, ?_, ?_⟩⟩
        · have hs3 := hk4.size
          simp only [World.putObj, Array.size_setIfInBounds]
          rcases hk with hk | rfl | rfl
          · have := hC' k hk
            exact ⟨this.1, this.2.elim (fun h => .inl (.inl h)) (fun h => .inr (by omega))⟩
          · exact ⟨by omega, .inl (.inr (.inl rfl))⟩
          · exact ⟨by omega, .inl (.inr (.inr rfl))⟩
        · rcases h with h | h
          · omega
          · exact n4 h
        · rw [World.putObj_heap_same (Array.getElem?_eq_some_iff.1 hl3).1, hrec]
          rfl
        · exact (World.putObj_heap_other (by omega)).trans hD3
      · have hl3 := hk3.obj hl2 ⟨Nat.le_succ _, n2⟩
        have hD3 := hk3.obj hk2 ⟨Nat.le_refl _, n1⟩
        have hr := run_endRound (P := P) (some (jumpC jm)) hl3
        have hk5 : Keep (fun k => W1.heap.size ≤ k ∧ ¬ (C k ∨ k = w.heap.size ∨ k = w.heap.size + 1)) W0 W3 := ((Keep.of_all _ hb0).trans (hkeep2.mono fun k _ h => h.2)).trans (hk3.mono fun k _ h => ⟨by omega, fun c => h.2 (.inl c)⟩)
        cases jm with
        | none =>
          obtain rfl : e = .ret := he
          refine ⟨_, _, hr, .inr ⟨rfl, hk5.put (.inr fun h => h.2 (.inr (.inr rfl))) _, hIx _ _ hi3 ((Keep.refl _ W3).put (.inr fun h => h.2 rfl) _), ?_, ?_⟩⟩
          · rw [World.putObj_heap_same (Array.getElem?_eq_some_iff.1 hl3).1, hrec]
            rfl
          · exact (World.putObj_heap_other (by omega)).trans hD3
        | some i =>
          obtain rfl : e = .exit i := he
          refine ⟨_, _, hr, .inr ⟨rfl, hk5.put (.inr fun h => h.2 (.inr (.inr rfl))) _, hIx _ _ hi3 ((Keep.refl _ W3).put (.inr fun h => h.2 rfl) _), ?_, ?_⟩⟩
          · rw [World.putObj_heap_same (Array.getElem?_eq_some_iff.1 hl3).1, hrec]
            rfl
          · exact (World.putObj_heap_other (by omega)).trans hD3
    · rintro e W2 ⟨⟨v, rfl⟩, (⟨cs, _, hall, C, rfl, hi, n1, n2, hl, hk⟩ | ⟨hi, hl, hk⟩)⟩
      · refine ⟨none, _, by have := run_endLoop (P := P) hl (by rw [hrec]; simp); rw [hrec] at this; exact this, hdone cs C _ _ (Nat.le_refl _) hall (hI _ _ _ _ hi ((Keep.refl _ W2).put (.inr fun h => ?_) _)) ((World.putObj_heap_other (by omega)).trans hk)⟩
        rcases h with h | h
        · omega
        · exact n2 h
      · exact ⟨some (jumpC jm), _, by have := run_endLoop (P := P) hl (by rw [hrec]; simp); rw [hrec] at this; exact this, hstop _ _ (Nat.le_refl _) (hIx _ _ hi ((Keep.refl _ W2).put (.inr fun h => h.2 rfl) _)) ((World.putObj_heap_other (by omega)).trans hk)⟩

theorem range_pair {n : Nat} {P : Program} {g : Operand} {ps : Array Tmp} {assign body : Code} {Q : Exit → Act → World → Prop} {a : Act} {w : World} (jm : Option Nat) (h1 : 1 ≤ n) {gf : Nat} {lb : Array Value} (hg : a.eval g = .func (.func gf) #[] lb)
    (eg : ∀ args w, (callFunc gf args).run P w = .ok (.enter gf args) w) {α : Type} {ex ey : α → Value} {Ok : List α → World → Prop} {End : List α → Prop} {S : Nat → Prop} {w1 : World} (hseq : TwoSeq (n - 1) P gf lb (fun c => #[ex c, ey c]) Ok End S w1) (hb : Keep S w1 w) (hS : ∀ k, S k → k < w.heap.size)
    (q1 q2 r1 r2 : Nat) (hps : ps = #[q1, q2]) (hOk0 : ∀ cs X Y, Ok cs X → Below X.heap.size X Y → Ok cs Y) (hOk : ∀ cs X Y (l : Nat) o, Ok cs X → X.heap[l]? = some (.loop o) → Keep (fun k => k ≠ l) X Y → Ok cs Y)
    (I : List α → (Nat → Prop) → World → Prop) (Ix : World → Prop) (C0 : Nat → Prop) (hC0 : ∀ k, C0 k → ¬ S k ∧ k < w.heap.size) (h0 : I [] C0 w)
    (hI : ∀ cs C X Y, I cs C X → Keep (fun k => k < w.heap.size ∨ C k) X Y → I cs C Y) (hIx : ∀ X Y, Ix X → Keep (fun k => k ≠ w.heap.size ∧ k ≠ w.heap.size + 1) X Y → Ix Y)
    (hassign : ∀ (l : Nat) (c : α) (W : World) (K : Act → World → Prop), K { tmps := (((a.tmps.setIfInBounds q1 (ex c)).setIfInBounds q2 (ey c)).setIfInBounds r1 (ex c)).setIfInBounds r2 (ey c), defers := [] } W →
      assign.wpIn (Fence.wide.inRound l) (n - 1) P (Exit.then K (fun _ _ _ => False)) { tmps := (a.tmps.setIfInBounds q1 (ex c)).setIfInBounds q2 (ey c), defers := [] } W)
    (hbody : ∀ (l : Nat) (cs : List α) (c : α) (C : Nat → Prop) (X : World), I cs C X → Ok (cs ++ [c]) X → (∀ k, C k → ¬ S k ∧ k < X.heap.size) → w.heap.size ≤ X.heap.size → ((∃ o, X.heap[w.heap.size + 1]? = some (.loop o)) ∧ X.heap[w.heap.size]? = some (.deferred (some []))) →
      body.wpIn (Fence.wide.inRound l) (n - 1) P (OnePost jm w.heap.size C I Ix (cs ++ [c]) X) { tmps := (((a.tmps.setIfInBounds q1 (ex c)).setIfInBounds q2 (ey c)).setIfInBounds r1 (ex c)).setIfInBounds r2 (ey c), defers := [] } X)
    (hdone : ∀ (cs : List α) (C : Nat → Prop) (D : Nat) (W : World), w.heap.size ≤ D → End cs → I cs C W → W.heap[D]? = some (.deferred (some [])) → Q .normal { a with defers := mkMark D :: a.defers } W)
    (hstop : ∀ (D : Nat) (W : World), w.heap.size ≤ D → Ix W → W.heap[D]? = some (.deferred (some [])) → (jumpC jm).wpIn Fence.wide n P Q { a with defers := mkMark D :: a.defers } W) :
    (Code.rangeFunc g ps assign body).wpIn Fence.wide n P Q a w := by
  subst hps
  refine range_twos jm h1 hg eg hseq hb hS (fun _ => rfl) hOk0 hOk I Ix C0 hC0 h0 hI hIx
    (fun c a' _ => a' = { tmps := (((a.tmps.setIfInBounds q1 (ex c)).setIfInBounds q2 (ey c)).setIfInBounds r1 (ex c)).setIfInBounds r2 (ey c), defers := [] }) ?_ ?_ ?_ hdone hstop
  · intro c a' X Y l o h _ _
    exact h
  · intro l cs c C W K _ _ hK
    have e : (Array.zip #[q1, q2] #[ex c, ey c]).foldl (fun t (x : Tmp × Value) => match x with | (p, v) => t.setIfInBounds p v) a.tmps = (a.tmps.setIfInBounds q1 (ex c)).setIfInBounds q2 (ey c) := by simp
    rw [e]
    exact hassign l c W K (hK _ _ (Below.refl _ _) rfl)
  · rintro l cs c C a' X hi hok hC hsz hlk rfl
    exact hbody l cs c C X hi hok hC hsz hlk
end Go.Proofs.YtgbpaiffnhpafaaDoor
namespace Go.Proofs.YtgbpaiffnhpafaaDoor
section
variable {zs ys : List Ed} {m : Nat} {x y a b v u : Int} {l o p q r : List Int}
/-- Of a shortest way each beginning is a shortest one. -/
theorem LW.far {R : Int → Int → Prop} (h : LW R a l b) {i : Nat} {x : Int} (hx : l[i]? = some x) : FarAt R a x (i : Int) := by
  obtain ⟨p1, p2, h1, h2, h3⟩ := h.1.at_ (List.mem_of_getElem? hx)
  have hi : i = p1.length := by
    have h4 : l[p1.length]? = some x := by rw [h3, List.getElem?_append_right (Nat.le_refl _), Nat.sub_self]; rfl
    exact (List.getElem?_inj (List.getElem?_eq_some_iff.1 hx).1 h.nodup).1 (hx.trans h4.symm)
  subst hi
  refine .inr ⟨⟨_, h1, by simp⟩, fun s hs => ?_⟩
  have h5 := sle_len (h.2 _ (hs.append h2))
  rw [h3] at h5
  simp at h5
  omega
/-- No edge leads over two waves. -/
theorem FarL.edge {R : Int → Int → Prop} {d e : Int} (hd : FarAt R a x d) (he : FarAt R a y e) (hr : R x y) (h0 : 0 ≤ d) : 0 ≤ e ∧ e ≤ d + 1 := by
  obtain ⟨s, h1, h2⟩ := hd.way h0
  have := he.le (h1.more hr)
  simp at this
  omega
theorem LW.more_ {R S : Int → Int → Prop} (hs : ∀ x y, R x y → S x y) (h : LW R a p b) (k : LW S a q b) : q.length ≤ p.length := sle_len (k.2 _ (h.1.mono hs))
theorem BestIs.more_ {E F : Int → Int → Prop} (hs : ∀ x y, E x y → F x y) (h : BestIs E m p) (k : BestIs F m q) (hp : p ≠ []) : q ≠ [] ∧ q.length ≤ p.length := by
  rcases h with ⟨h, _⟩ | ⟨_, v, h1, h2, _⟩
  · exact absurd h hp
  · have hc : Cw (To F (v : Int)) F (v : Int) p := h2.1.mono (fun _ _ h => ⟨hs _ _ h.1, h.2⟩) hs
    rcases k with ⟨_, k⟩ | ⟨k0, _, _, _, k3, _⟩
    · exact absurd hc (k v h1 p)
    · exact ⟨k0, k3 v h1 p hc⟩
theorem Cw.pos {R S : Int → Int → Prop} (h : Cw R S v p) : p ≠ [] := by
  obtain ⟨u, h1, _⟩ := h
  intro e
  have := h1.pos
  rw [e] at this
  simp at this
/-- A round is a cycle, once it begins with its least node. -/
theorem Cw.isC (hz : ∀ p ∈ zs, rightE (m : Int) p = true) (hv : 0 ≤ v ∧ v < (m : Int)) (h : Cw (EdR zs) (EdR zs) v p) (hn : p.Nodup) (hl : ∀ x ∈ p, v ≤ x) : IsC zs m p := by
  obtain ⟨u, h1, h2⟩ := h
  have hd := h1.headD
  refine ⟨h1.isW hz hv hn, ?_, by rw [hd]; exact hl, by rw [hd, h1.end_]; exact h2⟩
  rcases h1.unmore with ⟨_, rfl⟩ | ⟨b, q, h3, _, rfl⟩
  · exact absurd h2 (EdR.irr hz u)
  · have := h3.pos
    simp
    omega
theorem Cw.least_ (h : Cw (To (EdR zs) v) (EdR zs) v p) : ∀ x ∈ p, v ≤ x := by
  obtain ⟨u, h1, h2⟩ := h
  intro x hx
  rcases h1.into (S := To (EdR zs) v) (fun _ _ h => h) x hx with rfl | ⟨y, hy⟩
  · exact Int.le_refl _
  · exact hy.2
theorem Cw.to_all (h : Cw (To (EdR zs) u) (EdR zs) v p) : Cw (EdR zs) (EdR zs) v p := h.mono (fun _ _ h => h.1) fun _ _ h => h
theorem Cw.above_ (h : Cw (EdR zs) (EdR zs) v p) (hl : ∀ x ∈ p, v ≤ x) : Cw (To (EdR zs) v) (EdR zs) v p := by
  obtain ⟨u, h1, h2⟩ := h
  refine ⟨u, ?_, h2⟩
  clear h2
  induction h1 with
  | one => exact .one
  | more h hr ih => exact .more (ih fun x hx => hl x (List.mem_append_left _ hx)) ⟨hr, hl _ (by simp)⟩
theorem LC.pure (hv : 0 ≤ v ∧ v < (m : Int)) (hz : ∀ p ∈ zs, rightE (m : Int) p = true) (h : LC (To (EdR zs) v) (EdR zs) v p) : IsC zs m p := h.1.to_all.isC hz hv h.nodup h.1.least_
theorem BestIs.isC (hz : ∀ p ∈ zs, rightE (m : Int) p = true) (h : BestIs (EdR zs) m l) (hl : l ≠ []) : IsC zs m l := by
  rcases h with ⟨h, _⟩ | ⟨_, v, h1, h2, _⟩
  · exact absurd h hl
  · exact LC.pure ⟨by omega, by omega⟩ hz h2
/-- From its least node on. -/
theorem Cw.down (hz : ∀ p ∈ zs, rightE (m : Int) p = true) (hv : 0 ≤ v ∧ v < (m : Int)) (h : Cw (EdR zs) (EdR zs) v p) : ∃ (k : Nat) (x : Nat) (q1 q2 : List Int), x < m ∧ p = q1 ++ q2 ∧ q2 ≠ [] ∧ q1.length = k ∧ Cw (To (EdR zs) (x : Int)) (EdR zs) (x : Int) (q2 ++ q1) := by
  obtain ⟨x, hx, hm⟩ : ∃ x ∈ p, ∀ y ∈ p, x ≤ y := by
    have key : ∀ p : List Int, p ≠ [] → ∃ x ∈ p, ∀ y ∈ p, x ≤ y := by
      intro p
      induction p with
      | nil => intro h; exact absurd rfl h
      | cons z p ih =>
        intro _
        by_cases e : p = []
        · subst e; exact ⟨z, by simp, fun y hy => by simp at hy; omega⟩
        · obtain ⟨x, hx, hm⟩ := ih e
          by_cases hzx : z ≤ x
          · exact ⟨z, by simp, fun y hy => by
              rcases List.mem_cons.1 hy with rfl | hy
              · exact Int.le_refl _
              · have := hm y hy; omega⟩
          · exact ⟨x, by simp [hx], fun y hy => by
              rcases List.mem_cons.1 hy with rfl | hy
              · omega
              · exact hm y hy⟩
    exact key p h.pos
  have hn : 0 ≤ x ∧ x < (m : Int) := by
    obtain ⟨u, h1, _⟩ := h
    exact h1.nodes (EdR.in_ hz) hv x hx
  obtain ⟨q1, q2, rfl, h1, h2⟩ := h.turn hx
  refine ⟨q1.length, x.toNat, q1, q2, by omega, rfl, h2, rfl, ?_⟩
  rw [Int.toNat_of_nonneg hn.1]
  exact h1.above_ fun y hy => hm y (by simp only [List.mem_append] at hy ⊢; exact hy.symm)
theorem BestIs.lost (hz : ∀ p ∈ zs, rightE (m : Int) p = true) (h : BestIs (EdR zs) m []) (hv : 0 ≤ v ∧ v < (m : Int)) : ¬ Cw (EdR zs) (EdR zs) v p := by
  intro hc
  obtain ⟨_, x, q1, q2, hx, _, _, _, h1⟩ := hc.down hz hv
  rcases h with ⟨_, h⟩ | ⟨h, _⟩
  · exact h x hx _ h1
  · exact h rfl
theorem leads_round : Leads zs v v ↔ ∃ r, Cw (EdR zs) (EdR zs) v r := by
  constructor
  · intro h
    obtain ⟨e, he, h1, h2⟩ : ∃ e ∈ zs, (v = e.1 ∨ Leads zs v e.1) ∧ e.2.1 = v := by
      cases h with
      | one hp hu => exact ⟨_, hp, .inl hu.symm, rfl⟩
      | more h hp => exact ⟨_, hp, .inr h, rfl⟩
    obtain ⟨r, hr⟩ := star_iff.2 h1
    exact ⟨r, e.1, hr, e, he, rfl, h2⟩
  · rintro ⟨r, u, h1, ⟨e, he, h2, h3⟩⟩
    subst h2
    have := star_iff.1 ⟨r, h1⟩
    rcases this with h4 | h4
    · have := Leads.one (zs := zs) (u := v) he h4.symm
      rwa [h3] at this
    · have := Leads.more h4 he
      rwa [h3] at this
theorem BestIs.cyclic (hz : ∀ p ∈ zs, rightE (m : Int) p = true) (h : BestIs (EdR zs) m l) : l ≠ [] ↔ ∃ v : Nat, Leads zs (v : Int) (v : Int) := by
  constructor
  · intro hl
    rcases h with ⟨h, _⟩ | ⟨_, v, h1, h2, _⟩
    · exact absurd h hl
    · exact ⟨v, leads_round.2 ⟨_, h2.1.to_all⟩⟩
  · rintro ⟨v, hv⟩ rfl
    have hn : (0 : Int) ≤ (v : Int) ∧ (v : Int) < (m : Int) := by
      obtain ⟨e, he, h1, _⟩ := hv.first
      have := of_decide_eq_true (hz e he)
      omega
    obtain ⟨r, hr⟩ := leads_round.1 hv
    exact h.lost hz hn hr
theorem ThrIs.best (hz : ∀ p ∈ zs, rightE (m : Int) p = true) (hv : 0 ≤ v ∧ v < (m : Int)) (h : BestIs (EdR zs) m l) (k : ThrIs zs v o) (ho : o ≠ []) : l ≠ [] ∧ l.length ≤ o.length := by
  rcases k with ⟨_, k⟩ | ⟨k, _⟩
  · obtain ⟨_, x, q1, q2, hx, rfl, _, _, h1⟩ := k.1.down hz hv
    rcases h with ⟨_, h⟩ | ⟨h0, _, _, _, h3, _⟩
    · exact absurd h1 (h x hx _)
    · refine ⟨h0, ?_⟩
      have := h3 x hx _ h1
      simp at this ⊢
      omega
  · exact absurd k ho
theorem ThrIs.there (hz : ∀ p ∈ zs, rightE (m : Int) p = true) (h : BestIs (EdR zs) m l) (k : ThrIs zs v o) (hv : v ∈ l) : o ≠ [] ∧ o.length = l.length := by
  have hl : l ≠ [] := fun e => by rw [e] at hv; simp at hv
  have hi := h.isC hz hl
  have hn := hi.way.ends v hv
  have h0 := h
  rcases h with ⟨h, _⟩ | ⟨_, w, h1, h2, _⟩
  · exact absurd h hl
  · obtain ⟨q1, q2, e, h3, h4⟩ := h2.1.to_all.turn hv
    have ho : o ≠ [] := by
      rintro rfl
      rcases k with ⟨k, _⟩ | ⟨_, k⟩
      · exact k rfl
      · exact k _ h3
    refine ⟨ho, ?_⟩
    have hb := k.best hz hn h0 ho
    rcases k with ⟨_, k⟩ | ⟨k, _⟩
    · have := sle_len (k.2 _ h3)
      rw [e] at hb ⊢
      simp at this hb ⊢
      omega
    · exact absurd k ho
/-- What Through tells, from its least node on, is a cycle. -/
theorem ThrIs.turned (hz : ∀ p ∈ zs, rightE (m : Int) p = true) (hv : 0 ≤ v ∧ v < (m : Int)) (k : ThrIs zs v o) (ho : o ≠ []) {i : Nat} {x : Int} (hx : o[i]? = some x) (hm : ∀ y ∈ o, x ≤ y) : IsC zs m (o.drop i ++ o.take i) := by
  rcases k with ⟨_, k⟩ | ⟨k, _⟩
  · have hxo := List.mem_of_getElem? hx
    have hn : 0 ≤ x ∧ x < (m : Int) := by
      obtain ⟨u, h1, _⟩ := k.1
      exact h1.nodes (EdR.in_ hz) hv x hxo
    obtain ⟨q1, q2, e, h3, h4⟩ := k.1.turn hxo
    have hnd := k.nodup
    have hq2 : q2.head? = some x := by
      obtain ⟨u, h1, _⟩ := h3
      have := h1.head
      rw [List.head?_append] at this
      cases q2 with
      | nil => exact absurd rfl h4
      | cons z q2 => simpa using this
    have hi : i = q1.length := by
      have h5 : o[q1.length]? = some x := by rw [e, List.getElem?_append_right (Nat.le_refl _), Nat.sub_self, ← List.head?_eq_getElem?]; exact hq2
      exact (List.getElem?_inj (List.getElem?_eq_some_iff.1 hx).1 hnd).1 (hx.trans h5.symm)
    have hd : o.drop i ++ o.take i = q2 ++ q1 := by rw [e, hi]; simp
    rw [hd]
    refine h3.isC hz hn ?_ fun y hy => hm y (by rw [e]; simp only [List.mem_append] at hy ⊢; exact hy.symm)
    rw [e] at hnd
    exact (List.perm_append_comm.nodup_iff).1 hnd
  · exact absurd k ho
end
end Go.Proofs.YtgbpaiffnhpafaaDoor
