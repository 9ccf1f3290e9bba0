/- Layer bits: the small functions: may, bit, room, word, the joins of two words, how many bits are 1: contracts. -/
import Derived.WalkKit
import Derived.WalkSpells
import Derived.WalkLawsBesides
import Derived.Lib.Hide
import Derived.Laws.CopyOwn
import Derived.BigQuiet
import Derived.Deep.QuietTactic
import Derived.Test.YtgbpaiffnhpafaaDoorM18
import Derived.Test.YtgbpaiffnhpafaaDoorWords
import Derived.IntWalk
import Derived.Laws.BitsAllLaws
-- holds: YtgbpaiffnhpafaaDoorEc YtgbpaiffnhpafaaDoorEd
namespace Go.Proofs.YtgbpaiffnhpafaaDoor.Bit
open Go.RowKit

/-- A slice that reads as cells, apart from the block g. -/
def Src (w : World) (g size : Nat) (A : Option Addr) (n : Nat) (xs : List Value) : Prop :=
  xs.length = n * size ∧ (0 < n → ∃ b o, A = some ⟨b, o, none⟩ ∧ b < w.heap.size ∧ b ≠ g ∧ ∀ j u, xs[j]? = some u → w.cell? ⟨b, o + j, none⟩ = some u)
section
variable {w w' : World} {g size n : Nat} {A : Option Addr} {xs : List Value}
theorem Src.kept (h : Src w g size A n xs) (hg : w.grownBy w' (some g)) : Src w' g size A n xs :=
  ⟨h.1, fun hn => by
    obtain ⟨b, o, hA, hb, hne, hc⟩ := h.2 hn
    exact ⟨b, o, hA, Nat.lt_of_lt_of_le hb hg.size, hne, fun j u hu => (hg.cell_far ⟨b, o + j, none⟩ hb (fun e => hne (by injection e))).trans (hc j u hu)⟩⟩
theorem Src.drop (h : Src w g size A n xs) {k cap : Nat} (hk : k ≤ n) (hc : n ≤ cap) :
    Src w g size (if cap = k then A else A.map (·.add (k * size))) (n - k) (xs.drop (k * size)) := by
  refine ⟨by rw [List.length_drop, h.1, Nat.sub_mul], fun hn => ?_⟩
  obtain ⟨b, o, rfl, hb, hne, hcell⟩ := h.2 (by omega)
  rw [if_neg (by omega)]
  refine ⟨b, o + k * size, by simp [Go.WideShapes.add_plain], hb, hne, fun j u hu => ?_⟩
  rw [Nat.add_assoc]
  exact hcell _ u (by rw [← hu, List.getElem?_drop])
theorem Src.of_reads {B : Nat} (h : Reads w B size A n xs) (hs : 0 < size) (hB : B ≤ w.heap.size) (hg : B ≤ g) : Src w g size A n xs :=
  ⟨h.1, fun hn => by
    obtain ⟨ad, hA, hb, hc⟩ := h.2 hn
    have hl : 0 < xs.length := by rw [h.1]; exact Nat.mul_pos hn hs
    have h0 := hc 0 xs[0] (List.getElem?_eq_getElem hl)
    obtain ⟨b, off, spot⟩ := ad
    have hspot : spot = none := by simpa [Addr.add] using World.cell?_spot h0
    subst hspot
    exact ⟨b, off, hA, Nat.lt_of_lt_of_le hb hB, fun e => by subst e; exact absurd hb (by show ¬ b < B; omega), fun j u hu => by rw [← Go.WideShapes.add_plain]; exact hc j u hu⟩⟩
theorem Src.take (h : Src w g size A n xs) {k : Nat} (hk : k ≤ n) : Src w g size A k (xs.take (k * size)) :=
  ⟨by rw [List.length_take, h.1]; exact Nat.min_eq_left (Nat.mul_le_mul_right _ hk), fun hn => by
    obtain ⟨b, o, hA, hb, hne, hc⟩ := h.2 (by omega)
    exact ⟨b, o, hA, hb, hne, fun j u hu => hc j u (by
      rw [List.getElem?_take] at hu
      split at hu
      · exact hu
      · cases hu)⟩⟩
end

/-- copy into a block of the call's own, elements of any size. -/
theorem run_copy_src {P : Program} (w : World) (dT sT ty elem : TypeId) (g o dLen dCap size : Nat) (A : Option Addr) (n c : Nat) (cur : Array Value) (t : TypeId) (cs : List Value)
    (hu : P.underlying dT = some (.slice elem)) (hs : (P.info? elem).map (·.size) = some size) (hg : Blk w g t cur) (hsrc : Src w g size A n cs) (hn : n ≤ dLen)
    (hfit : o + cs.length ≤ cur.size) (h1 : ∀ v ∈ cs, v.oneCell' = true) :
    (Builtin.copy_ #[dT, sT] ty #[.slice (some ⟨g, o, none⟩) dLen dCap, .slice A n c]).run P w = .ok (goInt n) (w.setRow g (cur.toList.take o ++ cs ++ cur.toList.drop (o + cs.length)).toArray) := by
  unfold Blk at hg
  have hmin : Nat.min n dLen = n := Nat.min_eq_left hn
  have hst := run_storeCells_at P g o t cs 0 cur w hg (by simpa using hfit) h1
  simp only [Nat.add_zero] at hst
  cases hq : P.info? elem with
  | none => simp [hq] at hs
  | some i =>
    have hi : i.size = size := by simpa [hq] using hs
    rcases Nat.eq_zero_or_pos n with h0 | h0
    · subst h0
      obtain rfl : cs = [] := List.eq_nil_of_length_eq_zero (by simpa using hsrc.1)
      have hz : Nat.min 0 dLen = 0 := Nat.min_eq_left (Nat.zero_le _)
      cases A with
      | none => simp [Builtin.copy_, run_underlying hu, Builtin.lenOf, Builtin.firstCells, sizeOf, typeInfo, hq, hz] at hst ⊢; rw [hst]; rfl
      | some ad =>
        have hf := run_firstCells_some (P := P) w size 0 ad 0 c [] (by simp) (fun j u hu => by simp at hu)
        simp [Builtin.copy_, run_underlying hu, Builtin.lenOf, sizeOf, typeInfo, hq, hi, hz, hf] at hst ⊢; rw [hst]; rfl
    · obtain ⟨b, o', rfl, _, _, hc⟩ := hsrc.2 h0
      have hf := run_firstCells_some (P := P) w size n ⟨b, o', none⟩ n c cs hsrc.1 (fun j u hu => by rw [Go.WideShapes.add_plain]; exact hc j u hu)
      simp [Builtin.copy_, run_underlying hu, Builtin.lenOf, sizeOf, typeInfo, hq, hi, hmin, hf, hst]
theorem wpList_copy_at {P : Program} (w : World) {ops : Array Oper} {rest : List Oper} {o : Oper} {a : Act} {Q : Exit → Act → World → Prop} (hgd : o.guard = none) (d s : Operand) (t t' : TypeId)
    (ho : o.op = .call { callee := .builtin .copy, args := #[d, s], argTypes := #[t, t'] }) (v u : Value) (hd : a.eval d = v) (hs : a.eval s = u) {v' : Value} {w' : World}
    (hr : (Builtin.copy_ #[t, t'] o.type #[v, u]).run P w = .ok v' w') (h : wpList P ops Q rest (a.put o.dst v') w') : wpList P ops Q (o :: rest) a w :=
  wpList_plain hgd fun _ hK => by
    unfold Oper.wp execOp
    simp only [ho, resolve, invoke, builtin, Sem.run_bind, Sem.run_pure, Result.andThen_ok, List.map_toArray, List.map_cons, List.map_nil, hd, hs, hr]
    exact hK _ _ h
theorem setRow_grown {w : World} {g : Nat} {t : TypeId} {cur : Array Value} (h : Blk w g t cur) (cs : Array Value) : w.grownBy (w.setRow g cs) (some g) ∧ Blk (w.setRow g cs) g t cs := by
  unfold Blk at *
  refine ⟨⟨rfl, rfl, rfl, by simp [World.setRow], fun i hi hne => ?_⟩, setRow_heap w g cur cs t (0, 0) h⟩
  simp only [World.setRow, Array.getElem?_modify]
  rw [if_neg (fun e => hne (by rw [e]))]
theorem drewN_only {a w : World} {row : Option Nat} (h : a.grownBy w row) (n : Nat) : a.grownBy (w.drewN n) row := ⟨h.os, h.tape, h.output, h.size, h.block⟩
theorem drew_only {a w : World} {row : Option Nat} (h : a.grownBy w row) : a.grownBy w.drew row := ⟨h.os, h.tape, h.output, h.size, h.block⟩
theorem alloc_only {a w : World} {row : Option Nat} (h : a.grownBy w row) (o : Obj) : a.grownBy (w.alloc o) row :=
  ⟨h.os, h.tape, h.output, Nat.le_trans h.size (by simp), fun i hi hne => (Below.heap_alloc w o i (Nat.lt_of_lt_of_le hi h.size)).trans (h.block i hi hne)⟩
theorem setCell_only {a w : World} {g : Nat} (h : a.grownBy w (some g)) {p : Addr} (hp : p.block = g ∨ a.heap.size ≤ p.block) (u : Value) : a.grownBy (w.setCell p u) (some g) :=
  ⟨h.os, h.tape, h.output, by simpa [World.setCell] using h.size, fun i hi hne => (Below.heap_setCell w p u i (by
    rintro rfl
    rcases hp with hp | hp
    · exact hne (by rw [hp])
    · omega)).trans (h.block i hi hne)⟩
theorem below_only {a w : World} (h : Below a.heap.size a w) (row : Option Nat) : a.grownBy w row := ⟨h.os, h.tape, h.output, h.size, fun i hi _ => h.block i hi⟩


theorem bcell {W w1 : World} (hb : Below W.heap.size W w1) : (∀ b o, b < W.heap.size → w1.cell? ⟨b, o, none⟩ = W.cell? ⟨b, o, none⟩) ∧ (∀ b o, b < W.heap.size → w1.frozen? ⟨b, o, none⟩ = W.frozen? ⟨b, o, none⟩) :=
  ⟨fun b o h => hb.cell (p := ⟨b, o, none⟩) h, fun b o h => hb.frozen (p := ⟨b, o, none⟩) h⟩
theorem below_drewN {B : Nat} {a w : World} (h : Below B a w) (n : Nat) : Below B a (w.drewN n) := ⟨h.os, h.tape, h.output, h.size, h.block⟩

/-- A row of words, as cells. -/
def wcells (ws : List Nat) : List Value := ws.map fun x : Nat => Value.int .u64 (x : Int)
theorem wcells_length (ws : List Nat) : (wcells ws).length = ws.length := by unfold wcells; simp
theorem wcells_one (ws : List Nat) : ∀ u ∈ wcells ws, u.oneCell' = true := by
  intro u hu
  unfold wcells at hu
  obtain ⟨x, _, rfl⟩ := List.mem_map.1 hu
  rfl
theorem wcells_at {ws : List Nat} {k : Nat} (h : k < ws.length) : (wcells ws)[k]? = some (.int .u64 (ws.getD k 0 : Nat)) := by
  unfold wcells
  rw [List.getElem?_map, List.getD_eq_getElem?_getD, List.getElem?_eq_getElem h]
  rfl
theorem wcells_set (ws : List Nat) (k x : Nat) : (wcells ws).set k (.int .u64 (x : Int)) = wcells (ws.set k x) := by
  unfold wcells; rw [List.map_set]
theorem wcells_take (ws : List Nat) (k : Nat) : wcells (ws.take k) = (wcells ws).take k := by unfold wcells; rw [List.map_take]
theorem wcells_append (a b : List Nat) : wcells (a ++ b) = wcells a ++ wcells b := by unfold wcells; rw [List.map_append]
theorem wcells_zero (n : Nat) : wcells (List.replicate n 0) = List.replicate n (.int .u64 0) := by unfold wcells; rw [List.map_replicate]; rfl

/-- A slice of n words that reads so, below the block B. -/
def RW (w : World) (B : Nat) (A : Option Addr) (n : Nat) (ws : List Nat) : Prop := Reads w B 1 A n (wcells ws)
section
variable {w w' : World} {B B' n : Nat} {A : Option Addr} {ws : List Nat}
theorem RW.len (h : RW w B A n ws) : ws.length = n := by have := h.1; rw [wcells_length] at this; omega
theorem RW.at_ {k : Nat} (h : RW w B A n ws) (hk : k < n) : ∃ b o, A = some ⟨b, o, none⟩ ∧ b < B ∧ w.cell? ⟨b, o + k, none⟩ = some (.int .u64 (ws.getD k 0 : Nat)) := by
  have hl := h.len
  obtain ⟨ad, hA, hb, hc⟩ := h.2 (by omega)
  have h0 := hc k _ (wcells_at (by omega))
  have h00 := hc 0 _ (wcells_at (show 0 < ws.length by omega))
  obtain ⟨b, o, spot⟩ := ad
  have hspot : spot = none := by simpa [Addr.add] using World.cell?_spot h00
  subst hspot
  rw [Go.WideShapes.add_plain] at h0
  exact ⟨b, o, hA, hb, h0⟩
theorem RW.below (h : RW w B A n ws) (hb : Below B w w') : RW w' B A n ws := Reads.below h hb
theorem RW.more (h : RW w B A n ws) (hB : B ≤ B') : RW w B' A n ws := Reads.more h hB
theorem RW.alloc (h : RW w B A n ws) (hB : B ≤ w.heap.size) (o : Obj) : RW (w.alloc o) B A n ws := Reads.alloc h hB o
theorem RW.none_ : RW w B none 0 [] := ⟨rfl, fun h => absurd h (by omega)⟩
theorem RW.nil (h : RW w B A n []) : n = 0 := by have := h.len; simpa using this.symm
theorem RW.empty (hws : ws.length = 0) : RW w B A 0 ws := ⟨by rw [wcells_length, hws], fun h => absurd h (by omega)⟩
theorem RW.take {k : Nat} (h : RW w B A n ws) (hk : k ≤ n) : RW w B A k (ws.take k) :=
  ⟨by rw [wcells_length, List.length_take, h.len]; omega, fun hn => by
    obtain ⟨ad, hA, hb, hc⟩ := h.2 (by omega)
    exact ⟨ad, hA, hb, fun j u hu => hc j u (by
      rw [wcells_take, List.getElem?_take] at hu
      split at hu
      · exact hu
      · cases hu)⟩⟩
end

/-- The words lie in memory of the call's own, from the block base on. -/
def OW (base : Nat) (w : World) (A : Option Addr) (n : Nat) (ws : List Nat) : Prop :=
  ws.length = n ∧ (0 < n → ∃ g cs, A = some ⟨g, 0, none⟩ ∧ base ≤ g ∧ Blk w g 104 cs ∧ ∀ (j : Nat) u, (wcells ws)[j]? = some u → cs[j]? = some u)
section
variable {w w' : World} {base n : Nat} {A : Option Addr} {ws : List Nat}
theorem OW.reads (h : OW base w A n ws) : RW w w.heap.size A n ws :=
  ⟨by rw [wcells_length, h.1]; omega, fun hn => by
    obtain ⟨g, cs, hA, _, hb, hc⟩ := h.2 hn
    exact ⟨_, hA, hb.lt, fun j u hu => by rw [Go.WideShapes.add_plain, hb.cell, Nat.zero_add]; exact hc j u hu⟩⟩
theorem OW.below (h : OW base w A n ws) (hb : Below w.heap.size w w') : OW base w' A n ws :=
  ⟨h.1, fun hn => by
    obtain ⟨g, cs, hA, hg, hk, hc⟩ := h.2 hn
    exact ⟨g, cs, hA, hg, hk.below hb hk.lt, hc⟩⟩
theorem OW.less {base' : Nat} (h : OW base w A n ws) (hb : base' ≤ base) : OW base' w A n ws :=
  ⟨h.1, fun hn => by
    obtain ⟨g, cs, hA, hg, hk, hc⟩ := h.2 hn
    exact ⟨g, cs, hA, by omega, hk, hc⟩⟩
theorem OW.of_blk {g : Nat} {cs : Array Value} (hg : base ≤ g) (hb : Blk w g 104 cs) (hl : ws.length = n) (hc : ∀ (j : Nat) u, (wcells ws)[j]? = some u → cs[j]? = some u) : OW base w (some ⟨g, 0, none⟩) n ws :=
  ⟨hl, fun _ => ⟨g, cs, rfl, hg, hb, hc⟩⟩
end

/-- A set, handed back: its words lie in memory of the call's own. -/
def SetOk (ws : List Nat) (w : World) (e : Ending) (w' : World) : Prop :=
  ∃ A n c, e = .returned (.agg #[.slice A n c]) ∧ OW w.heap.size w' A n ws ∧ Below w.heap.size w w'
/-- A set and an error. -/
def SetErr (ws : List Nat) (k : Int) (w : World) (e : Ending) (w' : World) : Prop :=
  ∃ A n c, e = .returned (.tuple #[.agg #[.slice A n c], .int .i64 k]) ∧ OW w.heap.size w' A n ws ∧ Below w.heap.size w w'
/-- Words that are read. -/
def WordsOk (ws : List Nat) (w : World) (e : Ending) (w' : World) : Prop :=
  ∃ A n c, e = .returned (.slice A n c) ∧ RW w' w.heap.size A n ws ∧ Below w.heap.size w w'
theorem blk_set {w : World} {g : Nat} {t : TypeId} {ws : List Nat} (h : Blk w g t (wcells ws).toArray) (k x : Nat) : Blk (w.setCell ⟨g, k, none⟩ (.int .u64 (x : Int))) g t (wcells (ws.set k x)).toArray := by
  have := h.set_ k (.int .u64 (x : Int))
  rw [List.setIfInBounds_toArray, wcells_set] at this
  exact this
theorem blk_get {w : World} {g : Nat} {t : TypeId} {ws : List Nat} (h : Blk w g t (wcells ws).toArray) {k : Nat} (hk : k < ws.length) : w.cell? ⟨g, k, none⟩ = some (.int .u64 (ws.getD k 0 : Nat)) := by
  rw [h.cell, List.getElem?_toArray]; exact wcells_at hk
theorem blk_reads {w : World} {g : Nat} {ws : List Nat} (h : Blk w g 104 (wcells ws).toArray) : RW w w.heap.size (some ⟨g, 0, none⟩) ws.length ws :=
  ⟨by rw [wcells_length]; omega, fun _ => ⟨_, rfl, h.lt, fun j u hu => by rw [Go.WideShapes.add_plain, h.cell, Nat.zero_add, List.getElem?_toArray]; exact hu⟩⟩
end Go.Proofs.YtgbpaiffnhpafaaDoor.Bit
namespace Go.Proofs.YtgbpaiffnhpafaaDoor.Bit
open Go.RowKit

/-- May a number be in a set? -/
def mayB (n : Int) : Bool := decide (0 ≤ n) && decide (n < 10000)
theorem may_any (n : Int) (w : World) : Calls Tryd.prog 71 #[.int .i64 n] w fun e w' => e = .returned (.bool (mayB n)) ∧ w = w' := by
  by_cases h0 : 0 ≤ n
  · by_cases h1 : n < 10000
    · have hb : mayB n = true := by unfold mayB; simp [h0, h1]
      have HB := Lib.hid hb
      clear hb
      have hd : decide (0 ≤ n) = true := by simpa using h0
      go_enter Tryd.func71, Tryd.ntmps71
      go_wp2_with fail
      go_ret
      exact ⟨by rw [HB.out]; rfl, rfl⟩
    · have hb : mayB n = false := by unfold mayB; simp [h1]
      have HB := Lib.hid hb
      clear hb
      have hd : decide (0 ≤ n) = true := by simpa using h0
      have hd1 : decide (n < 10000) = false := by simpa using h1
      go_enter Tryd.func71, Tryd.ntmps71
      go_wp2_with fail
      go_ret
      exact ⟨by rw [HB.out]; rfl, rfl⟩
  · have hb : mayB n = false := by unfold mayB; simp [h0]
    have HB := Lib.hid hb
    clear hb
    have hd : decide (0 ≤ n) = false := by simpa using h0
    go_enter Tryd.func71, Tryd.ntmps71
    go_wp2_with fail
    go_ret
    exact ⟨by rw [HB.out]; rfl, rfl⟩

theorem pow_lt64 (n : Nat) : 2 ^ (n % 64) < 18446744073709551616 := by
  rw [show (18446744073709551616 : Nat) = 2 ^ 64 by decide]; exact Nat.pow_lt_pow_right (by decide) (Nat.mod_lt _ (by decide))
theorem bit_val (n : Nat) : IntKind.u64.wrap ((2 : Int) ^ (n % 64)) = ((2 ^ (n % 64) : Nat) : Int) := by
  have h := pow_lt64 n
  rw [IntKind.wrap_u64, show ((2 : Int) ^ (n % 64)) = ((2 ^ (n % 64) : Nat) : Int) by simp]
  generalize 2 ^ (n % 64) = x at h
  omega
theorem bit_any (n : Nat) (hn : n ≤ 9223372036854775807) (w : World) : Calls Tryd.prog 73 #[.int .i64 (n : Int)] w fun e w' => e = .returned (.int .u64 ((2 ^ (n % 64) : Nat) : Int)) ∧ w = w' := by
  have HB := Lib.hid (bit_val n)
  have h0 : (0 : Int) ≤ (n : Int) % 64 := by omega
  have h1 : (n : Int) % 64 ≤ 64 := by omega
  go_enter Tryd.func73, Tryd.ntmps73
  go_wp2_with fail
  go_ret
  exact ⟨by rw [← HB.out]; rfl, rfl⟩

theorem room_any (n : Int) (h0 : -1 ≤ n) (h1 : n ≤ 1000000) (w : World) : Calls Tryd.prog 72 #[.int .i64 n] w fun e w' => e = .returned (.int .i64 ((n + 64) / 64)) ∧ w = w' := by
  have h2 : 0 ≤ n + 64 := by omega
  go_enter Tryd.func72, Tryd.ntmps72
  go_wp2_with fail
  go_ret
  exact ⟨rfl, rfl⟩

theorem ones_steps (x : Nat) (hx : x < 18446744073709551616) : ∃ a1 a2 a3 a4 y : Nat,
    bits .and .u64 ((x : Int) / 2) 6148914691236517205 = (a1 : Int) ∧ bits .and .u64 (x : Int) 6148914691236517205 = (a2 : Int) ∧ a1 + a2 < 18446744073709551616 ∧
    bits .and .u64 (((a1 : Int) + (a2 : Int)) / 4) 3689348814741910323 = (a3 : Int) ∧ bits .and .u64 ((a1 : Int) + (a2 : Int)) 3689348814741910323 = (a4 : Int) ∧ a3 + a4 < 18446744073709551616 ∧
    (a3 + a4) / 16 + (a3 + a4) < 18446744073709551616 ∧ bits .and .u64 (((a3 : Int) + (a4 : Int)) / 16 + ((a3 : Int) + (a4 : Int))) 1085102592571150095 = (y : Int) ∧
    y + y / 256 < 9223372036854775808 ∧ (y + y / 256) + (y + y / 256) / 65536 < 9223372036854775808 ∧
    ((y + y / 256) + (y + y / 256) / 65536) + ((y + y / 256) + (y + y / 256) / 65536) / 4294967296 < 9223372036854775808 ∧
    (((y + y / 256) + (y + y / 256) / 65536) + ((y + y / 256) + (y + y / 256) / 65536) / 4294967296) % 128 = cnt x 64 := by
  obtain ⟨h1, h2, h3, y, hy, b0, b1, b2, b3, b4⟩ := fold_cnt x hx
  have e1 : t1 x = (x / 2 &&& 6148914691236517205) + (x &&& 6148914691236517205) := rfl
  have e2 : t2 (t1 x) = (t1 x / 4 &&& 3689348814741910323) + (t1 x &&& 3689348814741910323) := rfl
  have u1 := u64_and_nat (x / 2) 6148914691236517205 (by omega) (by decide)
  have u2 := u64_and_nat x 6148914691236517205 hx (by decide)
  have u3 := u64_and_nat (t1 x / 4) 3689348814741910323 (by omega) (by decide)
  have u4 := u64_and_nat (t1 x) 3689348814741910323 h1 (by decide)
  have u5 := u64_and_nat (t2 (t1 x) / 16 + t2 (t1 x)) 1085102592571150095 (by omega) (by decide)
  refine ⟨x / 2 &&& 6148914691236517205, x &&& 6148914691236517205, t1 x / 4 &&& 3689348814741910323, t1 x &&& 3689348814741910323, y, ?_, u2, by omega, ?_, ?_, by omega, by omega, ?_, b1, b2, b3, b4⟩
  · rw [← u1]; rfl
  · rw [← u3, e1]; congr 1
  · rw [← u4, e1]; congr 1
  · rw [hy]; unfold t3; rw [← u5, e2]; congr 1

theorem i64_mask7 (z : Nat) (hz : z < 9223372036854775808) : bits .and .i64 (z : Int) 127 = ((z % 128 : Nat) : Int) := by
  have e : (BitVec.ofInt 64 (z : Int)).toNat = z := by rw [BitVec.ofInt_natCast, BitVec.toNat_ofNat]; exact Nat.mod_eq_of_lt (by omega)
  show IntKind.i64.wrap ((BitVec.ofInt 64 (z : Int) &&& BitVec.ofInt 64 127).toNat : Int) = _
  rw [BitVec.toNat_and, e, show (BitVec.ofInt 64 127).toNat = 127 by decide, nat_mask7, IntKind.wrap_i64]
  omega

set_option maxHeartbeats 800000 in
theorem ones_any (x : Nat) (hx : x < 18446744073709551616) (w : World) : Calls Tryd.prog 76 #[.int .u64 (x : Int)] w fun e w' => e = .returned (.int .i64 (cnt x 64 : Int)) ∧ w = w' := by
  obtain ⟨a1, a2, a3, a4, y, e1, e2, q1, e3, e4, q2, q3, e5, q4, q5, q6, e6⟩ := ones_steps x hx
  have HE := Lib.hid e6
  clear e6
  go_enter Tryd.func76, Tryd.ntmps76
  go_wp2_with fail
  go_ret
  refine ⟨?_, rfl⟩
  rw [← HE.out, ← i64_mask7 _ q6]
  rfl
end Go.Proofs.YtgbpaiffnhpafaaDoor.Bit
