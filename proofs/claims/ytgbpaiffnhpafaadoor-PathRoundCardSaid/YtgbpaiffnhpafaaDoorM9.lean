/- The document's Of and Round: the number of each node's component; who goes round. -/
import Derived.Test.YtgbpaiffnhpafaaDoorM8
import Derived.Test.YtgbpaiffnhpafaaDoorM7
-- holds: YtgbpaiffnhpafaaDoorCb YtgbpaiffnhpafaaDoorCc YtgbpaiffnhpafaaDoorCd YtgbpaiffnhpafaaDoorCe YtgbpaiffnhpafaaDoorCf
namespace Go.Proofs.YtgbpaiffnhpafaaDoor
open Go.RowKit

/-- A row of edges, one or more, leads from the one to the other. -/
inductive Leads (zs : List Ed) (u : Int) : Int → Prop
  | one {p : Ed} : p ∈ zs → p.1 = u → Leads zs u p.2.1
  | more {p : Ed} : Leads zs u p.1 → p ∈ zs → Leads zs u p.2.1
theorem Leads.trans {zs : List Ed} {u v x : Int} (h : Leads zs u v) (k : Leads zs v x) : Leads zs u x := by
  induction k with
  | one hp hu => subst hu; exact .more h hp
  | more _ hp ih => exact .more ih hp
theorem Leads.mono {zs ys : List Ed} {u v : Int} (hs : ∀ p ∈ zs, p ∈ ys) (h : Leads zs u v) : Leads ys u v := by
  induction h with
  | one hp hu => exact .one (hs _ hp) hu
  | more _ hp ih => exact .more ih (hs _ hp)
theorem Leads.ends {zs : List Ed} {nodes u v : Int} (hz : ∀ p ∈ zs, rightE nodes p = true) (h : Leads zs u v) : (0 ≤ u ∧ u < nodes) ∧ (0 ≤ v ∧ v < nodes) := by
  induction h with
  | one hp hu => have := of_decide_eq_true (hz _ hp); subst hu; exact ⟨this.1, this.2.1⟩
  | more _ hp ih => have := of_decide_eq_true (hz _ hp); exact ⟨ih.1, this.2.1⟩
/-- How far the search has come: ex are those whose edges are being gone over. -/
structure Bfs (zs : List Ed) (m : Nat) (v : Int) (ex : Int → Prop) (out : List Bool) (todo : List Int) : Prop where
  len : out.length = m
  sound : ∀ u : Nat, out[u]? = some true → Leads zs v u
  rows : ∀ x ∈ todo, (0 ≤ x ∧ x < m) ∧ (x = v ∨ Leads zs v x)
  closed : ∀ x : Int, 0 ≤ x → (x = v ∨ out[x.toNat]? = some true) → ¬ ex x → x ∈ todo ∨ ∀ p ∈ zs, p.1 = x → out[p.2.1.toNat]? = some true
theorem Bfs.start {zs : List Ed} {m : Nat} {v : Int} (h : 0 ≤ v ∧ v < m) : Bfs zs m v (fun _ => False) (List.replicate m false) [v] := by
  refine ⟨List.length_replicate, fun u hu => ?_, fun x hx => ?_, fun x _ hx _ => ?_⟩
  · rw [List.getElem?_replicate] at hu
    split at hu <;> simp at hu
  · simp at hx; subst hx; exact ⟨h, .inl rfl⟩
  · rcases hx with rfl | hx
    · exact .inl (by simp)
    · rw [List.getElem?_replicate] at hx
      split at hx <;> simp at hx
theorem Bfs.pop {zs : List Ed} {m : Nat} {v x : Int} {out : List Bool} {rest : List Int} (h : Bfs zs m v (fun _ => False) out (x :: rest)) : Bfs zs m v (fun y => y = x) out rest ∧ (0 ≤ x ∧ x < m) ∧ (x = v ∨ Leads zs v x) := by
  refine ⟨⟨h.len, h.sound, fun y hy => h.rows y (.tail _ hy), fun y h0 hy hex => ?_⟩, h.rows x (.head _)⟩
  rcases h.closed y h0 hy (fun e => e) with h1 | h1
  · rcases List.mem_cons.1 h1 with h2 | h2
    · exact absurd h2 hex
    · exact .inl h2
  · exact .inr h1
theorem count_set : ∀ (l : List Bool) (y : Nat), l[y]? = some false → (l.set y true).count false + 1 = l.count false
  | [], y, h => by simp at h
  | b :: l, 0, h => by simp at h; subst h; simp
  | b :: l, y + 1, h => by
    simp at h
    have := count_set l y h
    cases b <;> simp <;> omega
theorem set_true {out : List Bool} {y u : Nat} (h : out[u]? = some true) : (out.set y true)[u]? = some true := by
  rw [List.getElem?_set]
  have := (List.getElem?_eq_some_iff.1 h).1
  split
  · rename_i e; subst e; rw [if_pos this]
  · exact h
theorem Bfs.push {zs : List Ed} {m : Nat} {v : Int} {ex : Int → Prop} {out : List Bool} {todo : List Int} (h : Bfs zs m v ex out todo) {y : Nat} (hy : y < m) (hl : Leads zs v y) : Bfs zs m v ex (out.set y true) (todo ++ [(y : Int)]) := by
  refine ⟨by rw [List.length_set, h.len], fun u hu => ?_, fun x hx => ?_, fun x h0 hx hex => ?_⟩
  · rw [List.getElem?_set] at hu
    split at hu
    · rename_i e; subst e; exact hl
    · exact h.sound u hu
  · rcases List.mem_append.1 hx with hx | hx
    · exact h.rows x hx
    · simp at hx; subst hx; exact ⟨by omega, .inr hl⟩
  · by_cases e : x = (y : Int)
    · exact .inl (by simp [e])
    · have hx' : x = v ∨ out[x.toNat]? = some true := by
        rcases hx with hx | hx
        · exact .inl hx
        · rw [List.getElem?_set, if_neg (by omega)] at hx
          exact .inr hx
      rcases h.closed x h0 hx' hex with h1 | h1
      · exact .inl (List.mem_append_left _ h1)
      · exact .inr fun p hp he => set_true (h1 p hp he)
theorem Bfs.done {zs : List Ed} {m : Nat} {v x : Int} {out : List Bool} {todo : List Int} (h : Bfs zs m v (fun y => y = x) out todo) (hx : ∀ p ∈ zs, p.1 = x → out[p.2.1.toNat]? = some true) : Bfs zs m v (fun _ => False) out todo := by
  refine ⟨h.len, h.sound, h.rows, fun y h0 hy _ => ?_⟩
  by_cases e : y = x
  · subst e; exact .inr hx
  · exact h.closed y h0 hy e
theorem Bfs.out {zs : List Ed} {m : Nat} {v : Int} {out : List Bool} (h : Bfs zs m v (fun _ => False) out []) (hz : ∀ p ∈ zs, rightE (m : Int) p = true) (u : Nat) : out[u]? = some true ↔ Leads zs v u := by
  refine ⟨h.sound u, fun hl => ?_⟩
  have : ∀ y, Leads zs v y → out[y.toNat]? = some true := by
    intro y hy
    induction hy with
    | @one p hp hu =>
      have := (of_decide_eq_true (hz _ hp)).1.1
      rcases h.closed p.1 this (.inl hu) (fun e => e) with h1 | h1
      · simp at h1
      · exact h1 p hp rfl
    | @more p _ hp ih =>
      have := (of_decide_eq_true (hz _ hp)).1.1
      rcases h.closed p.1 this (.inr ih) (fun e => e) with h1 | h1
      · simp at h1
      · exact h1 p hp rfl
  simpa using this u hl

/-- A row of bools, as cells. -/
def bools (bs : List Bool) : List Value := bs.map Value.bool
theorem bools_length (bs : List Bool) : (bools bs).length = bs.length := by unfold bools; simp
theorem bools_one (bs : List Bool) : ∀ u ∈ bools bs, u.oneCell' = true := by
  intro u hu
  obtain ⟨b, _, rfl⟩ := List.mem_map.1 hu
  rfl
theorem bools_set (bs : List Bool) (k : Nat) (b : Bool) : (bools bs).set k (.bool b) = bools (bs.set k b) := by unfold bools; rw [List.map_set]
theorem bools_get {bs : List Bool} {k : Nat} {b : Bool} (h : bs[k]? = some b) : (bools bs)[k]? = some (.bool b) := by unfold bools; rw [List.getElem?_map, h]; rfl
theorem bool_info : (Tryd.prog.info? 4).map (fun i => (i.zero, i.size, i.bytes)) = some (some (.bool false), 1, 1) := by kernel_rfl
theorem made_bools (n : Nat) : madeCells (Value.bool false).cells (n * 1) = (bools (List.replicate n false)).toArray := by
  apply Array.ext
  · rw [size_madeCells, List.size_toArray, bools_length, List.length_replicate, Nat.mul_one]
  · intro j h1 h2
    have hz : (Value.bool false).cells = #[.bool false] := by simp [Value.cells]
    simp only [madeCells, hz, Array.getElem_map, Array.getElem_range, List.getElem_toArray, bools, List.getElem_map, List.getElem_replicate]
    simp [Nat.mod_one]
theorem own_kind {W W' : World} {base n size : Nat} {e : TypeId} {v : Value} {xs : List Value} (h : W.ownsRow base e size v n xs) (hk : ∀ C cs, Blk W C e cs → Blk W' C e cs) : W'.ownsRow base e size v n xs := by
  refine ⟨h.1, ?_⟩
  rcases h.2 with hn | ⟨g, cap, cur, hv, hbg, hb, rest⟩
  · exact .inl hn
  · exact .inr ⟨g, cap, cur, hv, hbg, hk g cur hb, rest⟩
/-- Bools, in memory of the call's own. -/
def BoolsIs (bs : List Bool) (w : World) (e : Ending) (w' : World) : Prop :=
  ∃ (A : Option Addr) (c : Nat), e = .returned (.slice A bs.length c) ∧ w'.ownsRow w.heap.size 4 1 (.slice A bs.length c) bs.length (bools bs) ∧ bs.length ≤ c ∧ c ≤ 9223372036854775807 ∧ Below w.heap.size w w'
theorem blk_own1 {W : World} {B X n : Nat} {e : TypeId} {xs : List Value} (hB : B ≤ X) (h : Blk W X e xs.toArray) (hl : xs.length = n) (hn : n ≤ 1000000) : W.ownsRow B e 1 (.slice (some ⟨X, 0, none⟩) n n) n xs := by
  refine ⟨by omega, .inr ⟨X, n, _, rfl, hB, h, Nat.le_refl _, by unfold maxLen; omega, by simp; omega, ?_⟩⟩
  rw [List.take_of_length_le (by simp; omega)]
end Go.Proofs.YtgbpaiffnhpafaaDoor
namespace Go.Proofs.YtgbpaiffnhpafaaDoor
open Go.RowKit Go.Shelf

theorem iq_elem_size (W : World) : (sizeOf (Tryd.prog.elem 30)).run Tryd.prog W = .ok 1 W := by kernel_rfl
theorem iq_slice_1 (A : Option Addr) (len cap : Nat) (hl : 1 ≤ len) (W : World) :
    (Instr.slice 30 (.slice A len cap) (some (.int .i64 1)) none none).run Tryd.prog W = .ok (.slice (if cap = 1 then A else A.map (·.add 1)) (len - 1) (cap - 1)) W := by
  rw [run_slice_l W 30 A len cap (show Tryd.prog.underlying 30 = some (.slice (Tryd.prog.elem 30)) by kernel_rfl) .i64 1 (by omega) (by omega), iq_elem_size]
  rfl
theorem QRow.setOther {w : World} {base n X k : Nat} {e t : TypeId} {v u : Value} {xs : List Value} {cs : Array Value} (h : QRow w base e v n xs) (hX : Blk w X t cs) (ht : e ≠ t) : QRow (w.setCell ⟨X, k, none⟩ u) base e v n xs :=
  h.kept fun _ _ _ hk => hk.far (p := ⟨X, k, none⟩) (Blk.ne_ hk hX ht) _
/-- How far the search has come, in memory. -/
structure BfsAt (w : World) (X : Nat) (out : List Bool) (todo : List Int) (A : Option Addr) (n c : Nat) (W : World) : Prop where
  below : Below w.heap.size w W
  blk : Blk W X 4 (bools out).toArray
  row : QRow W w.heap.size 3 (.slice A n c) n (ints todo)
theorem BfsAt.on {w W W' : World} {X n c : Nat} {out : List Bool} {todo : List Int} {A : Option Addr} (h : BfsAt w X out todo A n c W) (hb : Below W.heap.size W W') : BfsAt w X out todo A n c W' :=
  ⟨h.below.trans (hb.mono h.below.size), h.blk.below hb h.blk.lt, h.row.on hb⟩
theorem BfsAt.alloc {w W : World} {X n c : Nat} {out : List Bool} {todo : List Int} {A : Option Addr} (h : BfsAt w X out todo A n c W) (o : Obj) : BfsAt w X out todo A n c (W.alloc o) := h.on ((Below.refl _ _).alloc (Nat.le_refl _) o)
theorem BfsAt.len {w W : World} {X n c : Nat} {out : List Bool} {todo : List Int} {A : Option Addr} (h : BfsAt w X out todo A n c W) : todo.length = n := by have := h.row.1; rwa [ints_length] at this
theorem BfsAt.set {w W : World} {X n c k : Nat} {out : List Bool} {todo : List Int} {A : Option Addr} (h : BfsAt w X out todo A n c W) (hX : w.heap.size ≤ X) (b : Bool) : BfsAt w X (out.set k b) todo A n c (W.setCell ⟨X, k, none⟩ (.bool b)) := by
  refine ⟨h.below.setCell hX _, ?_, h.row.setOther h.blk (by decide)⟩
  have := h.blk.set_ k (.bool b)
  rwa [List.setIfInBounds_toArray, bools_set] at this
theorem BfsAt.more {w W W' : World} {X n c c' : Nat} {out : List Bool} {todo : List Int} {A A' : Option Addr} {y : Int} (h : BfsAt w X out todo A n c W) (m : QMore W w.heap.size 3 (n + 1) (ints todo ++ [.int .i64 y]) (.slice A' (n + 1) c') W') : BfsAt w X out (todo ++ [y]) A' (n + 1) c' W' := by
  refine ⟨h.below.trans m.2.1, m.2.2 _ _ _ h.blk (by decide), ?_⟩
  rw [ints_append]
  exact m.1

end Go.Proofs.YtgbpaiffnhpafaaDoor
namespace Go.Proofs.YtgbpaiffnhpafaaDoor
open Go.RowKit Go.Shelf

theorem own_grown {W W' : World} {base base' n n' size size' : Nat} {e e' : TypeId} {v v' : Value} {xs xs' : List Value} {o : Obj} (h : W.ownsRow base e size v n xs) (h' : W.ownsRow base' e' size' v' n' xs') (hg : (W.alloc o).grownBy W' v'.ownBlock) (ht : e ≠ e') : W'.ownsRow base e size v n xs := by
  refine own_kind h fun C cs hk => (hk.alloc o).grown hg fun hh => ?_
  exact own_blk_ne h' hk (Ne.symm ht) hh.symm
theorem own_on {W W' : World} {base n size : Nat} {e : TypeId} {v : Value} {xs : List Value} (h : W.ownsRow base e size v n xs) (hb : Below W.heap.size W W') : W'.ownsRow base e size v n xs := own_kind h fun _ _ hk => hk.below hb hk.lt
section
variable {W W' : World} {base m n c : Nat} {A : Option Addr} {ms : List (List Bool)}
end
/-- Which nodes lead to which, as rows. -/
structure AllM (zs : List Ed) (m : Nat) (ms : List (List Bool)) : Prop where
  len : ms.length = m
  row : ∀ (i : Nat) (bs : List Bool), ms[i]? = some bs → bs.length = m ∧ ∀ u : Nat, bs[u]? = some true ↔ Leads zs (i : Int) u

end Go.Proofs.YtgbpaiffnhpafaaDoor
namespace Go.Proofs.YtgbpaiffnhpafaaDoor
open Go.RowKit Go.Shelf

def cellM (ms : List (List Bool)) (v w : Nat) : Bool := (ms.getD v []).getD w false
def togM (ms : List (List Bool)) (v w : Nat) : Bool := decide (w = v) || (cellM ms v w && cellM ms w v)
def setE (t : Nat → Nat → Bool) (m v : Nat) : List Int := ((List.range m).filter (t v)).map fun (w : Nat) => (w : Int)
def leastB (t : Nat → Nat → Bool) (m v : Nat) : Bool := (List.range m).all fun w => !t v w || decide (w ≥ v)
def setsE (t : Nat → Nat → Bool) (k m : Nat) : List (List Int) := ((List.range k).filter (leastB t m)).map (setE t m)
theorem cellM_is {ms : List (List Bool)} {v w : Nat} {bs : List Bool} {b : Bool} (h : ms[v]? = some bs) (h2 : bs[w]? = some b) : cellM ms v w = b := by
  unfold cellM
  rw [show ms.getD v [] = bs from by rw [List.getD_eq_getElem?_getD, h]; rfl, List.getD_eq_getElem?_getD, h2]
  rfl
theorem setE_next (t : Nat → Nat → Bool) (i v : Nat) : setE t (i + 1) v = if t v i = true then setE t i v ++ [(i : Int)] else setE t i v := by
  unfold setE
  rw [List.range_succ, List.filter_append, List.map_append]
  cases h : t v i
  · rw [List.filter_cons_of_neg (by simp [h])]; simp
  · rw [List.filter_cons_of_pos h]; simp
theorem leastB_next (t : Nat → Nat → Bool) (i v : Nat) : leastB t (i + 1) v = (leastB t i v && (!t v i || decide (i ≥ v))) := by
  unfold leastB
  rw [List.range_succ, List.all_append]
  simp
theorem setsE_next (t : Nat → Nat → Bool) (i m : Nat) : setsE t (i + 1) m = if leastB t m i = true then setsE t i m ++ [setE t m i] else setsE t i m := by
  unfold setsE
  rw [List.range_succ, List.filter_append, List.map_append]
  cases h : leastB t m i
  · rw [List.filter_cons_of_neg (by simp [h])]; simp
  · rw [List.filter_cons_of_pos h]; simp
theorem setsE_len (t : Nat → Nat → Bool) (k m : Nat) : (setsE t k m).length ≤ k := by
  unfold setsE
  rw [List.length_map]
  exact Nat.le_trans (List.length_filter_le _ _) (by rw [List.length_range]; exact Nat.le_refl _)
theorem setE_len (t : Nat → Nat → Bool) (m v : Nat) : (setE t m v).length ≤ m := by
  unfold setE
  rw [List.length_map]
  exact Nat.le_trans (List.length_filter_le _ _) (by rw [List.length_range]; exact Nat.le_refl _)

/-- A row of rows of numbers, in memory of the call's own. -/
def IRows (W : World) (base : Nat) (A : Option Addr) (n c : Nat) (ls : List (List Int)) : Prop :=
  ∃ rs : List (Option Addr × Nat × Nat), rs.length = n ∧ ls.length = n ∧ W.ownsRow base 30 1 (.slice A n c) n (rs.map fun r => .slice r.1 r.2.1 r.2.2) ∧
    ∀ (i : Nat) (r : Option Addr × Nat × Nat) (l : List Int), rs[i]? = some r → ls[i]? = some l → W.ownsRow base 3 1 (.slice r.1 r.2.1 r.2.2) r.2.1 (ints l)
section
variable {W W' : World} {base n c : Nat} {A : Option Addr} {ls : List (List Int)}
theorem IRows.on (h : IRows W base A n c ls) (hb : Below W.heap.size W W') : IRows W' base A n c ls := by
  obtain ⟨rs, h1, h2, h3, h4⟩ := h
  exact ⟨rs, h1, h2, own_on h3 hb, fun i r bs hr hs => own_on (h4 i r bs hr hs) hb⟩
theorem IRows.base_ (h : IRows W base A n c ls) {base' : Nat} (hb : base' ≤ base) : IRows W base' A n c ls := by
  obtain ⟨rs, h1, h2, h3, h4⟩ := h
  exact ⟨rs, h1, h2, own_base h3 hb, fun i r bs hr hs => own_base (h4 i r bs hr hs) hb⟩
theorem IRows.len (h : IRows W base A n c ls) : ls.length = n := by obtain ⟨_, _, h2, _⟩ := h; exact h2
theorem IRows.nil (W : World) (base : Nat) : IRows W base none 0 0 [] := ⟨[], rfl, rfl, World.ownsRow_nil _ _ _ _, fun i r bs h => by simp at h⟩
/-- One row of it. -/
theorem IRows.at_ (h : IRows W base A n c ls) {i : Nat} (hi : i < n) : ∃ (b o : Nat) (A' : Option Addr) (k' c' : Nat) (l : List Int), A = some ⟨b, o, none⟩ ∧ W.cell? ⟨b, o + i, none⟩ = some (.slice A' k' c') ∧ ls[i]? = some l ∧ W.ownsRow base 3 1 (.slice A' k' c') k' (ints l) := by
  obtain ⟨rs, h1, h2, h3, h4⟩ := h
  obtain ⟨r, hr⟩ : ∃ r, rs[i]? = some r := ⟨rs[i]'(by omega), List.getElem?_eq_getElem _⟩
  obtain ⟨l, hs⟩ : ∃ l, ls[i]? = some l := ⟨ls[i]'(by omega), List.getElem?_eq_getElem _⟩
  obtain ⟨b, o, hA, _, hc⟩ := reads_plain (Reads.of_own h3) (by omega)
  exact ⟨b, o, r.1, r.2.1, r.2.2, l, hA, hc i _ (by rw [List.getElem?_map, hr]; rfl), hs, h4 i r l hr hs⟩
theorem irows_more {rs : List (Option Addr × Nat × Nat)} (h1 : rs.length = n) (h2 : ls.length = n) (h3 : W.ownsRow base 30 1 (.slice A n c) n (rs.map fun r => .slice r.1 r.2.1 r.2.2))
    (h4 : ∀ (i : Nat) (r : Option Addr × Nat × Nat) (l : List Int), rs[i]? = some r → ls[i]? = some l → W.ownsRow base 3 1 (.slice r.1 r.2.1 r.2.2) r.2.1 (ints l))
    {A' : Option Addr} {k' c' : Nat} {l : List Int} {o : Obj} {v5 : Value} (hb : W.ownsRow base 3 1 (.slice A' k' c') k' (ints l)) (h5 : W'.ownsRow base 30 1 v5 (n + 1) ((rs.map fun r => .slice r.1 r.2.1 r.2.2) ++ [.slice A' k' c']))
    (hg : (W.alloc o).grownBy W' (Value.slice A n c).ownBlock) : ∃ A5 c5, v5 = .slice A5 (n + 1) c5 ∧ IRows W' base A5 (n + 1) c5 (ls ++ [l]) := by
  obtain ⟨A5, c5, rfl, _, _⟩ := own_form2 h5
  refine ⟨A5, c5, rfl, rs ++ [(A', k', c')], by rw [List.length_append, h1]; rfl, by rw [List.length_append, h2]; rfl, by simpa using h5, fun i r b hr hs => ?_⟩
  rcases Nat.lt_or_ge i n with hi | hi
  · rw [List.getElem?_append_left (by omega)] at hr hs
    exact own_grown (h4 i r b hr hs) h3 hg (by decide)
  · have hi2 : i = n := by
      have := (List.getElem?_eq_some_iff.1 hr).1
      rw [List.length_append, h1] at this
      simp at this
      omega
    subst hi2
    rw [List.getElem?_append_right (by omega), h1, Nat.sub_self] at hr
    rw [List.getElem?_append_right (by omega), h2, Nat.sub_self] at hs
    simp at hr hs
    subst hr; subst hs
    exact own_grown hb h3 hg (by decide)
end
theorem islice_info : (Tryd.prog.info? 30).map (fun i => (i.zero, i.size, i.bytes)) = some (some (.slice none 0 0), 1, 24) := by kernel_rfl
def SetsIs (ls : List (List Int)) (w : World) (e : Ending) (w' : World) : Prop :=
  ∃ (A : Option Addr) (c : Nat), e = .returned (.slice A ls.length c) ∧ IRows w' w.heap.size A ls.length c ls ∧ Below w.heap.size w w'
theorem AllM.unique {zs : List Ed} {m : Nat} {ms ms' : List (List Bool)} (h : AllM zs m ms) (h' : AllM zs m ms') : ms = ms' := by
  refine List.ext_getElem (by rw [h.len, h'.len]) fun i h1 h2 => ?_
  obtain ⟨l1, s1⟩ := h.row i _ (List.getElem?_eq_getElem h1)
  obtain ⟨l2, s2⟩ := h'.row i _ (List.getElem?_eq_getElem h2)
  refine List.ext_getElem (by rw [l1, l2]) fun u h3 h4 => ?_
  have := (s1 u).trans (s2 u).symm
  rw [List.getElem?_eq_getElem h3, List.getElem?_eq_getElem h4] at this
  simp only [Option.some.injEq] at this
  exact Bool.eq_iff_iff.2 this

end Go.Proofs.YtgbpaiffnhpafaaDoor
namespace Go.Proofs.YtgbpaiffnhpafaaDoor
open Go.RowKit Go.Shelf

def putE (os : List Int) (i : Int) (l : List Int) : List Int := l.foldl (fun o v => o.set v.toNat i) os
def ofM (ls : List (List Int)) (m : Nat) : Nat → List Int
  | 0 => List.replicate m 0
  | k + 1 => putE (ofM ls m k) k (ls.getD k [])
theorem putE_len (os : List Int) (i : Int) (l : List Int) : (putE os i l).length = os.length := by
  unfold putE
  induction l generalizing os with
  | nil => rfl
  | cons v l ih => rw [List.foldl_cons, ih, List.length_set]
theorem ofM_len (ls : List (List Int)) (m : Nat) : ∀ k, (ofM ls m k).length = m
  | 0 => List.length_replicate
  | k + 1 => by unfold ofM; rw [putE_len, ofM_len ls m k]
theorem putE_next {os l : List Int} {i : Int} {j : Nat} {v : Int} (h : l[j]? = some v) : putE os i (l.take (j + 1)) = (putE os i (l.take j)).set v.toNat i := by
  unfold putE
  rw [List.take_add_one, h, List.foldl_append]
  rfl
/-- Numbers, in memory of the call's own. -/
def IntsOwn (vs : List Int) (w : World) (e : Ending) (w' : World) : Prop :=
  ∃ (A : Option Addr) (c : Nat), e = .returned (.slice A vs.length c) ∧ w'.ownsRow w.heap.size 3 1 (.slice A vs.length c) vs.length (ints vs) ∧ vs.length ≤ c ∧ c ≤ 9223372036854775807 ∧ Below w.heap.size w w'
theorem own_far {W : World} {base n size X k : Nat} {e : TypeId} {v u : Value} {xs : List Value} (h : W.ownsRow base e size v n xs) (hX : X < base) : (W.setCell ⟨X, k, none⟩ u).ownsRow base e size v n xs := by
  refine ⟨h.1, ?_⟩
  rcases h.2 with hn | ⟨g, cap, cur, hv, hbg, hb, rest⟩
  · exact .inl hn
  · exact .inr ⟨g, cap, cur, hv, hbg, (Below.heap_setCell W ⟨X, k, none⟩ u g (by show g ≠ X; omega)).trans hb, rest⟩
theorem IRows.far {W : World} {base n c X k : Nat} {A : Option Addr} {ls : List (List Int)} {u : Value} (h : IRows W base A n c ls) (hX : X < base) : IRows (W.setCell ⟨X, k, none⟩ u) base A n c ls := by
  obtain ⟨rs, h1, h2, h3, h4⟩ := h
  exact ⟨rs, h1, h2, own_far h3 hX, fun i r l hr hs => own_far (h4 i r l hr hs) hX⟩
theorem mem_setE {t : Nat → Nat → Bool} {m v : Nat} {x : Int} (h : x ∈ setE t m v) : 0 ≤ x ∧ x < m := by
  unfold setE at h
  obtain ⟨w, hw, rfl⟩ := List.mem_map.1 h
  have := List.mem_range.1 (List.mem_filter.1 hw).1
  omega
theorem mem_setsE {t : Nat → Nat → Bool} {k m : Nat} {l : List Int} (h : l ∈ setsE t k m) : ∃ v, l = setE t m v := by
  unfold setsE at h
  obtain ⟨w, _, rfl⟩ := List.mem_map.1 h
  exact ⟨w, rfl⟩

def roundE (ms : List (List Bool)) (m : Nat) : List Int := ((List.range m).filter fun v => cellM ms v v).map fun (v : Nat) => (v : Int)
theorem roundE_next (ms : List (List Bool)) (i : Nat) : roundE ms (i + 1) = if cellM ms i i = true then roundE ms i ++ [(i : Int)] else roundE ms i := by
  unfold roundE
  rw [List.range_succ, List.filter_append, List.map_append]
  cases h : cellM ms i i
  · rw [List.filter_cons_of_neg (by simp [h])]; simp
  · rw [List.filter_cons_of_pos (p := fun v => cellM ms v v) h]; simp
theorem roundE_len (ms : List (List Bool)) (m : Nat) : (roundE ms m).length ≤ m := by
  unfold roundE
  rw [List.length_map]
  exact Nat.le_trans (List.length_filter_le _ _) (by rw [List.length_range]; exact Nat.le_refl _)

end Go.Proofs.YtgbpaiffnhpafaaDoor
