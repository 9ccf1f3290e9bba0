/- The document's All: a row of rows of bools. -/
import Derived.Test.YtaigpdpcliecpaaM15
import Derived.Test.YtaigpdpcliecpaaM7
-- holds: YtaigpdpcliecpaaCb YtaigpdpcliecpaaCc YtaigpdpcliecpaaCd
namespace Go.Proofs.Ytaigpdpcliecpaa
open Go.RowKit

/-- A row of edges, one or more, leads from the one to the other. -/
inductive Leads (zs : List Ed) (u : Int) : Int → Prop
  | one {p : Ed} : p ∈ zs → p.1 = u → Leads zs u p.2.1
  | more {p : Ed} : Leads zs u p.1 → p ∈ zs → Leads zs u p.2.1
theorem Leads.trans {zs : List Ed} {u v x : Int} (h : Leads zs u v) (k : Leads zs v x) : Leads zs u x := by
  induction k with
  | one hp hu => subst hu; exact .more h hp
  | more _ hp ih => exact .more ih hp
theorem Leads.mono {zs ys : List Ed} {u v : Int} (hs : ∀ p ∈ zs, p ∈ ys) (h : Leads zs u v) : Leads ys u v := by
  induction h with
  | one hp hu => exact .one (hs _ hp) hu
  | more _ hp ih => exact .more ih (hs _ hp)
theorem Leads.ends {zs : List Ed} {nodes u v : Int} (hz : ∀ p ∈ zs, rightE nodes p = true) (h : Leads zs u v) : (0 ≤ u ∧ u < nodes) ∧ (0 ≤ v ∧ v < nodes) := by
  induction h with
  | one hp hu => have := of_decide_eq_true (hz _ hp); subst hu; exact ⟨this.1, this.2.1⟩
  | more _ hp ih => have := of_decide_eq_true (hz _ hp); exact ⟨ih.1, this.2.1⟩
/-- How far the search has come: ex are those whose edges are being gone over. -/
structure Bfs (zs : List Ed) (m : Nat) (v : Int) (ex : Int → Prop) (out : List Bool) (todo : List Int) : Prop where
  len : out.length = m
  sound : ∀ u : Nat, out[u]? = some true → Leads zs v u
  rows : ∀ x ∈ todo, (0 ≤ x ∧ x < m) ∧ (x = v ∨ Leads zs v x)
  closed : ∀ x : Int, 0 ≤ x → (x = v ∨ out[x.toNat]? = some true) → ¬ ex x → x ∈ todo ∨ ∀ p ∈ zs, p.1 = x → out[p.2.1.toNat]? = some true
theorem Bfs.start {zs : List Ed} {m : Nat} {v : Int} (h : 0 ≤ v ∧ v < m) : Bfs zs m v (fun _ => False) (List.replicate m false) [v] := by
  refine ⟨List.length_replicate, fun u hu => ?_, fun x hx => ?_, fun x _ hx _ => ?_⟩
  · rw [List.getElem?_replicate] at hu
    split at hu <;> simp at hu
  · simp at hx; subst hx; exact ⟨h, .inl rfl⟩
  · rcases hx with rfl | hx
    · exact .inl (by simp)
    · rw [List.getElem?_replicate] at hx
      split at hx <;> simp at hx
theorem Bfs.pop {zs : List Ed} {m : Nat} {v x : Int} {out : List Bool} {rest : List Int} (h : Bfs zs m v (fun _ => False) out (x :: rest)) : Bfs zs m v (fun y => y = x) out rest ∧ (0 ≤ x ∧ x < m) ∧ (x = v ∨ Leads zs v x) := by
  refine ⟨⟨h.len, h.sound, fun y hy => h.rows y (.tail _ hy), fun y h0 hy hex => ?_⟩, h.rows x (.head _)⟩
  rcases h.closed y h0 hy (fun e => e) with h1 | h1
  · rcases List.mem_cons.1 h1 with h2 | h2
    · exact absurd h2 hex
    · exact .inl h2
  · exact .inr h1
theorem count_set : ∀ (l : List Bool) (y : Nat), l[y]? = some false → (l.set y true).count false + 1 = l.count false
  | [], y, h => by simp at h
  | b :: l, 0, h => by simp at h; subst h; simp
  | b :: l, y + 1, h => by
    simp at h
    have := count_set l y h
    cases b <;> simp <;> omega
theorem set_true {out : List Bool} {y u : Nat} (h : out[u]? = some true) : (out.set y true)[u]? = some true := by
  rw [List.getElem?_set]
  have := (List.getElem?_eq_some_iff.1 h).1
  split
  · rename_i e; subst e; rw [if_pos this]
  · exact h
theorem Bfs.push {zs : List Ed} {m : Nat} {v : Int} {ex : Int → Prop} {out : List Bool} {todo : List Int} (h : Bfs zs m v ex out todo) {y : Nat} (hy : y < m) (hl : Leads zs v y) : Bfs zs m v ex (out.set y true) (todo ++ [(y : Int)]) := by
  refine ⟨by rw [List.length_set, h.len], fun u hu => ?_, fun x hx => ?_, fun x h0 hx hex => ?_⟩
  · rw [List.getElem?_set] at hu
    split at hu
    · rename_i e; subst e; exact hl
    · exact h.sound u hu
  · rcases List.mem_append.1 hx with hx | hx
    · exact h.rows x hx
    · simp at hx; subst hx; exact ⟨by omega, .inr hl⟩
  · by_cases e : x = (y : Int)
    · exact .inl (by simp [e])
    · have hx' : x = v ∨ out[x.toNat]? = some true := by
        rcases hx with hx | hx
        · exact .inl hx
        · rw [List.getElem?_set, if_neg (by omega)] at hx
          exact .inr hx
      rcases h.closed x h0 hx' hex with h1 | h1
      · exact .inl (List.mem_append_left _ h1)
      · exact .inr fun p hp he => set_true (h1 p hp he)
theorem Bfs.done {zs : List Ed} {m : Nat} {v x : Int} {out : List Bool} {todo : List Int} (h : Bfs zs m v (fun y => y = x) out todo) (hx : ∀ p ∈ zs, p.1 = x → out[p.2.1.toNat]? = some true) : Bfs zs m v (fun _ => False) out todo := by
  refine ⟨h.len, h.sound, h.rows, fun y h0 hy _ => ?_⟩
  by_cases e : y = x
  · subst e; exact .inr hx
  · exact h.closed y h0 hy e
theorem Bfs.out {zs : List Ed} {m : Nat} {v : Int} {out : List Bool} (h : Bfs zs m v (fun _ => False) out []) (hz : ∀ p ∈ zs, rightE (m : Int) p = true) (u : Nat) : out[u]? = some true ↔ Leads zs v u := by
  refine ⟨h.sound u, fun hl => ?_⟩
  have : ∀ y, Leads zs v y → out[y.toNat]? = some true := by
    intro y hy
    induction hy with
    | @one p hp hu =>
      have := (of_decide_eq_true (hz _ hp)).1.1
      rcases h.closed p.1 this (.inl hu) (fun e => e) with h1 | h1
      · simp at h1
      · exact h1 p hp rfl
    | @more p _ hp ih =>
      have := (of_decide_eq_true (hz _ hp)).1.1
      rcases h.closed p.1 this (.inr ih) (fun e => e) with h1 | h1
      · simp at h1
      · exact h1 p hp rfl
  simpa using this u hl

/-- A row of bools, as cells. -/
def bools (bs : List Bool) : List Value := bs.map Value.bool
theorem bools_length (bs : List Bool) : (bools bs).length = bs.length := by unfold bools; simp
theorem bools_one (bs : List Bool) : ∀ u ∈ bools bs, u.oneCell' = true := by
  intro u hu
  obtain ⟨b, _, rfl⟩ := List.mem_map.1 hu
  rfl
theorem bools_set (bs : List Bool) (k : Nat) (b : Bool) : (bools bs).set k (.bool b) = bools (bs.set k b) := by unfold bools; rw [List.map_set]
theorem bools_get {bs : List Bool} {k : Nat} {b : Bool} (h : bs[k]? = some b) : (bools bs)[k]? = some (.bool b) := by unfold bools; rw [List.getElem?_map, h]; rfl
theorem bool_info : (Try.prog.info? 4).map (fun i => (i.zero, i.size, i.bytes)) = some (some (.bool false), 1, 1) := by kernel_rfl
theorem made_bools (n : Nat) : madeCells (Value.bool false).cells (n * 1) = (bools (List.replicate n false)).toArray := by
  apply Array.ext
  · rw [size_madeCells, List.size_toArray, bools_length, List.length_replicate, Nat.mul_one]
  · intro j h1 h2
    have hz : (Value.bool false).cells = #[.bool false] := by simp [Value.cells]
    simp only [madeCells, hz, Array.getElem_map, Array.getElem_range, List.getElem_toArray, bools, List.getElem_map, List.getElem_replicate]
    simp [Nat.mod_one]
theorem bool_make (n : Nat) (z : Int) (hz : z = (n : Int)) (hn : n ≤ 1000000) (W : World) :
    (Instr.makeSlice 62 (.int .i64 z) (.int .i64 z)).run Try.prog W = .ok (.slice (some ⟨W.heap.size, 0, none⟩) n n) (W.alloc (.cells (bools (List.replicate n false)).toArray 4)) := by
  subst hz
  obtain ⟨i0, hi, hz0, hz1, hz2⟩ := info_parts bool_info
  have hr := run_make (P := Try.prog) W 62 4 i0 _ Try.underlying62 hi hz0 .i64 .i64 n n (by omega) (by omega) (by rw [hz2]; omega) (by omega)
  simp only [Int.toNat_natCast] at hr
  rw [hz1, made_bools] at hr
  exact hr
theorem own_kind {W W' : World} {base n size : Nat} {e : TypeId} {v : Value} {xs : List Value} (h : W.ownsRow base e size v n xs) (hk : ∀ C cs, Blk W C e cs → Blk W' C e cs) : W'.ownsRow base e size v n xs := by
  refine ⟨h.1, ?_⟩
  rcases h.2 with hn | ⟨g, cap, cur, hv, hbg, hb, rest⟩
  · exact .inl hn
  · exact .inr ⟨g, cap, cur, hv, hbg, hk g cur hb, rest⟩
/-- Bools, in memory of the call's own. -/
def BoolsIs (bs : List Bool) (w : World) (e : Ending) (w' : World) : Prop :=
  ∃ (A : Option Addr) (c : Nat), e = .returned (.slice A bs.length c) ∧ w'.ownsRow w.heap.size 4 1 (.slice A bs.length c) bs.length (bools bs) ∧ bs.length ≤ c ∧ c ≤ 9223372036854775807 ∧ Below w.heap.size w w'
theorem blk_own1 {W : World} {B X n : Nat} {e : TypeId} {xs : List Value} (hB : B ≤ X) (h : Blk W X e xs.toArray) (hl : xs.length = n) (hn : n ≤ 1000000) : W.ownsRow B e 1 (.slice (some ⟨X, 0, none⟩) n n) n xs := by
  refine ⟨by omega, .inr ⟨X, n, _, rfl, hB, h, Nat.le_refl _, by unfold maxLen; omega, by simp; omega, ?_⟩⟩
  rw [List.take_of_length_le (by simp; omega)]
end Go.Proofs.Ytaigpdpcliecpaa
namespace Go.Proofs.Ytaigpdpcliecpaa
open Go.RowKit Go.Shelf

theorem iq_elem_size (W : World) : (sizeOf (Try.prog.elem 27)).run Try.prog W = .ok 1 W := by kernel_rfl
theorem iq_slice_1 (A : Option Addr) (len cap : Nat) (hl : 1 ≤ len) (W : World) :
    (Instr.slice 27 (.slice A len cap) (some (.int .i64 1)) none none).run Try.prog W = .ok (.slice (if cap = 1 then A else A.map (·.add 1)) (len - 1) (cap - 1)) W := by
  rw [run_slice_l W 27 A len cap (show Try.prog.underlying 27 = some (.slice (Try.prog.elem 27)) by kernel_rfl) .i64 1 (by omega) (by omega), iq_elem_size]
  rfl
theorem QRow.setOther {w : World} {base n X k : Nat} {e t : TypeId} {v u : Value} {xs : List Value} {cs : Array Value} (h : QRow w base e v n xs) (hX : Blk w X t cs) (ht : e ≠ t) : QRow (w.setCell ⟨X, k, none⟩ u) base e v n xs :=
  h.kept fun _ _ _ hk => hk.far (p := ⟨X, k, none⟩) (Blk.ne_ hk hX ht) _
/-- How far the search has come, in memory. -/
structure BfsAt (w : World) (X : Nat) (out : List Bool) (todo : List Int) (A : Option Addr) (n c : Nat) (W : World) : Prop where
  below : Below w.heap.size w W
  blk : Blk W X 4 (bools out).toArray
  row : QRow W w.heap.size 3 (.slice A n c) n (ints todo)
theorem BfsAt.on {w W W' : World} {X n c : Nat} {out : List Bool} {todo : List Int} {A : Option Addr} (h : BfsAt w X out todo A n c W) (hb : Below W.heap.size W W') : BfsAt w X out todo A n c W' :=
  ⟨h.below.trans (hb.mono h.below.size), h.blk.below hb h.blk.lt, h.row.on hb⟩
theorem BfsAt.alloc {w W : World} {X n c : Nat} {out : List Bool} {todo : List Int} {A : Option Addr} (h : BfsAt w X out todo A n c W) (o : Obj) : BfsAt w X out todo A n c (W.alloc o) := h.on ((Below.refl _ _).alloc (Nat.le_refl _) o)
theorem BfsAt.len {w W : World} {X n c : Nat} {out : List Bool} {todo : List Int} {A : Option Addr} (h : BfsAt w X out todo A n c W) : todo.length = n := by have := h.row.1; rwa [ints_length] at this
theorem BfsAt.set {w W : World} {X n c k : Nat} {out : List Bool} {todo : List Int} {A : Option Addr} (h : BfsAt w X out todo A n c W) (hX : w.heap.size ≤ X) (b : Bool) : BfsAt w X (out.set k b) todo A n c (W.setCell ⟨X, k, none⟩ (.bool b)) := by
  refine ⟨h.below.setCell hX _, ?_, h.row.setOther h.blk (by decide)⟩
  have := h.blk.set_ k (.bool b)
  rwa [List.setIfInBounds_toArray, bools_set] at this
theorem BfsAt.more {w W W' : World} {X n c c' : Nat} {out : List Bool} {todo : List Int} {A A' : Option Addr} {y : Int} (h : BfsAt w X out todo A n c W) (m : QMore W w.heap.size 3 (n + 1) (ints todo ++ [.int .i64 y]) (.slice A' (n + 1) c') W') : BfsAt w X out (todo ++ [y]) A' (n + 1) c' W' := by
  refine ⟨h.below.trans m.2.1, m.2.2 _ _ _ h.blk (by decide), ?_⟩
  rw [ints_append]
  exact m.1

end Go.Proofs.Ytaigpdpcliecpaa
namespace Go.Proofs.Ytaigpdpcliecpaa
open Go.RowKit Go.Shelf

theorem own_grown {W W' : World} {base base' n n' size size' : Nat} {e e' : TypeId} {v v' : Value} {xs xs' : List Value} {o : Obj} (h : W.ownsRow base e size v n xs) (h' : W.ownsRow base' e' size' v' n' xs') (hg : (W.alloc o).grownBy W' v'.ownBlock) (ht : e ≠ e') : W'.ownsRow base e size v n xs := by
  refine own_kind h fun C cs hk => (hk.alloc o).grown hg fun hh => ?_
  exact own_blk_ne h' hk (Ne.symm ht) hh.symm
theorem own_on {W W' : World} {base n size : Nat} {e : TypeId} {v : Value} {xs : List Value} (h : W.ownsRow base e size v n xs) (hb : Below W.heap.size W W') : W'.ownsRow base e size v n xs := own_kind h fun _ _ hk => hk.below hb hk.lt
/-- A row of rows of bools, all of one length, in memory of the call's own. -/
def Mat (W : World) (base m : Nat) (A : Option Addr) (n c : Nat) (ms : List (List Bool)) : Prop :=
  ∃ rs : List (Option Addr × Nat), rs.length = n ∧ ms.length = n ∧ W.ownsRow base 62 1 (.slice A n c) n (rs.map fun r => .slice r.1 m r.2) ∧
    ∀ (i : Nat) (r : Option Addr × Nat) (bs : List Bool), rs[i]? = some r → ms[i]? = some bs → bs.length = m ∧ W.ownsRow base 4 1 (.slice r.1 m r.2) m (bools bs)
section
variable {W W' : World} {base m n c : Nat} {A : Option Addr} {ms : List (List Bool)}
theorem Mat.on (h : Mat W base m A n c ms) (hb : Below W.heap.size W W') : Mat W' base m A n c ms := by
  obtain ⟨rs, h1, h2, h3, h4⟩ := h
  exact ⟨rs, h1, h2, own_on h3 hb, fun i r bs hr hs => ⟨(h4 i r bs hr hs).1, own_on (h4 i r bs hr hs).2 hb⟩⟩
theorem Mat.base_ (h : Mat W base m A n c ms) {base' : Nat} (hb : base' ≤ base) : Mat W base' m A n c ms := by
  obtain ⟨rs, h1, h2, h3, h4⟩ := h
  exact ⟨rs, h1, h2, own_base h3 hb, fun i r bs hr hs => ⟨(h4 i r bs hr hs).1, own_base (h4 i r bs hr hs).2 hb⟩⟩
theorem Mat.len (h : Mat W base m A n c ms) : ms.length = n := by obtain ⟨_, _, h2, _⟩ := h; exact h2
theorem Mat.nil (W : World) (base m : Nat) : Mat W base m none 0 0 [] := ⟨[], rfl, rfl, World.ownsRow_nil _ _ _ _, fun i r bs h => by simp at h⟩
/-- One cell of it. -/
theorem Mat.at_ (h : Mat W base m A n c ms) {i j : Nat} (hi : i < n) (hj : j < m) : ∃ (b o : Nat) (A' : Option Addr) (c' b' o' : Nat) (bs : List Bool) (v : Bool), A = some ⟨b, o, none⟩ ∧ W.cell? ⟨b, o + i, none⟩ = some (.slice A' m c') ∧ A' = some ⟨b', o', none⟩ ∧ W.cell? ⟨b', o' + j, none⟩ = some (.bool v) ∧ ms[i]? = some bs ∧ bs[j]? = some v := by
  obtain ⟨rs, h1, h2, h3, h4⟩ := h
  obtain ⟨r, hr⟩ : ∃ r, rs[i]? = some r := ⟨rs[i]'(by omega), List.getElem?_eq_getElem _⟩
  obtain ⟨bs, hs⟩ : ∃ bs, ms[i]? = some bs := ⟨ms[i]'(by omega), List.getElem?_eq_getElem _⟩
  obtain ⟨hl, h5⟩ := h4 i r bs hr hs
  obtain ⟨v, hv⟩ : ∃ v, bs[j]? = some v := ⟨bs[j]'(by omega), List.getElem?_eq_getElem _⟩
  obtain ⟨b, o, hA, _, hc⟩ := reads_plain (Reads.of_own h3) (by omega)
  obtain ⟨b', o', hA', _, hc'⟩ := reads_plain (Reads.of_own h5) (by omega)
  exact ⟨b, o, r.1, r.2, b', o', bs, v, hA, hc i _ (by rw [List.getElem?_map, hr]; rfl), hA', hc' j _ (bools_get hv), hs, hv⟩
/-- One more row. -/
theorem mat_more {rs : List (Option Addr × Nat)} (h1 : rs.length = n) (h2 : ms.length = n) (h3 : W.ownsRow base 62 1 (.slice A n c) n (rs.map fun r => .slice r.1 m r.2))
    (h4 : ∀ (i : Nat) (r : Option Addr × Nat) (bs : List Bool), rs[i]? = some r → ms[i]? = some bs → bs.length = m ∧ W.ownsRow base 4 1 (.slice r.1 m r.2) m (bools bs))
    {A' : Option Addr} {c' : Nat} {bs : List Bool} {o : Obj} {v5 : Value} (hl : bs.length = m) (hb : W.ownsRow base 4 1 (.slice A' m c') m (bools bs)) (h5 : W'.ownsRow base 62 1 v5 (n + 1) ((rs.map fun r => .slice r.1 m r.2) ++ [.slice A' m c']))
    (hg : (W.alloc o).grownBy W' (Value.slice A n c).ownBlock) : ∃ A5 c5, v5 = .slice A5 (n + 1) c5 ∧ Mat W' base m A5 (n + 1) c5 (ms ++ [bs]) := by
  obtain ⟨A5, c5, rfl, _, _⟩ := own_form2 h5
  refine ⟨A5, c5, rfl, rs ++ [(A', c')], by rw [List.length_append, h1]; rfl, by rw [List.length_append, h2]; rfl, by simpa using h5, fun i r b hr hs => ?_⟩
  rcases Nat.lt_or_ge i n with hi | hi
  · rw [List.getElem?_append_left (by omega)] at hr hs
    exact ⟨(h4 i r b hr hs).1, own_grown (h4 i r b hr hs).2 h3 hg (by decide)⟩
  · have hi2 : i = n := by
      have := (List.getElem?_eq_some_iff.1 hr).1
      rw [List.length_append, h1] at this
      simp at this
      omega
    subst hi2
    rw [List.getElem?_append_right (by omega), h1, Nat.sub_self] at hr
    rw [List.getElem?_append_right (by omega), h2, Nat.sub_self] at hs
    simp at hr hs
    subst hr; subst hs
    exact ⟨hl, own_grown hb h3 hg (by decide)⟩
end
theorem bslice_info : (Try.prog.info? 62).map (fun i => (i.zero, i.size, i.bytes)) = some (some (.slice none 0 0), 1, 24) := by kernel_rfl
/-- Which nodes lead to which, as rows. -/
structure AllM (zs : List Ed) (m : Nat) (ms : List (List Bool)) : Prop where
  len : ms.length = m
  row : ∀ (i : Nat) (bs : List Bool), ms[i]? = some bs → bs.length = m ∧ ∀ u : Nat, bs[u]? = some true ↔ Leads zs (i : Int) u

def AllIs (zs : List Ed) (m : Nat) (w : World) (e : Ending) (w' : World) : Prop :=
  ∃ (ms : List (List Bool)) (A' : Option Addr) (c' : Nat), AllM zs m ms ∧ e = .returned (.slice A' m c') ∧ Mat w' w.heap.size m A' m c' ms ∧ Below w.heap.size w w'

end Go.Proofs.Ytaigpdpcliecpaa
