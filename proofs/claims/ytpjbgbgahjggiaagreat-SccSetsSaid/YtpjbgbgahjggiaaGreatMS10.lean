/- The document's Of and Round: the number of each node's component; who goes round. -/
import Derived.Test.YtpjbgbgahjggiaaGreatMS9
import Derived.Test.YtpjbgbgahjggiaaGreatMS8
-- holds: YtpjbgbgahjggiaaGreatCb YtpjbgbgahjggiaaGreatCc YtpjbgbgahjggiaaGreatCd YtpjbgbgahjggiaaGreatCe YtpjbgbgahjggiaaGreatCsa YtpjbgbgahjggiaaGreatCf
namespace Go.Proofs.YtpjbgbgahjggiaaGreat
open Go.RowKit

/-- A row of edges, one or more, leads from the one to the other. -/
inductive Leads (zs : List Ed) (u : Int) : Int → Prop
  | one {p : Ed} : p ∈ zs → p.1 = u → Leads zs u p.2.1
  | more {p : Ed} : Leads zs u p.1 → p ∈ zs → Leads zs u p.2.1
theorem Leads.trans {zs : List Ed} {u v x : Int} (h : Leads zs u v) (k : Leads zs v x) : Leads zs u x := by
  induction k with
  | one hp hu => subst hu; exact .more h hp
  | more _ hp ih => exact .more ih hp
theorem Leads.mono {zs ys : List Ed} {u v : Int} (hs : ∀ p ∈ zs, p ∈ ys) (h : Leads zs u v) : Leads ys u v := by
  induction h with
  | one hp hu => exact .one (hs _ hp) hu
  | more _ hp ih => exact .more ih (hs _ hp)
theorem Leads.ends {zs : List Ed} {nodes u v : Int} (hz : ∀ p ∈ zs, rightE nodes p = true) (h : Leads zs u v) : (0 ≤ u ∧ u < nodes) ∧ (0 ≤ v ∧ v < nodes) := by
  induction h with
  | one hp hu => have := of_decide_eq_true (hz _ hp); subst hu; exact ⟨this.1, this.2.1⟩
  | more _ hp ih => have := of_decide_eq_true (hz _ hp); exact ⟨ih.1, this.2.1⟩
/-- How far the search has come: ex are those whose edges are being gone over. -/
structure Bfs (zs : List Ed) (m : Nat) (v : Int) (ex : Int → Prop) (out : List Bool) (todo : List Int) : Prop where
  len : out.length = m
  sound : ∀ u : Nat, out[u]? = some true → Leads zs v u
  rows : ∀ x ∈ todo, (0 ≤ x ∧ x < m) ∧ (x = v ∨ Leads zs v x)
  closed : ∀ x : Int, 0 ≤ x → (x = v ∨ out[x.toNat]? = some true) → ¬ ex x → x ∈ todo ∨ ∀ p ∈ zs, p.1 = x → out[p.2.1.toNat]? = some true
theorem Bfs.start {zs : List Ed} {m : Nat} {v : Int} (h : 0 ≤ v ∧ v < m) : Bfs zs m v (fun _ => False) (List.replicate m false) [v] := by
  refine ⟨List.length_replicate, fun u hu => ?_, fun x hx => ?_, fun x _ hx _ => ?_⟩
  · rw [List.getElem?_replicate] at hu
    split at hu <;> simp at hu
  · simp at hx; subst hx; exact ⟨h, .inl rfl⟩
  · rcases hx with rfl | hx
    · exact .inl (by simp)
    · rw [List.getElem?_replicate] at hx
      split at hx <;> simp at hx
theorem Bfs.pop {zs : List Ed} {m : Nat} {v x : Int} {out : List Bool} {rest : List Int} (h : Bfs zs m v (fun _ => False) out (x :: rest)) : Bfs zs m v (fun y => y = x) out rest ∧ (0 ≤ x ∧ x < m) ∧ (x = v ∨ Leads zs v x) := by
  refine ⟨⟨h.len, h.sound, fun y hy => h.rows y (.tail _ hy), fun y h0 hy hex => ?_⟩, h.rows x (.head _)⟩
  rcases h.closed y h0 hy (fun e => e) with h1 | h1
  · rcases List.mem_cons.1 h1 with h2 | h2
    · exact absurd h2 hex
    · exact .inl h2
  · exact .inr h1
theorem count_set : ∀ (l : List Bool) (y : Nat), l[y]? = some false → (l.set y true).count false + 1 = l.count false
  | [], y, h => by simp at h
  | b :: l, 0, h => by simp at h; subst h; simp
  | b :: l, y + 1, h => by
    simp at h
    have := count_set l y h
    cases b <;> simp <;> omega
theorem set_true {out : List Bool} {y u : Nat} (h : out[u]? = some true) : (out.set y true)[u]? = some true := by
  rw [List.getElem?_set]
  have := (List.getElem?_eq_some_iff.1 h).1
  split
  · rename_i e; subst e; rw [if_pos this]
  · exact h
theorem Bfs.push {zs : List Ed} {m : Nat} {v : Int} {ex : Int → Prop} {out : List Bool} {todo : List Int} (h : Bfs zs m v ex out todo) {y : Nat} (hy : y < m) (hl : Leads zs v y) : Bfs zs m v ex (out.set y true) (todo ++ [(y : Int)]) := by
  refine ⟨by rw [List.length_set, h.len], fun u hu => ?_, fun x hx => ?_, fun x h0 hx hex => ?_⟩
  · rw [List.getElem?_set] at hu
    split at hu
    · rename_i e; subst e; exact hl
    · exact h.sound u hu
  · rcases List.mem_append.1 hx with hx | hx
    · exact h.rows x hx
    · simp at hx; subst hx; exact ⟨by omega, .inr hl⟩
  · by_cases e : x = (y : Int)
    · exact .inl (by simp [e])
    · have hx' : x = v ∨ out[x.toNat]? = some true := by
        rcases hx with hx | hx
        · exact .inl hx
        · rw [List.getElem?_set, if_neg (by omega)] at hx
          exact .inr hx
      rcases h.closed x h0 hx' hex with h1 | h1
      · exact .inl (List.mem_append_left _ h1)
      · exact .inr fun p hp he => set_true (h1 p hp he)
theorem Bfs.done {zs : List Ed} {m : Nat} {v x : Int} {out : List Bool} {todo : List Int} (h : Bfs zs m v (fun y => y = x) out todo) (hx : ∀ p ∈ zs, p.1 = x → out[p.2.1.toNat]? = some true) : Bfs zs m v (fun _ => False) out todo := by
  refine ⟨h.len, h.sound, h.rows, fun y h0 hy _ => ?_⟩
  by_cases e : y = x
  · subst e; exact .inr hx
  · exact h.closed y h0 hy e
theorem Bfs.out {zs : List Ed} {m : Nat} {v : Int} {out : List Bool} (h : Bfs zs m v (fun _ => False) out []) (hz : ∀ p ∈ zs, rightE (m : Int) p = true) (u : Nat) : out[u]? = some true ↔ Leads zs v u := by
  refine ⟨h.sound u, fun hl => ?_⟩
  have : ∀ y, Leads zs v y → out[y.toNat]? = some true := by
    intro y hy
    induction hy with
    | @one p hp hu =>
      have := (of_decide_eq_true (hz _ hp)).1.1
      rcases h.closed p.1 this (.inl hu) (fun e => e) with h1 | h1
      · simp at h1
      · exact h1 p hp rfl
    | @more p _ hp ih =>
      have := (of_decide_eq_true (hz _ hp)).1.1
      rcases h.closed p.1 this (.inr ih) (fun e => e) with h1 | h1
      · simp at h1
      · exact h1 p hp rfl
  simpa using this u hl

/-- A row of bools, as cells. -/
def bools (bs : List Bool) : List Value := bs.map Value.bool
theorem bools_length (bs : List Bool) : (bools bs).length = bs.length := by unfold bools; simp
theorem bools_one (bs : List Bool) : ∀ u ∈ bools bs, u.oneCell' = true := by
  intro u hu
  obtain ⟨b, _, rfl⟩ := List.mem_map.1 hu
  rfl
theorem bools_set (bs : List Bool) (k : Nat) (b : Bool) : (bools bs).set k (.bool b) = bools (bs.set k b) := by unfold bools; rw [List.map_set]
theorem bools_get {bs : List Bool} {k : Nat} {b : Bool} (h : bs[k]? = some b) : (bools bs)[k]? = some (.bool b) := by unfold bools; rw [List.getElem?_map, h]; rfl
theorem bool_info : (Tryz.prog.info? 4).map (fun i => (i.zero, i.size, i.bytes)) = some (some (.bool false), 1, 1) := by kernel_rfl
theorem made_bools (n : Nat) : madeCells (Value.bool false).cells (n * 1) = (bools (List.replicate n false)).toArray := by
  apply Array.ext
  · rw [size_madeCells, List.size_toArray, bools_length, List.length_replicate, Nat.mul_one]
  · intro j h1 h2
    have hz : (Value.bool false).cells = #[.bool false] := by simp [Value.cells]
    simp only [madeCells, hz, Array.getElem_map, Array.getElem_range, List.getElem_toArray, bools, List.getElem_map, List.getElem_replicate]
    simp [Nat.mod_one]
theorem bool_make (n : Nat) (z : Int) (hz : z = (n : Int)) (hn : n ≤ 1000000) (W : World) :
    (Instr.makeSlice 72 (.int .i64 z) (.int .i64 z)).run Tryz.prog W = .ok (.slice (some ⟨W.heap.size, 0, none⟩) n n) (W.alloc (.cells (bools (List.replicate n false)).toArray 4)) := by
  subst hz
  obtain ⟨i0, hi, hz0, hz1, hz2⟩ := info_parts bool_info
  have hr := run_make (P := Tryz.prog) W 72 4 i0 _ Tryz.underlying72 hi hz0 .i64 .i64 n n (by omega) (by omega) (by rw [hz2]; omega) (by omega)
  simp only [Int.toNat_natCast] at hr
  rw [hz1, made_bools] at hr
  exact hr
theorem own_kind {W W' : World} {base n size : Nat} {e : TypeId} {v : Value} {xs : List Value} (h : W.ownsRow base e size v n xs) (hk : ∀ C cs, Blk W C e cs → Blk W' C e cs) : W'.ownsRow base e size v n xs := by
  refine ⟨h.1, ?_⟩
  rcases h.2 with hn | ⟨g, cap, cur, hv, hbg, hb, rest⟩
  · exact .inl hn
  · exact .inr ⟨g, cap, cur, hv, hbg, hk g cur hb, rest⟩
/-- Bools, in memory of the call's own. -/
def BoolsIs (bs : List Bool) (w : World) (e : Ending) (w' : World) : Prop :=
  ∃ (A : Option Addr) (c : Nat), e = .returned (.slice A bs.length c) ∧ w'.ownsRow w.heap.size 4 1 (.slice A bs.length c) bs.length (bools bs) ∧ bs.length ≤ c ∧ c ≤ 9223372036854775807 ∧ Below w.heap.size w w'
theorem blk_own1 {W : World} {B X n : Nat} {e : TypeId} {xs : List Value} (hB : B ≤ X) (h : Blk W X e xs.toArray) (hl : xs.length = n) (hn : n ≤ 1000000) : W.ownsRow B e 1 (.slice (some ⟨X, 0, none⟩) n n) n xs := by
  refine ⟨by omega, .inr ⟨X, n, _, rfl, hB, h, Nat.le_refl _, by unfold maxLen; omega, by simp; omega, ?_⟩⟩
  rw [List.take_of_length_le (by simp; omega)]
end Go.Proofs.YtpjbgbgahjggiaaGreat
namespace Go.Proofs.YtpjbgbgahjggiaaGreat
open Go.RowKit Go.Shelf

theorem iq_elem_size (W : World) : (sizeOf (Tryz.prog.elem 27)).run Tryz.prog W = .ok 1 W := by kernel_rfl
theorem iq_slice_1 (A : Option Addr) (len cap : Nat) (hl : 1 ≤ len) (W : World) :
    (Instr.slice 27 (.slice A len cap) (some (.int .i64 1)) none none).run Tryz.prog W = .ok (.slice (if cap = 1 then A else A.map (·.add 1)) (len - 1) (cap - 1)) W := by
  rw [run_slice_l W 27 A len cap (show Tryz.prog.underlying 27 = some (.slice (Tryz.prog.elem 27)) by kernel_rfl) .i64 1 (by omega) (by omega), iq_elem_size]
  rfl
theorem QRow.setOther {w : World} {base n X k : Nat} {e t : TypeId} {v u : Value} {xs : List Value} {cs : Array Value} (h : QRow w base e v n xs) (hX : Blk w X t cs) (ht : e ≠ t) : QRow (w.setCell ⟨X, k, none⟩ u) base e v n xs :=
  h.kept fun _ _ _ hk => hk.far (p := ⟨X, k, none⟩) (Blk.ne_ hk hX ht) _
/-- How far the search has come, in memory. -/
structure BfsAt (w : World) (X : Nat) (out : List Bool) (todo : List Int) (A : Option Addr) (n c : Nat) (W : World) : Prop where
  below : Below w.heap.size w W
  blk : Blk W X 4 (bools out).toArray
  row : QRow W w.heap.size 3 (.slice A n c) n (ints todo)
theorem BfsAt.on {w W W' : World} {X n c : Nat} {out : List Bool} {todo : List Int} {A : Option Addr} (h : BfsAt w X out todo A n c W) (hb : Below W.heap.size W W') : BfsAt w X out todo A n c W' :=
  ⟨h.below.trans (hb.mono h.below.size), h.blk.below hb h.blk.lt, h.row.on hb⟩
theorem BfsAt.alloc {w W : World} {X n c : Nat} {out : List Bool} {todo : List Int} {A : Option Addr} (h : BfsAt w X out todo A n c W) (o : Obj) : BfsAt w X out todo A n c (W.alloc o) := h.on ((Below.refl _ _).alloc (Nat.le_refl _) o)
theorem BfsAt.len {w W : World} {X n c : Nat} {out : List Bool} {todo : List Int} {A : Option Addr} (h : BfsAt w X out todo A n c W) : todo.length = n := by have := h.row.1; rwa [ints_length] at this
theorem BfsAt.set {w W : World} {X n c k : Nat} {out : List Bool} {todo : List Int} {A : Option Addr} (h : BfsAt w X out todo A n c W) (hX : w.heap.size ≤ X) (b : Bool) : BfsAt w X (out.set k b) todo A n c (W.setCell ⟨X, k, none⟩ (.bool b)) := by
  refine ⟨h.below.setCell hX _, ?_, h.row.setOther h.blk (by decide)⟩
  have := h.blk.set_ k (.bool b)
  rwa [List.setIfInBounds_toArray, bools_set] at this
theorem BfsAt.more {w W W' : World} {X n c c' : Nat} {out : List Bool} {todo : List Int} {A A' : Option Addr} {y : Int} (h : BfsAt w X out todo A n c W) (m : QMore W w.heap.size 3 (n + 1) (ints todo ++ [.int .i64 y]) (.slice A' (n + 1) c') W') : BfsAt w X out (todo ++ [y]) A' (n + 1) c' W' := by
  refine ⟨h.below.trans m.2.1, m.2.2 _ _ _ h.blk (by decide), ?_⟩
  rw [ints_append]
  exact m.1

set_option maxRecDepth 100000 in
set_option maxHeartbeats 4000000 in
theorem rleads_any (z v : Int) (A : Option Addr) (n c : Nat) (zs : List Ed) (hg : IsG z zs) (hv : 0 ≤ v ∧ v < z) (hn : n ≤ 1000) (w : World) (hR : Reads w w.heap.size 3 A n (cellsE zs)) :
    Calls Tryz.prog 52 #[.agg #[.int .i64 z, .slice A n c], .int .i64 v] w fun e w' => ∃ bs : List Bool, bs.length = z.toNat ∧ (∀ u : Nat, bs[u]? = some true ↔ Leads zs v u) ∧ BoolsIs bs w e w' := by
  obtain ⟨bx, b0⟩ := box_new w #[.int .i64 z, .slice A n c] 24
  have hnd := hg.nodes
  obtain ⟨m, hm⟩ : ∃ m : Nat, z = (m : Int) := ⟨z.toNat, by omega⟩
  have hmz : z.toNat = m := by omega
  have hm300 : m ≤ 300 := by omega
  rw [hmz]
  subst hm
  have HZ := Lib.hid hg.all
  have hmk := fun W => bool_make m (m : Int) rfl (by omega) W
  have HO := Lib.hid fun x W (h : Below w.heap.size w W) => rout_any (m : Int) x A n c zs hn W ((hR.below h).more h.size)
  obtain ⟨i0, hi, hz0, hz1, hz2⟩ := info_parts int_info
  have HZN : Hid (zs.length ≤ 1000) := by have := reads_len hR; show _ ≤ _; omega
  have B0 := Lib.hid b0
  have z0 := bx.cell 0
  have z1 := bx.cell 1
  have BX := Lib.hid bx
  have HV := Lib.hid hv
  clear hR bx b0 hg hnd hmz hv
  go_enter Tryz.func52, Tryz.ntmps52
  obtain ⟨W0, hW0⟩ : ∃ W0, w.alloc (.cells #[.int .i64 (m : Int), .slice A n c] 24) = W0 := ⟨_, rfl⟩
  rw [hW0] at B0 z0 z1 BX
  have hmk0 := hmk W0
  have S0 : Hid (BfsAt W0 W0.heap.size (List.replicate m false) [v] (some ⟨W0.heap.size + 1, 0, none⟩) 1 1 ((W0.alloc (.cells (bools (List.replicate m false)).toArray 4)).alloc (.cells #[.int .i64 v] 3))) := by
    have h1 : Below W0.heap.size W0 (W0.alloc (.cells (bools (List.replicate m false)).toArray 4)) := (Below.refl _ _).alloc (Nat.le_refl _) _
    have h2 := QRow.new (W0.alloc (.cells (bools (List.replicate m false)).toArray 4)) 3 (.int .i64 v) W0.heap.size h1.size
    rw [World.size_alloc] at h2
    exact ⟨h1.alloc h1.size _, (Blk.new _ _ _).alloc _, h2⟩
  clear hmk
  go_wp2_with fail
  clear hmk0 z0 z1 hW0
  generalize (W0.alloc (.cells (bools (List.replicate m false)).toArray 4)).alloc (.cells #[.int .i64 v] 3) = W2 at *
  go_loopg [6] (m + 1) (fun gg s6 wr => ∃ (out : List Bool) (todo : List Int) (A' : Option Addr) (k c' : Nat), s6 = .slice A' k c' ∧ out.count false + todo.length = gg ∧ gg ≤ m + 1 ∧ Hid (Bfs zs m v (fun _ => False) out todo) ∧ Hid (BfsAt W0 W0.heap.size out todo A' k c' wr))
  case atStart => exact ⟨_, _, _, _, _, rfl, by simp, Nat.le_refl _, Lib.hid (Bfs.start HV.out), S0⟩
  case round =>
    clear S0
    obtain ⟨out, todo, A', k, c', rfl, hgg, hgm, HB, HS⟩ := hrel
    rename World => wo
    have hlen := HS.out.len
    cases todo with
    | nil =>
      have hk : k = 0 := by simpa using hlen.symm
      subst hk
      have HE : Hid (out.length = m ∧ (∀ u : Nat, out[u]? = some true ↔ Leads zs v u) ∧ BoolsIs out w (.returned (.slice (some ⟨W0.heap.size, 0, none⟩) m m)) wo) := by
        have hl := HB.out.len
        refine ⟨hl, fun u => HB.out.out HZ.out u, ?_⟩
        unfold BoolsIs
        rw [hl]
        exact ⟨_, _, rfl, own_base (blk_own1 (Nat.le_refl _) HS.out.blk (by rw [bools_length, hl]) (by omega)) B0.out.size, Nat.le_refl _, by omega, B0.out.trans (HS.out.below.mono B0.out.size)⟩
      clear hgg hgm hlen
      go_wp2_with fail
      go_ret
      exact ⟨out, HE.out⟩
    | cons x rest =>
      cases gk with
      | zero => simp at hgg
      | succ g2 =>
        have hk1 : 1 ≤ k := by simp at hlen; omega
        have hkgt : (k : Int) > 0 := by omega
        have hkb : decide ((k : Int) > 0) = true := decide_eq_true hkgt
        have hlt0 : (0 : Int) < (k : Int) := by omega
        have hg2 : out.count false + rest.length = g2 := by simp at hgg; omega
        have hg2m : g2 ≤ m := by omega
        obtain ⟨qb, qo, qc, hq, q0⟩ := HS.out.row.head
        injection hq with hq1 _ hq2
        subst hq1; subst hq2
        have hs1 := iq_slice_1 (some ⟨qb, qo, none⟩) k c' hk1
        obtain ⟨A1, hA1⟩ : ∃ A1, (if c' = 1 then some (⟨qb, qo, none⟩ : Addr) else (some (⟨qb, qo, none⟩ : Addr)).map (·.add 1)) = A1 := ⟨_, rfl⟩
        have HT := HS.out.row.tail
        rw [hA1] at HT hs1
        have HS1 : Hid (BfsAt W0 W0.heap.size out rest A1 (k - 1) (c' - 1) wo) := ⟨HS.out.below, HS.out.blk, HT⟩
        have hpop := HB.out.pop
        have HB1 := Lib.hid hpop.1
        have HXR := Lib.hid hpop.2
        have HG2 := Lib.hid (And.intro hg2 hg2m)
        have bxo := BX.out.below HS.out.below BX.out.lt
        have z0 := bxo.cell 0
        have z1 := bxo.cell 1
        have HOX := Lib.hid (HO.out x wo (B0.out.trans (HS.out.below.mono B0.out.size)))
        clear hA1 HT hpop HB HS hgg hgm hlen hg2 hg2m bxo
        go_wp2_with fail
        refine HOX.out.mono ?_
        rintro e w2 hx
        obtain ⟨Ae, ce, rfl, h1, h2, h3, h4⟩ := rows_row hx
        have HS2 := Lib.hid (HS1.out.on h4)
        have HES := Lib.hid h1
        clear hx h1 h2 h3 h4 HOX HS1 z0 z1 q0 hs1
        obtain ⟨es, hes⟩ : ∃ es, outE zs x = es := ⟨_, rfl⟩
        rw [hes] at HES ⊢
        have HEQ := Lib.hid hes
        clear hes
        obtain ⟨kk, hkk⟩ : ∃ kk, es.length = kk := ⟨_, rfl⟩
        have HKK := Lib.hid hkk
        rw [hkk] at HES ⊢
        clear hkk
        go_wp2_with fail
        go_loopg [6, 27] kk (fun gg s6 s27 wr => ∃ (i : Nat) (out : List Bool) (todo : List Int) (A' : Option Addr) (k c' : Nat), i + gg = kk ∧ s27 = .int .i64 i ∧ s6 = .slice A' k c' ∧ Hid (out.count false + todo.length = g2) ∧ Hid (Bfs zs m v (fun y => y = x) out todo) ∧
          Hid (∀ j, j < i → ∀ p, es[j]? = some p → out[p.2.1.toNat]? = some true) ∧ Hid (BfsAt W0 W0.heap.size out todo A' k c' wr) ∧ Hid (wr.ownsRow wo.heap.size 54 3 (.slice Ae kk ce) kk (cellsE es)))
        case atStart => exact ⟨0, out, rest, A1, k - 1, c' - 1, by omega, rfl, rfl, HG2.out.1, HB1, fun j hj => by omega, HS2, HES⟩
        case round =>
          clear HS2 HES HB1 hk1 hkgt hkb hlt0
          obtain ⟨i, out, todo, A', k, c', hig, rfl, rfl, HC, HB, HD, HS, HES⟩ := hrel
          cases gk with
          | zero =>
            obtain rfl : i = kk := by omega
            have hlt : ¬ (i : Int) < (i : Int) := by omega
            have HDN : Hid (Bfs zs m v (fun _ => False) out todo) := HB.out.done fun p hp he => by
              have hpe : p ∈ es := by rw [← HEQ.out]; unfold outE; exact List.mem_filter.2 ⟨hp, decide_eq_true he⟩
              obtain ⟨j, hj⟩ := List.getElem?_of_mem hpe
              exact HD.out j (by have := (List.getElem?_eq_some_iff.1 hj).1; rw [HKK.out] at this; exact this) p hj
            clear hig
            go_wp2_with fail
            go_roundg g2
            case measure => omega
            case rel => exact ⟨out, todo, A', k, c', rfl, HC.out, by have := HG2.out; omega, HDN, HS⟩
          | succ g3 =>
            have hlt : (i : Int) < (kk : Int) := by omega
            have hik : i < kk := by omega
            have hw1 : IntKind.i64.wrap ((i : Int) + 1) = ((i + 1 : Nat) : Int) := by
              have h1 := HKK.out
              have h2 : es.length ≤ 1000 := by
                rw [← HEQ.out]
                unfold outE
                exact Nat.le_trans (List.length_filter_le _ _) HZN.out
              rw [IntKind.wrap_i64]; omega
            obtain ⟨p, hp⟩ : ∃ p, es[i]? = some p := ⟨es[i]'(by rw [HKK.out]; exact hik), List.getElem?_eq_getElem _⟩
            have hpz : p ∈ zs ∧ p.1 = x := by
              have := List.mem_of_getElem? hp
              rw [← HEQ.out] at this
              unfold outE at this
              exact ⟨(List.mem_filter.1 this).1, of_decide_eq_true (List.mem_filter.1 this).2⟩
            have hpr := of_decide_eq_true (HZ.out p hpz.1)
            obtain ⟨bl, ol, hAe, hbl, y0, y1, y2⟩ := ed_at (reads_own HES.out) hp
            have HL : Hid (Leads zs v p.2.1) := by
              rcases HXR.out.2 with h | h
              · exact .one hpz.1 (by rw [hpz.2]; exact h)
              · exact .more (by rw [hpz.2]; exact h) hpz.1
            have HIG : Hid (i + 1 + g3 = kk) := by show _ = _; omega
            have HP := Lib.hid hp
            obtain ⟨p1, p2, p3⟩ := p
            simp only at y0 y1 y2 hpr HL
            obtain ⟨yn, rfl⟩ : ∃ yn : Nat, p2 = (yn : Int) := ⟨p2.toNat, by omega⟩
            have hyn : yn < m := by omega
            have hynI : (yn : Int) < (m : Int) := by omega
            have HX := Lib.hid (Blk.new wr 54 #[.int .i64 p1, .int .i64 (yn : Int), .int .i64 p3])
            have HS2 := Lib.hid (HS.out.alloc (.cells #[.int .i64 p1, .int .i64 (yn : Int), .int .i64 p3] 54))
            have HES2 := Lib.hid (HES.out.alloc (.cells #[.int .i64 p1, .int .i64 (yn : Int), .int .i64 p3] 54))
            have HAE := Lib.hid hAe
            have hkn : k ≤ 301 := by
              have h1 := HS.out.len; have h2 := HC.out; have h3 := HG2.out; omega
            have HKN := Lib.hid hkn
            clear hp hpz hpr hig hbl hkn
            rw [hAe]
            clear hAe
            go_upto_region 9 with fail
            clear y0 y1 y2 HS HES
            generalize wr.alloc (.cells #[.int .i64 p1, .int .i64 (yn : Int), .int .i64 p3] 54) = wx at *
            generalize wr.heap.size = Y at *
            have y1 : wx.cell? ⟨Y, 1, none⟩ = some (.int .i64 (yn : Int)) := HX.out.cell 1
            obtain ⟨b, hb⟩ : ∃ b, out[yn]? = some b := ⟨out[yn]'(by rw [HB.out.len]; exact hyn), List.getElem?_eq_getElem _⟩
            have y3 : wx.cell? ⟨W0.heap.size, yn, none⟩ = some (.bool b) := by rw [HS2.out.blk.cell, List.getElem?_toArray]; exact bools_get hb
            have HBB := Lib.hid hb
            clear hb
            cases b
            · have f3 : wx.frozen? ⟨W0.heap.size, yn, none⟩ = false := HS2.out.blk.frozen yn
              have HS3 := Lib.hid (HS2.out.set (k := yn) (Nat.le_refl _) true)
              have hYX : Y ≠ W0.heap.size := Blk.ne_ HX.out HS2.out.blk (by decide)
              have x1 : (wx.setCell ⟨W0.heap.size, yn, none⟩ (.bool true)).cell? ⟨Y, 1, none⟩ = some (.int .i64 (yn : Int)) := (HX.out.far (p := ⟨W0.heap.size, yn, none⟩) hYX (.bool true)).cell 1
              have HES3 : Hid ((wx.setCell ⟨W0.heap.size, yn, none⟩ (.bool true)).ownsRow wo.heap.size 54 3 (.slice Ae kk ce) kk (cellsE es)) := own_kind HES2.out fun C cs hk => hk.far (p := ⟨W0.heap.size, yn, none⟩) (Blk.ne_ hk HS2.out.blk (by decide)) _
              clear hYX
              go_upto_region 11 with fail
              clear y1 y3 f3 HS2 HES2
              generalize wx.setCell ⟨W0.heap.size, yn, none⟩ (.bool true) = wy at *
              go_wp2_with (at_builtin; refine wpList_append_q _ rfl _ _ 27 rfl W0.heap.size 3 i0 _ Tryz.underlying27 hi hz0 hz1 (by rw [hz2]; decide) rfl (.slice A' k c') k (ints todo) rfl (HS3.out.row.alloc _) ⟨wy.heap.size, 0, none⟩ 1 (.int .i64 (yn : Int)) rfl ((Blk.new wy 3 #[.int .i64 (yn : Int)]).cell 0) rfl (by have := HKN.out; omega) (by have := HS3.out.below.size; simp; omega) ?_; intro v5 w5 hm5; obtain ⟨A5, c5, rfl, _⟩ := hm5.1.form; have HS4 := Lib.hid ((HS3.out.alloc _).more hm5); have HES4 : Hid (w5.ownsRow wo.heap.size 54 3 (.slice Ae kk ce) kk (cellsE es)) := own_kind (HES3.out.alloc _) (fun C cs hk => hm5.2.2 C _ cs hk (by decide)); clear hm5 x1)
              rw [← HAE.out]
              go_roundg g3
              case measure => omega
              case rel => exact ⟨i + 1, out.set yn true, todo ++ [(yn : Int)], A5, k + 1, c5, HIG.out, rfl, rfl, (by have h1 := count_set out yn HBB.out; have h2 := HC.out; show _ = _; rw [List.length_append]; simp; omega), Lib.hid (HB.out.push hyn HL.out), (fun j hj q hq => by
                rcases Nat.lt_or_ge j i with h | h
                · exact set_true (HD.out j h q hq)
                · obtain rfl : j = i := by omega
                  rw [HP.out] at hq
                  injection hq with hq
                  subst hq
                  show (out.set yn true)[(yn : Int).toNat]? = some true
                  rw [Int.toNat_natCast, List.getElem?_set, if_pos rfl, if_pos (by rw [HB.out.len]; exact hyn)]), HS4, HES4⟩
            · go_wp2_with fail
              rw [← HAE.out]
              go_roundg g3
              case measure => omega
              case rel => exact ⟨i + 1, out, todo, A', k, c', HIG.out, rfl, rfl, HC, HB, (fun j hj q hq => by
                rcases Nat.lt_or_ge j i with h | h
                · exact HD.out j h q hq
                · obtain rfl : j = i := by omega
                  rw [HP.out] at hq
                  injection hq with hq
                  subst hq
                  exact HBB.out), HS2, HES2⟩
end Go.Proofs.YtpjbgbgahjggiaaGreat
namespace Go.Proofs.YtpjbgbgahjggiaaGreat
open Go.RowKit Go.Shelf

theorem own_grown {W W' : World} {base base' n n' size size' : Nat} {e e' : TypeId} {v v' : Value} {xs xs' : List Value} {o : Obj} (h : W.ownsRow base e size v n xs) (h' : W.ownsRow base' e' size' v' n' xs') (hg : (W.alloc o).grownBy W' v'.ownBlock) (ht : e ≠ e') : W'.ownsRow base e size v n xs := by
  refine own_kind h fun C cs hk => (hk.alloc o).grown hg fun hh => ?_
  exact own_blk_ne h' hk (Ne.symm ht) hh.symm
theorem own_on {W W' : World} {base n size : Nat} {e : TypeId} {v : Value} {xs : List Value} (h : W.ownsRow base e size v n xs) (hb : Below W.heap.size W W') : W'.ownsRow base e size v n xs := own_kind h fun _ _ hk => hk.below hb hk.lt
/-- A row of rows of bools, all of one length, in memory of the call's own. -/
def Mat (W : World) (base m : Nat) (A : Option Addr) (n c : Nat) (ms : List (List Bool)) : Prop :=
  ∃ rs : List (Option Addr × Nat), rs.length = n ∧ ms.length = n ∧ W.ownsRow base 72 1 (.slice A n c) n (rs.map fun r => .slice r.1 m r.2) ∧
    ∀ (i : Nat) (r : Option Addr × Nat) (bs : List Bool), rs[i]? = some r → ms[i]? = some bs → bs.length = m ∧ W.ownsRow base 4 1 (.slice r.1 m r.2) m (bools bs)
section
variable {W W' : World} {base m n c : Nat} {A : Option Addr} {ms : List (List Bool)}
theorem Mat.on (h : Mat W base m A n c ms) (hb : Below W.heap.size W W') : Mat W' base m A n c ms := by
  obtain ⟨rs, h1, h2, h3, h4⟩ := h
  exact ⟨rs, h1, h2, own_on h3 hb, fun i r bs hr hs => ⟨(h4 i r bs hr hs).1, own_on (h4 i r bs hr hs).2 hb⟩⟩
theorem Mat.base_ (h : Mat W base m A n c ms) {base' : Nat} (hb : base' ≤ base) : Mat W base' m A n c ms := by
  obtain ⟨rs, h1, h2, h3, h4⟩ := h
  exact ⟨rs, h1, h2, own_base h3 hb, fun i r bs hr hs => ⟨(h4 i r bs hr hs).1, own_base (h4 i r bs hr hs).2 hb⟩⟩
theorem Mat.len (h : Mat W base m A n c ms) : ms.length = n := by obtain ⟨_, _, h2, _⟩ := h; exact h2
theorem Mat.nil (W : World) (base m : Nat) : Mat W base m none 0 0 [] := ⟨[], rfl, rfl, World.ownsRow_nil _ _ _ _, fun i r bs h => by simp at h⟩
/-- One cell of it. -/
theorem Mat.at_ (h : Mat W base m A n c ms) {i j : Nat} (hi : i < n) (hj : j < m) : ∃ (b o : Nat) (A' : Option Addr) (c' b' o' : Nat) (bs : List Bool) (v : Bool), A = some ⟨b, o, none⟩ ∧ W.cell? ⟨b, o + i, none⟩ = some (.slice A' m c') ∧ A' = some ⟨b', o', none⟩ ∧ W.cell? ⟨b', o' + j, none⟩ = some (.bool v) ∧ ms[i]? = some bs ∧ bs[j]? = some v := by
  obtain ⟨rs, h1, h2, h3, h4⟩ := h
  obtain ⟨r, hr⟩ : ∃ r, rs[i]? = some r := ⟨rs[i]'(by omega), List.getElem?_eq_getElem _⟩
  obtain ⟨bs, hs⟩ : ∃ bs, ms[i]? = some bs := ⟨ms[i]'(by omega), List.getElem?_eq_getElem _⟩
  obtain ⟨hl, h5⟩ := h4 i r bs hr hs
  obtain ⟨v, hv⟩ : ∃ v, bs[j]? = some v := ⟨bs[j]'(by omega), List.getElem?_eq_getElem _⟩
  obtain ⟨b, o, hA, _, hc⟩ := reads_plain (Reads.of_own h3) (by omega)
  obtain ⟨b', o', hA', _, hc'⟩ := reads_plain (Reads.of_own h5) (by omega)
  exact ⟨b, o, r.1, r.2, b', o', bs, v, hA, hc i _ (by rw [List.getElem?_map, hr]; rfl), hA', hc' j _ (bools_get hv), hs, hv⟩
/-- One more row. -/
theorem mat_more {rs : List (Option Addr × Nat)} (h1 : rs.length = n) (h2 : ms.length = n) (h3 : W.ownsRow base 72 1 (.slice A n c) n (rs.map fun r => .slice r.1 m r.2))
    (h4 : ∀ (i : Nat) (r : Option Addr × Nat) (bs : List Bool), rs[i]? = some r → ms[i]? = some bs → bs.length = m ∧ W.ownsRow base 4 1 (.slice r.1 m r.2) m (bools bs))
    {A' : Option Addr} {c' : Nat} {bs : List Bool} {o : Obj} {v5 : Value} (hl : bs.length = m) (hb : W.ownsRow base 4 1 (.slice A' m c') m (bools bs)) (h5 : W'.ownsRow base 72 1 v5 (n + 1) ((rs.map fun r => .slice r.1 m r.2) ++ [.slice A' m c']))
    (hg : (W.alloc o).grownBy W' (Value.slice A n c).ownBlock) : ∃ A5 c5, v5 = .slice A5 (n + 1) c5 ∧ Mat W' base m A5 (n + 1) c5 (ms ++ [bs]) := by
  obtain ⟨A5, c5, rfl, _, _⟩ := own_form2 h5
  refine ⟨A5, c5, rfl, rs ++ [(A', c')], by rw [List.length_append, h1]; rfl, by rw [List.length_append, h2]; rfl, by simpa using h5, fun i r b hr hs => ?_⟩
  rcases Nat.lt_or_ge i n with hi | hi
  · rw [List.getElem?_append_left (by omega)] at hr hs
    exact ⟨(h4 i r b hr hs).1, own_grown (h4 i r b hr hs).2 h3 hg (by decide)⟩
  · have hi2 : i = n := by
      have := (List.getElem?_eq_some_iff.1 hr).1
      rw [List.length_append, h1] at this
      simp at this
      omega
    subst hi2
    rw [List.getElem?_append_right (by omega), h1, Nat.sub_self] at hr
    rw [List.getElem?_append_right (by omega), h2, Nat.sub_self] at hs
    simp at hr hs
    subst hr; subst hs
    exact ⟨hl, own_grown hb h3 hg (by decide)⟩
end
theorem bslice_info : (Tryz.prog.info? 72).map (fun i => (i.zero, i.size, i.bytes)) = some (some (.slice none 0 0), 1, 24) := by kernel_rfl
/-- Which nodes lead to which, as rows. -/
structure AllM (zs : List Ed) (m : Nat) (ms : List (List Bool)) : Prop where
  len : ms.length = m
  row : ∀ (i : Nat) (bs : List Bool), ms[i]? = some bs → bs.length = m ∧ ∀ u : Nat, bs[u]? = some true ↔ Leads zs (i : Int) u

def AllIs (zs : List Ed) (m : Nat) (w : World) (e : Ending) (w' : World) : Prop :=
  ∃ (ms : List (List Bool)) (A' : Option Addr) (c' : Nat), AllM zs m ms ∧ e = .returned (.slice A' m c') ∧ Mat w' w.heap.size m A' m c' ms ∧ Below w.heap.size w w'

set_option maxRecDepth 100000 in
set_option maxHeartbeats 4000000 in
theorem rall_any (z : Int) (A : Option Addr) (n c : Nat) (zs : List Ed) (hg : IsG z zs) (hn : n ≤ 1000) (w : World) (hR : Reads w w.heap.size 3 A n (cellsE zs)) :
    Calls Tryz.prog 33 #[.agg #[.int .i64 z, .slice A n c]] w (AllIs zs z.toNat w) := by
  obtain ⟨bx, b0⟩ := box_new w #[.int .i64 z, .slice A n c] 24
  have hnd := hg.nodes
  obtain ⟨m, hm⟩ : ∃ m : Nat, z = (m : Int) := ⟨z.toNat, by omega⟩
  have hmz : z.toNat = m := by omega
  have hm300 : m ≤ 300 := by omega
  rw [hmz]
  subst hm
  have HL := Lib.hid fun (v : Nat) (hv : v < m) W (h : Below w.heap.size w W) => rleads_any (m : Int) v A n c zs hg (by omega) hn W ((hR.below h).more h.size)
  obtain ⟨i0, hi, hz0, hz1, hz2⟩ := info_parts bslice_info
  have HMZ := Lib.hid hmz
  have B0 := Lib.hid b0
  have z0 := bx.cell 0
  have BX := Lib.hid bx
  clear hR bx b0 hg hnd hmz
  go_enter Tryz.func33, Tryz.ntmps33
  go_wp2_with fail
  clear z0
  generalize w.alloc (.cells #[.int .i64 (m : Int), .slice A n c] 24) = W0 at *
  go_loopg [3, 7] m (fun gg s3 s7 wr => ∃ (i : Nat) (ms : List (List Bool)) (A' : Option Addr) (c' : Nat), i + gg = m ∧ s7 = .int .i64 i ∧ s3 = .slice A' i c' ∧ Hid (∀ (j : Nat) (bs : List Bool), ms[j]? = some bs → bs.length = m ∧ ∀ u : Nat, bs[u]? = some true ↔ Leads zs (j : Int) u) ∧ Hid (Mat wr W0.heap.size m A' i c' ms) ∧ Hid (Below W0.heap.size W0 wr))
  case atStart => exact ⟨0, [], none, 0, by omega, rfl, rfl, fun j bs h => by simp at h, Mat.nil _ _ _, Below.refl _ _⟩
  case round =>
    obtain ⟨i, ms, A', c', hig, rfl, rfl, HM, HA, HB⟩ := hrel
    cases gk with
    | zero =>
      obtain rfl : i = m := by omega
      have hlt : ¬ (i : Int) < (i : Int) := by omega
      have HE : Hid (AllM zs i ms ∧ Mat wr w.heap.size i A' i c' ms ∧ Below w.heap.size w wr) := ⟨⟨HA.out.len, HM.out⟩, HA.out.base_ B0.out.size, B0.out.trans (HB.out.mono B0.out.size)⟩
      clear hig
      go_wp2_with fail
      go_ret
      exact ⟨ms, A', c', HE.out.1, rfl, HE.out.2⟩
    | succ g2 =>
      have hlt : (i : Int) < (m : Int) := by omega
      have him : i < m := by omega
      have hw1 : IntKind.i64.wrap ((i : Int) + 1) = ((i + 1 : Nat) : Int) := by rw [IntKind.wrap_i64]; omega
      have HIG : Hid (i + 1 + g2 = m) := by show _ = _; omega
      have HLI := Lib.hid (HL.out i him wr (B0.out.trans (HB.out.mono B0.out.size)))
      have bxo := BX.out.below HB.out BX.out.lt
      have z0 := bxo.cell 0
      have z1 := bxo.cell 1
      have HW1 := Lib.hid hw1
      clear hig bxo hw1
      go_wp2_with fail
      refine HLI.out.mono ?_
      rintro e w2 ⟨bs, hbl, hbs, Ab, cb, he, hb, h1, h2, h3⟩
      rw [HMZ.out] at hbl
      rw [hbl] at he hb h1
      subst he
      have HBS := Lib.hid (And.intro hbl hbs)
      have HA2 := Lib.hid (HA.out.on h3)
      have HB2 : Hid (Below W0.heap.size W0 w2) := HB.out.trans (h3.mono HB.out.size)
      have HOB := Lib.hid (own_base hb HB.out.size)
      clear hbl hbs hb h1 h2 h3 HLI z0 z1 HA HB
      have hw1 := HW1.out
      go_wp2_with (at_builtin; obtain ⟨rs, hr1, hr2, hr3, hr4⟩ := HA2.out; refine wpList_append_own_at _ rfl _ _ 70 rfl W0.heap.size 72 i0 _ 1 24 Tryz.underlying70 hi hz0 hz1 hz2 rfl (by decide) (.slice A' i c') i _ rfl (hr3.alloc _) ⟨w2.heap.size, 0, none⟩ 1 1 [.slice Ab m cb] rfl rfl (cell_one_new _ _ _) (by intro u hu; simp at hu; subst hu; rfl) (by unfold maxLen; omega) (by omega) (by have := HB2.out.size; simp; omega) ?_; intro v5 w5 hown5 hgrow5 _ _; obtain ⟨A5, c5, rfl, hm5⟩ := mat_more hr1 hr2 hr3 hr4 HBS.out.1 HOB.out hown5 hgrow5; have HA5 := Lib.hid hm5; have HB5 : Hid (Below W0.heap.size W0 w5) := (HB2.out.alloc HB2.out.size (.cells #[.slice Ab m cb] 72)).grown hgrow5 (by have := HB2.out.size; simp; omega) (fun k hk => (hr3.lt k hk).1); clear hown5 hgrow5 hm5 hr1 hr2 hr3 hr4)
      go_roundg g2
      case measure => omega
      case rel => exact ⟨i + 1, ms ++ [bs], A5, c5, HIG.out, rfl, rfl, (fun j b hj => by
        rcases Nat.lt_or_ge j ms.length with h | h
        · rw [List.getElem?_append_left h] at hj
          exact HM.out j b hj
        · have h2 := (List.getElem?_eq_some_iff.1 hj).1
          rw [List.length_append] at h2
          simp at h2
          obtain rfl : j = ms.length := by omega
          rw [List.getElem?_append_right (Nat.le_refl _), Nat.sub_self] at hj
          simp at hj
          subst hj
          rw [HA2.out.len]
          exact HBS.out), HA5, HB5⟩
end Go.Proofs.YtpjbgbgahjggiaaGreat
namespace Go.Proofs.YtpjbgbgahjggiaaGreat
open Go.RowKit Go.Shelf

def cellM (ms : List (List Bool)) (v w : Nat) : Bool := (ms.getD v []).getD w false
def togM (ms : List (List Bool)) (v w : Nat) : Bool := decide (w = v) || (cellM ms v w && cellM ms w v)
def setE (t : Nat → Nat → Bool) (m v : Nat) : List Int := ((List.range m).filter (t v)).map fun (w : Nat) => (w : Int)
def leastB (t : Nat → Nat → Bool) (m v : Nat) : Bool := (List.range m).all fun w => !t v w || decide (w ≥ v)
def setsE (t : Nat → Nat → Bool) (k m : Nat) : List (List Int) := ((List.range k).filter (leastB t m)).map (setE t m)
theorem cellM_is {ms : List (List Bool)} {v w : Nat} {bs : List Bool} {b : Bool} (h : ms[v]? = some bs) (h2 : bs[w]? = some b) : cellM ms v w = b := by
  unfold cellM
  rw [show ms.getD v [] = bs from by rw [List.getD_eq_getElem?_getD, h]; rfl, List.getD_eq_getElem?_getD, h2]
  rfl
theorem setE_next (t : Nat → Nat → Bool) (i v : Nat) : setE t (i + 1) v = if t v i = true then setE t i v ++ [(i : Int)] else setE t i v := by
  unfold setE
  rw [List.range_succ, List.filter_append, List.map_append]
  cases h : t v i
  · rw [List.filter_cons_of_neg (by simp [h])]; simp
  · rw [List.filter_cons_of_pos h]; simp
theorem leastB_next (t : Nat → Nat → Bool) (i v : Nat) : leastB t (i + 1) v = (leastB t i v && (!t v i || decide (i ≥ v))) := by
  unfold leastB
  rw [List.range_succ, List.all_append]
  simp
theorem setsE_next (t : Nat → Nat → Bool) (i m : Nat) : setsE t (i + 1) m = if leastB t m i = true then setsE t i m ++ [setE t m i] else setsE t i m := by
  unfold setsE
  rw [List.range_succ, List.filter_append, List.map_append]
  cases h : leastB t m i
  · rw [List.filter_cons_of_neg (by simp [h])]; simp
  · rw [List.filter_cons_of_pos h]; simp
theorem setsE_len (t : Nat → Nat → Bool) (k m : Nat) : (setsE t k m).length ≤ k := by
  unfold setsE
  rw [List.length_map]
  exact Nat.le_trans (List.length_filter_le _ _) (by rw [List.length_range]; exact Nat.le_refl _)
theorem setE_len (t : Nat → Nat → Bool) (m v : Nat) : (setE t m v).length ≤ m := by
  unfold setE
  rw [List.length_map]
  exact Nat.le_trans (List.length_filter_le _ _) (by rw [List.length_range]; exact Nat.le_refl _)

/-- A row of rows of numbers, in memory of the call's own. -/
def IRows (W : World) (base : Nat) (A : Option Addr) (n c : Nat) (ls : List (List Int)) : Prop :=
  ∃ rs : List (Option Addr × Nat × Nat), rs.length = n ∧ ls.length = n ∧ W.ownsRow base 27 1 (.slice A n c) n (rs.map fun r => .slice r.1 r.2.1 r.2.2) ∧
    ∀ (i : Nat) (r : Option Addr × Nat × Nat) (l : List Int), rs[i]? = some r → ls[i]? = some l → W.ownsRow base 3 1 (.slice r.1 r.2.1 r.2.2) r.2.1 (ints l)
section
variable {W W' : World} {base n c : Nat} {A : Option Addr} {ls : List (List Int)}
theorem IRows.on (h : IRows W base A n c ls) (hb : Below W.heap.size W W') : IRows W' base A n c ls := by
  obtain ⟨rs, h1, h2, h3, h4⟩ := h
  exact ⟨rs, h1, h2, own_on h3 hb, fun i r bs hr hs => own_on (h4 i r bs hr hs) hb⟩
theorem IRows.base_ (h : IRows W base A n c ls) {base' : Nat} (hb : base' ≤ base) : IRows W base' A n c ls := by
  obtain ⟨rs, h1, h2, h3, h4⟩ := h
  exact ⟨rs, h1, h2, own_base h3 hb, fun i r bs hr hs => own_base (h4 i r bs hr hs) hb⟩
theorem IRows.len (h : IRows W base A n c ls) : ls.length = n := by obtain ⟨_, _, h2, _⟩ := h; exact h2
theorem IRows.nil (W : World) (base : Nat) : IRows W base none 0 0 [] := ⟨[], rfl, rfl, World.ownsRow_nil _ _ _ _, fun i r bs h => by simp at h⟩
/-- One row of it. -/
theorem IRows.at_ (h : IRows W base A n c ls) {i : Nat} (hi : i < n) : ∃ (b o : Nat) (A' : Option Addr) (k' c' : Nat) (l : List Int), A = some ⟨b, o, none⟩ ∧ W.cell? ⟨b, o + i, none⟩ = some (.slice A' k' c') ∧ ls[i]? = some l ∧ W.ownsRow base 3 1 (.slice A' k' c') k' (ints l) := by
  obtain ⟨rs, h1, h2, h3, h4⟩ := h
  obtain ⟨r, hr⟩ : ∃ r, rs[i]? = some r := ⟨rs[i]'(by omega), List.getElem?_eq_getElem _⟩
  obtain ⟨l, hs⟩ : ∃ l, ls[i]? = some l := ⟨ls[i]'(by omega), List.getElem?_eq_getElem _⟩
  obtain ⟨b, o, hA, _, hc⟩ := reads_plain (Reads.of_own h3) (by omega)
  exact ⟨b, o, r.1, r.2.1, r.2.2, l, hA, hc i _ (by rw [List.getElem?_map, hr]; rfl), hs, h4 i r l hr hs⟩
theorem irows_more {rs : List (Option Addr × Nat × Nat)} (h1 : rs.length = n) (h2 : ls.length = n) (h3 : W.ownsRow base 27 1 (.slice A n c) n (rs.map fun r => .slice r.1 r.2.1 r.2.2))
    (h4 : ∀ (i : Nat) (r : Option Addr × Nat × Nat) (l : List Int), rs[i]? = some r → ls[i]? = some l → W.ownsRow base 3 1 (.slice r.1 r.2.1 r.2.2) r.2.1 (ints l))
    {A' : Option Addr} {k' c' : Nat} {l : List Int} {o : Obj} {v5 : Value} (hb : W.ownsRow base 3 1 (.slice A' k' c') k' (ints l)) (h5 : W'.ownsRow base 27 1 v5 (n + 1) ((rs.map fun r => .slice r.1 r.2.1 r.2.2) ++ [.slice A' k' c']))
    (hg : (W.alloc o).grownBy W' (Value.slice A n c).ownBlock) : ∃ A5 c5, v5 = .slice A5 (n + 1) c5 ∧ IRows W' base A5 (n + 1) c5 (ls ++ [l]) := by
  obtain ⟨A5, c5, rfl, _, _⟩ := own_form2 h5
  refine ⟨A5, c5, rfl, rs ++ [(A', k', c')], by rw [List.length_append, h1]; rfl, by rw [List.length_append, h2]; rfl, by simpa using h5, fun i r b hr hs => ?_⟩
  rcases Nat.lt_or_ge i n with hi | hi
  · rw [List.getElem?_append_left (by omega)] at hr hs
    exact own_grown (h4 i r b hr hs) h3 hg (by decide)
  · have hi2 : i = n := by
      have := (List.getElem?_eq_some_iff.1 hr).1
      rw [List.length_append, h1] at this
      simp at this
      omega
    subst hi2
    rw [List.getElem?_append_right (by omega), h1, Nat.sub_self] at hr
    rw [List.getElem?_append_right (by omega), h2, Nat.sub_self] at hs
    simp at hr hs
    subst hr; subst hs
    exact own_grown hb h3 hg (by decide)
end
theorem islice_info : (Tryz.prog.info? 27).map (fun i => (i.zero, i.size, i.bytes)) = some (some (.slice none 0 0), 1, 24) := by kernel_rfl
def SetsIs (ls : List (List Int)) (w : World) (e : Ending) (w' : World) : Prop :=
  ∃ (A : Option Addr) (c : Nat), e = .returned (.slice A ls.length c) ∧ IRows w' w.heap.size A ls.length c ls ∧ Below w.heap.size w w'
theorem AllM.unique {zs : List Ed} {m : Nat} {ms ms' : List (List Bool)} (h : AllM zs m ms) (h' : AllM zs m ms') : ms = ms' := by
  refine List.ext_getElem (by rw [h.len, h'.len]) fun i h1 h2 => ?_
  obtain ⟨l1, s1⟩ := h.row i _ (List.getElem?_eq_getElem h1)
  obtain ⟨l2, s2⟩ := h'.row i _ (List.getElem?_eq_getElem h2)
  refine List.ext_getElem (by rw [l1, l2]) fun u h3 h4 => ?_
  have := (s1 u).trans (s2 u).symm
  rw [List.getElem?_eq_getElem h3, List.getElem?_eq_getElem h4] at this
  simp only [Option.some.injEq] at this
  exact Bool.eq_iff_iff.2 this

set_option maxRecDepth 100000 in
set_option maxHeartbeats 4000000 in
theorem rsets_any (z : Int) (A : Option Addr) (n c : Nat) (zs : List Ed) (hg : IsG z zs) (hn : n ≤ 1000) (w : World) (hR : Reads w w.heap.size 3 A n (cellsE zs)) :
    Calls Tryz.prog 12 #[.agg #[.int .i64 z, .slice A n c]] w fun e w' => ∃ ms, AllM zs z.toNat ms ∧ SetsIs (setsE (togM ms) z.toNat z.toNat) w e w' := by
  obtain ⟨bx, b0⟩ := box_new w #[.int .i64 z, .slice A n c] 24
  have hnd := hg.nodes
  obtain ⟨m, hm⟩ : ∃ m : Nat, z = (m : Int) := ⟨z.toNat, by omega⟩
  have hmz : z.toNat = m := by omega
  have hm300 : m ≤ 300 := by omega
  have HALL := rall_any z A n c zs hg hn (w.alloc (.cells #[.int .i64 z, .slice A n c] 24)) ((hR.below b0).more b0.size)
  rw [hmz] at HALL ⊢
  subst hm
  have HAL := Lib.hid HALL
  obtain ⟨i0, hi, hz0, hz1, hz2⟩ := info_parts int_info
  obtain ⟨j0, hj, hy0, hy1, hy2⟩ := info_parts islice_info
  have B0 := Lib.hid b0
  have z0 := bx.cell 0
  have z1 := bx.cell 1
  have BX := Lib.hid bx
  clear hR bx b0 hg hnd hmz HALL
  go_enter Tryz.func12, Tryz.ntmps12
  go_wp2_with fail
  generalize w.alloc (.cells #[.int .i64 (m : Int), .slice A n c] 24) = W0 at *
  refine HAL.out.mono ?_
  rintro e w1 ⟨ms, Aa, ca, hms, rfl, hmat, b⟩
  have HMS := Lib.hid hms
  have HMT := Lib.hid hmat
  have BX1 := Lib.hid (BX.out.below b BX.out.lt)
  have B1 : Hid (Below w.heap.size w w1) := B0.out.trans (b.mono B0.out.size)
  clear hms hmat b HAL z0 z1 B0 BX
  have z0 := BX1.out.cell 0
  obtain ⟨t, ht⟩ : ∃ t, togM ms = t := ⟨_, rfl⟩
  have HTT := Lib.hid ht
  clear ht
  go_wp2_with fail
  clear z0
  go_loopg [3, 13] m (fun gg s3 s13 wr => ∃ (i n' : Nat) (A' : Option Addr) (c' : Nat), i + gg = m ∧ s13 = .int .i64 i ∧ s3 = .slice A' n' c' ∧ Hid (IRows wr w1.heap.size A' n' c' (setsE t i m)) ∧ Hid (Below w1.heap.size w1 wr))
  case atStart => exact ⟨0, 0, none, 0, by omega, rfl, rfl, IRows.nil _ _, Below.refl _ _⟩
  case round =>
    obtain ⟨i, n', A', c', hig, rfl, rfl, HI, HB⟩ := hrel
    rename World => wo
    cases gk with
    | zero =>
      obtain rfl : i = m := by omega
      have hlt : ¬ (i : Int) < (i : Int) := by omega
      have HE : Hid (AllM zs i ms ∧ SetsIs (setsE (togM ms) i i) w (.returned (.slice A' n' c')) wo) := by
        rw [HTT.out]
        refine ⟨HMS.out, A', c', by rw [HI.out.len], ?_, B1.out.trans (HB.out.mono B1.out.size)⟩
        rw [HI.out.len]
        exact HI.out.base_ B1.out.size
      clear hig
      go_wp2_with fail
      go_ret
      exact ⟨ms, HE.out⟩
    | succ g2 =>
      have hlt : (i : Int) < (m : Int) := by omega
      have him : i < m := by omega
      have HIG : Hid (i + 1 + g2 = m) := by show _ = _; omega
      have hw1 : IntKind.i64.wrap ((i : Int) + 1) = ((i + 1 : Nat) : Int) := by rw [IntKind.wrap_i64]; omega
      have HW1 := Lib.hid hw1
      have z0 := (BX1.out.below HB.out BX1.out.lt).cell 0
      clear hig hw1
      go_wp2_with fail
      clear z0
      go_loopg [6, 7, 18] m (fun gg s6 s7 s18 wr => ∃ (k u : Nat) (As : Option Addr) (cs : Nat), k + gg = m ∧ s18 = .int .i64 k ∧ s6 = .slice As u cs ∧ s7 = .bool (leastB t k i) ∧ Hid (wr.ownsRow wo.heap.size 3 1 (.slice As u cs) u (ints (setE t k i))) ∧ Hid (Below wo.heap.size wo wr))
      case atStart => exact ⟨0, 0, none, 0, by omega, rfl, rfl, rfl, World.ownsRow_nil _ _ _ _, Below.refl _ _⟩
      case round =>
        obtain ⟨k, u, As, cs, hkg, rfl, rfl, rfl, HO, HJ⟩ := hrel
        cases gk with
        | zero =>
          obtain rfl : k = m := by omega
          have hltk : ¬ (k : Int) < (k : Int) := by omega
          have HI2 := Lib.hid (HI.out.on HJ.out)
          have HJ2 : Hid (Below w1.heap.size w1 wr) := HB.out.trans (HJ.out.mono HB.out.size)
          have HO2 := Lib.hid (own_base HO.out HB.out.size)
          have HNX := Lib.hid (setsE_next t i k)
          have hw1 := HW1.out
          clear hkg HO
          cases hl : leastB t k i
          · rw [hl, if_neg (by decide)] at HNX
            clear hl
            go_wp2_with fail
            go_roundg g2
            case measure => omega
            case rel => exact ⟨i + 1, n', A', c', HIG.out, rfl, rfl, by rw [HNX.out]; exact HI2, HJ2⟩
          · rw [hl, if_pos rfl] at HNX
            clear hl
            have hnn : n' ≤ 300 := by have h1 := HI2.out.len; have h2 := setsE_len t i k; omega
            go_wp2_with (at_builtin; obtain ⟨rs, hr1, hr2, hr3, hr4⟩ := HI2.out; refine wpList_append_own_at _ rfl _ _ 31 rfl w1.heap.size 27 j0 _ 1 24 Tryz.underlying31 hj hy0 hy1 hy2 rfl (by decide) (.slice A' n' c') n' _ rfl (hr3.alloc _) ⟨wr.heap.size, 0, none⟩ 1 1 [.slice As u cs] rfl rfl (cell_one_new _ _ _) (by intro q hq; simp at hq; subst hq; rfl) (by unfold maxLen; omega) (by omega) (by have := HJ2.out.size; simp; omega) ?_; intro v5 w5 hown5 hgrow5 _ _; obtain ⟨A5, c5, rfl, hm5⟩ := irows_more hr1 hr2 hr3 hr4 HO2.out hown5 hgrow5; have HA5 := Lib.hid hm5; have HB5 : Hid (Below w1.heap.size w1 w5) := (HJ2.out.alloc HJ2.out.size (.cells #[.slice As u cs] 27)).grown hgrow5 (by have := HJ2.out.size; simp; omega) (fun k hk => (hr3.lt k hk).1); clear hown5 hgrow5 hm5 hr1 hr2 hr3 hr4)
            go_roundg g2
            case measure => omega
            case rel => exact ⟨i + 1, n' + 1, A5, c5, HIG.out, rfl, rfl, by rw [HNX.out]; exact HA5, HB5⟩
        | succ g3 =>
          have hltk : (k : Int) < (m : Int) := by omega
          have hkm : k < m := by omega
          have HKG : Hid (k + 1 + g3 = m) := by show _ = _; omega
          have hwk : IntKind.i64.wrap ((k : Int) + 1) = ((k + 1 : Nat) : Int) := by rw [IntKind.wrap_i64]; omega
          have HWK := Lib.hid hwk
          have HNS := Lib.hid (setE_next t k i)
          have HNL := Lib.hid (leastB_next t k i)
          have HUL : Hid (u ≤ 300) := by
            have h1 := HO.out.1
            rw [ints_length] at h1
            have h2 := setE_len t k i
            show _ ≤ _; omega
          have HMW := Lib.hid (HMT.out.on (HB.out.trans (HJ.out.mono HB.out.size)))
          obtain ⟨b1, o1, A1, c1, b1', o1', bs1, v1, hAa, g1, hA1, g1', hb1, hv1⟩ := HMW.out.at_ him hkm
          obtain ⟨b2, o2, A2, c2, b2', o2', bs2, v2, hAa2, g3', hA2, g2', hb2, hv2⟩ := HMW.out.at_ hkm him
          rw [hAa] at hAa2
          injection hAa2 with hAa2
          injection hAa2 with e1 e2
          subst e1; subst e2; subst hA1; subst hA2
          have HTV : Hid (t i k = (decide (k = i) || (v1 && v2))) := by
            show _ = _
            rw [← HTT.out]
            unfold togM
            rw [cellM_is hb1 hv1, cellM_is hb2 hv2]
          have HAA := Lib.hid hAa
          clear hkg hwk hb1 hv1 hb2 hv2
          rw [hAa]
          clear hAa
          generalize leastB t k i = lb at *
          go_upto_region 11 with fail
          go_cut [41] from 21 to 40 (fun s41 wx => s41 = .bool (t i k) ∧ Hid (wx.ownsRow wo.heap.size 3 1 (.slice As u cs) u (ints (setE t k i))) ∧ Hid (Below wo.heap.size wo wx))
          case first =>
            by_cases hki : k = i
            · have hq : ((k : Int) == (i : Int)) = true := by simp; omega
              have hti : t i k = true := by rw [HTV.out, decide_eq_true hki]; rfl
              clear hki
              go_wp2_with fail
              go_meet
              exact ⟨by rw [hti], HO, HJ⟩
            · have hq : ((k : Int) == (i : Int)) = false := by simp; omega
              have hti : t i k = (v1 && v2) := by rw [HTV.out, decide_eq_false hki]; rfl
              clear hki
              cases v1
              · go_wp2_with fail
                go_meet
                exact ⟨by rw [hti]; rfl, HO, HJ⟩
              · go_wp2_with fail
                go_meet
                exact ⟨by rw [hti]; rfl, HO, HJ⟩
          case rest =>
            clear HO HJ HMW g1 g1' g3' g2' HTV
            rename World => wx
            obtain ⟨rfl, HO, HJ⟩ := hcut
            cases ht : t i k
            · rw [ht, if_neg (by decide)] at HNS
              rw [ht] at HNL
              clear ht
              have hwk := HWK.out
              go_wp2_with fail
              rw [← HAA.out]
              go_roundg g3
              case measure => omega
              case rel => exact ⟨k + 1, u, As, cs, HKG.out, rfl, rfl, by rw [HNL.out]; simp, by rw [HNS.out]; exact HO, HJ⟩
            · rw [ht, if_pos rfl] at HNS
              rw [ht] at HNL
              clear ht
              have hul := HUL.out
              go_upto_region 13 with (at_builtin; refine wpList_append_own_at _ rfl _ _ 27 rfl wo.heap.size 3 i0 _ 1 8 Tryz.underlying27 hi hz0 hz1 hz2 rfl (by decide) (.slice As u cs) u _ rfl (HO.out.alloc _) ⟨wx.heap.size, 0, none⟩ 1 1 [.int .i64 (k : Int)] rfl rfl (cell_one_new _ _ _) (by intro q hq; simp at hq; subst hq; rfl) (by unfold maxLen; omega) (by omega) (by have := HJ.out.size; simp; omega) ?_; intro v5 w5 hown5 hgrow5 _ _; obtain ⟨A5, c5, rfl, _, _⟩ := own_form2 hown5; have HO5 : Hid (w5.ownsRow wo.heap.size 3 1 (.slice A5 (u + 1) c5) (u + 1) (ints (setE t (k + 1) i))) := (by rw [HNS.out, ints_append]; exact hown5); have HJ5 : Hid (Below wo.heap.size wo w5) := (HJ.out.alloc HJ.out.size (.cells #[.int .i64 (k : Int)] 3)).grown hgrow5 (by have := HJ.out.size; simp; omega) (fun k hk => (HO.out.lt k hk).1); clear hown5 hgrow5)
              have hwk := HWK.out
              by_cases hge : i ≤ k
              · have hd : decide ((k : Int) ≥ (i : Int)) = true := by simp; omega
                have hd2 : decide (k ≥ i) = true := decide_eq_true hge
                rw [hd2] at HNL
                have HGE := Lib.hid hge
                clear hge hd2
                cases lb
                · go_wp2_with fail
                  rw [← HAA.out]
                  go_roundg g3
                  case measure => omega
                  case rel => exact ⟨k + 1, u + 1, A5, c5, HKG.out, rfl, rfl, by rw [HNL.out]; rfl, HO5, HJ5⟩
                · go_wp2_with fail
                  rw [← HAA.out]
                  go_roundg g3
                  case measure => omega
                  case rel => exact ⟨k + 1, u + 1, A5, c5, HKG.out, rfl, rfl, by rw [HNL.out, decide_eq_true HGE.out]; rfl, HO5, HJ5⟩
              · have hd : decide ((k : Int) ≥ (i : Int)) = false := by simp; omega
                have hd2 : decide (k ≥ i) = false := decide_eq_false hge
                rw [hd2] at HNL
                have HGE := Lib.hid hge
                clear hge hd2
                cases lb
                · go_wp2_with fail
                  rw [← HAA.out]
                  go_roundg g3
                  case measure => omega
                  case rel => exact ⟨k + 1, u + 1, A5, c5, HKG.out, rfl, rfl, by rw [HNL.out]; rfl, HO5, HJ5⟩
                · go_wp2_with fail
                  rw [← HAA.out]
                  go_roundg g3
                  case measure => omega
                  case rel => exact ⟨k + 1, u + 1, A5, c5, HKG.out, rfl, rfl, by rw [HNL.out, decide_eq_false HGE.out]; rfl, HO5, HJ5⟩
end Go.Proofs.YtpjbgbgahjggiaaGreat
namespace Go.Proofs.YtpjbgbgahjggiaaGreat
open Go.RowKit Go.Shelf

set_option maxRecDepth 100000 in
set_option maxHeartbeats 2000000 in
theorem eqrows_any (A A2 : Option Addr) (n c d base base2 : Nat) (ls : List (List Int)) (hn : n ≤ 1000) (hl : ∀ l ∈ ls, l.length ≤ 1000) (w : World) (h1 : IRows w base A n c ls) (h2 : IRows w base2 A2 n d ls) :
    Calls Tryz.prog 34 #[.slice A n c, .slice A2 n d, .func (.func 14) #[] #[]] w fun e w' => e = .returned (.bool true) ∧ Below w.heap.size w w' := by
  have H1 := Lib.hid h1
  have H2 := Lib.hid h2
  have HL := Lib.hid hl
  have HLN := Lib.hid h1.len
  clear h1 h2 hl
  go_enter Tryz.func34, Tryz.ntmps34
  have J0 := Lib.hid (Below.refl w.heap.size w)
  go_wp2_with fail
  go_loopg [17] n (fun gg s17 wr => ∃ i : Nat, s17 = .int .i64 i ∧ i + gg = n ∧ Hid (Below w.heap.size w wr))
  case atStart => exact ⟨0, rfl, by omega, J0⟩
  case round =>
    clear J0
    obtain ⟨i, rfl, hi, J⟩ := hrel
    cases gk with
    | zero =>
      have hge : ¬ (i : Int) < (n : Int) := by omega
      clear hi
      go_wp2_with fail
      go_ret
      exact ⟨rfl, J.out⟩
    | succ g2 =>
      have hlt : (i : Int) < (n : Int) := by omega
      have hi0 : (0 : Int) ≤ (i : Int) := by omega
      obtain ⟨b, o, B, k, e, l, hA, y0, hl, hown⟩ := (H1.out.on J.out).at_ (i := i) (by omega)
      obtain ⟨b', o', B', k', e', l', hA', y1, hl', hown'⟩ := (H2.out.on J.out).at_ (i := i) (by omega)
      rw [hl] at hl'
      injection hl' with hl'
      subst hl'
      have hk : l.length = k := ints_len (Reads.of_own hown)
      have hk' : l.length = k' := ints_len (Reads.of_own hown')
      subst hk
      subst hk'
      have HE := eqi_any B B' l.length l.length e e' l l (by have := HL.out l (List.mem_of_getElem? hl); omega) (by have := HL.out l (List.mem_of_getElem? hl); omega) wr (Reads.of_own hown) (Reads.of_own hown')
      rw [decide_eq_true rfl] at HE
      have HEH := Lib.hid HE
      have HA := Lib.hid hA
      have HA' := Lib.hid hA'
      obtain ⟨i1, hi1⟩ : ∃ i1 : Nat, i1 = i + 1 := ⟨_, rfl⟩
      have hw1 : IntKind.i64.wrap ((i : Int) + 1) = (i1 : Int) := by rw [IntKind.wrap_i64]; omega
      have HIG : Hid (i1 + g2 = n) := by show _ = _; omega
      clear hi1 hi hl hown hown' HE
      rw [hA, hA']
      clear hA hA'
      go_wp2_with fail
      refine HEH.out.mono ?_
      rintro x w2 ⟨rfl, bb⟩
      have J2 : Hid (Below w.heap.size w w2) := J.out.trans (bb.mono J.out.size)
      clear bb y0 y1 HEH
      go_wp2_with fail
      rw [← HA.out, ← HA'.out]
      go_roundg g2
      case measure => omega
      case rel => exact ⟨i1, rfl, HIG.out, J2⟩

set_option maxHeartbeats 1000000 in
theorem equal6_any (A A2 : Option Addr) (n c d base base2 : Nat) (ls : List (List Int)) (hn : n ≤ 1000) (hl : ∀ l ∈ ls, l.length ≤ 1000) (w : World) (h1 : IRows w base A n c ls) (h2 : IRows w base2 A2 n d ls) :
    Calls Tryz.prog 15 #[.slice A n c, .slice A2 n d] w fun e w' => e = .returned (.bool true) ∧ Below w.heap.size w w' := by
  have H := Lib.hid (eqrows_any A A2 n c d base base2 ls hn hl w h1 h2)
  clear h1 h2 hl
  go_enter Tryz.func15, Tryz.ntmps15
  go_wp2_with fail
  refine H.out.mono ?_
  rintro e w2 ⟨rfl, bb⟩
  have B := Lib.hid bb
  clear bb
  go_wp2_with fail
  go_ret
  exact ⟨rfl, B.out⟩
end Go.Proofs.YtpjbgbgahjggiaaGreat
namespace Go.Proofs.YtpjbgbgahjggiaaGreat
open Go.RowKit Go.Shelf

def putE (os : List Int) (i : Int) (l : List Int) : List Int := l.foldl (fun o v => o.set v.toNat i) os
def ofM (ls : List (List Int)) (m : Nat) : Nat → List Int
  | 0 => List.replicate m 0
  | k + 1 => putE (ofM ls m k) k (ls.getD k [])
theorem putE_len (os : List Int) (i : Int) (l : List Int) : (putE os i l).length = os.length := by
  unfold putE
  induction l generalizing os with
  | nil => rfl
  | cons v l ih => rw [List.foldl_cons, ih, List.length_set]
theorem ofM_len (ls : List (List Int)) (m : Nat) : ∀ k, (ofM ls m k).length = m
  | 0 => List.length_replicate
  | k + 1 => by unfold ofM; rw [putE_len, ofM_len ls m k]
theorem putE_next {os l : List Int} {i : Int} {j : Nat} {v : Int} (h : l[j]? = some v) : putE os i (l.take (j + 1)) = (putE os i (l.take j)).set v.toNat i := by
  unfold putE
  rw [List.take_add_one, h, List.foldl_append]
  rfl
/-- Numbers, in memory of the call's own. -/
def IntsOwn (vs : List Int) (w : World) (e : Ending) (w' : World) : Prop :=
  ∃ (A : Option Addr) (c : Nat), e = .returned (.slice A vs.length c) ∧ w'.ownsRow w.heap.size 3 1 (.slice A vs.length c) vs.length (ints vs) ∧ vs.length ≤ c ∧ c ≤ 9223372036854775807 ∧ Below w.heap.size w w'
theorem own_far {W : World} {base n size X k : Nat} {e : TypeId} {v u : Value} {xs : List Value} (h : W.ownsRow base e size v n xs) (hX : X < base) : (W.setCell ⟨X, k, none⟩ u).ownsRow base e size v n xs := by
  refine ⟨h.1, ?_⟩
  rcases h.2 with hn | ⟨g, cap, cur, hv, hbg, hb, rest⟩
  · exact .inl hn
  · exact .inr ⟨g, cap, cur, hv, hbg, (Below.heap_setCell W ⟨X, k, none⟩ u g (by show g ≠ X; omega)).trans hb, rest⟩
theorem IRows.far {W : World} {base n c X k : Nat} {A : Option Addr} {ls : List (List Int)} {u : Value} (h : IRows W base A n c ls) (hX : X < base) : IRows (W.setCell ⟨X, k, none⟩ u) base A n c ls := by
  obtain ⟨rs, h1, h2, h3, h4⟩ := h
  exact ⟨rs, h1, h2, own_far h3 hX, fun i r l hr hs => own_far (h4 i r l hr hs) hX⟩
theorem mem_setE {t : Nat → Nat → Bool} {m v : Nat} {x : Int} (h : x ∈ setE t m v) : 0 ≤ x ∧ x < m := by
  unfold setE at h
  obtain ⟨w, hw, rfl⟩ := List.mem_map.1 h
  have := List.mem_range.1 (List.mem_filter.1 hw).1
  omega
theorem mem_setsE {t : Nat → Nat → Bool} {k m : Nat} {l : List Int} (h : l ∈ setsE t k m) : ∃ v, l = setE t m v := by
  unfold setsE at h
  obtain ⟨w, _, rfl⟩ := List.mem_map.1 h
  exact ⟨w, rfl⟩

set_option maxRecDepth 100000 in
set_option maxHeartbeats 4000000 in
theorem rof6_any (z : Int) (A : Option Addr) (n c : Nat) (zs : List Ed) (hg : IsG z zs) (hn : n ≤ 1000) (w : World) (hR : Reads w w.heap.size 3 A n (cellsE zs)) :
    Calls Tryz.prog 11 #[.agg #[.int .i64 z, .slice A n c]] w fun e w' => ∃ ms, AllM zs z.toNat ms ∧ IntsOwn (ofM (setsE (togM ms) z.toNat z.toNat) z.toNat (setsE (togM ms) z.toNat z.toNat).length) w e w' := by
  obtain ⟨bx, b0⟩ := box_new w #[.int .i64 z, .slice A n c] 24
  have hnd := hg.nodes
  obtain ⟨m, hm⟩ : ∃ m : Nat, z = (m : Int) := ⟨z.toNat, by omega⟩
  have hmz : z.toNat = m := by omega
  have hm300 : m ≤ 300 := by omega
  have HS := Lib.hid fun W (h : Below w.heap.size w W) => rsets_any z A n c zs hg hn W ((hR.below h).more h.size)
  rw [hmz] at HS ⊢
  subst hm
  have hmk := fun W => int_make m (m : Int) rfl (by omega) W
  have B0 := Lib.hid b0
  have z0 := bx.cell 0
  have z1 := bx.cell 1
  have BX := Lib.hid bx
  clear hR bx b0 hg hnd hmz
  go_enter Tryz.func11, Tryz.ntmps11
  obtain ⟨W0, hW0⟩ : ∃ W0, w.alloc (.cells #[.int .i64 (m : Int), .slice A n c] 24) = W0 := ⟨_, rfl⟩
  rw [hW0] at B0 z0 z1 BX
  have hmk0 := hmk W0
  have hb1 : Below W0.heap.size W0 (W0.alloc (.cells (ints (List.replicate m 0)).toArray 3)) := (Below.refl _ _).alloc (Nat.le_refl _) _
  have BX1 := Lib.hid (BX.out.alloc (.cells (ints (List.replicate m 0)).toArray 3))
  have OX := Lib.hid (Blk.new W0 3 (ints (List.replicate m 0)).toArray)
  have B1 : Hid (Below w.heap.size w (W0.alloc (.cells (ints (List.replicate m 0)).toArray 3))) := B0.out.trans (hb1.mono B0.out.size)
  have x0 := BX1.out.cell 0
  have x1 := BX1.out.cell 1
  have HX0 : Hid (w.heap.size ≤ W0.heap.size) := B0.out.size
  have hX1 : W0.heap.size < (W0.alloc (.cells (ints (List.replicate m 0)).toArray 3)).heap.size := by rw [World.size_alloc]; omega
  have HX1 := Lib.hid hX1
  clear hmk hb1 hX1
  go_wp2_with fail
  clear hmk0 z0 z1 x0 x1 hW0
  generalize W0.alloc (.cells (ints (List.replicate m 0)).toArray 3) = W2 at *
  obtain ⟨X, hX⟩ : ∃ X, W0.heap.size = X := ⟨_, rfl⟩
  rw [hX] at OX HX0 HX1 ⊢
  clear hX
  refine (HS.out W2 B1.out).mono ?_
  rintro e w3 ⟨ms, hms, As, cs, rfl, hrows, b⟩
  have HMS := Lib.hid hms
  obtain ⟨ls, hls⟩ : ∃ ls, setsE (togM ms) m m = ls := ⟨_, rfl⟩
  rw [hls] at hrows ⊢
  have HLS := Lib.hid hls
  have HIR := Lib.hid hrows
  have OX3 := Lib.hid (OX.out.below b OX.out.lt)
  have B3 : Hid (Below w.heap.size w w3) := B1.out.trans (b.mono B1.out.size)
  have hlm : ls.length ≤ m := by rw [← hls]; exact setsE_len _ _ _
  clear hms hls hrows b HS OX BX1 BX
  obtain ⟨q, hq⟩ : ∃ q, ls.length = q := ⟨_, rfl⟩
  rw [hq] at HIR hlm ⊢
  have HQ := Lib.hid hq
  clear hq
  go_wp2_with fail
  go_loopg [14] q (fun gg s14 wr => ∃ i : Nat, i + gg = q ∧ s14 = .int .i64 i ∧ Hid (Blk wr X 3 (ints (ofM ls m i)).toArray) ∧ Hid (IRows wr W2.heap.size As q cs ls) ∧ Hid (Below w.heap.size w wr))
  case atStart => exact ⟨0, by omega, rfl, OX3, HIR, B3⟩
  case round =>
    clear OX3 HIR B3
    obtain ⟨i, hig, rfl, OX, HIR, HB⟩ := hrel
    cases gk with
    | zero =>
      obtain rfl : i = q := by omega
      have hlt : ¬ (i : Int) < (i : Int) := by omega
      have HE : Hid (∃ ms, AllM zs m ms ∧ IntsOwn (ofM (setsE (togM ms) m m) m (setsE (togM ms) m m).length) w (.returned (.slice (some ⟨X, 0, none⟩) m m)) wr) := by
        refine ⟨ms, HMS.out, ?_⟩
        rw [HLS.out, HQ.out]
        unfold IntsOwn
        rw [ofM_len]
        exact ⟨_, _, rfl, blk_own1 HX0.out OX.out (by rw [ints_length, ofM_len]) (by omega), Nat.le_refl _, by omega, HB.out⟩
      clear hig
      go_wp2_with fail
      go_ret
      exact HE.out
    | succ g2 =>
      have hlt : (i : Int) < (q : Int) := by omega
      have hiq : i < q := by omega
      have HIG : Hid (i + 1 + g2 = q) := by show _ = _; omega
      have hw1 : IntKind.i64.wrap ((i : Int) + 1) = ((i + 1 : Nat) : Int) := by rw [IntKind.wrap_i64]; omega
      have HW1 := Lib.hid hw1
      obtain ⟨bs, os, A1, k1, c1, l, hAs, g1, hl, hown⟩ := HIR.out.at_ hiq
      have HL := Lib.hid hl
      have HAS := Lib.hid hAs
      have hkl : l.length = k1 := by have := hown.1; rw [ints_length] at this; omega
      have hk1 : k1 ≤ 300 := by
        obtain ⟨v, rfl⟩ := mem_setsE (by rw [HLS.out]; exact List.mem_of_getElem? hl)
        have := setE_len (togM ms) m v
        omega
      have HMEM : Hid (∀ x ∈ l, 0 ≤ x ∧ x < (m : Int)) := by
        obtain ⟨v, rfl⟩ := mem_setsE (by rw [HLS.out]; exact List.mem_of_getElem? hl)
        exact fun x hx => mem_setE hx
      have HOW := Lib.hid hown
      have HKL := Lib.hid hkl
      clear hl hown hkl hw1 hig
      rw [hAs]
      clear hAs
      go_wp2_with fail
      clear g1
      go_loopg [21] k1 (fun gg s21 wr => ∃ j : Nat, j + gg = k1 ∧ s21 = .int .i64 j ∧ Hid (Blk wr X 3 (ints (putE (ofM ls m i) (i : Int) (l.take j))).toArray) ∧ Hid (IRows wr W2.heap.size As q cs ls) ∧ Hid (wr.ownsRow W2.heap.size 3 1 (.slice A1 k1 c1) k1 (ints l)) ∧ Hid (Below w.heap.size w wr))
      case atStart => exact ⟨0, by omega, rfl, OX, HIR, HOW, HB⟩
      case round =>
        clear OX HIR HOW HB
        obtain ⟨j, hjg, rfl, OX, HIR, HOW, HB⟩ := hrel
        cases gk with
        | zero =>
          obtain rfl : j = k1 := by omega
          have hltj : ¬ (j : Int) < (j : Int) := by omega
          have hw1 := HW1.out
          have OX2 : Hid (Blk wr X 3 (ints (ofM ls m (i + 1))).toArray) := by
            have := OX.out
            rw [List.take_of_length_le (by rw [HKL.out]; exact Nat.le_refl _)] at this
            show Blk _ _ _ _
            unfold ofM
            rw [List.getD_eq_getElem?_getD, HL.out]
            exact this
          clear hjg
          go_wp2_with fail
          rw [← HAS.out]
          go_roundg g2
          case measure => omega
          case rel => exact ⟨i + 1, HIG.out, rfl, OX2, HIR, HB⟩
        | succ g3 =>
          have hltj : (j : Int) < (k1 : Int) := by omega
          have hjk : j < k1 := by omega
          have HJG : Hid (j + 1 + g3 = k1) := by show _ = _; omega
          have hwj : IntKind.i64.wrap ((j : Int) + 1) = ((j + 1 : Nat) : Int) := by rw [IntKind.wrap_i64]; omega
          obtain ⟨x, hx⟩ : ∃ x, l[j]? = some x := ⟨l[j]'(by rw [HKL.out]; exact hjk), List.getElem?_eq_getElem _⟩
          have hxr := HMEM.out x (List.mem_of_getElem? hx)
          obtain ⟨xn, rfl⟩ : ∃ xn : Nat, x = (xn : Int) := ⟨x.toNat, by omega⟩
          have hxm : xn < m := by omega
          have hxmI : (xn : Int) < (m : Int) := by omega
          obtain ⟨b3, o3, hA1, _, y0⟩ := int_at (Reads.of_own HOW.out) hx
          have HA1 := Lib.hid hA1
          have HNX := Lib.hid (putE_next (os := ofM ls m i) (i := (i : Int)) hx)
          have hlen : xn < (ints (putE (ofM ls m i) (i : Int) (l.take j))).length := by rw [ints_length, putE_len, ofM_len]; exact hxm
          obtain ⟨u0, hu0⟩ : ∃ u, (ints (putE (ofM ls m i) (i : Int) (l.take j)))[xn]? = some u := ⟨_, List.getElem?_eq_getElem hlen⟩
          have y1 : wr.cell? ⟨X, xn, none⟩ = some u0 := by rw [OX.out.cell, List.getElem?_toArray]; exact hu0
          have f1 : wr.frozen? ⟨X, xn, none⟩ = false := OX.out.frozen xn
          have OX2 : Hid (Blk (wr.setCell ⟨X, xn, none⟩ (.int .i64 (i : Int))) X 3 (ints (putE (ofM ls m i) (i : Int) (l.take (j + 1)))).toArray) := by
            have := OX.out.set_ xn (.int .i64 (i : Int))
            rw [List.setIfInBounds_toArray, ints_set] at this
            rw [HNX.out]
            exact this
          have HIR2 := Lib.hid (HIR.out.far (k := xn) (u := .int .i64 (i : Int)) HX1.out)
          have HOW2 := Lib.hid (own_far (k := xn) (u := .int .i64 (i : Int)) HOW.out HX1.out)
          have HB2 : Hid (Below w.heap.size w (wr.setCell ⟨X, xn, none⟩ (.int .i64 (i : Int)))) := HB.out.setCell HX0.out _
          clear hx hjg hxr hlen hu0 OX HIR HOW HB HNX
          rw [hA1]
          clear hA1
          go_wp2_with fail
          rw [← HA1.out]
          go_roundg g3
          case measure => omega
          case rel => exact ⟨j + 1, HJG.out, rfl, OX2, HIR2, HOW2, HB2⟩

def roundE (ms : List (List Bool)) (m : Nat) : List Int := ((List.range m).filter fun v => cellM ms v v).map fun (v : Nat) => (v : Int)
theorem roundE_next (ms : List (List Bool)) (i : Nat) : roundE ms (i + 1) = if cellM ms i i = true then roundE ms i ++ [(i : Int)] else roundE ms i := by
  unfold roundE
  rw [List.range_succ, List.filter_append, List.map_append]
  cases h : cellM ms i i
  · rw [List.filter_cons_of_neg (by simp [h])]; simp
  · rw [List.filter_cons_of_pos (p := fun v => cellM ms v v) h]; simp
theorem roundE_len (ms : List (List Bool)) (m : Nat) : (roundE ms m).length ≤ m := by
  unfold roundE
  rw [List.length_map]
  exact Nat.le_trans (List.length_filter_le _ _) (by rw [List.length_range]; exact Nat.le_refl _)

set_option maxRecDepth 100000 in
set_option maxHeartbeats 4000000 in
theorem rround_any (z : Int) (A : Option Addr) (n c : Nat) (zs : List Ed) (hg : IsG z zs) (hn : n ≤ 1000) (w : World) (hR : Reads w w.heap.size 3 A n (cellsE zs)) :
    Calls Tryz.prog 13 #[.agg #[.int .i64 z, .slice A n c]] w fun e w' => ∃ ms, AllM zs z.toNat ms ∧ IntsOwn (roundE ms z.toNat) w e w' := by
  obtain ⟨bx, b0⟩ := box_new w #[.int .i64 z, .slice A n c] 24
  have hnd := hg.nodes
  obtain ⟨m, hm⟩ : ∃ m : Nat, z = (m : Int) := ⟨z.toNat, by omega⟩
  have hmz : z.toNat = m := by omega
  have hm300 : m ≤ 300 := by omega
  have HALL := rall_any z A n c zs hg hn (w.alloc (.cells #[.int .i64 z, .slice A n c] 24)) ((hR.below b0).more b0.size)
  rw [hmz] at HALL ⊢
  subst hm
  have HAL := Lib.hid HALL
  obtain ⟨i0, hi, hz0, hz1, hz2⟩ := info_parts int_info
  have B0 := Lib.hid b0
  have z0 := bx.cell 0
  have z1 := bx.cell 1
  clear hR bx b0 hg hnd hmz HALL
  go_enter Tryz.func13, Tryz.ntmps13
  go_wp2_with fail
  generalize w.alloc (.cells #[.int .i64 (m : Int), .slice A n c] 24) = W0 at *
  refine HAL.out.mono ?_
  rintro e w1 ⟨ms, Aa, ca, hms, rfl, hmat, b⟩
  have HMS := Lib.hid hms
  have HMT := Lib.hid hmat
  have B1 : Hid (Below w.heap.size w w1) := B0.out.trans (b.mono B0.out.size)
  clear hms hmat b HAL z0 z1 B0
  go_wp2_with fail
  go_loopg [3, 9] m (fun gg s3 s9 wr => ∃ (i u : Nat) (A' : Option Addr) (c' : Nat), i + gg = m ∧ s9 = .int .i64 i ∧ s3 = .slice A' u c' ∧ Hid (wr.ownsRow w1.heap.size 3 1 (.slice A' u c') u (ints (roundE ms i))) ∧ Hid (Below w1.heap.size w1 wr))
  case atStart => exact ⟨0, 0, none, 0, by omega, rfl, rfl, World.ownsRow_nil _ _ _ _, Below.refl _ _⟩
  case round =>
    obtain ⟨i, u, A', c', hig, rfl, rfl, HO, HB⟩ := hrel
    have hul : (roundE ms i).length = u := by have := HO.out.1; rw [ints_length] at this; omega
    cases gk with
    | zero =>
      obtain rfl : i = m := by omega
      have hlt : ¬ (i : Int) < (i : Int) := by omega
      have HE : Hid (∃ ms, AllM zs i ms ∧ IntsOwn (roundE ms i) w (.returned (.slice A' u c')) wr) := by
        refine ⟨ms, HMS.out, ?_⟩
        unfold IntsOwn
        rw [hul]
        obtain ⟨_, _, hv, h1, h2⟩ := own_form2 HO.out
        injection hv with hv0 hv1 hv
        subst hv
        exact ⟨_, _, rfl, own_base HO.out B1.out.size, h1, h2, B1.out.trans (HB.out.mono B1.out.size)⟩
      clear hig hul
      go_wp2_with fail
      go_ret
      exact HE.out
    | succ g2 =>
      have hlt : (i : Int) < (m : Int) := by omega
      have him : i < m := by omega
      have HIG : Hid (i + 1 + g2 = m) := by show _ = _; omega
      have hw1 : IntKind.i64.wrap ((i : Int) + 1) = ((i + 1 : Nat) : Int) := by rw [IntKind.wrap_i64]; omega
      have hu3 : u ≤ 300 := by have := roundE_len ms i; omega
      obtain ⟨b1, o1, A1, c1, b1', o1', bs1, v1, hAa, g1, hA1, g1', hb1, hv1⟩ := (HMT.out.on HB.out).at_ him him
      subst hA1
      have HNX := Lib.hid (roundE_next ms i)
      rw [cellM_is hb1 hv1] at HNX
      have HAA := Lib.hid hAa
      clear hig hb1 hv1 hul
      rw [hAa]
      clear hAa
      cases v1
      · rw [if_neg (by decide)] at HNX
        go_wp2_with fail
        rw [← HAA.out]
        go_roundg g2
        case measure => omega
        case rel => exact ⟨i + 1, u, A', c', HIG.out, rfl, rfl, by rw [HNX.out]; exact HO, HB⟩
      · rw [if_pos rfl] at HNX
        go_wp2_with (at_builtin; refine wpList_append_own_at _ rfl _ _ 27 rfl w1.heap.size 3 i0 _ 1 8 Tryz.underlying27 hi hz0 hz1 hz2 rfl (by decide) (.slice A' u c') u _ rfl (HO.out.alloc _) ⟨wr.heap.size, 0, none⟩ 1 1 [.int .i64 (i : Int)] rfl rfl (cell_one_new _ _ _) (by intro q hq; simp at hq; subst hq; rfl) (by unfold maxLen; omega) (by omega) (by have := HB.out.size; simp; omega) ?_; intro v5 w5 hown5 hgrow5 _ _; obtain ⟨A5, c5, rfl, _, _⟩ := own_form2 hown5; have HO5 : Hid (w5.ownsRow w1.heap.size 3 1 (.slice A5 (u + 1) c5) (u + 1) (ints (roundE ms (i + 1)))) := (by rw [HNX.out, ints_append]; exact hown5); have HB5 : Hid (Below w1.heap.size w1 w5) := (HB.out.alloc HB.out.size (.cells #[.int .i64 (i : Int)] 3)).grown hgrow5 (by have := HB.out.size; simp; omega) (fun k hk => (HO.out.lt k hk).1); clear hown5 hgrow5)
        rw [← HAA.out]
        go_roundg g2
        case measure => omega
        case rel => exact ⟨i + 1, u + 1, A5, c5, HIG.out, rfl, rfl, HO5, HB5⟩
end Go.Proofs.YtpjbgbgahjggiaaGreat
