/- A row of the call's own that is cut at its beginning and appended to (a queue): elements of one cell. -/
import Derived.ArgAppend
import Derived.Maps.AppendAt
import Derived.Test.YtgbpaiffnhpafaaDoorWords
import Derived.Test.YtgbpaiffnhpafaaDoorM1
-- holds: YtgbpaiffnhpafaaDoorCa
namespace Go.Proofs.YtgbpaiffnhpafaaDoor
open Go.RowKit

/-- A queue: a slice into a block of the call's own, wherever it begins there. -/
def QRow (w : World) (base : Nat) (e : TypeId) (v : Value) (n : Nat) (xs : List Value) : Prop :=
  xs.length = n ∧ (v = .slice none 0 0 ∧ n = 0 ∨ ∃ (g o c : Nat) (cur : Array Value), v = .slice (some ⟨g, o, none⟩) n c ∧ base ≤ g ∧ Blk w g e cur ∧ n ≤ c ∧ c ≤ 9223372036854775807 ∧ o + c ≤ cur.size ∧ ∀ j u, xs[j]? = some u → cur[o + j]? = some u)
section
variable {w w' : World} {base n : Nat} {e : TypeId} {v : Value} {xs : List Value}
theorem QRow.form (h : QRow w base e v n xs) : ∃ A c, v = .slice A n c ∧ n ≤ c := by
  rcases h.2 with ⟨h1, h2⟩ | ⟨g, o, c, cur, h1, _, _, h4, _⟩
  · subst h2; exact ⟨none, 0, h1, Nat.le_refl _⟩
  · exact ⟨_, c, h1, h4⟩
theorem QRow.kept (h : QRow w base e v n xs) (hk : ∀ g cur, base ≤ g → Blk w g e cur → Blk w' g e cur) : QRow w' base e v n xs := by
  refine ⟨h.1, ?_⟩
  rcases h.2 with h1 | ⟨g, o, c, cur, h1, h2, h3, h4⟩
  · exact .inl h1
  · exact .inr ⟨g, o, c, cur, h1, h2, hk g cur h2 h3, h4⟩
theorem QRow.on (h : QRow w base e v n xs) (hb : Below w.heap.size w w') : QRow w' base e v n xs := h.kept fun _ _ _ hk => hk.below hb hk.lt
theorem QRow.alloc (h : QRow w base e v n xs) (o : Obj) : QRow (w.alloc o) base e v n xs := h.kept fun _ _ _ hk => hk.alloc o
theorem QRow.of_own {A : Option Addr} {c : Nat} (h : w.ownsRow base e 1 (.slice A n c) n xs) : QRow w base e (.slice A n c) n xs := by
  refine ⟨by have := h.1; omega, ?_⟩
  rcases h.2 with ⟨h1, h2⟩ | ⟨g, cap, cur, h1, h2, h3, h4, h5, h6, h7⟩
  · exact .inl ⟨h1, h2⟩
  · injection h1 with h8 h9 h10
    subst h8; subst h10
    refine .inr ⟨g, 0, c, cur, rfl, h2, h3, h4, by unfold maxLen at h5; omega, by omega, fun j u hu => ?_⟩
    have hj := (List.getElem?_eq_some_iff.1 hu).1
    have hjn : j < n * 1 := by have := h.1; omega
    rw [Nat.zero_add, ← hu, ← h7, List.getElem?_take, if_pos hjn, Array.getElem?_toList]
theorem QRow.new (w : World) (e : TypeId) (x : Value) (base : Nat) (hb : base ≤ w.heap.size) : QRow (w.alloc (.cells #[x] e)) base e (.slice (some ⟨w.heap.size, 0, none⟩) 1 1) 1 [x] := by
  refine ⟨rfl, .inr ⟨w.heap.size, 0, 1, #[x], rfl, hb, Blk.new w e _, Nat.le_refl _, by decide, by simp, fun j u hu => ?_⟩⟩
  rw [Nat.zero_add, ← List.getElem?_toArray] at *
  exact hu
/-- The first one. -/
theorem QRow.head {x : Value} {ys : List Value} (h : QRow w base e v n (x :: ys)) : ∃ g o c, v = .slice (some ⟨g, o, none⟩) n c ∧ w.cell? ⟨g, o, none⟩ = some x := by
  rcases h.2 with ⟨_, h2⟩ | ⟨g, o, c, cur, h1, h2, h3, h4, h5, h6, h7⟩
  · have := h.1; simp at this; omega
  · exact ⟨g, o, c, h1, by rw [h3.cell, ← h7 0 x rfl]; rfl⟩
/-- All but the first one. -/
theorem QRow.tail {x : Value} {ys : List Value} {A : Option Addr} {c : Nat} (h : QRow w base e (.slice A n c) n (x :: ys)) : QRow w base e (.slice (if c = 1 then A else A.map (·.add 1)) (n - 1) (c - 1)) (n - 1) ys := by
  have hl := h.1
  refine ⟨by simp at hl; omega, ?_⟩
  rcases h.2 with ⟨_, h2⟩ | ⟨g, o, c', cur, h1, h2, h3, h4, h5, h6, h7⟩
  · simp at hl; omega
  · injection h1 with h8 h9 h10
    subst h8; subst h10
    right
    by_cases hc : c = 1
    · rw [if_pos hc]
      refine ⟨g, o, c - 1, cur, rfl, h2, h3, by omega, by omega, by omega, fun j u hu => ?_⟩
      have := (List.getElem?_eq_some_iff.1 hu).1
      simp at hl; omega
    · rw [if_neg hc]
      refine ⟨g, o + 1, c - 1, cur, by simp [Addr.add], h2, h3, by omega, by omega, by simp at hl; omega, fun j u hu => ?_⟩
      have := h7 (j + 1) u (by simpa using hu)
      rwa [show o + 1 + j = o + (j + 1) from by omega]
end
/-- What an append to a queue leaves. -/
def QMore (w : World) (base : Nat) (e : TypeId) (n : Nat) (xs : List Value) (v' : Value) (w' : World) : Prop :=
  QRow w' base e v' n xs ∧ Below base w w' ∧ ∀ C t cs, Blk w C t cs → t ≠ e → Blk w' C t cs
theorem run_append_q {P : Program} (w : World) (base : Nat) (t ty e : TypeId) (i : TypeInfo) (z : Value) (ht : P.underlying t = some (.slice e)) (hi : P.info? e = some i) (hz : i.zero = some z)
    (hsize : i.size = 1) (hby : i.bytes ≤ 64) (hzs : z.cells.size = 1) (v : Value) (n : Nat) (xs : List Value) (hown : QRow w base e v n xs)
    (a : Addr) (c : Nat) (x : Value) (hx : w.cell? a = some x) (h1 : x.oneCell' = true) (h63 : n ≤ 1000000) (hbase : base ≤ w.heap.size) :
    ∃ v' w', (Builtin.append_ #[t, t] ty #[v, .slice (some a) 1 c]).run P w = .ok v' w' ∧ QMore w base e (n + 1) (xs ++ [x]) v' w' := by
  have hnews : ∀ j u, [x][j]? = some u → w.cell? (a.add j) = some u := by
    intro j u hu
    match j, hu with
    | 0, hu =>
      simp at hu
      subst hu
      simpa [Addr.add] using hx
    | j + 1, hu => simp at hu
  have h1' : ∀ u ∈ [x], u.oneCell' = true := by intro u hu; simp at hu; subst hu; exact h1
  have hbytes : ∀ m, m ≤ 1000001 → m * i.bytes ≤ 140737488355328 := fun m hm => Nat.le_trans (Nat.mul_le_mul hm hby) (by decide)
  rcases hown.2 with ⟨rfl, rfl⟩ | ⟨g, o, cp, cur, rfl, hbg, hg, hnc, hcm, hcs, hcur⟩
  · have hxs : xs = [] := List.eq_nil_of_length_eq_zero hown.1
    subst hxs
    obtain ⟨v', w', hr, h2, h3, _, _⟩ := run_append_own_at (P := P) w base t ty e i z 1 i.bytes ht hi hz hsize rfl hzs (by decide) (.slice none 0 0) 0 [] (World.ownsRow_nil _ _ _ _) a 1 c [x] rfl hnews h1' (by decide) (hbytes _ (by omega)) hbase
    obtain ⟨A', c', rfl, _, _⟩ : ∃ A' c', v' = .slice A' (0 + 1) c' ∧ 0 + 1 ≤ c' ∧ c' ≤ 9223372036854775807 := by
      rcases h2.2 with ⟨_, h⟩ | ⟨g, cap, cur, h, _, _, h4, h5, _⟩
      · omega
      · exact ⟨_, cap, h, h4, by unfold maxLen at h5; omega⟩
    exact ⟨_, w', hr, QRow.of_own h2, (Below.refl _ _).grown h3 hbase fun k hk => by simp [Value.ownBlock] at hk, fun C t cs hC _ => hC.grown h3 (by simp [Value.ownBlock])⟩
  · by_cases hroom : n + 1 ≤ cp
    · have hlt : o + n < cur.size := by omega
      have hr := run_append_room_cells (P := P) w t ty e i ht hi g o n cp a 1 c [x] (by rw [hsize]; rfl) hnews h1' hroom
        (fun j hj => by
          simp at hj; subst hj
          rw [hsize, hg.cell, Nat.mul_one, Nat.add_zero]
          simp [hlt]) (fun j hj => hg.frozen _)
      have hset : w.setCells g (o + n * i.size) [x] = w.setCell ⟨g, o + n, none⟩ x := by rw [hsize, Nat.mul_one]; rfl
      rw [hset] at hr
      refine ⟨_, _, hr, ⟨by rw [List.length_append, hown.1]; rfl, .inr ⟨g, o, cp, _, rfl, hbg, hg.set_ _ _, hroom, hcm, by simpa using hcs, fun j u hu => ?_⟩⟩, (Below.refl _ _).setCell hbg _, fun C t cs hC hte => hC.far (p := ⟨g, o + n, none⟩) (fun hh => ?_) _⟩
      · rw [Array.getElem?_setIfInBounds]
        rcases Nat.lt_trichotomy j n with h | h | h
        · rw [if_neg (by omega)]
          rw [List.getElem?_append_left (by rw [hown.1]; exact h)] at hu
          exact hcur j u hu
        · subst h
          rw [List.getElem?_append_right (by rw [hown.1]; exact Nat.le_refl _), hown.1, Nat.sub_self] at hu
          simp at hu
          rw [if_pos rfl, if_pos hlt, hu]
        · have := (List.getElem?_eq_some_iff.1 hu).1
          rw [List.length_append, hown.1] at this
          simp at this
          omega
      · have hh' : C = g := hh
        subst hh'
        exact Blk.ne_ hC hg hte rfl
    · have hold : ∀ j u, xs[j]? = some u → w.cell? ((⟨g, o, none⟩ : Addr).add j) = some u := fun j u hu => by
        rw [Go.WideShapes.add_plain, hg.cell]; exact hcur j u hu
      have hr := run_append_grow (P := P) w t ty e i z ht hi hz ⟨g, o, none⟩ n cp xs (by rw [hown.1, hsize, Nat.mul_one]) hold a 1 c [x] (by rw [hsize]; rfl) hnews (by omega) (by omega) (growslice_fits (by omega) (hbytes _ (by omega)))
      have hge := grownCap_ge w (n + 1) cp e
      have hcm2 : grownCap w (n + 1) cp e ≤ maxLen := grownCap_le_maxLen w (n + 1) cp e (by unfold maxLen; omega)
      refine ⟨_, _, hr, ⟨by rw [List.length_append, hown.1]; rfl, .inr ⟨w.heap.size, 0, _, _, rfl, hbase, heap_alloc_new w.drew _, hge, by unfold maxLen at hcm2; omega, ?_, fun j u hu => ?_⟩⟩, ((Below.refl _ _).drew).alloc hbase _, fun C t cs hC _ => (hC.drew).alloc _⟩
      · simp only [Array.size_append, List.size_toArray, size_zeroCells, hzs, hown.1, List.length_cons, List.length_nil]
        omega
      · rw [Nat.zero_add, Array.getElem?_append_left (by
          have := (List.getElem?_eq_some_iff.1 hu).1
          rw [List.length_append] at this
          simpa using this)]
        simpa using hu
theorem wpList_append_q {P : Program} (w : World) {ops : Array Oper} {rest : List Oper} {o : Oper} {a : Act} {Q : Exit → Act → World → Prop} (hgd : o.guard = none) (s x : Operand) (t : TypeId)
    (ho : o.op = .call { callee := .builtin .append, args := #[s, x], argTypes := #[t, t] })
    (base : Nat) (e : TypeId) (i : TypeInfo) (z : Value) (ht : P.underlying t = some (.slice e)) (hi : P.info? e = some i) (hz : i.zero = some z) (hsize : i.size = 1) (hby : i.bytes ≤ 64) (hzs : z.cells.size = 1)
    (v : Value) (n : Nat) (xs : List Value) (hs : a.eval s = v) (hown : QRow w base e v n xs) (ad : Addr) (c : Nat) (y : Value) (hx : a.eval x = .slice (some ad) 1 c) (hy : w.cell? ad = some y) (h1 : y.oneCell' = true) (h63 : n ≤ 1000000) (hbase : base ≤ w.heap.size)
    (h : ∀ v' w', QMore w base e (n + 1) (xs ++ [y]) v' w' → wpList P ops Q rest (a.put o.dst v') w') : wpList P ops Q (o :: rest) a w := by
  refine wpList_plain hgd fun K hK => ?_
  obtain ⟨v', w', hr, h2⟩ := run_append_q (P := P) w base t o.type e i z ht hi hz hsize hby hzs v n xs hown ad c y hy h1 h63 hbase
  unfold Oper.wp execOp
  simp only [ho, resolve, invoke, builtin, Sem.run_bind, Sem.run_pure, Result.andThen_ok, List.map_toArray, List.map_cons, List.map_nil, hs, hx, hr]
  exact hK _ _ (h v' w' h2)
end Go.Proofs.YtgbpaiffnhpafaaDoor
