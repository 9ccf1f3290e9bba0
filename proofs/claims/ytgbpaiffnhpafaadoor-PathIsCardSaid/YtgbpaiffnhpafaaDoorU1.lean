/- The document's path: how far nodes are: its contract. -/
import Derived.Test.YtgbpaiffnhpafaaDoorM10
import Derived.Test.YtgbpaiffnhpafaaDoorM7
-- holds: YtgbpaiffnhpafaaDoorUa YtgbpaiffnhpafaaDoorUb
namespace Go.Proofs.YtgbpaiffnhpafaaDoor
open Go.RowKit

set_option maxRecDepth 100000 in
set_option maxHeartbeats 2000000 in
theorem redge8_any (z x y : Int) (A : Option Addr) (n c : Nat) (zs : List Ed) (hn : n ≤ 1000) (w : World) (hR : Reads w w.heap.size 3 A n (cellsE zs)) :
    Calls Tryd.prog 57 #[.agg #[.int .i64 z, .slice A n c], .int .i64 x, .int .i64 y] w fun e w' => e = .returned (.bool (edB zs x y)) ∧ Below w.heap.size w w' := by
  obtain ⟨bx, b0⟩ := box_new w #[.int .i64 z, .slice A n c] 24
  have HL := Lib.hid (reads_len hR)
  have HR := Lib.hid fun W (h : Below w.heap.size w W) => (hR.below h)
  have z0 := bx.cell 0
  have z1 := bx.cell 1
  have B0 := Lib.hid b0
  clear hR bx b0
  go_enter Tryd.func57, Tryd.ntmps57
  go_wp2_with fail
  generalize w.alloc (.cells #[.int .i64 z, .slice A n c] 24) = W0 at *
  clear z0 z1
  go_loopg [12] n (fun gg s12 wr => ∃ i : Nat, i + gg = n ∧ s12 = .int .i64 i ∧ Hid (∀ p ∈ zs.take i, ¬ (p.1 = x ∧ p.2.1 = y)) ∧ Hid (Below W0.heap.size W0 wr))
  case atStart => exact ⟨0, by omega, rfl, fun p hp => by simp at hp, Below.refl _ _⟩
  case round =>
    obtain ⟨i, hig, rfl, HN, HB⟩ := hrel
    have HIG := Lib.hid hig
    cases gk with
    | zero =>
      have hge : ¬ (i : Int) < (n : Int) := by omega
      have HE : Hid (edB zs x y = false) := by
        show _ = _
        rw [← Bool.not_eq_true, edB_iff]
        rintro ⟨p, hp, h⟩
        have := HN.out p (by rw [List.take_of_length_le (by rw [HL.out]; omega)]; exact hp)
        exact this h
      have HB2 : Hid (Below w.heap.size w wr) := B0.out.trans (HB.out.mono B0.out.size)
      clear hig
      go_wp2_with fail
      go_ret
      exact ⟨by rw [HE.out]; rfl, HB2.out⟩
    | succ g2 =>
      have hlt : (i : Int) < (n : Int) := by omega
      obtain ⟨p, hp⟩ : ∃ p, zs[i]? = some p := ⟨zs[i]'(by rw [HL.out]; omega), List.getElem?_eq_getElem _⟩
      obtain ⟨b, o, rfl, hb, g0, g1, gk2⟩ := ed_at (HR.out _ (B0.out.trans (HB.out.mono B0.out.size))) hp
      have HX := Lib.hid (Blk.new wr 53 #[.int .i64 p.1, .int .i64 p.2.1, .int .i64 p.2.2])
      have HB1 := Lib.hid (HB.out.alloc HB.out.size (.cells #[.int .i64 p.1, .int .i64 p.2.1, .int .i64 p.2.2] 53))
      have z0 := HX.out.cell 0
      have z1 := HX.out.cell 1
      have HP := Lib.hid hp
      have hn3 : n ≤ 1000 := hn
      clear hig hp
      cases h1 : p.1 == x
      · have HS : Hid (∀ q ∈ zs.take (i + 1), ¬ (q.1 = x ∧ q.2.1 = y)) := by
          intro q hq
          rw [List.take_add_one, HP.out] at hq
          rcases List.mem_append.1 hq with hq | hq
          · exact HN.out q hq
          · simp at hq; subst hq; intro h; simp [h.1] at h1
        go_wp2_with fail
        go_roundg g2
        case measure => omega
        case rel => exact ⟨i + 1, by have := HIG.out; omega, by go_num, HS, HB1⟩
      · cases h2 : p.2.1 == y
        · have HS : Hid (∀ q ∈ zs.take (i + 1), ¬ (q.1 = x ∧ q.2.1 = y)) := by
            intro q hq
            rw [List.take_add_one, HP.out] at hq
            rcases List.mem_append.1 hq with hq | hq
            · exact HN.out q hq
            · simp at hq; subst hq; intro h; simp [h.2] at h2
          go_wp2_with fail
          go_roundg g2
          case measure => omega
          case rel => exact ⟨i + 1, by have := HIG.out; omega, by go_num, HS, HB1⟩
        · have HE : Hid (edB zs x y = true) := edB_iff.2 ⟨p, List.mem_of_getElem? HP.out, by simpa using h1, by simpa using h2⟩
          have HB2 : Hid (Below w.heap.size w (wr.alloc (.cells #[.int .i64 p.1, .int .i64 p.2.1, .int .i64 p.2.2] 53))) := B0.out.trans (HB1.out.mono B0.out.size)
          go_wp2_with fail
          go_ret
          exact ⟨by rw [HE.out]; rfl, HB2.out⟩

section
variable {R : Int → Int → Prop} {a : Int} {m : Nat}
/-- Who is led to is so by a shortest walk. -/
theorem far_exists {u : Int} {r : List Int} (h : Wk R a r u) : ∃ (d : Nat) (s : List Int), Wk R a s u ∧ s.length = d + 1 ∧ d + 1 ≤ r.length ∧ FarAt R a u (d : Int) := by
  have key : ∀ k, ∀ r : List Int, Wk R a r u → r.length ≤ k → ∃ s, Wk R a s u ∧ s.length ≤ r.length ∧ ∀ t, Wk R a t u → s.length ≤ t.length := by
    intro k
    induction k with
    | zero => intro r hr hl; have := hr.pos; omega
    | succ k ih =>
      intro r hr hl
      by_cases hm : ∃ t, Wk R a t u ∧ t.length < r.length
      · obtain ⟨t, h1, h2⟩ := hm
        obtain ⟨s, h3, h4, h5⟩ := ih t h1 (by omega)
        exact ⟨s, h3, by omega, h5⟩
      · exact ⟨r, hr, Nat.le_refl _, fun t ht => Nat.le_of_not_lt fun h => hm ⟨t, ht, h⟩⟩
  obtain ⟨s, h1, h2, h3⟩ := key r.length r h (Nat.le_refl _)
  have hp := h1.pos
  refine ⟨s.length - 1, s, h1, by omega, by omega, .inr ⟨⟨s, h1, by omega⟩, fun t ht => ?_⟩⟩
  have := h3 t ht
  omega
theorem FarAt.few (hR : In R m) (ha : 0 ≤ a ∧ a < (m : Int)) {u d : Int} (h : FarAt R a u d) : d < (m : Int) := by
  rcases h with ⟨rfl, _⟩ | ⟨⟨r, h1, h2⟩, h3⟩
  · omega
  · obtain ⟨q, h4, h5⟩ := h1.few hR ha
    have := h3 q h4
    omega
theorem FarAt.node (hR : In R m) (ha : 0 ≤ a ∧ a < (m : Int)) {u d : Int} (h : FarAt R a u d) (hd : 0 ≤ d) : 0 ≤ u ∧ u < (m : Int) := by
  obtain ⟨r, h1, _⟩ := h.way hd
  exact h1.nodes hR ha u h1.end_in
/-- The last step of a shortest walk. -/
theorem FarAt.back {u : Int} {d : Nat} (h : FarAt R a u ((d + 1 : Nat) : Int)) : ∃ y, FarAt R a y (d : Int) ∧ R y u := by
  rcases h with ⟨h, _⟩ | ⟨⟨r, h1, h2⟩, h3⟩
  · omega
  · rcases h1.unmore with ⟨e, _⟩ | ⟨y, q, h4, h5, rfl⟩
    · rw [e] at h2; simp at h2; omega
    · refine ⟨y, .inr ⟨⟨q, h4, by simp at h2; omega⟩, fun t ht => ?_⟩, h5⟩
      have := h3 _ (ht.more h5)
      simp at this
      omega
/-- Whoever is farther has somebody on the way. -/
theorem FarAt.mid : ∀ {d n : Nat} {u : Int}, FarAt R a u (d : Int) → n ≤ d → ∃ y, FarAt R a y (n : Int)
  | 0, n, u, h, hn => ⟨u, (Nat.le_zero.1 hn) ▸ h⟩
  | d + 1, n, u, h, hn => by
    by_cases e : n = d + 1
    · subst e; exact ⟨u, h⟩
    · obtain ⟨y, hy, _⟩ := h.back
      exact hy.mid (by omega)
/-- Ahead of a wave. -/
structure Wvs (R : Int → Int → Prop) (a : Int) (m : Nat) (out : List Int) (n : Nat) (ws : List Int) : Prop where
  len : out.length = m
  neg : ∀ (u : Nat) d, out[u]? = some d → d = -1 ∨ (0 ≤ d ∧ d < (n : Int) ∧ FarAt R a (u : Int) d)
  set_ : ∀ (u d : Nat), FarAt R a (u : Int) (d : Int) → d < n → out[u]? = some (d : Int)
  inw : ∀ x ∈ ws, (0 ≤ x ∧ x < (m : Int)) ∧ ∃ r, Wk R a r x ∧ r.length = n + 1
  all : ∀ x, FarAt R a x (n : Int) → x ∈ ws
  low : ws ≠ [] → n ≤ m
  few : ws.length + 1000 * out.count (-1) ≤ 1000 * m + 1
/-- Within a wave. -/
structure Wvi (R : Int → Int → Prop) (a : Int) (m : Nat) (out : List Int) (n : Nat) (ws : List Int) (i : Nat) (ns : List Int) : Prop where
  len : out.length = m
  neg : ∀ (u : Nat) d, out[u]? = some d → d = -1 ∨ (0 ≤ d ∧ d ≤ (n : Int) ∧ FarAt R a (u : Int) d)
  set_ : ∀ (u d : Nat), FarAt R a (u : Int) (d : Int) → d < n → out[u]? = some (d : Int)
  cur : ∀ u : Nat, FarAt R a (u : Int) (n : Int) → (u : Int) ∈ ws.take i → out[u]? = some (n : Int)
  nin : ∀ x ∈ ns, (0 ≤ x ∧ x < (m : Int)) ∧ ∃ y, FarAt R a y (n : Int) ∧ R y x
  nall : ∀ u : Nat, out[u]? = some (n : Int) → ∀ x, R (u : Int) x → x ∈ ns
  few : ns.length + 1000 * out.count (-1) ≤ 1000 * m
theorem Wvs.start (ha : 0 ≤ a ∧ a < (m : Int)) : Wvs R a m (List.replicate m (-1)) 0 [a] := by
  refine ⟨by simp, fun u d h => ?_, fun u d _ h => by omega, fun x hx => ?_, fun x hx => ?_, fun _ => Nat.zero_le _, ?_⟩
  · have := List.mem_of_getElem? h
    exact .inl (List.eq_of_mem_replicate this)
  · simp at hx; subst hx; exact ⟨ha, [x], .one, rfl⟩
  · have := hx.here rfl; simp [this]
  · rw [List.count_replicate_self]; simp; omega
theorem Wvs.begin {out : List Int} {n : Nat} {ws : List Int} (h : Wvs R a m out n ws) : Wvi R a m out n ws 0 [] := by
  refine ⟨h.len, fun u d hd => (h.neg u d hd).imp id fun h => ⟨h.1, by omega, h.2.2⟩, h.set_, fun u _ hu => by simp at hu, fun x hx => by simp at hx, fun u hu => ?_, ?_⟩
  · rcases h.neg u _ hu with h1 | h1 <;> omega
  · have := List.count_le_length (a := (-1 : Int)) (l := out)
    have := h.len
    simp
    omega
theorem Wvi.skip {out : List Int} {n : Nat} {ws ns : List Int} {i v : Nat} {d : Int} (h : Wvi R a m out n ws i ns) (hv : ws[i]? = some (v : Int)) (hd : out[v]? = some d) (h0 : ¬ d < 0) : Wvi R a m out n ws (i + 1) ns := by
  refine ⟨h.len, h.neg, h.set_, fun u hu hm => ?_, h.nin, h.nall, h.few⟩
  rw [List.take_add_one, hv] at hm
  rcases List.mem_append.1 hm with hm | hm
  · exact h.cur u hu hm
  · simp at hm
    have : u = v := by omega
    subst this
    rcases h.neg u d hd with h1 | h1
    · omega
    · rw [hd, h1.2.2.one_ hu]
theorem Wvi.put {out : List Int} {n : Nat} {ws ns xs : List Int} {i v : Nat} {d : Int} (hR : In R m) (h : Wvi R a m out n ws i ns) (hs : ∀ x ∈ ws, (0 ≤ x ∧ x < (m : Int)) ∧ ∃ r, Wk R a r x ∧ r.length = n + 1) (hv : ws[i]? = some (v : Int)) (hd : out[v]? = some d) (h0 : d < 0) (hxs : ∀ x, x ∈ xs ↔ R (v : Int) x) (hl : xs.length ≤ 1000) :
    Wvi R a m (out.set v (n : Int)) n ws (i + 1) (ns ++ xs) := by
  have hdm : d = -1 := by
    rcases h.neg v d hd with h1 | h1
    · exact h1
    · omega
  subst hdm
  have hvl := (List.getElem?_eq_some_iff.1 hd).1
  have hfar : FarAt R a (v : Int) (n : Int) := by
    obtain ⟨_, r, h1, h2⟩ := hs _ (List.mem_of_getElem? hv)
    obtain ⟨e, s, h3, h4, h5, h6⟩ := far_exists h1
    have : ¬ e < n := fun he => by
      have := h.set_ v e h6 he
      rw [hd] at this
      injection this with this
      omega
    obtain rfl : e = n := by omega
    exact h6
  have get : ∀ u : Nat, (out.set v (n : Int))[u]? = if u = v then some (n : Int) else out[u]? := fun u => by
    rw [List.getElem?_set]
    by_cases e : v = u
    · rw [if_pos e, if_pos e.symm, if_pos hvl]
    · rw [if_neg e, if_neg fun e2 => e e2.symm]
  refine ⟨by rw [List.length_set]; exact h.len, fun u d hu => ?_, fun u e hu he => ?_, fun u hu hm => ?_, fun x hx => ?_, fun u hu x hx => ?_, ?_⟩
  · rw [get] at hu
    split at hu
    · rename_i e
      injection hu with hu
      subst hu; subst e
      exact .inr ⟨by omega, Int.le_refl _, hfar⟩
    · exact h.neg u d hu
  · rw [get]
    split
    · rename_i e2
      subst e2
      have := hu.one_ hfar
      omega
    · exact h.set_ u e hu he
  · rw [get]
    split
    · rfl
    · rename_i e
      rw [List.take_add_one, hv] at hm
      rcases List.mem_append.1 hm with hm | hm
      · exact h.cur u hu hm
      · simp at hm
        exact absurd (by omega) e
  · rcases List.mem_append.1 hx with hx | hx
    · exact h.nin x hx
    · have := (hxs x).1 hx
      exact ⟨(hR _ _ this).2, _, hfar, this⟩
  · rw [get] at hu
    split at hu
    · rename_i e
      subst e
      exact List.mem_append_right _ ((hxs x).2 hx)
    · exact List.mem_append_left _ (h.nall u hu x hx)
  · have h1 := count_seti out v (n : Int) hd (by omega)
    have := h.few
    rw [List.length_append]
    omega
theorem Wvi.end_ {out : List Int} {n : Nat} {ws ns : List Int} {i : Nat} (hR : In R m) (ha : 0 ≤ a ∧ a < (m : Int)) (h : Wvi R a m out n ws i ns) (hi : ws.length ≤ i) (hall : ∀ x, FarAt R a x (n : Int) → x ∈ ws) : Wvs R a m out (n + 1) ns := by
  have hcur : ∀ u : Nat, FarAt R a (u : Int) (n : Int) → out[u]? = some (n : Int) := fun u hu => h.cur u hu (by rw [List.take_of_length_le hi]; exact hall _ hu)
  refine ⟨h.len, fun u d hd => (h.neg u d hd).imp id fun h => ⟨h.1, by omega, h.2.2⟩, fun u d hu hd => ?_, fun x hx => ?_, fun x hx => ?_, fun hne => ?_, ?_⟩
  · by_cases e : d = n
    · subst e; exact hcur u hu
    · exact h.set_ u d hu (by omega)
  · obtain ⟨h1, y, h2, h3⟩ := h.nin x hx
    obtain ⟨r, h4, h5⟩ := h2.way (by omega)
    exact ⟨h1, _, h4.more h3, by simp; omega⟩
  · obtain ⟨y, h1, h2⟩ := hx.back
    have hy := h1.node hR ha (by omega)
    obtain ⟨v, rfl⟩ : ∃ v : Nat, y = (v : Int) := ⟨y.toNat, by omega⟩
    exact h.nall v (hcur v h1) x h2
  · obtain ⟨x, hx⟩ := List.exists_mem_of_ne_nil _ hne
    obtain ⟨_, y, h2, _⟩ := h.nin x hx
    have := h2.few hR ha
    omega
  · have := h.few
    omega
theorem Wvs.done {out : List Int} {n : Nat} (h : Wvs R a m out n []) : FarL R m a out := by
  refine ⟨h.len, fun u d hd => ?_⟩
  rcases h.neg u d hd with rfl | h1
  · refine .inl ⟨rfl, fun r hr => ?_⟩
    obtain ⟨e, s, _, _, _, h2⟩ := far_exists hr
    rcases Nat.lt_or_ge e n with h3 | h3
    · have := h.set_ u e h2 h3
      rw [hd] at this
      injection this with this
      omega
    · obtain ⟨y, hy⟩ := h2.mid h3
      have := h.all y hy
      simp at this
  · exact h1.2.2
end
end Go.Proofs.YtgbpaiffnhpafaaDoor
namespace Go.Proofs.YtgbpaiffnhpafaaDoor
open Go.RowKit

/-- The next ones of a node that are not below one. -/
def nbs (l : Int) (os : List Ed) (j : Nat) : List Int := ((os.take j).filter fun p => decide (l ≤ p.2.1)).map fun p => p.2.1
theorem nbs_keep {l : Int} {os : List Ed} {j : Nat} {p : Ed} (hp : os[j]? = some p) (h : l ≤ p.2.1) : nbs l os (j + 1) = nbs l os j ++ [p.2.1] := by
  unfold nbs
  rw [List.take_add_one, hp]
  simp [h]
theorem nbs_skip {l : Int} {os : List Ed} {j : Nat} {p : Ed} (hp : os[j]? = some p) (h : ¬ l ≤ p.2.1) : nbs l os (j + 1) = nbs l os j := by
  unfold nbs
  rw [List.take_add_one, hp]
  simp [h]
theorem nbs_len (l : Int) (os : List Ed) (j : Nat) : (nbs l os j).length ≤ j := by
  unfold nbs
  rw [List.length_map]
  exact Nat.le_trans (List.length_filter_le _ _) (by rw [List.length_take]; omega)
theorem nbs_all {zs : List Ed} {l v x : Int} {j : Nat} (hj : (outE zs v).length ≤ j) : x ∈ nbs l (outE zs v) j ↔ To (EdR zs) l v x := by
  unfold nbs To
  rw [List.take_of_length_le hj, List.mem_map, edR_out]
  constructor
  · rintro ⟨p, hp, rfl⟩
    obtain ⟨h1, h2⟩ := List.mem_filter.1 hp
    exact ⟨⟨p, h1, rfl⟩, of_decide_eq_true h2⟩
  · rintro ⟨⟨p, h1, rfl⟩, h2⟩
    exact ⟨p, List.mem_filter.2 ⟨h1, decide_eq_true h2⟩, rfl⟩
theorem own_types {W : World} {b1 b2 s1 s2 n1 n2 : Nat} {e1 e2 : TypeId} {v1 v2 : Value} {x1 x2 : List Value} (h : W.ownsRow b1 e1 s1 v1 n1 x1) (k : W.ownsRow b2 e2 s2 v2 n2 x2) (hne : e1 ≠ e2) : ∀ g, v1.ownBlock = some g → v2.ownBlock ≠ some g := fun g h1 h2 => by
  obtain ⟨_, _, c1, k1⟩ := own_in h h1
  obtain ⟨_, _, c2, k2⟩ := own_in k h2
  unfold Blk at k1 k2
  rw [k1] at k2
  injection k2 with k2
  injection k2 with _ k2 _
  exact hne k2
theorem own_cell {W : World} {base n : Nat} {A : Option Addr} {c i : Nat} {vs : List Int} {x : Int} (h : W.ownsRow base 3 1 (.slice A n c) n (ints vs)) (hx : vs[i]? = some x) : ∃ g, A = some ⟨g, 0, none⟩ ∧ W.cell? ⟨g, i, none⟩ = some (.int .i64 x) := by
  have hi := (List.getElem?_eq_some_iff.1 hx).1
  obtain ⟨hl, ⟨_, h4⟩ | ⟨g, cap, cur, h3, h4, h5, h6, h7, h8, h9⟩⟩ := h
  · rw [ints_length] at hl; omega
  · injection h3 with h3 _ _
    refine ⟨g, h3, ?_⟩
    have hb : Blk W g 3 cur := h5
    have h10 : (ints vs)[i]? = some (.int .i64 x) := by unfold ints; rw [List.getElem?_map, hx]; rfl
    rw [ints_length] at hl
    rw [hb.cell, ← h10, ← h9, List.getElem?_take, if_pos (by omega), ← Array.getElem?_toList]

/-- What is kept while waves are looked at. -/
structure RfAt (w : World) (F m : Nat) (A : Option Addr) (n c : Nat) (zs : List Ed) (out : List Int) (W : World) : Prop where
  far : Blk W F 3 (ints out).toArray
  box : Blk W w.heap.size 24 #[.int .i64 (m : Int), .slice A n c]
  es : Reads W w.heap.size 3 A n (cellsE zs)
  below : Below w.heap.size w W
  lt : w.heap.size < F
theorem RfAt.keep {w : World} {F m : Nat} {A : Option Addr} {n c : Nat} {zs : List Ed} {out : List Int} {W W' : World} {S : Nat → Prop} (h : RfAt w F m A n c zs out W) (hk : Keep S W W') (hS : ∀ k, k ≤ F → S k) : RfAt w F m A n c zs out W' := by
  have := h.lt
  exact ⟨hk.blk h.far (hS _ (Nat.le_refl _)), hk.blk h.box (hS _ (by omega)), hk.reads h.es (by have := h.below.size; omega) fun k hk => hS k (by omega), h.below.trans (hk.below h.below.size fun j hj => hS j (by omega)), h.lt⟩
theorem RfAt.on {w : World} {F m : Nat} {A : Option Addr} {n c : Nat} {zs : List Ed} {out : List Int} {W W' : World} (h : RfAt w F m A n c zs out W) (hb : Below W.heap.size W W') : RfAt w F m A n c zs out W' := h.keep (Keep.of_all (fun _ => True) hb) fun _ _ => trivial
theorem RfAt.set {w : World} {F m : Nat} {A : Option Addr} {n c : Nat} {zs : List Ed} {out : List Int} {W : World} (h : RfAt w F m A n c zs out W) (v : Nat) (d : Int) : RfAt w F m A n c zs (out.set v d) (W.setCell ⟨F, v, none⟩ (.int .i64 d)) := by
  have hlt := h.lt
  have hk : Keep (fun k => k ≠ F) W (W.setCell ⟨F, v, none⟩ (.int .i64 d)) := (Keep.refl _ W).set (.inr fun h => h rfl) _ _
  refine ⟨?_, hk.blk h.box (by show _ ≠ _; omega), hk.reads h.es (by have := h.below.size; omega) fun k hk => by show _ ≠ _; omega, h.below.trans (hk.below h.below.size fun j hj => by show _ ≠ _; omega), hlt⟩
  have := h.far.set_ v (.int .i64 d)
  rw [List.setIfInBounds_toArray, ints_set] at this
  exact this
theorem RfAt.get {w : World} {F m : Nat} {A : Option Addr} {n c : Nat} {zs : List Ed} {out : List Int} {W : World} (h : RfAt w F m A n c zs out W) {v : Nat} {d : Int} (hd : out[v]? = some d) : W.cell? ⟨F, v, none⟩ = some (.int .i64 d) := by
  rw [h.far.cell, List.getElem?_toArray]
  unfold ints
  rw [List.getElem?_map, hd]
  rfl
/-- The distances, in memory of the call's own. -/
def RFarIs (R : Int → Int → Prop) (m : Nat) (a : Int) (w : World) (e : Ending) (w' : World) : Prop :=
  ∃ (l : List Int) (A : Option Addr) (c : Nat), FarL R m a l ∧ e = .returned (.slice A m c) ∧ Reads w' w'.heap.size 1 A m (ints l) ∧ Below w.heap.size w w'

set_option maxRecDepth 100000 in
set_option maxHeartbeats 8000000 in
theorem rfar8_any (m : Nat) (A : Option Addr) (n c : Nat) (zs : List Ed) (a : Nat) (l : Int) (hg : IsG (m : Int) zs) (hn : n ≤ 1000) (ha : a < m) (w : World) (hR : Reads w w.heap.size 3 A n (cellsE zs)) :
    Calls Tryd.prog 15 #[.agg #[.int .i64 (m : Int), .slice A n c], .int .i64 (a : Int), .int .i64 l] w (RFarIs (To (EdR zs) l) m (a : Int) w) := by
  have hmn := hg.nodes
  obtain ⟨k0, b0⟩ := box_new w #[.int .i64 (m : Int), .slice A n c] 24
  have hmk := int_make m (m : Int) rfl (by omega) (w.alloc (.cells #[.int .i64 (m : Int), .slice A n c] 24))
  have hsz1 : (w.alloc (.cells #[.int .i64 (m : Int), .slice A n c] 24)).heap.size = w.heap.size + 1 := by simp
  rw [hsz1] at hmk
  have hin : In (To (EdR zs) l) m := fun x y hs => EdR.in_ hg.all x y hs.1
  have b1 := b0.alloc b0.size (.cells (ints (List.replicate m 0)).toArray 3)
  have hfb := Blk.new (w.alloc (.cells #[.int .i64 (m : Int), .slice A n c] 24)) 3 (ints (List.replicate m 0)).toArray
  rw [hsz1] at hfb
  have RF0 : Hid (RfAt w (w.heap.size + 1) m A n c zs (List.replicate m 0) ((w.alloc (.cells #[.int .i64 (m : Int), .slice A n c] 24)).alloc (.cells (ints (List.replicate m 0)).toArray 3))) :=
    ⟨hfb, k0.alloc _, hR.below b1, b1, Nat.lt_succ_self _⟩
  have x0 := k0.cell 0
  have HG := Lib.hid hg
  have HAM : Hid (In (To (EdR zs) l) m ∧ (0 ≤ (a : Int) ∧ (a : Int) < (m : Int)) ∧ m ≤ 300 ∧ zs.length ≤ 1000) := ⟨hin, ⟨by omega, by omega⟩, by omega, by have := reads_len hR; omega⟩
  have hm3 : m ≤ 300 := by omega
  obtain ⟨i0, hi, hz0, hz1, hz2⟩ := info_parts int_info
  clear hR b0 b1 k0 hfb hsz1 hg hmn hin ha
  go_enter Tryd.func15, Tryd.ntmps15
  go_upto_region 2 with fail
  clear x0 hmk
  generalize (w.alloc (.cells #[.int .i64 (m : Int), .slice A n c] 24)).alloc (.cells (ints (List.replicate m 0)).toArray 3) = W1 at *
  obtain ⟨F, hF⟩ : ∃ F, w.heap.size + 1 = F := ⟨_, rfl⟩
  rw [hF] at RF0 ⊢
  have HF := Lib.hid hF
  clear hF
  go_wp2_with fail
  go_loopg [21] m (fun gg s21 wr => ∃ v : Nat, s21 = .int .i64 v ∧ v + gg = m ∧ Hid (RfAt w F m A n c zs (List.replicate v (-1) ++ List.replicate (m - v) 0) wr))
  case atStart => exact ⟨0, rfl, by omega, by unfold Hid; simpa using RF0.out⟩
  case round =>
    clear RF0
    obtain ⟨v, rfl, hvm, RF⟩ := hrel
    have HVM := Lib.hid hvm
    cases gk with
    | succ g2 =>
      have hlt : (v : Int) < (m : Int) := by omega
      have hv0 : (0 : Int) ≤ (v : Int) := by omega
      obtain ⟨u0, hu0⟩ : ∃ u, (List.replicate v (-1 : Int) ++ List.replicate (m - v) 0)[v]? = some u := ⟨_, List.getElem?_eq_getElem (by simp; omega)⟩
      have y0 := RF.out.get hu0
      have f0 : wr.frozen? ⟨F, v, none⟩ = false := RF.out.far.frozen v
      have RF3 := Lib.hid (RF.out.set v (-1))
      rw [List.set_append_right _ _ (by simp), List.length_replicate, Nat.sub_self, show m - v = (m - (v + 1)) + 1 by omega, List.replicate_succ, List.set_cons_zero] at RF3
      have e : List.replicate v (-1 : Int) ++ -1 :: List.replicate (m - (v + 1)) 0 = List.replicate (v + 1) (-1) ++ List.replicate (m - (v + 1)) 0 := by
        rw [show List.replicate (v + 1) (-1 : Int) = List.replicate v (-1) ++ [-1] from List.replicate_succ', List.append_assoc]
        rfl
      rw [e] at RF3
      clear hvm hu0 e
      go_wp2_with fail
      go_roundg g2
      case measure => omega
      case rel => exact ⟨v + 1, by go_num, by have := HVM.out; omega, RF3⟩
    | zero =>
      have hge : ¬ (v : Int) < (m : Int) := by omega
      obtain rfl : v = m := by omega
      have RF4 : Hid (RfAt w F v A n c zs (List.replicate v (-1)) (wr.alloc (.cells #[.int .i64 (a : Int)] 3))) := by
        have := RF.out
        rw [Nat.sub_self, List.replicate_zero, List.append_nil] at this
        exact this.on ((Below.refl _ _).alloc (Nat.le_refl _) _)
      have OW4 : Hid ((wr.alloc (.cells #[.int .i64 (a : Int)] 3)).ownsRow (F + 1) 3 1 (.slice (some ⟨wr.heap.size, 0, none⟩) 1 1) 1 (ints [(a : Int)])) :=
        ⟨rfl, .inr ⟨wr.heap.size, 1, _, rfl, RF.out.far.lt, Blk.new wr 3 #[.int .i64 (a : Int)], Nat.le_refl _, by decide, rfl, rfl⟩⟩
      have HWV := Lib.hid (Wvs.start (R := To (EdR zs) l) HAM.out.2.1)
      clear hvm RF
      go_wp2_with fail
      generalize wr.alloc (.cells #[.int .i64 (a : Int)] 3) = w4 at *
      go_loopg [9, 10] (v + 1) (fun gg s9 s10 wo => ∃ (ws out : List Int) (Aw : Option Addr) (cw k : Nat), s9 = .slice Aw ws.length cw ∧ s10 = .int .i64 k ∧ v + 1 - k ≤ gg ∧ k ≤ v + 1 ∧ Hid (Wvs (To (EdR zs) l) (a : Int) v out k ws) ∧ Hid (RfAt w F v A n c zs out wo) ∧ Hid (wo.ownsRow (F + 1) 3 1 (.slice Aw ws.length cw) ws.length (ints ws)))
      case atStart => exact ⟨[(a : Int)], _, _, 1, 0, rfl, rfl, by omega, by omega, HWV, RF4, OW4⟩
      case round =>
        clear HWV RF4 OW4
        obtain ⟨ws, out, Aw, cw, k, rfl, rfl, hgk, hkv, HWV, RF, OW⟩ := hrel
        rename World => wo
        have HGK := Lib.hid (And.intro hgk hkv)
        clear hgk hkv
        cases ws with
        | nil =>
          have HE : Hid (RFarIs (To (EdR zs) l) v (a : Int) w (.returned (.slice (some ⟨F, 0, none⟩) v v)) wo) := by
            have hd := HWV.out.done
            refine ⟨out, some ⟨F, 0, none⟩, v, hd, rfl, ⟨by rw [ints_length, hd.len, Nat.mul_one], fun _ => ⟨_, rfl, RF.out.far.lt, fun j u hu => ?_⟩⟩, RF.out.below⟩
            rw [Go.WideShapes.add_plain, Nat.zero_add, RF.out.far.cell, List.getElem?_toArray]
            exact hu
          go_wp2_with fail
          go_ret
          exact HE.out
        | cons w0 wr0 =>
          obtain ⟨ws, hws⟩ : ∃ ws, w0 :: wr0 = ws := ⟨_, rfl⟩
          have hne : ws ≠ [] := by rw [← hws]; exact List.cons_ne_nil _ _
          rw [hws] at HWV OW ⊢
          clear hws
          have HKM : Hid (k ≤ v) := HWV.out.low hne
          have hwl : 0 < ws.length := List.length_pos_iff.2 hne
          have hwl2 : ws.length ≤ 300001 := by have := HWV.out.few; have := HAM.out.2.2.1; omega
          obtain ⟨nw, hnw⟩ : ∃ nw, ws.length = nw := ⟨_, rfl⟩
          rw [hnw] at hwl hwl2 OW ⊢
          have HNW := Lib.hid hnw
          have hn0 : (0 : Int) < (nw : Int) := by omega
          have HWI := Lib.hid HWV.out.begin
          have HIN := Lib.hid (And.intro HWV.out.inw HWV.out.all)
          have HLT : Hid (∀ g, (Value.slice Aw nw cw).ownBlock = some g → F + 1 ≤ g ∧ g < wo.heap.size) := fun g hg => ⟨(own_in OW.out hg).1, (own_in OW.out hg).2.1⟩
          have HFO : Hid (F < wo.heap.size) := RF.out.far.lt
          clear hne hnw HWV
          go_wp2_with fail
          obtain ⟨N0, hN0⟩ : ∃ N0, wo.heap.size = N0 := ⟨_, rfl⟩
          rw [hN0] at HLT HFO
          have HN0 := Lib.hid hN0
          clear hN0
          go_loopg [11, 37] nw (fun gg s11 s37 wi => ∃ (i : Nat) (out' ns : List Int) (An : Option Addr) (cn : Nat), s37 = .int .i64 i ∧ i + gg = nw ∧ s11 = .slice An ns.length cn ∧ Hid (Wvi (To (EdR zs) l) (a : Int) v out' k ws i ns) ∧ Hid (RfAt w F v A n c zs out' wi) ∧ Hid (wi.ownsRow (F + 1) 3 1 (.slice Aw nw cw) nw (ints ws)) ∧
            Hid (wi.ownsRow N0 3 1 (.slice An ns.length cn) ns.length (ints ns)) ∧ Hid (N0 ≤ wi.heap.size))
          case atStart => exact ⟨0, out, [], none, 0, rfl, by omega, rfl, HWI, RF, OW, World.ownsRow_nil _ _ _ _, by have := HN0.out; show _ ≤ _; omega⟩
          case round =>
            clear HWI RF OW
            obtain ⟨i, out', ns, An, cn, rfl, hig, rfl, HWI, RF, OW, ON, HSZ⟩ := hrel
            rename World => wi
            have HIG := Lib.hid hig
            cases gk with
            | zero =>
              have hge : ¬ (i : Int) < (nw : Int) := by omega
              have HWE := Lib.hid (HWI.out.end_ HAM.out.1 HAM.out.2.1 (by have := HNW.out; omega) HIN.out.2)
              have OW2 := Lib.hid (own_base ON.out (base' := F + 1) (by have := HFO.out; omega))
              have hk9 : k ≤ 301 := by have := HKM.out; omega
              clear hig HWI OW ON
              go_wp2_with fail
              go_roundg (v + 1 - (k + 1))
              case measure => have := HGK.out; have := HKM.out; omega
              case rel => exact ⟨ns, out', An, cn, k + 1, rfl, by go_num, Nat.le_refl _, by have := HKM.out; omega, HWE, RF, OW2⟩
            | succ g2 =>
              have hlt : (i : Int) < (nw : Int) := by omega
              obtain ⟨x, hx⟩ : ∃ x, ws[i]? = some x := ⟨ws[i]'(by rw [HNW.out]; omega), List.getElem?_eq_getElem _⟩
              obtain ⟨gw, rfl, c0⟩ := own_cell OW.out hx
              have hxn := (HIN.out.1 x (List.mem_of_getElem? hx)).1
              obtain ⟨u, rfl⟩ : ∃ u : Nat, x = (u : Int) := ⟨x.toNat, by omega⟩
              have huv : u < v := by omega
              obtain ⟨d, hd⟩ : ∃ d, out'[u]? = some d := ⟨_, List.getElem?_eq_getElem (by rw [HWI.out.len]; exact huv)⟩
              have y0 := RF.out.get hd
              have hu1 : (u : Int) < (v : Int) := by omega
              have HX := Lib.hid hx
              have HD := Lib.hid hd
              clear hig hx hd hxn
              by_cases hneg : d < 0
              · have f0 : wi.frozen? ⟨F, u, none⟩ = false := RF.out.far.frozen u
                have RF2 := Lib.hid (RF.out.set u (k : Int))
                have hk2 : Keep (fun j => j ≠ F) wi (wi.setCell ⟨F, u, none⟩ (.int .i64 (k : Int))) := (Keep.refl _ wi).set (.inr fun h => h rfl) _ _
                have OW2 := Lib.hid (hk2.own OW.out fun g hg => by have := (HLT.out g hg).1; show _ ≠ _; omega)
                have ON2 := Lib.hid (hk2.own ON.out fun g hg => by have := (own_in ON.out hg).1; have := HFO.out; show _ ≠ _; omega)
                have HSZ2 : Hid (N0 ≤ (wi.setCell ⟨F, u, none⟩ (.int .i64 (k : Int))).heap.size) := by rw [World.size_setCell]; exact HSZ
                have HNG := Lib.hid hneg
                clear hk2 RF OW ON
                go_upto_region 17 with fail
                clear c0 y0 f0
                generalize wi.setCell ⟨F, u, none⟩ (.int .i64 (k : Int)) = w5 at *
                have b0 := RF2.out.box.cell 0
                have b1 := RF2.out.box.cell 1
                have HO := Lib.hid (rout_any (v : Int) (u : Int) A n c zs hn w5 (RF2.out.es.more RF2.out.below.size))
                go_wp2_with fail
                refine HO.out.mono ?_
                rintro e w6 hr6
                obtain ⟨Ao, co, rfl, ho6, h61, h62, b6⟩ := rows_row hr6
                have RF3 := Lib.hid (RF2.out.on b6)
                have hk6 : Keep (fun _ => True) w5 w6 := Keep.of_all _ b6
                have OW3 := Lib.hid (hk6.own OW2.out fun _ _ => trivial)
                have ON3 := Lib.hid (hk6.own ON2.out fun _ _ => trivial)
                have OE3 := Lib.hid (own_base ho6 (base' := 0) (Nat.zero_le _))
                have HSZ3 : Hid (N0 ≤ w6.heap.size) := Nat.le_trans HSZ2.out b6.size
                have HFR : Hid (∀ g, (Value.slice Ao (outE zs (u : Int)).length co).ownBlock = some g → w5.heap.size ≤ g) := fun g hg => (own_in ho6 hg).1
                have HOL : Hid ((outE zs (u : Int)).length ≤ 1000) := by
                  have h1 : (outE zs (u : Int)).length ≤ zs.length := List.length_filter_le _ _
                  have := HAM.out.2.2.2
                  show _ ≤ _
                  omega
                have HNL : Hid (ns.length ≤ 300000) := by have := HWI.out.few; have := HAM.out.2.2.1; show _ ≤ _; omega
                clear hr6 ho6 h61 h62 b6 hk6 RF2 OW2 ON2 HSZ2 HO b0 b1
                obtain ⟨os, hos⟩ : ∃ os, outE zs (u : Int) = os := ⟨_, rfl⟩
                have HOS := Lib.hid hos
                rw [hos] at OE3 HFR HOL ⊢
                clear hos
                obtain ⟨no, hno⟩ : ∃ no, os.length = no := ⟨_, rfl⟩
                have HNO := Lib.hid hno
                rw [hno] at OE3 HFR HOL ⊢
                have hno2 : no ≤ 1000 := HOL.out
                clear hno
                go_wp2_with fail
                go_loopg [11, 54] no (fun gg s11 s54 wj => ∃ (j : Nat) (Aj : Option Addr) (cj : Nat), s54 = .int .i64 j ∧ j + gg = no ∧ s11 = .slice Aj (ns ++ nbs l os j).length cj ∧ Hid (wj.ownsRow N0 3 1 (.slice Aj (ns ++ nbs l os j).length cj) (ns ++ nbs l os j).length (ints (ns ++ nbs l os j))) ∧ Hid (RfAt w F v A n c zs (out'.set u (k : Int)) wj) ∧
                  Hid (wj.ownsRow (F + 1) 3 1 (.slice (some ⟨gw, 0, none⟩) nw cw) nw (ints ws)) ∧ Hid (wj.ownsRow 0 53 3 (.slice Ao no co) no (cellsE os)) ∧ Hid (N0 ≤ wj.heap.size))
                case atStart => exact ⟨0, An, cn, rfl, by omega, by simp [nbs], (by unfold Hid; simpa [nbs] using ON3.out), RF3, OW3, OE3, HSZ3⟩
                case round =>
                  clear ON3 RF3 OW3 OE3 HSZ3
                  obtain ⟨j, Aj, cj, rfl, hjg, rfl, ONj, RFj, OWj, OEj, HSj⟩ := hrel
                  have HJG := Lib.hid hjg
                  cases gk with
                  | zero =>
                    have hge : ¬ (j : Int) < (no : Int) := by omega
                    have HWN := Lib.hid (HWI.out.put HAM.out.1 HIN.out.1 HX.out HD.out HNG.out (xs := nbs l os j) (fun x => by rw [← HOS.out]; exact nbs_all (by rw [HOS.out, HNO.out]; omega)) (by have := nbs_len l os j; have := HNO.out; omega))
                    clear hjg
                    go_wp2_with fail
                    go_roundg g2
                    case measure => omega
                    case rel => exact ⟨i + 1, _, _, Aj, cj, by go_num, by have := HIG.out; omega, by rw [List.length_append], HWN, RFj, OWj, ONj, HSj⟩
                  | succ g3 =>
                    have hltj : (j : Int) < (no : Int) := by omega
                    obtain ⟨p, hp⟩ : ∃ p, os[j]? = some p := ⟨os[j]'(by rw [HNO.out]; omega), List.getElem?_eq_getElem _⟩
                    obtain ⟨b, o, rfl, hbb, c0, c1, c2⟩ := ed_at (Reads.of_own OEj.out) hp
                    have bn : Below wr.heap.size wr (wr.alloc (.cells #[.int .i64 p.1, .int .i64 p.2.1, .int .i64 p.2.2] 53)) := (Below.refl _ _).alloc (Nat.le_refl _) _
                    have KY := Lib.hid (Blk.new wr 53 #[.int .i64 p.1, .int .i64 p.2.1, .int .i64 p.2.2])
                    have hkn : Keep (fun _ => True) wr (wr.alloc (.cells #[.int .i64 p.1, .int .i64 p.2.1, .int .i64 p.2.2] 53)) := Keep.of_all _ bn
                    have ON2 := Lib.hid (hkn.own ONj.out fun _ _ => trivial)
                    have RF2 := Lib.hid (RFj.out.on bn)
                    have OW2 := Lib.hid (hkn.own OWj.out fun _ _ => trivial)
                    have OE2 := Lib.hid (hkn.own OEj.out fun _ _ => trivial)
                    have HS2 : Hid (N0 ≤ (wr.alloc (.cells #[.int .i64 p.1, .int .i64 p.2.1, .int .i64 p.2.2] 53)).heap.size) := Nat.le_trans HSj.out bn.size
                    have HP := Lib.hid hp
                    have HJN : Hid (j ≤ 1000) := by show _ ≤ _; omega
                    obtain ⟨Y, hY⟩ : ∃ Y, wr.heap.size = Y := ⟨_, rfl⟩
                    rw [hY] at KY
                    clear hjg hp bn hkn ONj RFj OWj OEj HSj
                    go_upto_region 20 with fail
                    clear c0 c1 c2 hY
                    generalize wr.alloc (.cells #[.int .i64 p.1, .int .i64 p.2.1, .int .i64 p.2.2] 53) = wy at *
                    have y1 := KY.out.cell 1
                    by_cases hl : l ≤ p.2.1
                    · have hge : p.2.1 ≥ l := hl
                      have HNB := Lib.hid (nbs_keep HP.out hl)
                      have HLN : Hid ((ns ++ nbs l os j).length ≤ 301000) := by
                        have h1 := nbs_len l os j
                        have := HNL.out
                        have := HJN.out
                        show _ ≤ _
                        rw [List.length_append]
                        omega
                      obtain ⟨nsj, hnsj⟩ : ∃ nsj, ns ++ nbs l os j = nsj := ⟨_, rfl⟩
                      have HNE : Hid (ns ++ nbs l os (j + 1) = nsj ++ [p.2.1]) := by show _ = _; rw [HNB.out, ← List.append_assoc, hnsj]
                      rw [hnsj] at ON2 HLN ⊢
                      clear hl HNB hnsj
                      go_wp2_with (at_builtin; refine wpList_append_any _ rfl (.tmp 62) (.tmp 65) 30 rfl N0 3 i0 _ 1 8 Tryd.underlying30 hi hz0 hz1 hz2 rfl (by decide) (.slice Aj nsj.length cj) nsj.length _ rfl (ON2.out.alloc _) (wy.heap.size + 1) (some ⟨wy.heap.size, 0, none⟩) 1 _ (ints [p.2.1]) rfl (int_one wy p.2.1) (ints_one _) (by have := HLN.out; unfold maxLen; omega) (by have := HLN.out; omega) (by have := HS2.out; simp; omega) ?_; intro v7 w7 hown7 hgrow7 hat7)
                      obtain ⟨A7, c7, rfl, -, -⟩ := own_form2 hown7
                      have b8 : Below wy.heap.size wy (wy.alloc (.cells #[.int .i64 p.2.1] 3)) := (Below.refl _ _).alloc (Nat.le_refl _) _
                      have hk8 : Keep (fun g => (Value.slice Aj nsj.length cj).ownBlock ≠ some g) wy w7 := (Keep.of_all _ b8).trans ((Keep.refl _ _).grown hgrow7 fun g hg => .inr fun h => h hg)
                      have hNg : ∀ g, (Value.slice Aj nsj.length cj).ownBlock = some g → N0 ≤ g := fun g hg => (own_in ON2.out hg).1
                      have RF8 := Lib.hid (RF2.out.keep hk8 fun g hg e => by have := hNg g e; have := HFO.out; omega)
                      have OW8 := Lib.hid (hk8.own OW2.out fun g hg e => by have := hNg g e; have := (HLT.out g hg).2; omega)
                      have OE8 := Lib.hid (hk8.own OE2.out fun g hg e => own_types ON2.out OE2.out (by decide) g e hg)
                      have HS8 : Hid (N0 ≤ w7.heap.size) := Nat.le_trans HS2.out hk8.size
                      have ON8 : Hid (w7.ownsRow N0 3 1 (.slice A7 (ns ++ nbs l os (j + 1)).length c7) (ns ++ nbs l os (j + 1)).length (ints (ns ++ nbs l os (j + 1)))) := by
                        rw [HNE.out, List.length_append, ints_append]
                        exact hown7
                      have HLL : Hid ((ns ++ nbs l os (j + 1)).length = nsj.length + 1) := by show _ = _; rw [HNE.out, List.length_append]; rfl
                      clear hown7 hgrow7 hat7 b8 hk8 hNg
                      go_wp2_with fail
                      go_roundg g3
                      case measure => omega
                      case rel => exact ⟨j + 1, A7, c7, by go_num, by have := HJG.out; omega, by rw [HLL.out], ON8, RF8, OW8, OE8, HS8⟩
                    · have hge : ¬ p.2.1 ≥ l := hl
                      have HNB := Lib.hid (nbs_skip HP.out hl)
                      clear hl
                      go_wp2_with fail
                      go_roundg g3
                      case measure => omega
                      case rel => exact ⟨j + 1, Aj, cj, by go_num, by have := HJG.out; omega, by rw [HNB.out, List.length_append], (by rw [HNB.out]; exact ON2), RF2, OW2, OE2, HS2⟩
              · have HWN := Lib.hid (HWI.out.skip HX.out HD.out hneg)
                go_wp2_with fail
                go_roundg g2
                case measure => omega
                case rel => exact ⟨i + 1, out', ns, An, cn, by go_num, by have := HIG.out; omega, rfl, HWN, RF, OW, ON, HSZ⟩
end Go.Proofs.YtgbpaiffnhpafaaDoor
