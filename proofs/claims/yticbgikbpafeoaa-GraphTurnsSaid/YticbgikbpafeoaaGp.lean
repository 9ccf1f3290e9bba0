/- Layer graph: which graphs may be, rows in order, what leads out of nodes: plain facts. -/
import Derived.Test.YticbgikbpafeoaaGn
namespace Go.Proofs.Yticbgikbpafeoaa
open Go.RowKit

/-- An edge between so many nodes. -/
def rightE (nodes : Int) (p : Ed) : Bool := decide ((0 ≤ p.1 ∧ p.1 < nodes) ∧ (0 ≤ p.2.1 ∧ p.2.1 < nodes) ∧ p.1 ≠ p.2.1 ∧ 0 ≤ p.2.2 ∧ p.2.2 ≤ 9)
def mayN (nodes : Int) : Bool := decide (0 ≤ nodes ∧ nodes ≤ 300)
/-- In order, each once. -/
def upE (l : List Ed) : Prop := l.Pairwise fun x y => plE x < plE y
instance (l : List Ed) : Decidable (upE l) := by unfold upE; exact inferInstance
def rightG (nodes : Int) (l : List Ed) : Bool := mayN nodes && l.all (rightE nodes) && decide (upE l)
theorem rightE_ok {nodes : Int} {p : Ed} (hm : mayN nodes = true) (h : rightE nodes p = true) : okE p := by
  unfold mayN at hm
  unfold rightE at h
  simp only [decide_eq_true_eq] at hm h
  unfold okE
  omega
structure IsG (nodes : Int) (l : List Ed) : Prop where
  may : mayN nodes = true
  all : ∀ p ∈ l, rightE nodes p = true
  up : upE l
theorem rightG_iff {nodes : Int} {l : List Ed} : rightG nodes l = true ↔ IsG nodes l := by
  unfold rightG
  rw [Bool.and_eq_true, Bool.and_eq_true, List.all_eq_true, decide_eq_true_eq]
  exact ⟨fun h => ⟨h.1.1, h.1.2, h.2⟩, fun h => ⟨⟨h.may, h.all⟩, h.up⟩⟩
theorem IsG.ok {nodes : Int} {l : List Ed} (h : IsG nodes l) : ∀ p ∈ l, okE p := fun p hp => rightE_ok h.may (h.all p hp)
theorem IsG.nodes {nodes : Int} {l : List Ed} (h : IsG nodes l) : 0 ≤ nodes ∧ nodes ≤ 300 := by have := h.may; unfold mayN at this; simpa using this
theorem IsG.filter {nodes : Int} {l : List Ed} (h : IsG nodes l) (q : Ed → Bool) : IsG nodes (l.filter q) := ⟨h.may, fun p hp => h.all p (List.mem_filter.1 hp).1, List.Pairwise.filter _ h.up⟩

/-- Neighbours in order: all in order. -/
theorem up_of_next : ∀ {l : List Ed}, (∀ k x y, l[k]? = some x → l[k + 1]? = some y → plE x < plE y) → upE l
  | [], _ => List.Pairwise.nil
  | [x], _ => List.pairwise_singleton _ _
  | x :: y :: l, h => by
    have ih : upE (y :: l) := up_of_next fun k a b ha hb => h (k + 1) a b (by simpa using ha) (by simpa using hb)
    have hxy := h 0 x y rfl rfl
    refine List.pairwise_cons.2 ⟨fun z hz => ?_, ih⟩
    rcases List.mem_cons.1 hz with rfl | hz
    · exact hxy
    · have := (List.pairwise_cons.1 ih).1 z hz
      omega
theorem next_of_up {l : List Ed} (h : upE l) {k : Nat} {x y : Ed} (hx : l[k]? = some x) (hy : l[k + 1]? = some y) : plE x < plE y := by
  obtain ⟨i1, e1⟩ := List.getElem?_eq_some_iff.1 hx
  obtain ⟨i2, e2⟩ := List.getElem?_eq_some_iff.1 hy
  have := List.pairwise_iff_getElem.1 h k (k + 1) i1 i2 (by omega)
  rwa [e1, e2] at this

/-- Two rows in order that have the same are one. -/
theorem up_ext : ∀ {l m : List Ed}, upE l → upE m → (∀ x, x ∈ l ↔ x ∈ m) → l = m
  | [], [], _, _, _ => rfl
  | [], y :: m, _, _, h => by have := (h y).2 (.head _); simp at this
  | x :: l, [], _, _, h => by have := (h x).1 (.head _); simp at this
  | x :: l, y :: m, hl, hm, h => by
    have hl1 := List.pairwise_cons.1 hl
    have hm1 := List.pairwise_cons.1 hm
    have hxy : x = y := by
      rcases List.mem_cons.1 ((h x).1 (.head _)) with e | e
      · exact e
      · rcases List.mem_cons.1 ((h y).2 (.head _)) with e' | e'
        · exact e'.symm
        · have a := hm1.1 x e
          have b := hl1.1 y e'
          omega
    subst hxy
    congr 1
    refine up_ext hl1.2 hm1.2 fun z => ⟨fun hz => ?_, fun hz => ?_⟩
    · rcases List.mem_cons.1 ((h z).1 (.tail _ hz)) with rfl | e
      · have := hl1.1 z hz; omega
      · exact e
    · rcases List.mem_cons.1 ((h z).2 (.tail _ hz)) with rfl | e
      · have := hm1.1 z hz; omega
      · exact e

/-- Sorted, each once. -/
def sorE (l : List Ed) : List Ed := uniqK (srt ltE l) l.length
theorem uniqK_props {s : List Ed} (hs : InOrder ltE s) (hok : ∀ p ∈ s, okE p) : ∀ k, k ≤ s.length → upE (uniqK s k) ∧ (∀ x, x ∈ uniqK s k ↔ x ∈ s.take k)
  | 0, _ => ⟨List.Pairwise.nil, fun x => by simp [uniqK]⟩
  | k + 1, hk => by
    obtain ⟨ih1, ih2⟩ := uniqK_props hs hok k (by omega)
    obtain ⟨x, hx⟩ : ∃ x, s[k]? = some x := ⟨s[k]'(by omega), List.getElem?_eq_getElem _⟩
    have htk : s.take (k + 1) = s.take k ++ [x] := by rw [List.take_add_one, hx]; rfl
    have hle : ∀ y ∈ s.take k, plE y ≤ plE x := by
      intro y hy
      obtain ⟨i, hi, rfl⟩ := List.getElem_of_mem hy
      rw [List.length_take] at hi
      obtain ⟨i1, e1⟩ := List.getElem?_eq_some_iff.1 hx
      have := List.pairwise_iff_getElem.1 hs i k (by omega) i1 (by omega)
      rw [e1] at this
      rw [List.getElem_take]
      unfold ltE at this
      simpa using this
    by_cases h : 0 < k ∧ s[k - 1]? = some x
    · rw [uniqK_skip hx h]
      refine ⟨ih1, fun z => ?_⟩
      rw [ih2 z, htk, List.mem_append, List.mem_singleton]
      refine ⟨.inl, fun e => e.elim id fun e => ?_⟩
      subst e
      have : (s.take k)[k - 1]? = some z := by rw [List.getElem?_take]; rw [if_pos (by omega)]; exact h.2
      exact List.mem_of_getElem? this
    · rw [uniqK_keep hx h]
      have hxk : okE x := hok x (List.mem_of_getElem? hx)
      refine ⟨List.pairwise_append.2 ⟨ih1, List.pairwise_singleton _ _, fun y hy z hz => ?_⟩, fun z => ?_⟩
      · rw [List.mem_singleton] at hz
        subst hz
        have hy1 := (ih2 y).1 hy
        have h1 := hle y hy1
        rcases Int.lt_or_eq_of_le h1 with h2 | h2
        · exact h2
        · exfalso
          have hyk : okE y := hok y (List.mem_of_mem_take hy1)
          have e := plE_inj hyk hxk h2
          subst e
          apply h
          have hk0 : 0 < k := by
            rcases Nat.eq_zero_or_pos k with h0 | h0
            · subst h0; simp at hy1
            · exact h0
          refine ⟨hk0, ?_⟩
          obtain ⟨u, hu⟩ : ∃ u, s[k - 1]? = some u := ⟨s[k - 1]'(by omega), List.getElem?_eq_getElem _⟩
          have hu1 : u ∈ s.take k := List.mem_of_getElem? (i := k - 1) (by rw [List.getElem?_take, if_pos (by omega)]; exact hu)
          have hu2 := hle u hu1
          obtain ⟨i, hi, hiy⟩ := List.getElem_of_mem hy1
          rw [List.length_take] at hi
          rw [List.getElem_take] at hiy
          have hyu : plE y ≤ plE u := by
            rcases Nat.lt_or_ge i (k - 1) with h3 | h3
            · obtain ⟨j1, e1⟩ := List.getElem?_eq_some_iff.1 hu
              have := List.pairwise_iff_getElem.1 hs i (k - 1) (by omega) j1 h3
              rw [e1, hiy] at this
              unfold ltE at this
              simpa using this
            · have : i = k - 1 := by omega
              subst this
              rw [List.getElem?_eq_getElem (by omega)] at hu
              injection hu with hu
              rw [← hu, hiy]; exact Int.le_refl _
          rw [hu, plE_inj (hok u (List.mem_of_mem_take hu1)) hxk (by omega)]
      · rw [List.mem_append, ih2 z, htk, List.mem_append]
theorem sorE_props {l : List Ed} (h : ∀ p ∈ l, okE p) : upE (sorE l) ∧ ∀ x, x ∈ sorE l ↔ x ∈ l := by
  have hlen := srt_len ltE_ahead l
  obtain ⟨h1, h2⟩ := uniqK_props (srt_order ltE_ahead l) (fun p hp => h p ((mem_srt ltE_ahead p l).1 hp)) l.length (by omega)
  refine ⟨h1, fun x => ?_⟩
  unfold sorE
  rw [h2 x, List.take_of_length_le (by omega), mem_srt ltE_ahead]
theorem sorE_up {l : List Ed} (h : ∀ p ∈ l, okE p) : upE (sorE l) := (sorE_props h).1
theorem mem_sorE {l : List Ed} (h : ∀ p ∈ l, okE p) (x : Ed) : x ∈ sorE l ↔ x ∈ l := (sorE_props h).2 x
theorem sorE_is {l m : List Ed} (h : ∀ p ∈ l, okE p) (hm : upE m) (he : ∀ x, x ∈ m ↔ x ∈ l) : sorE l = m :=
  up_ext (sorE_up h) hm fun x => by rw [mem_sorE h, he]
theorem sorE_len (l : List Ed) : (sorE l).length ≤ l.length := uniqK_le _ _
theorem IsG.sor {nodes : Int} {l : List Ed} (hm : mayN nodes = true) (h : ∀ p ∈ l, rightE nodes p = true) : IsG nodes (sorE l) := by
  have hok : ∀ p ∈ l, okE p := fun p hp => rightE_ok hm (h p hp)
  exact ⟨hm, fun p hp => h p ((mem_sorE hok p).1 hp), sorE_up hok⟩

/-- Does one edge stand ahead of another one, by the document? -/
def aheadE (p q : Ed) : Bool := if p.1 ≠ q.1 then decide (p.1 < q.1) else if p.2.1 ≠ q.2.1 then decide (p.2.1 < q.2.1) else decide (p.2.2 < q.2.2)
theorem ahead_pl {p q : Ed} (hp : okE p) (hq : okE q) : aheadE p q = true ↔ plE p < plE q := by
  unfold aheadE plE
  unfold okE at hp hq
  split
  · rw [decide_eq_true_eq]; omega
  · split
    · rw [decide_eq_true_eq]; omega
    · rw [decide_eq_true_eq]; omega
theorem rg_may {nodes : Int} {l : List Ed} (h : mayN nodes = false) : rightG nodes l = false := by unfold rightG; rw [h]; rfl
theorem rg_edge {nodes : Int} {l : List Ed} {p : Ed} (hp : p ∈ l) (h : rightE nodes p = false) : rightG nodes l = false := by
  cases e : rightG nodes l
  · rfl
  · rw [(rightG_iff.1 e).all p hp] at h; cases h
theorem rg_place {nodes : Int} {l : List Ed} {k : Nat} {x y : Ed} (hx : l[k]? = some x) (hy : l[k + 1]? = some y) (h : plE y ≤ plE x) : rightG nodes l = false := by
  cases e : rightG nodes l
  · rfl
  · have := next_of_up (rightG_iff.1 e).up hx hy
    omega
theorem rg_ahead {nodes : Int} {l : List Ed} {k : Nat} {x y : Ed} (hx : l[k]? = some x) (hy : l[k + 1]? = some y) (h : aheadE x y = false) : rightG nodes l = false := by
  cases e : rightG nodes l
  · rfl
  · have g := rightG_iff.1 e
    rw [(ahead_pl (g.ok x (List.mem_of_getElem? hx)) (g.ok y (List.mem_of_getElem? hy))).2 (next_of_up g.up hx hy)] at h
    cases h
theorem rg_true {nodes : Int} {l : List Ed} (h1 : ∀ p ∈ l, rightE nodes p = true) (h2 : ∀ k x y, l[k]? = some x → l[k + 1]? = some y → aheadE x y = true) : rightG nodes l = mayN nodes := by
  cases e : mayN nodes
  · exact rg_may e
  · have hok : ∀ p ∈ l, okE p := fun p hp => rightE_ok e (h1 p hp)
    exact rightG_iff.2 ⟨e, h1, up_of_next fun k x y hx hy => (ahead_pl (hok x (List.mem_of_getElem? hx)) (hok y (List.mem_of_getElem? hy))).1 (h2 k x y hx hy)⟩
theorem rg_places {nodes : Int} {l : List Ed} (hm : mayN nodes = true) (h1 : ∀ p ∈ l, rightE nodes p = true) (h2 : ∀ k x y, l[k]? = some x → l[k + 1]? = some y → plE x < plE y) : rightG nodes l = true :=
  rightG_iff.2 ⟨hm, h1, up_of_next h2⟩

/-- A row in order with one more, as the document makes it. -/
def wStep (e : Ed) (s : List Ed × Bool) (x : Ed) : List Ed × Bool :=
  let t := if s.2 = false ∧ aheadE x e = false then (s.1 ++ [e], true) else s
  if x = e then t else (t.1 ++ [x], t.2)
def withE (l : List Ed) (e : Ed) : List Ed := let s := l.foldl (wStep e) ([], false); if s.2 = true then s.1 else s.1 ++ [e]
def ofE (l : List Ed) : List Ed := l.foldl withE []
theorem ahead_irrefl (e : Ed) : aheadE e e = false := by simp [aheadE]
theorem w_laid (e : Ed) : ∀ (l acc : List Ed), l.foldl (wStep e) (acc, true) = (acc ++ l.filter (fun x => decide (x ≠ e)), true)
  | [], acc => by simp
  | x :: l, acc => by
    rw [List.foldl_cons]
    by_cases h : x = e
    · have : wStep e (acc, true) x = (acc, true) := by unfold wStep; simp [h]
      rw [this, w_laid e l acc]; simp [h]
    · have : wStep e (acc, true) x = (acc ++ [x], true) := by unfold wStep; simp [h]
      rw [this, w_laid e l (acc ++ [x])]; simp [h]
theorem w_not (e : Ed) : ∀ (l acc : List Ed), (∃ pre post, l = pre ++ post ∧ (∀ x ∈ pre, aheadE x e = true) ∧ (∀ y, post.head? = some y → aheadE y e = false) ∧
    (let s := l.foldl (wStep e) (acc, false); if s.2 = true then s.1 else s.1 ++ [e]) = acc ++ pre ++ [e] ++ post.filter (fun x => decide (x ≠ e)))
  | [], acc => ⟨[], [], rfl, fun _ h => by simp at h, fun _ h => by simp at h, by simp⟩
  | x :: l, acc => by
    by_cases h : aheadE x e = true
    · have hne : x ≠ e := fun e1 => by rw [e1, ahead_irrefl] at h; cases h
      have hs : wStep e (acc, false) x = (acc ++ [x], false) := by unfold wStep; simp [h, hne]
      obtain ⟨pre, post, h1, h2, h3, h4⟩ := w_not e l (acc ++ [x])
      refine ⟨x :: pre, post, by rw [h1]; rfl, fun z hz => ?_, h3, ?_⟩
      · rcases List.mem_cons.1 hz with rfl | hz
        · exact h
        · exact h2 z hz
      · rw [List.foldl_cons, hs, h4]; simp
    · have h' : aheadE x e = false := by simpa using h
      refine ⟨[], x :: l, rfl, fun _ h => by simp at h, fun y hy => by simp at hy; subst hy; exact h', ?_⟩
      by_cases hx : x = e
      · have hs : wStep e (acc, false) x = (acc ++ [e], true) := by unfold wStep; simp [hx, ahead_irrefl]
        rw [List.foldl_cons, hs, w_laid]; simp [hx]
      · have hs : wStep e (acc, false) x = (acc ++ [e] ++ [x], true) := by unfold wStep; simp [h', hx]
        rw [List.foldl_cons, hs, w_laid]; simp [hx]
theorem withE_props {l : List Ed} {e : Ed} (hl : upE l) (hok : ∀ p ∈ l, okE p) (he : okE e) : upE (withE l e) ∧ ∀ x, x ∈ withE l e ↔ x = e ∨ x ∈ l := by
  obtain ⟨pre, post, h1, h2, h3, h4⟩ := w_not e l []
  have hw : withE l e = pre ++ [e] ++ post.filter (fun x => decide (x ≠ e)) := by unfold withE; rw [h4]; simp
  subst h1
  have hp := List.pairwise_append.1 hl
  have hpost : ∀ y ∈ post.filter (fun x => decide (x ≠ e)), plE e < plE y := by
    intro y hy
    obtain ⟨hy1, hy2⟩ := List.mem_filter.1 hy
    have hy2 : y ≠ e := by simpa using hy2
    have hyo := hok y (List.mem_append_right _ hy1)
    have hge : ¬ plE y < plE e := by
      match post, hy1, h3, hp with
      | z :: zs, hy1, h3, hp =>
        have hz := h3 z rfl
        have hzo := hok z (List.mem_append_right _ (.head _))
        have hz1 : ¬ plE z < plE e := fun c => by rw [(ahead_pl hzo he).2 c] at hz; cases hz
        rcases List.mem_cons.1 hy1 with rfl | hy1
        · exact hz1
        · have := (List.pairwise_cons.1 hp.2.1).1 y hy1
          omega
    rcases Int.lt_or_eq_of_le (Int.not_lt.1 hge) with h | h
    · exact h
    · exact absurd (plE_inj he hyo h).symm hy2
  refine ⟨?_, fun x => ?_⟩
  · rw [hw]
    refine List.pairwise_append.2 ⟨List.pairwise_append.2 ⟨hp.1, List.pairwise_singleton _ _, fun a ha b hb => ?_⟩, List.Pairwise.filter _ hp.2.1, fun a ha b hb => ?_⟩
    · rw [List.mem_singleton] at hb
      subst hb
      exact (ahead_pl (hok a (List.mem_append_left _ ha)) he).1 (h2 a ha)
    · rcases List.mem_append.1 ha with ha | ha
      · exact hp.2.2 a ha b (List.mem_filter.1 hb).1
      · rw [List.mem_singleton] at ha
        subst ha
        exact hpost b hb
  · rw [hw]
    simp only [List.mem_append, List.mem_singleton, List.mem_filter, decide_eq_true_eq]
    by_cases hx : x = e <;> simp [hx]
theorem ofE_from : ∀ (l acc : List Ed), (∀ p ∈ l, okE p) → upE acc → (∀ p ∈ acc, okE p) → upE (l.foldl withE acc) ∧ ∀ x, x ∈ l.foldl withE acc ↔ x ∈ acc ∨ x ∈ l
  | [], acc, _, ha, _ => ⟨ha, fun x => by simp⟩
  | e :: l, acc, hl, ha, hoa => by
    obtain ⟨h1, h2⟩ := withE_props ha hoa (hl e (.head _))
    obtain ⟨h3, h4⟩ := ofE_from l (withE acc e) (fun p hp => hl p (.tail _ hp)) h1 fun p hp => by
      rcases (h2 p).1 hp with rfl | hp
      · exact hl p (.head _)
      · exact hoa p hp
    refine ⟨h3, fun x => ?_⟩
    rw [List.foldl_cons, h4 x, h2 x, List.mem_cons]
    exact ⟨fun h => h.elim (fun h => h.elim (fun h => .inr (.inl h)) .inl) fun h => .inr (.inr h), fun h => h.elim (fun h => .inl (.inr h)) fun h => h.elim (fun h => .inl (.inl h)) .inr⟩
theorem ofE_eq {l : List Ed} (h : ∀ p ∈ l, okE p) : ofE l = sorE l := by
  obtain ⟨h1, h2⟩ := ofE_from l [] h List.Pairwise.nil (fun _ h => by simp at h)
  exact (sorE_is h h1 fun x => by rw [h2 x]; simp).symm
theorem wStep_le (e : Ed) (s : List Ed × Bool) (x : Ed) : (wStep e s x).1.length ≤ s.1.length + 2 := by
  unfold wStep
  simp only
  split <;> split <;> simp <;> omega

/-- What leads out of a node; how many edges are from nodes below it. -/
def outE (l : List Ed) (v : Int) : List Ed := l.filter fun p => decide (p.1 = v)
def inE (l : List Ed) (v : Int) : List Ed := l.filter fun p => decide (p.2.1 = v)
def startE (l : List Ed) (v : Int) : Nat := (l.filter fun p => decide (p.1 < v)).length
def kindsE (l : List Ed) (u v : Int) : List Int := ((outE l u).filter fun p => decide (p.2.1 = v)).map fun p => p.2.2
def flipE (p : Ed) : Ed := (p.2.1, p.1, p.2.2)
def backE (l : List Ed) : List Ed := sorE (l.map flipE)
theorem from_le {l : List Ed} (hok : ∀ p ∈ l, okE p) (h : upE l) : l.Pairwise fun x y => x.1 ≤ y.1 := by
  refine List.Pairwise.imp_of_mem (fun {a b} ha hb hab => ?_) h
  have := hok a ha
  have := hok b hb
  unfold okE at *
  unfold plE at hab
  omega
theorem start_split {l : List Ed} (h : l.Pairwise fun x y => x.1 ≤ y.1) (v : Int) : l.take (startE l v) = l.filter (fun p => decide (p.1 < v)) ∧ l.drop (startE l v) = l.filter (fun p => decide (v ≤ p.1)) := by
  unfold startE
  induction l with
  | nil => simp
  | cons x l ih =>
    obtain ⟨h1, h2⟩ := List.pairwise_cons.1 h
    by_cases hx : x.1 < v
    · obtain ⟨e1, e2⟩ := ih h2
      have hx2 : ¬ v ≤ x.1 := by omega
      simp [hx, hx2, e1, e2]
    · have hx2 : v ≤ x.1 := by omega
      have e1 : (x :: l).filter (fun p => decide (p.1 < v)) = [] := by
        rw [List.filter_eq_nil_iff]
        intro y hy
        rcases List.mem_cons.1 hy with rfl | hy
        · simpa using hx2
        · have := h1 y hy
          simp; omega
      have e2 : (x :: l).filter (fun p => decide (v ≤ p.1)) = x :: l := by
        rw [List.filter_eq_self]
        intro y hy
        rcases List.mem_cons.1 hy with rfl | hy
        · simpa using hx2
        · have := h1 y hy
          simp; omega
      rw [e1, e2]; simp
theorem start_le (l : List Ed) (v : Int) : startE l v ≤ l.length := List.length_filter_le _ _
theorem start_mono (l : List Ed) {u v : Int} (h : u ≤ v) : startE l u ≤ startE l v := by
  unfold startE
  induction l with
  | nil => simp
  | cons x l ih =>
    by_cases h1 : x.1 < u
    · have h2 : x.1 < v := by omega
      simp [h1, h2]; exact ih
    · by_cases h2 : x.1 < v
      · simp [h1, h2]; omega
      · simp [h1, h2]; exact ih
theorem out_cut {l : List Ed} (h : l.Pairwise fun x y => x.1 ≤ y.1) (v : Int) : (l.drop (startE l v)).take (startE l (v + 1) - startE l v) = outE l v := by
  have e1 := (start_split h v).1
  have e2 := (start_split h (v + 1)).1
  have hle := start_mono l (u := v) (v := v + 1) (by omega)
  rw [← List.drop_take, e2]
  have e3 : (l.filter (fun p => decide (p.1 < v + 1))) = l.take (startE l v) ++ outE l v := by
    rw [e1]
    unfold outE
    clear e1 e2 hle
    induction l with
    | nil => simp
    | cons x l ih =>
      obtain ⟨h1, h2⟩ := List.pairwise_cons.1 h
      have ih := ih h2
      rcases Int.lt_trichotomy x.1 v with hx | hx | hx
      · have a : x.1 < v + 1 := by omega
        have b : ¬ x.1 = v := by omega
        simp [hx, a, b, ih]
      · have a : x.1 < v + 1 := by omega
        have b : ¬ x.1 < v := by omega
        have e : l.filter (fun p => decide (p.1 < v)) = [] := by
          rw [List.filter_eq_nil_iff]
          intro y hy
          have := h1 y hy
          simp; omega
        rw [e, List.nil_append] at ih
        rw [List.filter_cons_of_pos (by simpa using a), List.filter_cons_of_neg (by simpa using b), List.filter_cons_of_pos (by simpa using hx), ih, e, List.nil_append]
      · have a : ¬ x.1 < v + 1 := by omega
        have b : ¬ x.1 < v := by omega
        have c : ¬ x.1 = v := by omega
        simp [a, b, c, ih]
  rw [e3, List.drop_left' (by rw [List.length_take]; have := start_le l v; omega)]
theorem start_lo {l : List Ed} (h : l.Pairwise fun x y => x.1 ≤ y.1) (v : Int) {i : Nat} {p : Ed} (hp : l[i]? = some p) (hi : i < startE l v) : p.1 - v < 0 := by
  have : p ∈ l.take (startE l v) := List.mem_of_getElem? (i := i) (by rw [List.getElem?_take, if_pos hi]; exact hp)
  rw [(start_split h v).1] at this
  have := (List.mem_filter.1 this).2
  simp at this; omega
theorem start_hi {l : List Ed} (h : l.Pairwise fun x y => x.1 ≤ y.1) (v : Int) {i : Nat} {p : Ed} (hp : l[i]? = some p) (hi : startE l v ≤ i) : ¬ p.1 - v < 0 := by
  have : p ∈ l.drop (startE l v) := List.mem_of_getElem? (i := i - startE l v) (by rw [List.getElem?_drop, Nat.add_sub_cancel' hi]; exact hp)
  rw [(start_split h v).2] at this
  have := (List.mem_filter.1 this).2
  simp at this; omega
theorem start_all {nodes : Int} {l : List Ed} (h : ∀ p ∈ l, rightE nodes p = true) : startE l nodes = l.length := by
  unfold startE
  rw [List.filter_eq_self.2]
  intro p hp
  have := h p hp
  unfold rightE at this
  simp at this
  simp; omega

theorem flip_right {nodes : Int} {p : Ed} (h : rightE nodes p = true) : rightE nodes (flipE p) = true := by
  unfold rightE flipE at *
  simp only [decide_eq_true_eq] at *
  exact ⟨h.2.1, h.1, fun e => h.2.2.1 e.symm, h.2.2.2⟩
theorem flip_flip (p : Ed) : flipE (flipE p) = p := rfl
theorem IsG.flip {nodes : Int} {l : List Ed} (h : IsG nodes l) : ∀ p ∈ l.map flipE, rightE nodes p = true := fun p hp => by
  obtain ⟨q, hq, rfl⟩ := List.mem_map.1 hp
  exact flip_right (h.all q hq)
theorem IsG.flip_ok {nodes : Int} {l : List Ed} (h : IsG nodes l) : ∀ p ∈ l.map flipE, okE p := fun p hp => rightE_ok h.may (h.flip p hp)
theorem IsG.back {nodes : Int} {l : List Ed} (h : IsG nodes l) : IsG nodes (backE l) := IsG.sor h.may h.flip
theorem mem_back {nodes : Int} {l : List Ed} (h : IsG nodes l) (p : Ed) : p ∈ backE l ↔ flipE p ∈ l := by
  unfold backE
  rw [mem_sorE h.flip_ok, List.mem_map]
  exact ⟨fun ⟨q, hq, e⟩ => by rw [← e]; exact hq, fun hp => ⟨flipE p, hp, rfl⟩⟩
theorem back_back {nodes : Int} {l : List Ed} (h : IsG nodes l) : backE (backE l) = l :=
  sorE_is h.back.flip_ok h.up fun x => by
    rw [List.mem_map]
    exact ⟨fun hx => ⟨flipE x, (mem_back h _).2 hx, rfl⟩, fun ⟨q, hq, e⟩ => by rw [← e]; exact (mem_back h q).1 hq⟩
theorem back_len {nodes : Int} {l : List Ed} (h : IsG nodes l) : (backE l).length = l.length := by
  have h1 : (backE l).length ≤ l.length := by have := sorE_len (l.map flipE); rw [List.length_map] at this; exact this
  have h2 : (backE (backE l)).length ≤ (backE l).length := by have := sorE_len ((backE l).map flipE); rw [List.length_map] at this; exact this
  rw [back_back h] at h2
  omega
theorem out_in {nodes : Int} {l : List Ed} (h : IsG nodes l) (v : Int) : inE (backE l) v = (outE l v).map flipE := by
  refine up_ext (List.Pairwise.filter _ h.back.up) ?_ fun x => ?_
  · refine List.pairwise_map.2 (List.Pairwise.imp_of_mem (fun {a b} ha hb hab => ?_) (List.Pairwise.filter _ h.up))
    have ha1 := (List.mem_filter.1 ha).2
    have hb1 := (List.mem_filter.1 hb).2
    have ho1 := h.ok a (List.mem_filter.1 ha).1
    have ho2 := h.ok b (List.mem_filter.1 hb).1
    simp at ha1 hb1
    unfold okE at ho1 ho2
    unfold plE flipE
    unfold plE at hab
    simp only
    omega
  · unfold inE outE
    rw [List.mem_filter, mem_back h, List.mem_map]
    refine ⟨fun ⟨h1, h2⟩ => ⟨flipE x, List.mem_filter.2 ⟨h1, decide_eq_true (of_decide_eq_true h2)⟩, rfl⟩, fun ⟨q, hq, e⟩ => ?_⟩
    obtain ⟨h1, h2⟩ := List.mem_filter.1 hq
    rw [← e]
    exact ⟨h1, decide_eq_true (of_decide_eq_true h2)⟩
end Go.Proofs.Yticbgikbpafeoaa
