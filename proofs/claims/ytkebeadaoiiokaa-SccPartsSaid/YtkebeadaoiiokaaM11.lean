/- The laws of layer scc: wakes. -/
import Derived.Test.YtkebeadaoiiokaaM10
import Derived.Lib.Slices
import Derived.RangeFuncNested
import Derived.RangeFuncBound
import Derived.RangeFuncCalls
import Derived.RangeFuncLeaves
import Derived.Shelf.Abstract
import Derived.Shelf.RegionOpen
import Derived.WalkKit
import Derived.OwnWalkIn
import Derived.TacticsInMore
import Derived.LoopNIn
import Derived.LoopIn
import Derived.Outline
import Derived.Test.YtkebeadaoiiokaaM8
-- holds: YtkebeadaoiiokaaCo YtkebeadaoiiokaaCp YtkebeadaoiiokaaCq YtkebeadaoiiokaaCr YtkebeadaoiiokaaCs YtkebeadaoiiokaaCt YtkebeadaoiiokaaCta YtkebeadaoiiokaaCl
namespace Go.Proofs.Ytkebeadaoiiokaa
open Go.RowKit

/-- One is the other, or leads to it. -/
def Comes (zs : List Ed) (u v : Int) : Prop := u = v ∨ Leads zs u v
theorem Comes.refl {zs : List Ed} {u : Int} : Comes zs u u := .inl rfl
theorem Comes.trans {zs : List Ed} {u v x : Int} (h : Comes zs u v) (k : Comes zs v x) : Comes zs u x := by
  rcases h with rfl | h
  · exact k
  · rcases k with rfl | k
    · exact .inr h
    · exact .inr (h.trans k)
theorem Comes.edge {zs : List Ed} {e : Ed} (h : e ∈ zs) : Comes zs e.1 e.2.1 := .inr (.one h rfl)
/-- A set that no edge leaves. -/
theorem Comes.within {zs : List Ed} {S : Int → Prop} (hS : ∀ e ∈ zs, S e.1 → S e.2.1) {u v : Int} (h : Comes zs u v) (hu : S u) : S v := by
  rcases h with rfl | h
  · exact hu
  · induction h with
    | one hp hpu => subst hpu; exact hS _ hp hu
    | more _ hp ih => exact hS _ hp ih
def Both (zs : List Ed) (u v : Int) : Prop := Comes zs u v ∧ Comes zs v u
/-- Components that were told. -/
structure PartsIn (zs : List Ed) (m : Nat) (cs : List (List Int)) : Prop where
  some : ∀ c ∈ cs, c ≠ []
  once : ∀ c ∈ cs, c.Nodup
  ends : ∀ c ∈ cs, ∀ x ∈ c, 0 ≤ x ∧ x < (m : Int)
  both : ∀ c ∈ cs, ∀ x ∈ c, ∀ y : Int, 0 ≤ y → y < (m : Int) → (y ∈ c ↔ Both zs x y)
  apart : cs.Pairwise fun c d => ∀ x ∈ c, x ∉ d
structure Fr where
  p : Nat
  l : Nat
  A : Option Addr
  left : List Ed
/-- What stands between an open node's place and the next one's. -/
structure Seg (zs : List Ed) (op pl : List Int) (b : Nat) (f : Fr) : Prop where
  low : f.l ≤ f.p
  outs : ∀ e ∈ f.left, e ∈ zs ∧ ∀ y, op[f.p]? = some y → e.1 = y
  both : ∀ (k : Nat) x y, f.p ≤ k → k < b → op[f.p]? = some y → op[k]? = some x → Both zs x y
  back : ∀ x y, op[f.p]? = some y → op[f.l]? = some x → Comes zs y x
  gone : ∀ (k : Nat) x e, f.p ≤ k → k < b → op[k]? = some x → e ∈ zs → e.1 = x → (k = f.p → e ∉ f.left) → ∃ q : Int, pl[e.2.1.toNat]? = some q ∧ (f.l : Int) ≤ q
/-- The frames, the last one ahead. -/
def Far (zs : List Ed) (op pl : List Int) : Nat → List Fr → Prop
  | b, [] => b = 0
  | b, f :: fs => f.p < b ∧ Seg zs op pl b f ∧ (∀ g ∈ fs.head?, ∀ x y, op[g.p]? = some x → op[f.p]? = some y → Comes zs x y) ∧ Far zs op pl f.p fs
structure Tj (zs : List Ed) (m : Nat) (op pl : List Int) (cs : List (List Int)) : Prop where
  len : pl.length = m
  most : m ≤ 300
  opn : ∀ (k : Nat) x, op[k]? = some x → 0 ≤ x ∧ pl[x.toNat]? = some (k : Int)
  pls : ∀ (v : Nat) q, pl[v]? = some q → q = -1 ∨ (q = 300 ∧ ∃ c ∈ cs, (v : Int) ∈ c) ∨ ∃ k : Nat, q = (k : Int) ∧ op[k]? = some (v : Int)
  closed : ∀ e ∈ zs, pl[e.1.toNat]? = some 300 → pl[e.2.1.toNat]? = some 300
  parts : PartsIn zs m cs
  told : ∀ c ∈ cs, ∀ x ∈ c, 0 ≤ x ∧ pl[x.toNat]? = some 300
  few : op.length + pl.count (-1) ≤ m
theorem count_seti : ∀ (l : List Int) (y : Nat) (v : Int), l[y]? = some (-1) → v ≠ -1 → (l.set y v).count (-1) + 1 = l.count (-1)
  | [], y, v, h, _ => by simp at h
  | b :: l, 0, v, h, hv => by simp at h; subst h; simp [hv]
  | b :: l, y + 1, v, h, hv => by
    simp at h
    have := count_seti l y v h hv
    simp [List.count_cons]
    omega
theorem count_pos_of {l : List Int} {y : Nat} {v : Int} (h : l[y]? = some v) : 0 < l.count v := by
  rw [List.count_pos_iff]
  exact List.mem_of_getElem? h
theorem get_set {l : List Int} {y u : Nat} {v : Int} (hy : y < l.length) : (l.set y v)[u]? = if u = y then some v else l[u]? := by
  rw [List.getElem?_set]
  by_cases h : y = u
  · subst h; simp [hy]
  · rw [if_neg h, if_neg (fun e => h e.symm)]
theorem get_snoc {l : List Int} {v x : Int} {k : Nat} : (l ++ [v])[k]? = some x ↔ l[k]? = some x ∨ (k = l.length ∧ v = x) := by
  rcases Nat.lt_trichotomy k l.length with h | h | h
  · rw [List.getElem?_append_left h]
    exact ⟨.inl, fun h2 => h2.elim (fun e => e) (fun e => by omega)⟩
  · subst h
    simp
  · rw [List.getElem?_append_right (by omega), List.getElem?_eq_none (by simp; omega)]
    rw [List.getElem?_eq_none (by omega)]
    simp
    omega
section
variable {zs : List Ed} {m : Nat} {op pl : List Int} {cs : List (List Int)}
theorem Tj.start (hm : m ≤ 300) : Tj zs m [] (List.replicate m (-1)) [] := by
  refine ⟨List.length_replicate, hm, fun k x h => by simp at h, fun v q h => ?_, fun e _ h => ?_, ⟨by simp, by simp, by simp, by simp, by simp⟩, by simp, by simp⟩
  · rw [List.getElem?_replicate] at h
    split at h <;> simp at h
    exact .inl h.symm
  · rw [List.getElem?_replicate] at h
    split at h <;> simp at h
theorem Tj.lt (h : Tj zs m op pl cs) {x q : Int} (hx : pl[x.toNat]? = some q) : x.toNat < m := by
  rw [← h.len]
  exact (List.getElem?_eq_some_iff.1 hx).1
theorem Tj.place (h : Tj zs m op pl cs) {k : Nat} {x : Int} (hx : op[k]? = some x) : k < m := by
  have := (List.getElem?_eq_some_iff.1 hx).1
  have := h.few
  omega
/-- A node is met. -/
theorem Tj.open_ (h : Tj zs m op pl cs) {v : Int} (h0 : 0 ≤ v) (hv : pl[v.toNat]? = some (-1)) : Tj zs m (op ++ [v]) (pl.set v.toNat (op.length : Int)) cs := by
  have hlt := (List.getElem?_eq_some_iff.1 hv).1
  have hc := count_pos_of hv
  have hf := h.few
  have hmo := h.most
  refine ⟨by rw [List.length_set, h.len], hmo, fun k x hk => ?_, fun u q hu => ?_, fun e he h1 => ?_, h.parts, fun c hcs x hx => ?_, ?_⟩
  · rcases get_snoc.1 hk with hk | ⟨rfl, rfl⟩
    · obtain ⟨h1, h2⟩ := h.opn k x hk
      refine ⟨h1, ?_⟩
      rw [get_set hlt, if_neg (fun e => ?_)]
      · exact h2
      · rw [e, hv] at h2
        injection h2 with h2
        omega
    · exact ⟨h0, by rw [get_set hlt, if_pos rfl]⟩
  · rw [get_set hlt] at hu
    split at hu
    · rename_i e
      injection hu with hu
      refine .inr (.inr ⟨op.length, hu.symm, get_snoc.2 (.inr ⟨rfl, by omega⟩)⟩)
    · rcases h.pls u q hu with h1 | h1 | ⟨k, h1, h2⟩
      · exact .inl h1
      · exact .inr (.inl h1)
      · exact .inr (.inr ⟨k, h1, get_snoc.2 (.inl h2)⟩)
  · rw [get_set hlt] at h1
    split at h1
    · injection h1 with h1
      omega
    · have := h.closed e he h1
      rw [get_set hlt, if_neg (fun e2 => ?_)]
      · exact this
      · rw [e2, hv] at this
        injection this with this
        omega
  · obtain ⟨h1, h2⟩ := h.told c hcs x hx
    refine ⟨h1, ?_⟩
    rw [get_set hlt, if_neg (fun e => ?_)]
    · exact h2
    · rw [e, hv] at h2
      injection h2 with h2
      omega
  · have := count_seti pl v.toNat (op.length : Int) hv (by omega)
    simp
    omega
/-- What stands stays as it is while places are met. -/
theorem Seg.keep {op' pl' : List Int} {b : Nat} {f : Fr} (h : Seg zs op pl b f) (hb : b ≤ op.length) (hp : f.p < b) (ho : ∀ k, k < b → op'[k]? = op[k]?) (hq : ∀ (u : Nat) (q : Int), pl[u]? = some q → 0 ≤ q → ∃ q', pl'[u]? = some q' ∧ (q' = q ∨ 300 ≤ q')) (hm : op.length ≤ 300) : Seg zs op' pl' b f := by
  have hl := h.low
  have e1 := ho f.p hp
  have e2 := ho f.l (by omega)
  refine ⟨hl, fun e he => ⟨(h.outs e he).1, fun y hy => (h.outs e he).2 y (e1 ▸ hy)⟩, fun k x y h1 h2 h3 h4 => ?_, fun x y h3 h4 => h.back x y (e1 ▸ h3) (e2 ▸ h4), fun k x e h1 h2 h3 h4 h5 h6 => ?_⟩
  · exact h.both k x y h1 h2 (e1 ▸ h3) (ho k h2 ▸ h4)
  · obtain ⟨q, g1, g2⟩ := h.gone k x e h1 h2 (ho k h2 ▸ h3) h4 h5 h6
    obtain ⟨q', g3, g4⟩ := hq _ _ g1 (by omega)
    refine ⟨q', g3, ?_⟩
    rcases g4 with rfl | g4
    · exact g2
    · omega
theorem Far.keep {op' pl' : List Int} : ∀ {fs : List Fr} {b : Nat}, Far zs op pl b fs → b ≤ op.length → (∀ k, k < b → op'[k]? = op[k]?) → (∀ (u : Nat) (q : Int), pl[u]? = some q → 0 ≤ q → ∃ q', pl'[u]? = some q' ∧ (q' = q ∨ 300 ≤ q')) → op.length ≤ 300 → Far zs op' pl' b fs
  | [], _, h, _, _, _, _ => h
  | f :: fs, b, h, hb, ho, hq, hm => by
    obtain ⟨h1, h2, h3, h4⟩ := h
    refine ⟨h1, h2.keep hb h1 ho hq hm, fun g hg x y hx hy => ?_, Far.keep h4 (by omega) (fun k hk => ho k (by omega)) hq hm⟩
    have hgp : g.p < f.p := by
      cases fs with
      | nil => simp at hg
      | cons g' fs => simp at hg; subst hg; exact h4.1
    exact h3 g hg x y (ho g.p (by omega) ▸ hx) (ho f.p h1 ▸ hy)
theorem Tj.op_len (h : Tj zs m op pl cs) : op.length ≤ 300 := by
  have := h.few
  have := h.most
  omega
theorem met_keep {v : Int} (hv : pl[v.toNat]? = some (-1)) (k : Int) : ∀ (u : Nat) (q : Int), pl[u]? = some q → 0 ≤ q → ∃ q', (pl.set v.toNat k)[u]? = some q' ∧ (q' = q ∨ 300 ≤ q') := fun u q hu hq => by
  have hlt := (List.getElem?_eq_some_iff.1 hv).1
  refine ⟨q, ?_, .inl rfl⟩
  rw [get_set hlt, if_neg (fun e => ?_)]
  · exact hu
  · rw [e, hv] at hu
    injection hu with hu
    omega
/-- The frame of a node that is met. -/
theorem Far.push {fs : List Fr} {v : Int} {A : Option Addr} {es : List Ed} (h : Tj zs m op pl cs) (hf : Far zs op pl op.length fs) (hv : pl[v.toNat]? = some (-1)) (hes : ∀ e, e ∈ es ↔ e ∈ zs ∧ e.1 = v)
    (hj : ∀ g ∈ fs.head?, ∀ x, op[g.p]? = some x → Comes zs x v) : Far zs (op ++ [v]) (pl.set v.toNat (op.length : Int)) (op.length + 1) (⟨op.length, op.length, A, es⟩ :: fs) := by
  have hn : (op ++ [v])[op.length]? = some v := by simp
  refine ⟨Nat.lt_succ_self _, ⟨Nat.le_refl _, fun e he => ⟨((hes e).1 he).1, fun y hy => ?_⟩, fun k x y h1 h2 h3 h4 => ?_, fun x y h3 h4 => ?_, fun k x e h1 h2 h3 h4 h5 h6 => ?_⟩, fun g hg x y hx hy => ?_, hf.keep (Nat.le_refl _) (fun k hk => List.getElem?_append_left hk) (met_keep hv _) h.op_len⟩
  · rw [hn] at hy
    injection hy with hy
    rw [← hy, ((hes e).1 he).2]
  · have h1 : op.length ≤ k := h1
    have : k = op.length := by omega
    subst this
    rw [hn] at h3 h4
    injection h3 with h3
    injection h4 with h4
    subst h3; subst h4
    exact ⟨.refl, .refl⟩
  · simp only at h3 h4
    rw [hn] at h3 h4
    injection h3 with h3
    injection h4 with h4
    subst h3; subst h4
    exact .refl
  · have h1 : op.length ≤ k := h1
    have : k = op.length := by omega
    subst this
    rw [hn] at h3
    injection h3 with h3
    subst h3
    exact absurd ((hes e).2 ⟨h4, h5⟩) (h6 rfl)
  · simp only at hy
    rw [hn] at hy
    injection hy with hy
    subst hy
    have hgp : g.p < op.length := by
      cases fs with
      | nil => simp at hg
      | cons g' fs => simp at hg; subst hg; exact hf.1
    rw [List.getElem?_append_left hgp] at hx
    exact hj g hg x hx
/-- An edge to a node that was met. -/
theorem Far.step {fs : List Fr} {f : Fr} {e : Ed} {es : List Ed} {q : Int} (h : Tj zs m op pl cs) (hf : Far zs op pl op.length (f :: fs)) (hl : f.left = e :: es) (hq : pl[e.2.1.toNat]? = some q) (hq1 : q ≠ -1) (he0 : 0 ≤ e.2.1) (A : Option Addr) :
    0 ≤ q ∧ Far zs op pl op.length (⟨f.p, min f.l q.toNat, A, es⟩ :: fs) := by
  obtain ⟨h1, h2, h3, h4⟩ := hf
  have hq0 : 0 ≤ q := by
    rcases h.pls _ _ hq with h5 | h5 | ⟨k, h5, _⟩ <;> omega
  have hlow := h2.low
  have hsub : ∀ a ∈ es, a ∈ f.left := fun a ha => hl ▸ .tail _ ha
  obtain ⟨y, hy⟩ : ∃ y, op[f.p]? = some y := ⟨_, List.getElem?_eq_getElem h1⟩
  have hey := h2.outs e (hl ▸ .head _)
  refine ⟨hq0, h1, ⟨show min f.l q.toNat ≤ f.p by omega, fun a ha => h2.outs a (hsub a ha), h2.both, fun x y' h5 h6 => ?_, fun k x a h5 h6 h7 h8 h9 h10 => ?_⟩, h3, h4⟩
  · simp only at h5 h6
    rw [hy] at h5
    injection h5 with h5
    subst h5
    rcases Nat.le_total f.l q.toNat with h7 | h7
    · rw [Nat.min_eq_left h7] at h6
      exact h2.back x y hy h6
    · rw [Nat.min_eq_right h7] at h6
      have hx := (h.opn _ _ h6)
      have hop := h.op_len
      rcases h.pls _ _ hq with h8 | ⟨h8, _⟩ | ⟨k, h8, h9⟩
      · omega
      · omega
      · subst h8
        simp only [Int.toNat_natCast] at h6
        rw [h6] at h9
        injection h9 with h9
        have : x = e.2.1 := by omega
        subst this
        rw [← hey.2 y hy]
        exact .edge hey.1
  · show ∃ q', _ ∧ ((min f.l q.toNat : Nat) : Int) ≤ q'
    by_cases hae : a = e
    · subst hae
      exact ⟨q, hq, by omega⟩
    · obtain ⟨q', g1, g2⟩ := h2.gone k x a h5 h6 h7 h8 h9 (fun e2 hm => by
        rw [hl] at hm
        rcases List.mem_cons.1 hm with hm | hm
        · exact hae hm
        · exact h10 e2 hm)
      exact ⟨q', g1, by omega⟩
/-- Who is open comes to the last frame's node. -/
theorem Far.comes : ∀ {fs : List Fr} {g : Fr} {b k : Nat} {x z : Int}, Far zs op pl b (g :: fs) → b ≤ op.length → k < b → op[k]? = some x → op[g.p]? = some z → Comes zs x z
  | fs, g, b, k, x, z, hf, hb, hk, hx, hz => by
    obtain ⟨h1, h2, h3, h4⟩ := hf
    rcases Nat.lt_or_ge k g.p with h | h
    · cases fs with
      | nil => exact absurd h4 (by show ¬ g.p = 0; omega)
      | cons g' fs =>
        obtain ⟨y, hy⟩ : ∃ y, op[g'.p]? = some y := ⟨_, List.getElem?_eq_getElem (by have := h4.1; omega)⟩
        exact (Far.comes h4 (by omega) h hx hy).trans (h3 g' rfl y z hy hz)
    · exact (h2.both k x z h hk hz hx).1
theorem Both.symm {u v : Int} (h : Both zs u v) : Both zs v u := ⟨h.2, h.1⟩
theorem Both.trans {u v x : Int} (h : Both zs u v) (k : Both zs v x) : Both zs u x := ⟨h.1.trans k.1, k.2.trans h.2⟩
/-- The last frame is done, and its node came to one ahead. -/
theorem Far.merge {fs : List Fr} {f g : Fr} (hf : Far zs op pl op.length (f :: g :: fs)) (hl : f.left = []) (hlt : f.l < f.p) :
    Far zs op pl op.length (⟨g.p, min g.l f.l, g.A, g.left⟩ :: fs) := by
  obtain ⟨h1, h2, h3, h4⟩ := hf
  have hcome := fun (k : Nat) (x z : Int) => Far.comes (k := k) (x := x) (z := z) h4 (Nat.le_of_lt h1)
  obtain ⟨h4, h5, h6, h7⟩ := h4
  have hlow := h2.low
  have hlow5 := h5.low
  obtain ⟨y, hy⟩ : ∃ y, op[f.p]? = some y := ⟨_, List.getElem?_eq_getElem h1⟩
  obtain ⟨z, hz⟩ : ∃ z, op[g.p]? = some z := ⟨_, List.getElem?_eq_getElem (by omega)⟩
  obtain ⟨x, hx⟩ : ∃ x, op[f.l]? = some x := ⟨_, List.getElem?_eq_getElem (by omega)⟩
  have hzy : Comes zs z y := h3 g rfl z y hz hy
  have hyx : Comes zs y x := h2.back x y hy hx
  have hxz : Comes zs x z := hcome _ _ _ hlt hx hz
  have hb : Both zs y z := ⟨hyx.trans hxz, hzy⟩
  refine ⟨by show g.p < _; omega, ⟨show min g.l f.l ≤ g.p by omega, h5.outs, fun k u z' k1 k2 k3 k4 => ?_, fun u z' k3 k4 => ?_, fun k u e k1 k2 k3 k4 k5 k6 => ?_⟩, h6, h7⟩
  · simp only at k1 k3
    rw [hz] at k3
    injection k3 with k3
    subst k3
    rcases Nat.lt_or_ge k f.p with h | h
    · exact h5.both k u z k1 h hz k4
    · exact (h2.both k u y h k2 hy k4).trans hb
  · simp only at k3 k4
    rw [hz] at k3
    injection k3 with k3
    subst k3
    rcases Nat.le_total g.l f.l with h | h
    · rw [Nat.min_eq_left h] at k4
      exact h5.back u z hz k4
    · rw [Nat.min_eq_right h, hx] at k4
      injection k4 with k4
      subst k4
      exact hzy.trans hyx
  · simp only at k1 k6
    show ∃ q, _ ∧ ((min g.l f.l : Nat) : Int) ≤ q
    rcases Nat.lt_or_ge k f.p with h | h
    · obtain ⟨q, g1, g2⟩ := h5.gone k u e k1 h k3 k4 k5 k6
      exact ⟨q, g1, by omega⟩
    · obtain ⟨q, g1, g2⟩ := h2.gone k u e h k2 k3 k4 k5 (fun _ => by rw [hl]; simp)
      exact ⟨q, g1, by omega⟩
theorem count_le : ∀ (l : List Int) (y : Nat) (v : Int), v ≠ -1 → (l.set y v).count (-1) ≤ l.count (-1)
  | [], _, _, _ => by simp
  | b :: l, 0, v, hv => by simp [List.count_cons, hv]
  | b :: l, y + 1, v, hv => by
    have := count_le l y v hv
    simp [List.count_cons]
    omega
theorem putE_count (i : Int) (hi : i ≠ -1) : ∀ (l os : List Int), (putE os i l).count (-1) ≤ os.count (-1)
  | [], _ => Nat.le_refl _
  | _ :: l, os => Nat.le_trans (putE_count i hi l _) (count_le os _ i hi)
theorem get_drop {k p : Nat} {x : Int} : (op.drop p)[k]? = some x ↔ op[p + k]? = some x := by rw [List.getElem?_drop]
theorem mem_drop_iff {p : Nat} {x : Int} : x ∈ op.drop p ↔ ∃ k : Nat, p ≤ k ∧ op[k]? = some x := by
  rw [List.mem_iff_getElem?]
  constructor
  · rintro ⟨k, hk⟩
    exact ⟨p + k, by omega, get_drop.1 hk⟩
  · rintro ⟨k, h1, h2⟩
    exact ⟨k - p, get_drop.2 (by rw [show p + (k - p) = k by omega]; exact h2)⟩
/-- The last frame is done, and its node is the first one met of its component. -/
theorem Far.close {fs : List Fr} {f : Fr} (h : Tj zs m op pl cs) (hz : ∀ e ∈ zs, 0 ≤ e.1 ∧ 0 ≤ e.2.1 ∧ e.2.1 < (m : Int)) (hf : Far zs op pl op.length (f :: fs)) (hl : f.left = []) (heq : f.l = f.p) :
    Tj zs m (op.take f.p) (putE pl 300 (op.drop f.p)) (cs ++ [op.drop f.p]) ∧ Far zs (op.take f.p) (putE pl 300 (op.drop f.p)) f.p fs ∧ op.drop f.p ≠ [] := by
  obtain ⟨h1, h2, h3, h4⟩ := hf
  have hm := h.most
  have hop := h.op_len
  have h0 : ∀ x ∈ op.drop f.p, 0 ≤ x := fun x hx => by
    obtain ⟨k, _, h6⟩ := mem_drop_iff.1 hx
    exact (h.opn _ _ h6).1
  have hget : ∀ (v : Nat) (q : Int), pl[v]? = some q → (putE pl 300 (op.drop f.p))[v]? = if (v : Int) ∈ op.drop f.p then some 300 else some q := fun v q hv => by
    rw [putE_get pl _ 300 v (List.getElem?_eq_some_iff.1 hv).1 h0, hv]
  have hback : ∀ (v : Nat) (q : Int), (putE pl 300 (op.drop f.p))[v]? = some q → ∃ q0, pl[v]? = some q0 ∧ q = if (v : Int) ∈ op.drop f.p then 300 else q0 := fun v q hv => by
    have hlt := (List.getElem?_eq_some_iff.1 hv).1
    rw [putE_len] at hlt
    refine ⟨_, List.getElem?_eq_getElem hlt, ?_⟩
    rw [hget v _ (List.getElem?_eq_getElem hlt)] at hv
    split at hv
    · rename_i h8; rw [if_pos h8]; injection hv with hv; exact hv.symm
    · rename_i h8; rw [if_neg h8]; injection hv with hv; exact hv.symm
  have htake : ∀ k, k < f.p → (op.take f.p)[k]? = op[k]? := fun k hk => List.getElem?_take_of_lt hk
  have htk : ∀ (k : Nat) (x : Int), (op.take f.p)[k]? = some x → k < f.p ∧ op[k]? = some x := fun k x hk => by
    have : k < f.p := by
      have := (List.getElem?_eq_some_iff.1 hk).1
      rw [List.length_take] at this
      omega
    exact ⟨this, htake k this ▸ hk⟩
  obtain ⟨y, hy⟩ : ∃ y, op[f.p]? = some y := ⟨_, List.getElem?_eq_getElem h1⟩
  have hset : ∀ e ∈ zs, (e.1 ∈ op.drop f.p ∨ pl[e.1.toNat]? = some 300) → (e.2.1 ∈ op.drop f.p ∨ pl[e.2.1.toNat]? = some 300) := fun e he hs => by
    rcases hs with hs | hs
    · obtain ⟨k, k1, k2⟩ := mem_drop_iff.1 hs
      obtain ⟨q, g1, g2⟩ := h2.gone k e.1 e k1 (List.getElem?_eq_some_iff.1 k2).1 k2 he rfl (fun _ => by rw [hl]; simp)
      rcases h.pls _ _ g1 with g3 | ⟨g3, _⟩ | ⟨j, g3, g4⟩
      · omega
      · exact .inr (g3 ▸ g1)
      · refine .inl (mem_drop_iff.2 ⟨j, by omega, ?_⟩)
        have := (hz e he).2.1
        rw [show ((e.2.1.toNat : Nat) : Int) = e.2.1 by omega] at g4
        exact g4
    · exact .inr (h.closed e he hs)
  have hdo : ∀ x ∈ op.drop f.p, ∃ k : Nat, f.p ≤ k ∧ op[k]? = some x ∧ pl[x.toNat]? = some (k : Int) ∧ k < 300 := fun x hx => by
    obtain ⟨k, k1, k2⟩ := mem_drop_iff.1 hx
    have := (List.getElem?_eq_some_iff.1 k2).1
    exact ⟨k, k1, k2, (h.opn _ _ k2).2, by omega⟩
  have hnone : ∀ x ∈ op.drop f.p, pl[x.toNat]? ≠ some 300 := fun x hx e => by
    obtain ⟨k, _, _, k3, k4⟩ := hdo x hx
    rw [k3] at e
    injection e with e
    omega
  have hone : ∀ x ∈ op.drop f.p, Both zs y x := fun x hx => by
    obtain ⟨k, k1, k2⟩ := mem_drop_iff.1 hx
    exact (h2.both k x y k1 (List.getElem?_eq_some_iff.1 k2).1 hy k2).symm
  have hkeep : ∀ (u : Nat) (q : Int), pl[u]? = some q → 0 ≤ q → ∃ q', (putE pl 300 (op.drop f.p))[u]? = some q' ∧ (q' = q ∨ 300 ≤ q') := fun u q hu _ => by
    rw [hget u q hu]
    split
    · exact ⟨_, rfl, .inr (by omega)⟩
    · exact ⟨_, rfl, .inl rfl⟩
  have hnodup : op.Nodup := by
    rw [List.nodup_iff_pairwise_ne, List.pairwise_iff_getElem]
    intro i j hi hj hij e
    have a1 := (h.opn i _ (List.getElem?_eq_getElem hi)).2
    have a2 := (h.opn j _ (List.getElem?_eq_getElem hj)).2
    rw [e, a2] at a1
    injection a1 with a1
    omega
  refine ⟨⟨by rw [putE_len, h.len], hm, fun k x hk => ?_, fun v q hv => ?_, fun e he hv => ?_, ⟨fun c hc => ?_, fun c hc => ?_, fun c hc => ?_, fun c hc => ?_, ?_⟩, fun c hc x hx => ?_, ?_⟩, Far.keep h4 (by omega) htake hkeep hop, fun e => ?_⟩
  · obtain ⟨k1, k2⟩ := htk k x hk
    obtain ⟨k3, k4⟩ := h.opn _ _ k2
    refine ⟨k3, ?_⟩
    rw [hget _ _ k4, if_neg (fun hx => ?_)]
    have := (show ((x.toNat : Nat) : Int) = x by omega)
    rw [this] at hx
    obtain ⟨j, j1, _, j3, _⟩ := hdo x hx
    rw [k4] at j3
    injection j3 with j3
    omega
  · obtain ⟨q0, g1, g2⟩ := hback v q hv
    by_cases hm2 : (v : Int) ∈ op.drop f.p
    · rw [if_pos hm2] at g2
      exact .inr (.inl ⟨g2, _, by simp, hm2⟩)
    · rw [if_neg hm2] at g2
      subst g2
      rcases h.pls _ _ g1 with g3 | ⟨g3, c, g4, g5⟩ | ⟨j, g3, g4⟩
      · exact .inl g3
      · exact .inr (.inl ⟨g3, c, List.mem_append_left _ g4, g5⟩)
      · refine .inr (.inr ⟨j, g3, ?_⟩)
        rw [htake]
        · exact g4
        · exact Nat.lt_of_not_le fun hle => hm2 (mem_drop_iff.2 ⟨j, hle, g4⟩)
  · obtain ⟨q0, g1, g2⟩ := hback _ _ hv
    have h01 := (hz e he).1
    have h02 := (hz e he).2.1
    have e1 : ((e.1.toNat : Nat) : Int) = e.1 := by omega
    have e2 : ((e.2.1.toNat : Nat) : Int) = e.2.1 := by omega
    rw [e1] at g2
    have hs : e.1 ∈ op.drop f.p ∨ pl[e.1.toNat]? = some 300 := by
      by_cases hm2 : e.1 ∈ op.drop f.p
      · exact .inl hm2
      · rw [if_neg hm2] at g2
        exact .inr (g2 ▸ g1)
    rcases hset e he hs with hs | hs
    · obtain ⟨j, _, _, j3, _⟩ := hdo _ hs
      rw [hget _ _ j3, e2, if_pos hs]
    · rw [hget _ _ hs]
      split <;> rfl
  · rcases List.mem_append.1 hc with hc | hc
    · exact h.parts.some c hc
    · simp at hc
      subst hc
      intro e
      have := mem_drop_iff.2 ⟨f.p, Nat.le_refl _, hy⟩
      rw [e] at this
      simp at this
  · rcases List.mem_append.1 hc with hc | hc
    · exact h.parts.once c hc
    · simp at hc
      subst hc
      exact hnodup.sublist (List.drop_sublist _ _)
  · rcases List.mem_append.1 hc with hc | hc
    · exact h.parts.ends c hc
    · simp at hc
      subst hc
      intro x hx
      obtain ⟨j, _, _, j3, _⟩ := hdo x hx
      have := h.lt j3
      have := h0 x hx
      omega
  · rcases List.mem_append.1 hc with hc | hc
    · exact h.parts.both c hc
    · simp at hc
      subst hc
      intro x hx u hu0 hum
      constructor
      · intro hu
        exact (hone x hx).symm.trans (hone u hu)
      · intro hb
        have := Comes.within (S := fun u => u ∈ op.drop f.p ∨ pl[u.toNat]? = some 300) hset hb.1 (.inl hx)
        rcases this with h9 | h9
        · exact h9
        · have := Comes.within (S := fun u => pl[u.toNat]? = some 300) h.closed hb.2 h9
          exact absurd this (hnone x hx)
  · refine List.pairwise_append.2 ⟨h.parts.apart, by simp, fun c hc d hd x hx hxd => ?_⟩
    simp at hd
    subst hd
    exact hnone x hxd (h.told c hc x hx).2
  · have : 0 ≤ x ∧ ((x ∈ op.drop f.p) ∨ pl[x.toNat]? = some 300) := by
      rcases List.mem_append.1 hc with hc | hc
      · exact ⟨(h.told c hc x hx).1, .inr (h.told c hc x hx).2⟩
      · simp at hc
        subst hc
        exact ⟨h0 x hx, .inl hx⟩
    refine ⟨this.1, ?_⟩
    have e1 : ((x.toNat : Nat) : Int) = x := by omega
    rcases this.2 with h9 | h9
    · obtain ⟨j, _, _, j3, _⟩ := hdo _ h9
      rw [hget _ _ j3, e1, if_pos h9]
    · rw [hget _ _ h9]
      split <;> rfl
  · have := putE_count 300 (by omega) (op.drop f.p) pl
    have := h.few
    rw [List.length_take]
    omega
  · have := mem_drop_iff.2 ⟨f.p, Nat.le_refl _, hy⟩
    rw [e] at this
    simp at this
/-- No node is open, and all were met: all components are told. -/
theorem Tj.all (h : Tj zs m [] pl cs) (ha : ∀ v : Nat, v < m → pl[v]? ≠ some (-1)) {v : Nat} (hv : v < m) : ∃ c ∈ cs, (v : Int) ∈ c := by
  have hlt : v < pl.length := by rw [h.len]; exact hv
  rcases h.pls v _ (List.getElem?_eq_getElem hlt) with h1 | ⟨_, h2⟩ | ⟨k, _, h2⟩
  · exact absurd (h1 ▸ List.getElem?_eq_getElem hlt) (ha v hv)
  · exact h2
  · simp at h2
end
end Go.Proofs.Ytkebeadaoiiokaa
namespace Go.Proofs.Ytkebeadaoiiokaa
open Go.RowKit

theorem both_tog {zs : List Ed} {v w : Nat} : Both zs (v : Int) (w : Int) ↔ Tog zs v w := by
  unfold Both Comes Tog
  constructor
  · rintro ⟨h1 | h1, h2 | h2⟩
    · exact .inl (by omega)
    · exact .inl (by omega)
    · exact .inl (by omega)
    · exact .inr ⟨h1, h2⟩
  · rintro (rfl | ⟨h1, h2⟩)
    · exact ⟨.inl rfl, .inl rfl⟩
    · exact ⟨.inr h1, .inr h2⟩
open Classical in
theorem AllM.make {zs : List Ed} {m : Nat} (hz : ∀ p ∈ zs, rightE (m : Int) p = true) : ∃ ms, AllM zs m ms := by
  refine ⟨(List.range m).map fun (v : Nat) => (List.range m).map fun (w : Nat) => decide (Leads zs (v : Int) (w : Int)), by simp, fun i bs h => ?_⟩
  have hi := (List.getElem?_eq_some_iff.1 h).1
  rw [List.length_map, List.length_range] at hi
  rw [List.getElem?_map, List.getElem?_range hi] at h
  simp only [Option.map_some] at h
  injection h with h
  subst h
  refine ⟨by simp, fun u => ?_⟩
  rcases Nat.lt_or_ge u m with hu | hu
  · rw [List.getElem?_map, List.getElem?_range hu]
    simp
  · rw [List.getElem?_eq_none (by simp; exact hu)]
    refine ⟨fun e => by simp at e, fun e => ?_⟩
    have := e.ends hz
    omega
/-- The least number of a row. -/
theorem foldl_min_le : ∀ (l : List Int) (a : Int), l.foldl min a ≤ a ∧ (∀ x ∈ l, l.foldl min a ≤ x) ∧ (l.foldl min a = a ∨ l.foldl min a ∈ l)
  | [], a => ⟨Int.le_refl _, by simp, .inl rfl⟩
  | b :: l, a => by
    obtain ⟨h1, h2, h3⟩ := foldl_min_le l (min a b)
    rw [List.foldl_cons]
    refine ⟨by omega, fun x hx => ?_, ?_⟩
    · rcases List.mem_cons.1 hx with rfl | hx
      · omega
      · exact h2 x hx
    · rcases h3 with h3 | h3
      · rw [h3]
        rcases Int.le_total a b with h | h
        · exact .inl (by omega)
        · exact .inr (by rw [Int.min_eq_right h]; simp)
      · exact .inr (.tail _ h3)
theorem minOf_le {c : List Int} {x : Int} (h : x ∈ c) : Lib.minOf c ≤ x := (foldl_min_le c (c.headD 0)).2.1 x h
theorem minOf_mem {c : List Int} (h : c ≠ []) : Lib.minOf c ∈ c := by
  unfold Lib.minOf
  rcases (foldl_min_le c (c.headD 0)).2.2 with h3 | h3
  · rw [h3]
    cases c with
    | nil => exact absurd rfl h
    | cons a c => simp
  · exact h3
/-- To each node the least one of its component. -/
def firsts (cs : List (List Int)) (os : List Int) : List Int := cs.foldl (fun o c => putE o (Lib.minOf c) c) os
theorem firsts_snoc (cs : List (List Int)) (c os : List Int) : firsts (cs ++ [c]) os = putE (firsts cs os) (Lib.minOf c) c := by simp [firsts]
theorem firsts_len : ∀ (cs : List (List Int)) (os : List Int), (firsts cs os).length = os.length
  | [], _ => rfl
  | c :: cs, os => by
    show (firsts cs (putE os (Lib.minOf c) c)).length = _
    rw [firsts_len, putE_len]
theorem firsts_none : ∀ (cs : List (List Int)) (os : List Int) (v : Nat), v < os.length → (∀ c ∈ cs, ∀ x ∈ c, 0 ≤ x) → (∀ c ∈ cs, (v : Int) ∉ c) → (firsts cs os)[v]? = os[v]?
  | [], _, _, _, _, _ => rfl
  | c :: cs, os, v, hv, h0, hn => by
    show (firsts cs (putE os (Lib.minOf c) c))[v]? = _
    rw [firsts_none cs _ v (by rw [putE_len]; exact hv) (fun d hd => h0 d (.tail _ hd)) (fun d hd => hn d (.tail _ hd)), putE_get os c _ v hv (h0 c (.head _)), if_neg (hn c (.head _))]
theorem firsts_get : ∀ (cs : List (List Int)) (os : List Int) (v : Nat), v < os.length → (∀ c ∈ cs, ∀ x ∈ c, 0 ≤ x) → (cs.Pairwise fun c d => ∀ x ∈ c, x ∉ d) → ∀ c ∈ cs, (v : Int) ∈ c → (firsts cs os)[v]? = some (Lib.minOf c)
  | [], _, _, _, _, _, _, hc, _ => by simp at hc
  | d :: cs, os, v, hv, h0, hp, c, hc, hm => by
    show (firsts cs (putE os (Lib.minOf d) d))[v]? = _
    obtain ⟨hp1, hp2⟩ := List.pairwise_cons.1 hp
    rcases List.mem_cons.1 hc with rfl | hc
    · rw [firsts_none cs _ v (by rw [putE_len]; exact hv) (fun d hd => h0 d (.tail _ hd)) (fun d hd => hp1 d hd _ hm), putE_get os c _ v hv (h0 c (.head _)), if_pos hm]
    · exact firsts_get cs _ v (by rw [putE_len]; exact hv) (fun d hd => h0 d (.tail _ hd)) hp2 c hc hm
/-- All components. -/
structure PartsAll (zs : List Ed) (m : Nat) (cs : List (List Int)) : Prop extends PartsIn zs m cs where
  all : ∀ v : Nat, v < m → ∃ c ∈ cs, (v : Int) ∈ c
section
variable {zs : List Ed} {m : Nat} {cs ms : List (List Int)} {bs : List (List Bool)}
theorem PartsIn.nat (h : PartsIn zs m cs) {c : List Int} (hc : c ∈ cs) {x : Int} (hx : x ∈ c) : ∃ w : Nat, x = (w : Int) ∧ w < m := by
  have := h.ends c hc x hx
  exact ⟨x.toNat, by omega, by omega⟩
theorem PartsIn.tog (h : PartsIn zs m cs) (hA : AllM zs m bs) {c : List Int} (hc : c ∈ cs) {v w : Nat} (hv : (v : Int) ∈ c) (hw : w < m) : (w : Int) ∈ c ↔ togM bs v w = true := by
  obtain ⟨v', e, hvm⟩ := h.nat hc hv
  have : v = v' := by omega
  subst this
  rw [h.both c hc _ hv _ (by omega) (by omega), both_tog, hA.tog hvm hw]
theorem PartsIn.least (h : PartsIn zs m cs) (hA : AllM zs m bs) {c : List Int} (hc : c ∈ cs) : ∃ u : Nat, Lib.minOf c = (u : Int) ∧ (u : Int) ∈ c ∧ u ∈ leasts (togM bs) m := by
  have h1 := minOf_mem (h.some c hc)
  obtain ⟨u, e, hu⟩ := h.nat hc h1
  rw [e] at h1
  refine ⟨u, e, h1, mem_leasts.2 ⟨hu, fun w hw ht => ?_⟩⟩
  have := minOf_le ((h.tog hA hc h1 hw).2 ht)
  omega
/-- Which number comes to a node: how many least nodes are ahead of it. -/
theorem leasts_at {t : Nat → Nat → Bool} {v : Nat} (hv : v < m) (hl : leastB t m v = true) : (leasts t m)[((List.range v).filter (leastB t m)).length]? = some v := by
  have : List.range m = List.range v ++ v :: (List.range (m - v - 1)).map (v + 1 + ·) := by
    have h1 : m = v + 1 + (m - v - 1) := by omega
    have h2 := List.range_add (n := v + 1) (m := m - v - 1)
    rw [← h1, List.range_succ] at h2
    rw [h2]
    simp
  unfold leasts
  rw [this, List.filter_append, List.getElem?_append_right (Nat.le_refl _), Nat.sub_self, List.filter_cons, if_pos hl]
  rfl
/-- How far the nodes are numbered. -/
structure Nums (bs : List (List Bool)) (m v : Nat) (ol : List Int) (many : Nat) : Prop where
  len : ol.length = m
  same : ∀ u, u < v → ol[u]? = (ofT (togM bs) m)[u]?
  many : many = ((List.range v).filter (leastB (togM bs) m)).length
theorem Nums.start (bs : List (List Bool)) (m : Nat) : Nums bs m 0 (List.replicate m 0) 0 := ⟨List.length_replicate, fun u h => absurd h (Nat.not_lt_zero u), rfl⟩
theorem range_next {t : Nat → Bool} {v : Nat} : ((List.range (v + 1)).filter t).length = if t v = true then ((List.range v).filter t).length + 1 else ((List.range v).filter t).length := by
  rw [List.range_succ, List.filter_append, List.length_append]
  cases h : t v <;> simp [h]
theorem Nums.next (h : PartsAll zs m cs) (hA : AllM zs m bs) {v many : Nat} {ol : List Int} (k : Nums bs m v ol many) (hv : v < m) :
    ∃ f : Nat, (firsts cs (List.replicate m 0))[v]? = some (f : Int) ∧ (f < v → ∃ x, ol[f]? = some x ∧ Nums bs m (v + 1) (ol.set v x) many) ∧ (¬ f < v → Nums bs m (v + 1) (ol.set v (many : Int)) (many + 1)) := by
  obtain ⟨c, hc, hvc⟩ := h.all v hv
  obtain ⟨u, e, huc, hul⟩ := h.least hA hc
  have hlu := mem_leasts.1 hul
  have huv : togM bs u v = true := (h.tog hA hc huc hv).1 hvc
  have hle := hlu.2 v hv huv
  have ho := ofT_len (togM bs) m
  refine ⟨u, ?_, fun hlt => ?_, fun hge => ?_⟩
  · rw [firsts_get cs _ v (by simpa using hv) (fun d hd x hx => (h.ends d hd x hx).1) h.apart c hc hvc, e]
  · have h1 := k.same u hlt
    have h2 : u < (ofT (togM bs) m).length := by omega
    rw [List.getElem?_eq_getElem h2] at h1
    refine ⟨_, h1, by rw [List.length_set, k.len], fun w hw => ?_, ?_⟩
    · rw [List.getElem?_set]
      split
      · rename_i e2
        subst e2
        rw [if_pos (by rw [k.len]; exact hv), ← List.getElem?_eq_getElem h2]
        exact (hA.eqv.same hlu.1 hv).2 huv
      · exact k.same w (by omega)
    · rw [k.many, range_next, if_neg]
      intro hl
      have := leastB_iff.1 hl u hlu.1 (hA.eqv.symm _ _ hlu.1 hv huv)
      omega
  · have : u = v := by omega
    subst this
    have hlb : leastB (togM bs) m u = true := leastB_iff.2 hlu.2
    refine ⟨by rw [List.length_set, k.len], fun w hw => ?_, ?_⟩
    · rw [List.getElem?_set]
      split
      · rename_i e2
        subst e2
        rw [if_pos (by rw [k.len]; exact hv), k.many]
        exact (hA.eqv.ofT_get hv (leasts_at hv hlb) (hA.eqv.refl _ hv)).symm
      · exact k.same w (by omega)
    · rw [k.many, range_next, if_pos hlb]
theorem Nums.done (hA : AllM zs m bs) {many : Nat} {ol : List Int} (k : Nums bs m m ol many) : Comps zs m (setsE (togM bs) m m) ol ∧ many = (setsE (togM bs) m m).length := by
  refine ⟨⟨bs, hA, rfl, ?_⟩, by rw [k.many, setsE_eq, List.length_map]; rfl⟩
  refine List.ext_getElem? fun u => ?_
  rcases Nat.lt_or_ge u m with h | h
  · exact k.same u h
  · rw [List.getElem?_eq_none (by rw [k.len]; exact h), List.getElem?_eq_none (by rw [ofM_len]; exact h)]
/-- A component sorted is the row of its nodes. -/
def srtI (c : List Int) : List Int := c.mergeSort fun x y => decide (x ≤ y)
theorem srtI_mem {c : List Int} {x : Int} : x ∈ srtI c ↔ x ∈ c := List.mem_mergeSort
theorem srtI_up (c : List Int) : (srtI c).Pairwise (· ≤ ·) := by
  have := List.pairwise_mergeSort (le := fun x y : Int => decide (x ≤ y)) (by simp; omega) (by simp; omega) c
  exact this.imp fun h => by simpa using h
theorem setE_up (t : Nat → Nat → Bool) (m v : Nat) : (setE t m v).Pairwise (· < ·) := by
  unfold setE
  rw [List.pairwise_map]
  exact ((List.pairwise_lt_range).filter _).imp fun h => by omega
theorem PartsIn.srt (h : PartsIn zs m cs) (hA : AllM zs m bs) {c : List Int} (hc : c ∈ cs) {u : Nat} (hu : (u : Int) ∈ c) : srtI c = setE (togM bs) m u := by
  have hn : (setE (togM bs) m u).Nodup := (setE_up _ _ _).imp fun h e => by omega
  have hp : (srtI c).Perm (setE (togM bs) m u) := by
    refine (List.perm_ext_iff_of_nodup ((List.mergeSort_perm c _).nodup_iff.2 (h.once c hc)) hn).2 fun x => ?_
    show x ∈ srtI c ↔ _
    rw [srtI_mem, mem_setE_iff]
    constructor
    · intro hx
      obtain ⟨w, rfl, hw⟩ := h.nat hc hx
      exact ⟨w, rfl, hw, (h.tog hA hc hu hw).1 hx⟩
    · rintro ⟨w, rfl, hw, ht⟩
      exact (h.tog hA hc hu hw).2 ht
  exact hp.eq_of_pairwise (fun a b _ _ h1 h2 => Int.le_antisymm h1 h2) (srtI_up c) ((setE_up _ _ _).imp fun h => Int.le_of_lt h)
theorem setE_head {t : Nat → Nat → Bool} {u : Nat} (ht : t u u = true) (hu : u ∈ leasts t m) : (setE t m u).headD 0 = (u : Int) := by
  have hm : (u : Int) ∈ setE t m u := setE_nat.2 ⟨(mem_leasts.1 hu).1, ht⟩
  have hup := setE_up t m u
  cases hs : setE t m u with
  | nil => rw [hs] at hm; simp at hm
  | cons a l =>
    rw [hs] at hm hup
    have ha : a ∈ setE t m u := by rw [hs]; simp
    obtain ⟨w, e, hw, htw⟩ := mem_setE_iff.1 ha
    have := (mem_leasts.1 hu).2 w hw htw
    rcases List.mem_cons.1 hm with h | h
    · exact h.symm
    · have := (List.pairwise_cons.1 hup).1 _ h
      show a = _
      omega
theorem PartsAll.sets (h : PartsAll zs m cs) (hA : AllM zs m bs) {L : List (List Int)} (hp : L.Perm (cs.map srtI)) (hs : L.Pairwise fun a b => a.headD 0 ≤ b.headD 0) : L = setsE (togM bs) m m := by
  have hE := hA.eqv
  have hmem : ∀ l, l ∈ L ↔ l ∈ setsE (togM bs) m m := fun l => by
    rw [hp.mem_iff, setsE_eq, List.mem_map, List.mem_map]
    constructor
    · rintro ⟨c, hc, rfl⟩
      obtain ⟨u, _, h2, h3⟩ := h.least hA hc
      exact ⟨u, h3, (h.srt hA hc h2).symm⟩
    · rintro ⟨u, hu, rfl⟩
      obtain ⟨c, hc, huc⟩ := h.all u (mem_leasts.1 hu).1
      exact ⟨c, hc, h.srt hA hc huc⟩
  have hheads : ∀ a ∈ setsE (togM bs) m m, ∃ u, u ∈ leasts (togM bs) m ∧ a = setE (togM bs) m u ∧ a.headD 0 = (u : Int) := fun a ha => by
    rw [setsE_eq, List.mem_map] at ha
    obtain ⟨u, hu, rfl⟩ := ha
    exact ⟨u, hu, rfl, setE_head (hE.refl _ (mem_leasts.1 hu).1) hu⟩
  have hle : (setsE (togM bs) m m).Pairwise fun a b => a.headD 0 < b.headD 0 := by
    rw [setsE_eq, List.pairwise_map]
    refine (leasts_up (togM bs) m).imp_of_mem fun {a b} ha hb hab => ?_
    rw [setE_head (hE.refl _ (mem_leasts.1 ha).1) ha, setE_head (hE.refl _ (mem_leasts.1 hb).1) hb]
    omega
  have hnE : (setsE (togM bs) m m).Nodup := hle.imp fun h e => by subst e; omega
  have hnL : L.Nodup := by
    refine hp.nodup_iff.2 ?_
    rw [List.nodup_iff_pairwise_ne, List.pairwise_map]
    refine h.apart.imp_of_mem fun {a b} ha hb hab e => ?_
    obtain ⟨u, _, h2, _⟩ := h.least hA ha
    have : (u : Int) ∈ srtI b := e ▸ srtI_mem.2 h2
    exact hab _ h2 (srtI_mem.1 this)
  refine ((List.perm_ext_iff_of_nodup hnL hnE).2 hmem).eq_of_pairwise (fun a b ha hb h1 h2 => ?_) hs (hle.imp fun h => Int.le_of_lt h)
  obtain ⟨u, _, e1, e2⟩ := hheads a ((hmem a).1 ha)
  obtain ⟨w, _, e3, e4⟩ := hheads b hb
  have : u = w := by omega
  rw [e1, e3, this]
theorem PartsIn.round (h : PartsIn zs m cs) (hz : ∀ p ∈ zs, rightE (m : Int) p = true) {c : List Int} (hc : c ∈ cs) {v : Nat} (hv : (v : Int) ∈ c) : 1 < c.length ↔ Leads zs (v : Int) (v : Int) := by
  rw [round_iff hz]
  constructor
  · intro hl
    have hn := h.once c hc
    obtain ⟨x, hx, hne⟩ : ∃ x ∈ c, x ≠ (v : Int) := by
      match c, hl, hn with
      | a :: b :: l, _, hn =>
        by_cases e : a = (v : Int)
        · refine ⟨b, by simp, fun e2 => ?_⟩
          simp at hn
          exact hn.1.1 (e.trans e2.symm)
        · exact ⟨a, by simp, e⟩
    obtain ⟨w, rfl, hw⟩ := h.nat hc hx
    exact ⟨w, by omega, both_tog.1 ((h.both c hc _ hv _ (by omega) (by omega)).1 hx)⟩
  · rintro ⟨w, hne, ht⟩
    have hwm : w < m := by
      rcases ht with e | ⟨h1, _⟩
      · exact absurd e.symm hne
      · have := h1.ends hz; omega
    have hw : (w : Int) ∈ c := (h.both c hc _ hv _ (by omega) (by omega)).2 (both_tog.2 ht)
    match c, hv, hw with
    | [], hv, _ => simp at hv
    | [a], hv, hw => simp at hv hw; omega
    | a :: b :: l, _, _ => simp
theorem PartsAll.cyclic (h : PartsAll zs m cs) (hz : ∀ p ∈ zs, rightE (m : Int) p = true) : (∃ c ∈ cs, 1 < c.length) ↔ ∃ v : Nat, Leads zs (v : Int) (v : Int) := by
  constructor
  · rintro ⟨c, hc, hl⟩
    obtain ⟨x, hx⟩ := List.exists_mem_of_ne_nil _ (h.some c hc)
    obtain ⟨w, rfl, _⟩ := h.nat hc hx
    exact ⟨w, (h.round hz hc hx).1 hl⟩
  · rintro ⟨v, hv⟩
    have := hv.ends hz
    obtain ⟨c, hc, hvc⟩ := h.all v (by omega)
    exact ⟨c, hc, (h.round hz hc hvc).2 hv⟩
/-- The nodes of the components of more than one. -/
def roundL (cs : List (List Int)) : List Int := (cs.filter fun c => decide (1 < c.length)).flatten
theorem roundL_snoc (cs : List (List Int)) (c : List Int) : roundL (cs ++ [c]) = if 1 < c.length then roundL cs ++ c else roundL cs := by
  unfold roundL
  rw [List.filter_append]
  by_cases h : 1 < c.length <;> simp [h]
theorem PartsAll.rounds (h : PartsAll zs m cs) (hz : ∀ p ∈ zs, rightE (m : Int) p = true) (v : Nat) : (v : Int) ∈ roundL cs ↔ Leads zs (v : Int) (v : Int) := by
  unfold roundL
  rw [List.mem_flatten]
  constructor
  · rintro ⟨c, hc, hv⟩
    obtain ⟨h1, h2⟩ := List.mem_filter.1 hc
    exact (h.round hz h1 hv).1 (by simpa using h2)
  · intro hv
    have := hv.ends hz
    obtain ⟨c, hc, hvc⟩ := h.all v (by omega)
    exact ⟨c, List.mem_filter.2 ⟨hc, by simpa using (h.round hz hc hvc).2 hv⟩, hvc⟩
theorem PartsIn.rounds_ends (h : PartsIn zs m cs) {x : Int} (hx : x ∈ roundL cs) : 0 ≤ x ∧ x < (m : Int) := by
  unfold roundL at hx
  obtain ⟨c, hc, hv⟩ := List.mem_flatten.1 hx
  exact h.ends c (List.mem_filter.1 hc).1 x hv
end
end Go.Proofs.Ytkebeadaoiiokaa
namespace Go.Proofs.Ytkebeadaoiiokaa
open Go.RowKit Go.Shelf

/-- What S names lies as it lay. -/
structure Keep (S : Nat → Prop) (W W' : World) : Prop where
  os : W'.os = W.os
  tape : W'.tape = W.tape
  output : W'.output = W.output
  size : W.heap.size ≤ W'.heap.size
  block : ∀ k, k < W.heap.size → S k → W'.heap[k]? = W.heap[k]?
section
variable {S T : Nat → Prop} {W X Y : World}
theorem Keep.refl (S : Nat → Prop) (W : World) : Keep S W W := ⟨rfl, rfl, rfl, Nat.le_refl _, fun _ _ _ => rfl⟩
theorem Keep.trans (h : Keep S W X) (k : Keep S X Y) : Keep S W Y :=
  ⟨k.os.trans h.os, k.tape.trans h.tape, k.output.trans h.output, Nat.le_trans h.size k.size, fun i hi hs => (k.block i (Nat.lt_of_lt_of_le hi h.size) hs).trans (h.block i hi hs)⟩
theorem Keep.mono (h : Keep S W X) (hS : ∀ k, k < W.heap.size → T k → S k) : Keep T W X := ⟨h.os, h.tape, h.output, h.size, fun k hk ht => h.block k hk (hS k hk ht)⟩
theorem Keep.alloc (h : Keep S W X) (o : Obj) : Keep S W (X.alloc o) :=
  ⟨h.os, h.tape, h.output, Nat.le_trans h.size (by simp), fun k hk hs => (Below.heap_alloc X o k (Nat.lt_of_lt_of_le hk h.size)).trans (h.block k hk hs)⟩
theorem Keep.drewN (h : Keep S W X) (n : Nat) : Keep S W (X.drewN n) := ⟨h.os, h.tape, h.output, h.size, h.block⟩
theorem Keep.drew (h : Keep S W X) : Keep S W X.drew := ⟨h.os, h.tape, h.output, h.size, h.block⟩
theorem Keep.set (h : Keep S W X) {g : Nat} (hg : W.heap.size ≤ g ∨ ¬ S g) (i : Nat) (u : Value) : Keep S W (X.setCell ⟨g, i, none⟩ u) :=
  ⟨h.os, h.tape, h.output, Nat.le_trans h.size (by rw [World.size_setCell]; exact Nat.le_refl _), fun k hk hs => (Below.heap_setCell X ⟨g, i, none⟩ u k (fun e => by
    have e : k = g := e
    subst e
    rcases hg with hg | hg
    · omega
    · exact hg hs)).trans (h.block k hk hs)⟩
theorem Keep.grown (h : Keep S W X) {row : Option Nat} (hg : X.grownBy Y row) (hr : ∀ g, row = some g → W.heap.size ≤ g ∨ ¬ S g) : Keep S W Y :=
  ⟨hg.os.trans h.os, hg.tape.trans h.tape, hg.output.trans h.output, Nat.le_trans h.size hg.size, fun k hk hs => (hg.block k (Nat.lt_of_lt_of_le hk h.size) (fun e => by
    rcases hr k e.symm with h1 | h1
    · omega
    · exact h1 hs)).trans (h.block k hk hs)⟩
theorem Keep.put (h : Keep S W X) {l : Nat} (hl : W.heap.size ≤ l ∨ ¬ S l) (o : Obj) : Keep S W (X.putObj l o) :=
  ⟨h.os, h.tape, h.output, Nat.le_trans h.size (by simp [World.putObj]), fun k hk hs => (World.putObj_heap_other (fun e => by
    rcases hl with h1 | h1
    · omega
    · exact h1 (e ▸ hs))).trans (h.block k hk hs)⟩
theorem Keep.of_below {B : Nat} (h : Below B W X) : Keep (fun k => k < B) W X := ⟨h.os, h.tape, h.output, h.size, fun k _ hs => h.block k hs⟩
theorem Keep.of_all (S : Nat → Prop) (h : Below W.heap.size W X) : Keep S W X := ⟨h.os, h.tape, h.output, h.size, fun k hk _ => h.block k hk⟩
theorem Keep.below {B : Nat} (h : Keep S W X) (hB : B ≤ W.heap.size) (hs : ∀ k, k < B → S k) : Below B W X := ⟨h.os, h.tape, h.output, h.size, fun k hk => h.block k (by omega) (hs k hk)⟩
theorem Keep.blk (h : Keep S W X) {g : Nat} {t : TypeId} {cs : Array Value} (hb : Blk W g t cs) (hs : S g) : Blk X g t cs := (h.block g hb.lt hs).trans hb
theorem own_heap6 {base n size : Nat} {e : TypeId} {v : Value} {xs : List Value} (h : W.ownsRow base e size v n xs) (hg : ∀ g, v.ownBlock = some g → X.heap[g]? = W.heap[g]?) : X.ownsRow base e size v n xs := by
  refine ⟨h.1, ?_⟩
  rcases h.2 with hn | ⟨g, cap, cur, rfl, hbg, hk, rest⟩
  · exact .inl hn
  · exact .inr ⟨g, cap, cur, rfl, hbg, (hg g (by simp [Value.ownBlock])).trans hk, rest⟩
theorem own_in {base n size : Nat} {e : TypeId} {v : Value} {xs : List Value} (h : W.ownsRow base e size v n xs) {g : Nat} (hg : v.ownBlock = some g) : base ≤ g ∧ g < W.heap.size ∧ ∃ cur, Blk W g e cur := by
  rcases h.2 with ⟨rfl, _⟩ | ⟨g', cap, cur, rfl, hb, hk, _⟩
  · cases hg
  · have : g' = g := by simpa [Value.ownBlock] using hg
    subst this
    exact ⟨hb, (Array.getElem?_eq_some_iff.1 hk).1, cur, hk⟩
theorem Keep.own (h : Keep S W X) {base n size : Nat} {e : TypeId} {v : Value} {xs : List Value} (ho : W.ownsRow base e size v n xs) (hs : ∀ g, v.ownBlock = some g → S g) : X.ownsRow base e size v n xs :=
  own_heap6 ho fun g hg => h.block g (own_in ho hg).2.1 (hs g hg)
theorem Keep.reads (h : Keep S W X) {B size n : Nat} {A : Option Addr} {xs : List Value} (hR : Reads W B size A n xs) (hB : B ≤ W.heap.size) (hs : ∀ k, k < B → S k) : Reads X B size A n xs :=
  hR.below (h.below hB hs)
theorem Keep.obj (h : Keep S W X) {l : Nat} {o : Obj} (hl : W.heap[l]? = some o) (hs : S l) : X.heap[l]? = some o := (h.block l (Array.getElem?_eq_some_iff.1 hl).1 hs).trans hl
end

/-- A function that tells the components of a graph, whatever it is asked by: C are the blocks that who asks may turn. -/
def PartsSeq (n : Nat) (P : Program) (gf : Nat) (lb : Array Value) (zs : List Ed) (m : Nat) (w1 : World) : Prop :=
  ∀ (l : Nat) (J : List (List Int) → (Nat → Prop) → World → Prop) (Jx : World → Prop) (C0 : Nat → Prop) (W : World),
    Below w1.heap.size w1 W → (∀ k, C0 k → w1.heap.size ≤ k ∧ k < W.heap.size) →
    (∀ cs C X Y, J cs C X → Keep (fun k => k < W.heap.size ∨ C k) X Y → J cs C Y) →
    (∀ cs c C X b o, J cs C X → PartsIn zs m (cs ++ [c]) → Reads X X.heap.size 1 (some ⟨b, o, none⟩) c.length (ints c) → ¬ C b → (∀ k, C k → w1.heap.size ≤ k ∧ k < X.heap.size) → W.heap.size ≤ X.heap.size →
      YieldAt Fence.wide n P l #[.slice (some ⟨b, o, none⟩) c.length c.length] X fun e X' => (∃ C' : Nat → Prop, (∀ k, C' k → k < X'.heap.size ∧ (C k ∨ X.heap.size ≤ k)) ∧ Keep (fun k => ¬ C k) X X' ∧ e = .returned (.bool true) ∧ J (cs ++ [c]) C' X') ∨
        (e = .returned (.bool false) ∧ Jx X')) →
    J [] C0 W →
    CallsIn Fence.wide n P gf (#[.func (.yield l) #[] #[]] ++ lb) W fun e X => (∃ v, e = .returned v) ∧ ((∃ cs C, PartsAll zs m cs ∧ J cs C X) ∨ Jx X)

theorem room_wide {F : Fence} (hd : F.depth = none) (k : Nat) : F.room k := fun d h => by rw [hd] at h; cases h
theorem RoundIn.deep {F : Fence} (hd : F.depth = none) {m m' : Nat} {P : Program} {l : Nat} {f : FuncId} {tmps : Array Value} {assign body : Code} {w : World} {R : Ending → World → Prop}
    (h : RoundIn F m P l f tmps assign body w R) : RoundIn F m' P l f tmps assign body w R := ⟨h.1, fun c cs _ => h.2 c cs (room_wide hd _)⟩
theorem YieldAt.deep {F : Fence} (hd : F.depth = none) {m : Nat} (m' : Nat) {P : Program} {l : Nat} {args : Array Value} {W : World} {R : Ending → World → Prop} (h : YieldAt F m P l args W R) : YieldAt F m' P l args W R := by
  obtain ⟨fn, tmps, assign, body, hy, hR⟩ := h
  exact ⟨fn, tmps, assign, body, hy, RoundIn.deep hd hR⟩

/-- What a round hands on; N: where the range began. -/
def PartPost (N : Nat) (C : Nat → Prop) (I : List (List Int) → (Nat → Prop) → World → Prop) (Ix : World → Prop) (cs : List (List Int)) (X : World) : Exit → Act → World → Prop := fun e _ X' =>
  (∃ C' : Nat → Prop, (∀ k, C' k → k < X'.heap.size ∧ (C k ∨ X.heap.size ≤ k)) ∧ Keep (fun k => ¬ C k) X X' ∧ e = .normal ∧ I cs C' X') ∨ (e = .ret ∧ Keep (fun k => N ≤ k ∧ ¬ C k) X X' ∧ Ix X')

theorem range_parts {n : Nat} {P : Program} {g : Operand} {ps : Array Tmp} {assign body : Code} {Q : Exit → Act → World → Prop} {a : Act} {w : World} (h1 : 1 ≤ n) {gf : Nat} {lb : Array Value} (hg : a.eval g = .func (.func gf) #[] lb)
    (eg : ∀ args w, (callFunc gf args).run P w = .ok (.enter gf args) w) {zs : List Ed} {m : Nat} {w1 : World} (hseq : PartsSeq (n - 1) P gf lb zs m w1) (hb : Below w1.heap.size w1 w) (hps : ps.size = 1)
    (I : List (List Int) → (Nat → Prop) → World → Prop) (Ix : World → Prop) (C0 : Nat → Prop) (hC0 : ∀ k, C0 k → w1.heap.size ≤ k ∧ k < w.heap.size) (h0 : I [] C0 w)
    (hI : ∀ cs C X Y, I cs C X → Keep (fun k => k < w.heap.size ∨ C k) X Y → I cs C Y) (hIx : ∀ X Y, Ix X → Keep (fun k => k < w.heap.size) X Y → Ix Y)
    (a₁ : Value → Act)
    (hassign : ∀ (l : Nat) (v : Value) (W : World) (K : Act → World → Prop), K (a₁ v) W →
      assign.wpIn (Fence.wide.inRound l) (n - 1) P (Exit.then K (fun _ _ _ => False)) { tmps := (ps.zip #[v]).foldl (fun t (p, v) => t.setIfInBounds p v) a.tmps, defers := [] } W)
    (hbody : ∀ (l : Nat) (cs : List (List Int)) (c : List Int) (C : Nat → Prop) (X : World) (b o : Nat), I cs C X → PartsIn zs m (cs ++ [c]) → Reads X X.heap.size 1 (some ⟨b, o, none⟩) c.length (ints c) → ¬ C b → (∀ k, C k → w1.heap.size ≤ k ∧ k < X.heap.size) → w.heap.size ≤ X.heap.size →
      body.wpIn (Fence.wide.inRound l) (n - 1) P (PartPost w.heap.size C I Ix (cs ++ [c]) X) (a₁ (.slice (some ⟨b, o, none⟩) c.length c.length)) X)
    (hdone : ∀ (cs : List (List Int)) (C : Nat → Prop) (D : Nat) (W : World), w.heap.size ≤ D → PartsAll zs m cs → I cs C W → W.heap[D]? = some (.deferred (some [])) → Q .normal { a with defers := { target := .collected D, args := #[] } :: a.defers } W)
    (hstop : ∀ (D : Nat) (W : World), w.heap.size ≤ D → Ix W → W.heap[D]? = some (.deferred (some [])) → Code.ret.wpIn Fence.wide n P Q { a with defers := { target := .collected D, args := #[] } :: a.defers } W) :
    (Code.rangeFunc g ps assign body).wpIn Fence.wide n P Q a w := by
  refine wpIn_rangeFunc fun fn hfn => ?_
  rw [show Fence.wide.round = none from rfl]
  obtain ⟨rec, hrec⟩ : ∃ rec : LoopState → Option Code → Loop, rec = fun st pe => { state := st, pending := pe, fn, tmps := a.tmps, params := ps, assign, body, defers := w.heap.size } := ⟨_, rfl⟩
  obtain ⟨W1, hW1⟩ : ∃ W1, (w.alloc (.deferred (some []))).alloc (.loop (rec .ready none)) = W1 := ⟨_, rfl⟩
  have hL1 : W1.heap[w.heap.size + 1]? = some (.loop (rec .ready none)) := by
    rw [← hW1]; have := World.alloc_heap_new (w.alloc (.deferred (some []))) (.loop (rec .ready none)); rwa [World.size_alloc] at this
  have hK1 : W1.heap[w.heap.size]? = some (.deferred (some [])) := by
    rw [← hW1]; exact (Below.heap_alloc _ _ _ (by simp)).trans (World.alloc_heap_new w _)
  have hsz1 : W1.heap.size = w.heap.size + 2 := by rw [← hW1]; simp
  have hkw : Keep (fun k => k < w.heap.size ∨ C0 k) w W1 := by rw [← hW1]; exact ((Keep.refl _ w).alloc _).alloc _
  have hI1 : I [] C0 W1 := hI _ _ _ _ h0 hkw
  have hb1 : Below w1.heap.size w1 W1 := by
    rw [← hW1]; exact hb.trans ((((Below.refl _ w).alloc (Nat.le_refl _) _).alloc (by simp) _).mono hb.size)
  refine ⟨w.heap.size + 1, [{ target := .collected w.heap.size, args := #[] }], W1, { target := .fn (.func gf) lb, args := #[.func (.yield (w.heap.size + 1)) #[] #[]] }, W1, gf,
    #[.func (.yield (w.heap.size + 1)) #[] #[]] ++ lb, W1, ?_, ?_, ?_, ?_, fun _ => h1, ?_⟩
  · rw [← hW1, hrec]; exact run_enterLoop_outer _ _ _ _ _
  · simp only [resolve, hg]
    simp [go_sem]
  · intro f' hf'; trivial
  · simp [invoke, go_sem, eg]
  · refine (hseq (w.heap.size + 1)
      (fun cs C2 W => ∃ C : Nat → Prop, C2 = (fun k => C k ∨ k = w.heap.size ∨ k = w.heap.size + 1) ∧ I cs C W ∧ ¬ C w.heap.size ∧ ¬ C (w.heap.size + 1) ∧ W.heap[w.heap.size + 1]? = some (.loop (rec .ready none)) ∧ W.heap[w.heap.size]? = some (.deferred (some [])))
      (fun W => Ix W ∧ W.heap[w.heap.size + 1]? = some (.loop (rec .done (some .ret))) ∧ W.heap[w.heap.size]? = some (.deferred (some [])))
      (fun k => C0 k ∨ k = w.heap.size ∨ k = w.heap.size + 1) W1 hb1 ?_ ?_ ?_ ⟨C0, rfl, hI1, fun h => by have := (hC0 _ h).2; omega, fun h => by have := (hC0 _ h).2; omega, hL1, hK1⟩).mono ?_
    · rintro k (h | rfl | rfl)
      · have := hC0 k h; omega
      · have := hb.size; omega
      · have := hb.size; omega
    · rintro cs C2 X Y ⟨C, rfl, hi, n1, n2, hl, hk⟩ hkeep
      exact ⟨C, rfl, hI _ _ _ _ hi (hkeep.mono fun k _ hk => by
        rcases hk with hk | hk
        · exact .inl (by omega)
        · exact .inr (.inl hk)), n1, n2, hkeep.obj hl (.inr (.inr (.inr rfl))), hkeep.obj hk (.inr (.inr (.inl rfl)))⟩
    · rintro cs c C2 W b o ⟨C, rfl, hi, n1, n2, hl, hk⟩ hpi hR hCb hCk hsz
      have hlt : w.heap.size + 1 < W.heap.size := (Array.getElem?_eq_some_iff.1 hl).1
      have hbl : b ≠ w.heap.size + 1 := fun e => hCb (.inr (.inr e))
      have hbD : b ≠ w.heap.size := fun e => hCb (.inr (.inl e))
      have hy := run_yield (P := P) (args := #[.slice (some ⟨b, o, none⟩) c.length c.length]) hl (by rw [hrec]; exact hps.symm)
      rw [hrec] at hy
      refine ⟨fn, _, assign, body, hy, roundIn_of_wpIn hfn (hassign _ _ W _ ?_)⟩
      clear hy
      refine ⟨_, run_beginRound hl (by rw [hrec]), ?_⟩
      have hl2 : (W.putObj (w.heap.size + 1) (.loop { rec .ready none with state := .busy })).heap[w.heap.size + 1]? = some (.loop { rec .ready none with state := .busy }) := World.putObj_heap_same hlt
      have hk2 : (W.putObj (w.heap.size + 1) (.loop { rec .ready none with state := .busy })).heap[w.heap.size]? = some (.deferred (some [])) := (World.putObj_heap_other (by omega)).trans hk
      have hkeep2 : Keep (fun k => ¬ (C k ∨ k = w.heap.size ∨ k = w.heap.size + 1)) W (W.putObj (w.heap.size + 1) (.loop { rec .ready none with state := .busy })) := (Keep.refl _ W).put (.inr fun h => h (.inr (.inr rfl))) _
      have hi2 : I cs C (W.putObj (w.heap.size + 1) (.loop { rec .ready none with state := .busy })) := hI _ _ _ _ hi ((Keep.refl _ W).put (.inr fun h => by
        rcases h with h | h
        · omega
        · exact n2 h) _)
      have hsz2 : (W.putObj (w.heap.size + 1) (.loop { rec .ready none with state := .busy })).heap.size = W.heap.size := by simp [World.putObj]
      have hR2 : Reads (W.putObj (w.heap.size + 1) (.loop { rec .ready none with state := .busy })) W.heap.size 1 (some ⟨b, o, none⟩) c.length (ints c) := by
        refine ⟨hR.1, fun hn => ?_⟩
        obtain ⟨ad, e, h2, h3⟩ := hR.2 hn
        refine ⟨ad, e, h2, fun j u hu => ?_⟩
        have hb2 : (ad.add j).block = b := by rw [block_of_add]; injection e with e; rw [← e]
        rw [← h3 j u hu]
        exact World.cell?_of_block (World.putObj_heap_other (by rw [hb2]; exact hbl))
      rw [← hsz2] at hR2
      refine wpIn_mono (hbody _ cs c C _ b o hi2 hpi hR2 (fun h => hCb (.inl h)) (fun k hk => by rw [hsz2]; exact hCk k (.inl hk)) (by rw [hsz2]; omega)) ?_
      rintro e a3 W3 (⟨C', hC', hk3, rfl, hi3⟩ | ⟨rfl, hk3, hi3⟩)
      · rw [hsz2] at hC'
        have hl3 := hk3.obj hl2 n2
        have hD3 := hk3.obj hk2 n1
        have hk4 : Keep (fun k => ¬ (C k ∨ k = w.heap.size ∨ k = w.heap.size + 1)) W W3 := hkeep2.trans (hk3.mono fun k _ h h2 => h (.inl h2))
        have n3 : ¬ C' w.heap.size := fun h => by
          rcases (hC' _ h).2 with h | h
          · exact n1 h
          · omega
        have n4 : ¬ C' (w.heap.size + 1) := fun h => by
          rcases (hC' _ h).2 with h | h
          · exact n2 h
          · omega
        have hr := run_endRound (P := P) none hl3
        refine ⟨_, _, hr, .inl ⟨(fun k => C' k ∨ k = w.heap.size ∨ k = w.heap.size + 1), fun k hk => ?_, hk4.put (.inr fun h => h (.inr (.inr rfl))) _, rfl, C', rfl, hI _ _ _ _ hi3 ((Keep.refl _ W3).put (.inr fun h => ?_) _), n3, n4, ?_, ?_⟩⟩
        · have hs3 := hk4.size
          simp only [World.putObj, Array.size_setIfInBounds]
          rcases hk with hk | rfl | rfl
          · have := hC' k hk
            exact ⟨this.1, this.2.elim (fun h => .inl (.inl h)) .inr⟩
          · exact ⟨by omega, .inl (.inr (.inl rfl))⟩
          · exact ⟨by omega, .inl (.inr (.inr rfl))⟩
        · rcases h with h | h
          · omega
          · exact n4 h
        · rw [World.putObj_heap_same (Array.getElem?_eq_some_iff.1 hl3).1, hrec]
          rfl
        · exact (World.putObj_heap_other (by omega)).trans hD3
      · have hl3 := hk3.obj hl2 ⟨Nat.le_succ _, n2⟩
        have hD3 := hk3.obj hk2 ⟨Nat.le_refl _, n1⟩
        have hr := run_endRound (P := P) (some .ret) hl3
        refine ⟨_, _, hr, .inr ⟨rfl, hIx _ _ hi3 ((Keep.refl _ W3).put (.inr fun h => by omega) _), ?_, ?_⟩⟩
        · rw [World.putObj_heap_same (Array.getElem?_eq_some_iff.1 hl3).1, hrec]
          rfl
        · exact (World.putObj_heap_other (by omega)).trans hD3
    · rintro e W2 ⟨⟨v, rfl⟩, (⟨cs, _, hall, C, rfl, hi, n1, n2, hl, hk⟩ | ⟨hi, hl, hk⟩)⟩
      · refine ⟨none, _, by have := run_endLoop (P := P) hl (by rw [hrec]; simp); rw [hrec] at this; exact this, hdone cs C _ _ (Nat.le_refl _) hall (hI _ _ _ _ hi ((Keep.refl _ W2).put (.inr fun h => ?_) _)) ((World.putObj_heap_other (by omega)).trans hk)⟩
        rcases h with h | h
        · omega
        · exact n2 h
      · exact ⟨some .ret, _, by have := run_endLoop (P := P) hl (by rw [hrec]; simp); rw [hrec] at this; exact this, hstop _ _ (Nat.le_refl _) (hIx _ _ hi ((Keep.refl _ W2).put (.inr fun h => by omega) _)) ((World.putObj_heap_other (by omega)).trans hk)⟩
end Go.Proofs.Ytkebeadaoiiokaa
namespace Go.Proofs.Ytkebeadaoiiokaa
open Go.RowKit

/-- The walk as it lies. -/
structure WalkAt (X P : Nat) (A : Option Addr) (n c : Nat) (Sa : Option Addr) (sn sc : Nat) (O : Option Addr) (k oc B2 m : Nat) (op pl : List Int) (W : World) : Prop where
  blk : Blk W X 103 #[.slice A n c, .slice Sa sn sc, .slice O k oc, .slice (some ⟨P, 0, none⟩) m m]
  pl : Blk W P 3 (ints pl).toArray
  op : W.ownsRow B2 3 1 (.slice O k oc) k (ints op)
  apart : (Value.slice O k oc).ownBlock ≠ some P
  lo : B2 ≤ X ∧ B2 ≤ P
section
variable {X P : Nat} {A : Option Addr} {n c : Nat} {Sa : Option Addr} {sn sc : Nat} {O : Option Addr} {k oc B2 m : Nat} {op pl : List Int} {W W' : World}
theorem WalkAt.len (h : WalkAt X P A n c Sa sn sc O k oc B2 m op pl W) : op.length = k := by have := h.op.1; rw [ints_length] at this; omega
theorem WalkAt.ne (h : WalkAt X P A n c Sa sn sc O k oc B2 m op pl W) : P ≠ X := fun e => by
  have := h.blk
  rw [← e] at this
  exact Blk.ne_ h.pl this (by decide) rfl
theorem WalkAt.kept (h : WalkAt X P A n c Sa sn sc O k oc B2 m op pl W) (hX : W'.heap[X]? = W.heap[X]?) (hP : W'.heap[P]? = W.heap[P]?) (hO : ∀ g, (Value.slice O k oc).ownBlock = some g → W'.heap[g]? = W.heap[g]?) : WalkAt X P A n c Sa sn sc O k oc B2 m op pl W' :=
  ⟨hX.trans h.blk, hP.trans h.pl, own_heap6 h.op hO, h.apart, h.lo⟩
theorem WalkAt.keep {S : Nat → Prop} (h : WalkAt X P A n c Sa sn sc O k oc B2 m op pl W) (hk : Keep S W W') (hX : S X) (hP : S P) (hO : ∀ g, (Value.slice O k oc).ownBlock = some g → S g) : WalkAt X P A n c Sa sn sc O k oc B2 m op pl W' :=
  ⟨hk.blk h.blk hX, hk.blk h.pl hP, hk.own h.op hO, h.apart, h.lo⟩
theorem WalkAt.alloc (h : WalkAt X P A n c Sa sn sc O k oc B2 m op pl W) (o : Obj) : WalkAt X P A n c Sa sn sc O k oc B2 m op pl (W.alloc o) :=
  ⟨h.blk.alloc o, h.pl.alloc o, h.op.alloc o, h.apart, h.lo⟩
/-- A cell of another block is set. -/
theorem WalkAt.other (h : WalkAt X P A n c Sa sn sc O k oc B2 m op pl W) {g : Nat} {t : TypeId} {cs : Array Value} (hg : Blk W g t cs) (ht : t ≠ 3) (ht2 : t ≠ 103) (i : Nat) (u : Value) : WalkAt X P A n c Sa sn sc O k oc B2 m op pl (W.setCell ⟨g, i, none⟩ u) :=
  ⟨h.blk.far (p := ⟨g, i, none⟩) (Blk.ne_ h.blk hg (Ne.symm ht2)) u, h.pl.far (p := ⟨g, i, none⟩) (Blk.ne_ h.pl hg (Ne.symm ht)) u, own_store h.op hg ht u, h.apart, h.lo⟩
/-- A place is written. -/
theorem WalkAt.place (h : WalkAt X P A n c Sa sn sc O k oc B2 m op pl W) (i : Nat) (q : Int) : WalkAt X P A n c Sa sn sc O k oc B2 m op (pl.set i q) (W.setCell ⟨P, i, none⟩ (.int .i64 q)) := by
  refine ⟨h.blk.far (p := ⟨P, i, none⟩) (Ne.symm h.ne) _, ?_, own_heap6 h.op fun g hg => Below.heap_setCell W ⟨P, i, none⟩ _ g (fun e => h.apart (by rw [hg]; exact congrArg some e)), h.apart, h.lo⟩
  have := h.pl.set_ i (.int .i64 q)
  rw [List.setIfInBounds_toArray, ints_set] at this
  exact this
/-- The open nodes are a row that begins there anew. -/
theorem own_less {base n2 c2 : Nat} {e : TypeId} {A2 : Option Addr} {xs : List Value} (h : W.ownsRow base e 1 (.slice A2 n2 c2) n2 xs) {j : Nat} (hj : j ≤ n2) : W.ownsRow base e 1 (.slice A2 j c2) j (xs.take j) := by
  have hl := h.1
  refine ⟨by rw [List.length_take]; omega, ?_⟩
  rcases h.2 with ⟨e1, e2⟩ | ⟨g, cap, cur, e1, hb, hk, h3, h4, h5, h6⟩
  · injection e1 with e1 e3 e4
    subst e1; subst e4
    exact .inl ⟨by rw [show j = 0 by omega], by omega⟩
  · injection e1 with e1 e3 e4
    subst e1; subst e4
    refine .inr ⟨g, c2, cur, rfl, hb, hk, by omega, h4, h5, ?_⟩
    rw [← h6, List.take_take]
    congr 1
    omega
theorem WalkAt.cut (h : WalkAt X P A n c Sa sn sc O k oc B2 m op pl W) {j : Nat} (hj : j ≤ k) : WalkAt X P A n c Sa sn sc O j oc B2 m (op.take j) pl (W.setCell ⟨X, 2, none⟩ (.slice O j oc)) := by
  have hb : (Value.slice O j oc).ownBlock = (Value.slice O k oc).ownBlock := by cases O <;> rfl
  refine ⟨?_, h.pl.far (p := ⟨X, 2, none⟩) h.ne _, ?_, by rw [hb]; exact h.apart, h.lo⟩
  · have := h.blk.set_ 2 (.slice O j oc)
    simpa using this
  · have := own_store (own_less h.op hj) h.blk (k := 2) (by decide) (.slice O j oc)
    have e : (ints op).take j = ints (op.take j) := by unfold ints; rw [List.map_take]
    rwa [e] at this
/-- A node is appended to the open ones. -/
theorem WalkAt.more {W1 w5 : World} {O5 : Option Addr} {c5 : Nat} {v : Int} (h : WalkAt X P A n c Sa sn sc O k oc B2 m op pl W1) (hown : w5.ownsRow B2 3 1 (.slice O5 (k + 1) c5) (k + 1) (ints op ++ [.int .i64 v])) (hgrow : W1.grownBy w5 (Value.slice O k oc).ownBlock)
    {N : Nat} (hat : (Value.slice O5 (k + 1) c5).ownBlock = (Value.slice O k oc).ownBlock ∨ (Value.slice O5 (k + 1) c5).ownBlock = some N) (hN : P < N) :
    WalkAt X P A n c Sa sn sc O5 (k + 1) c5 B2 m (op ++ [v]) pl (w5.setCell ⟨X, 2, none⟩ (.slice O5 (k + 1) c5)) := by
  have hX5 : Blk w5 X 103 _ := h.blk.grown hgrow fun e => own_blk_ne h.op h.blk (by decide) e.symm
  have hP5 : Blk w5 P 3 _ := h.pl.grown hgrow fun e => h.apart e.symm
  refine ⟨?_, hP5.far (p := ⟨X, 2, none⟩) h.ne _, ?_, ?_, h.lo⟩
  · have := hX5.set_ 2 (.slice O5 (k + 1) c5)
    simpa using this
  · rw [ints_append]
    exact own_store hown hX5 (by decide) _
  · rcases hat with e | e
    · rw [e]; exact h.apart
    · rw [e]
      intro e2
      injection e2 with e2
      omega
end

theorem starts_at {w : World} {B m v : Nat} {Sa : Option Addr} {zs : List Ed} (h : Reads w B 1 Sa (m + 1) (ints (startsE zs (m + 1)))) (hv : v < m) :
    ∃ b o, Sa = some ⟨b, o, none⟩ ∧ b < B ∧ w.cell? ⟨b, o + v, none⟩ = some (.int .i64 (startE zs (v : Int) : Int)) ∧ w.cell? ⟨b, o + (v + 1), none⟩ = some (.int .i64 (startE zs ((v : Int) + 1) : Int)) := by
  obtain ⟨b, o, e, hb, hc⟩ := reads_plain h (by omega)
  have hat : ∀ j, j < m + 1 → (ints (startsE zs (m + 1)))[j]? = some (.int .i64 (startE zs (j : Int) : Int)) := fun j hj => by
    unfold ints startsE
    rw [List.getElem?_map, List.getElem?_map, List.getElem?_range hj]
    rfl
  exact ⟨b, o, e, hb, hc _ _ (hat v (by omega)), hc _ _ (hat (v + 1) (by omega))⟩

def BegunIs (A : Option Addr) (n c : Nat) (Sa : Option Addr) (sn sc m : Nat) (w : World) (e : Ending) (w' : World) : Prop :=
  ∃ X P, e = .returned (.pointer (some ⟨X, 0, none⟩)) ∧ WalkAt X P A n c Sa sn sc none 0 0 w.heap.size m [] (List.replicate m (-1)) w' ∧ Below w.heap.size w w'

set_option maxRecDepth 100000 in
set_option maxHeartbeats 4000000 in
theorem begun_any (z : Int) (A : Option Addr) (n c : Nat) (Sa : Option Addr) (sn sc : Nat) (hz : 0 ≤ z ∧ z ≤ 300) (w : World) :
    Calls Try.prog 68 #[.agg #[.int .i64 z, .slice A n c], .slice Sa sn sc] w (BegunIs A n c Sa sn sc z.toNat w) := by
  obtain ⟨bx, b0⟩ := box_new w #[.int .i64 z, .slice A n c] 24
  obtain ⟨m, rfl⟩ : ∃ m : Nat, z = (m : Int) := ⟨z.toNat, by omega⟩
  rw [Int.toNat_natCast]
  have hm : m ≤ 300 := by omega
  have BX := Lib.hid bx
  have B0 := Lib.hid b0
  clear bx b0
  go_enter Try.func68, Try.ntmps68
  go_upto_region 1 with fail
  generalize w.alloc (.cells #[.int .i64 (m : Int), .slice A n c] 24) = W0 at *
  have hmk : (Instr.makeSlice 35 (.int .i64 (m : Int)) (.int .i64 (m : Int))).run Try.prog W0.drew = .ok (.slice (some ⟨W0.heap.size, 0, none⟩) m m) (W0.drew.alloc (.cells (ints (List.replicate m 0)).toArray 3)) := int_make m (m : Int) rfl (by omega) W0.drew
  have z0 := BX.out.cell 0
  have z1 := BX.out.cell 1
  have x0 : (W0.alloc (.cells (ints (List.replicate m 0)).toArray 3)).cell? ⟨w.heap.size, 0, none⟩ = _ := (BX.out.alloc (.cells (ints (List.replicate m 0)).toArray 3)).cell 0
  have x1 : (W0.alloc (.cells (ints (List.replicate m 0)).toArray 3)).cell? ⟨w.heap.size, 1, none⟩ = _ := (BX.out.alloc (.cells (ints (List.replicate m 0)).toArray 3)).cell 1
  have hs1 : (W0.alloc (.cells (ints (List.replicate m 0)).toArray 3)).heap.size = W0.heap.size + 1 := by rw [World.size_alloc]
  have B2 : Hid (Below w.heap.size w ((W0.alloc (.cells (ints (List.replicate m 0)).toArray 3)).alloc (.cells #[.slice A n c, .slice Sa sn sc, .slice none 0 0, .slice (some ⟨W0.heap.size, 0, none⟩) m m] 103)).drew) := by
    have b1 := B0.out.alloc B0.out.size (.cells (ints (List.replicate m 0)).toArray 3)
    exact (b1.alloc b1.size _).drew
  have K2 : Hid (Blk ((W0.alloc (.cells (ints (List.replicate m 0)).toArray 3)).alloc (.cells #[.slice A n c, .slice Sa sn sc, .slice none 0 0, .slice (some ⟨W0.heap.size, 0, none⟩) m m] 103)).drew (W0.heap.size + 1) 103 #[.slice A n c, .slice Sa sn sc, .slice none 0 0, .slice (some ⟨W0.heap.size, 0, none⟩) m m]) := by
    have := Blk.new (W0.alloc (.cells (ints (List.replicate m 0)).toArray 3)) 103 #[.slice A n c, .slice Sa sn sc, .slice none 0 0, .slice (some ⟨W0.heap.size, 0, none⟩) m m]
    rw [hs1] at this
    exact this.drew
  have K3 : Hid (Blk ((W0.alloc (.cells (ints (List.replicate m 0)).toArray 3)).alloc (.cells #[.slice A n c, .slice Sa sn sc, .slice none 0 0, .slice (some ⟨W0.heap.size, 0, none⟩) m m] 103)).drew W0.heap.size 3 (ints (List.replicate m 0)).toArray) := ((Blk.new W0 3 (ints (List.replicate m 0)).toArray).alloc _).drew
  have HSZ : Hid (w.heap.size ≤ W0.heap.size) := B0.out.size
  clear hs1
  go_region
  clear hmk x0 x1 z0 z1 B0 BX
  generalize ((W0.alloc (.cells (ints (List.replicate m 0)).toArray 3)).alloc (.cells #[.slice A n c, .slice Sa sn sc, .slice none 0 0, .slice (some ⟨W0.heap.size, 0, none⟩) m m] 103)).drew = W2 at *
  generalize W0.heap.size = P at *
  have HXP : Hid (P + 1 ≠ P) := Nat.succ_ne_self P
  have HX1 : Hid (w.heap.size ≤ P + 1) := Nat.le_succ_of_le HSZ.out
  generalize P + 1 = X at *
  have x3 := K2.out.cell 3
  go_wp2_with fail
  clear x3
  go_loopg [20] m (fun gg s20 wr => ∃ i : Nat, i + gg = m ∧ s20 = .int .i64 i ∧ Hid (Blk wr P 3 (ints (List.replicate i (-1) ++ List.replicate (m - i) 0)).toArray) ∧ Hid (Blk wr X 103 #[.slice A n c, .slice Sa sn sc, .slice none 0 0, .slice (some ⟨P, 0, none⟩) m m]) ∧ Hid (Below w.heap.size w wr))
  case atStart => exact ⟨0, by omega, rfl, K3, K2, B2⟩
  case round =>
    clear K3 K2 B2
    obtain ⟨i, hi, rfl, HN, HX, HB⟩ := hrel
    cases gk with
    | succ g2 =>
      have hlt : (i : Int) < (m : Int) := by omega
      have him : i < m := by omega
      have x3 := HX.out.cell 3
      have HI := Lib.hid hi
      have hil : i < (ints (List.replicate i (-1) ++ List.replicate (m - i) 0)).length := by rw [ints_length, List.length_append, List.length_replicate, List.length_replicate]; omega
      obtain ⟨u0, hu0⟩ : ∃ u, (ints (List.replicate i (-1) ++ List.replicate (m - i) 0))[i]? = some u := ⟨_, List.getElem?_eq_getElem hil⟩
      have y0 : wr.cell? ⟨P, i, none⟩ = some u0 := by rw [HN.out.cell, List.getElem?_toArray]; exact hu0
      have f0 : wr.frozen? ⟨P, i, none⟩ = false := HN.out.frozen i
      have HN3 : Hid (Blk (wr.setCell ⟨P, i, none⟩ (.int .i64 (-1))) P 3 (ints (List.replicate (i + 1) (-1) ++ List.replicate (m - (i + 1)) 0)).toArray) := by
        have := HN.out.set_ i (.int .i64 (-1))
        rw [List.setIfInBounds_toArray, ints_set, List.set_append_right _ _ (by simp), List.length_replicate, Nat.sub_self, show m - i = (m - (i + 1)) + 1 by omega, List.replicate_succ, List.set_cons_zero] at this
        rw [List.replicate_succ', List.append_assoc]
        exact this
      have HX3 := Lib.hid (HX.out.far (p := ⟨P, i, none⟩) HXP.out (.int .i64 (-1)))
      have HB3 := Lib.hid (HB.out.setCell (p := ⟨P, i, none⟩) HSZ.out (.int .i64 (-1)))
      have hi0 : (0 : Int) ≤ (i : Int) := by omega
      clear hil hu0 hi HN HX HB
      go_wp2_with fail
      go_roundg g2
      case measure => omega
      case rel => exact ⟨i + 1, by have := HI.out; omega, by go_num, HN3, HX3, HB3⟩
    | zero =>
      have hge : ¬ (i : Int) < (m : Int) := by omega
      obtain rfl : i = m := by omega
      have HE : Hid (BegunIs A n c Sa sn sc i w (.returned (.pointer (some ⟨X, 0, none⟩))) wr) := by
        refine ⟨X, P, rfl, ⟨HX.out, ?_, World.ownsRow_nil _ _ _ _, (fun e => by cases e), ⟨HX1.out, HSZ.out⟩⟩, HB.out⟩
        have := HN.out
        rwa [Nat.sub_self, List.replicate_zero, List.append_nil] at this
      clear hi
      go_wp2_with fail
      go_ret
      exact HE.out

/-- A node was met. -/
def OpenedIs (X P : Nat) (A : Option Addr) (n c : Nat) (Sa : Option Addr) (sn sc : Nat) (O : Option Addr) (k oc B2 m : Nat) (op pl : List Int) (zs : List Ed) (v : Nat) (w : World) (e : Ending) (w' : World) : Prop :=
  ∃ O' oc', e = .returned (.agg #[.int .i64 (k : Int), .int .i64 (k : Int), .slice (CutAt zs (v : Int) A) (outE zs (v : Int)).length (outE zs (v : Int)).length]) ∧
    WalkAt X P A n c Sa sn sc O' (k + 1) oc' B2 m (op ++ [(v : Int)]) (pl.set v (k : Int)) w' ∧ ((Value.slice O' (k + 1) oc').ownBlock = (Value.slice O k oc).ownBlock ∨ ∃ N, (Value.slice O' (k + 1) oc').ownBlock = some N ∧ w.heap.size ≤ N) ∧
    Keep (fun j => j ≠ X ∧ j ≠ P ∧ (Value.slice O k oc).ownBlock ≠ some j) w w'

set_option maxRecDepth 100000 in
set_option maxHeartbeats 4000000 in
theorem opened_any (X P : Nat) (A : Option Addr) (n c : Nat) (Sa : Option Addr) (sc : Nat) (O : Option Addr) (k oc B2 m v : Nat) (op pl : List Int) (zs : List Ed) (w : World) (h : WalkAt X P A n c Sa (m + 1) sc O k oc B2 m op pl w)
    (hR : Reads w B2 3 A n (cellsE zs)) (hS : Reads w B2 1 Sa (m + 1) (ints (startsE zs (m + 1)))) (hz : InRow zs) (hnc : n ≤ c) (hm : m ≤ 300) (hv : v < m) (hk : k ≤ 300) (hpl : pl.length = m) (hB : B2 ≤ w.heap.size) :
    Calls Try.prog 86 #[.pointer (some ⟨X, 0, none⟩), .int .i64 (v : Int)] w (OpenedIs X P A n c Sa (m + 1) sc O k oc B2 m op pl zs v w) := by
  obtain ⟨i0, hi, hz0, hz1, hz2⟩ := info_parts int_info
  have hl := reads_len hR
  have h1 := start_mono zs (u := (v : Int)) (v := (v : Int) + 1) (by omega)
  have h2 := start_le zs ((v : Int) + 1)
  have hcr := reads_len (cut_reads (v : Int) hz hR)
  have HCL : Hid ((outE zs (v : Int)).length = startE zs ((v : Int) + 1) - startE zs (v : Int)) := hcr
  have hsl := pr_slice_lhm A n c (startE zs (v : Int)) (startE zs ((v : Int) + 1)) (startE zs ((v : Int) + 1)) _ _ _ rfl rfl rfl h1 (Nat.le_refl _) (by omega)
  have HF : Hid (∀ (O' : Option Addr) (oc' : Nat) (w' : World), WalkAt X P A n c Sa (m + 1) sc O' (k + 1) oc' B2 m (op ++ [(v : Int)]) (pl.set v (k : Int)) w' → ((Value.slice O' (k + 1) oc').ownBlock = (Value.slice O k oc).ownBlock ∨ ∃ N, (Value.slice O' (k + 1) oc').ownBlock = some N ∧ w.heap.size ≤ N) →
      Keep (fun j => j ≠ X ∧ j ≠ P ∧ (Value.slice O k oc).ownBlock ≠ some j) w w' → OpenedIs X P A n c Sa (m + 1) sc O k oc B2 m op pl zs v w (.returned (.agg #[.int .i64 (k : Int), .int .i64 (k : Int), .slice (CutAt zs (v : Int) A) (startE zs ((v : Int) + 1) - startE zs (v : Int)) (startE zs ((v : Int) + 1) - startE zs (v : Int))])) w') :=
    fun O' oc' w' g1 g2 g3 => ⟨O', oc', by rw [HCL.out], g1, g2, g3⟩
  have HD : Hid (CutAt zs (v : Int) A = if startE zs ((v : Int) + 1) = startE zs (v : Int) then A else A.map (·.add (startE zs (v : Int) * 3))) := rfl
  rw [← HD.out] at hsl
  have HST := Lib.hid fun W (hb : Below B2 w W) => starts_at (hS.below hb) hv
  have hx2 := h.blk.cell 2
  have H0 : Hid (WalkAt X P A n c Sa (m + 1) sc O k oc B2 m op pl (w.alloc (.cells #[.int .i64 0, .int .i64 0, .slice none 0 0] 117))) := h.alloc _
  have R0 : Hid (Blk (w.alloc (.cells #[.int .i64 0, .int .i64 0, .slice none 0 0] 117)) w.heap.size 117 #[.int .i64 0, .int .i64 0, .slice none 0 0]) := Blk.new w _ _
  have K0 : Hid (Keep (fun j => j ≠ X ∧ j ≠ P ∧ (Value.slice O k oc).ownBlock ≠ some j) w (w.alloc (.cells #[.int .i64 0, .int .i64 0, .slice none 0 0] 117))) := (Keep.refl _ w).alloc _
  have x2 := H0.out.blk.cell 2
  have HPX : Hid (P < w.heap.size ∧ X < w.heap.size ∧ (∀ g, (Value.slice O k oc).ownBlock = some g → g < w.heap.size) ∧ ∀ g, (Value.slice O k oc).ownBlock = some g → B2 ≤ g) := ⟨h.pl.lt, h.blk.lt, fun g hg => (own_in h.op hg).2.1, fun g hg => (own_in h.op hg).1⟩
  have HB := Lib.hid hB
  have HPL := Lib.hid hpl
  have HZ := Lib.hid hz
  obtain ⟨v1, hv1⟩ : ∃ v1, v + 1 = v1 := ⟨_, rfl⟩
  have hwv : IntKind.i64.wrap ((v : Int) + 1) = (v1 : Int) := by rw [IntKind.wrap_i64]; omega
  rw [hv1] at HST
  have hv1m : (v1 : Int) < ((m + 1 : Nat) : Int) := by omega
  have hv0m : (v : Int) < ((m + 1 : Nat) : Int) := by omega
  clear h hR hS hl h1 h2 hcr HD hx2 hpl hz hv1 HCL
  generalize m + 1 = sn at *
  generalize CutAt zs (v : Int) A = C at *
  generalize startE zs (v : Int) = s at *
  generalize startE zs ((v : Int) + 1) = t at *
  go_enter Try.func86, Try.ntmps86
  go_upto_region 2 with fail
  generalize w.alloc (.cells #[.int .i64 0, .int .i64 0, .slice none 0 0] 117) = W0 at *
  have hs0 : B2 ≤ W0.heap.size := Nat.le_trans HB.out K0.out.size
  go_upto_region 3 with (at_builtin; refine wpList_append_own_at _ rfl _ _ 35 rfl B2 3 i0 _ 1 8 Try.underlying35 hi hz0 hz1 hz2 rfl (by decide) (.slice O k oc) k _ rfl (H0.out.op.alloc _) ⟨W0.heap.size, 0, none⟩ 1 1 [.int .i64 (v : Int)] rfl rfl (cell_one_new _ _ _) (by intro q hq; simp at hq; subst hq; rfl) (by unfold maxLen; omega) (by omega) (by simp; omega) ?_; intro v5 w5 hown5 hgrow5 _ hat5; obtain ⟨A5, c5, rfl, _, _⟩ := own_form2 hown5; have hs5 : (W0.alloc (.cells #[.int .i64 (v : Int)] 3)).heap.size = W0.heap.size + 1 := (by simp); rw [hs5] at hat5; have H5 : Hid (WalkAt X P A n c Sa sn sc A5 (k + 1) c5 B2 m (op ++ [(v : Int)]) pl (w5.setCell ⟨X, 2, none⟩ (.slice A5 (k + 1) c5))) := (WalkAt.more (H0.out.alloc _) hown5 hgrow5 hat5 (by have := HPX.out.1; have := K0.out.size; omega)); have K5 : Hid (Keep (fun j => j ≠ X ∧ j ≠ P ∧ (Value.slice O k oc).ownBlock ≠ some j) w (w5.setCell ⟨X, 2, none⟩ (.slice A5 (k + 1) c5))) := (((K0.out.alloc _).grown hgrow5 (fun g hg => .inr fun hS => hS.2.2 hg)).set (.inr fun hS => hS.1 rfl) _ _); have R5 : Hid (Blk (w5.setCell ⟨X, 2, none⟩ (.slice A5 (k + 1) c5)) w.heap.size 117 #[.int .i64 0, .int .i64 0, .slice none 0 0]) := (((R0.out.alloc _).grown hgrow5 (fun e => absurd (HPX.out.2.2.1 _ e.symm) (Nat.lt_irrefl _))).far (p := ⟨X, 2, none⟩) (Ne.symm (Nat.ne_of_lt HPX.out.2.1)) _); have hX5 : Blk w5 X 103 _ := ((H0.out.alloc (.cells #[.int .i64 (v : Int)] 3)).blk.grown hgrow5 fun e => own_blk_ne (H0.out.alloc (.cells #[.int .i64 (v : Int)] 3)).op (H0.out.alloc (.cells #[.int .i64 (v : Int)] 3)).blk (by decide) e.symm); have a2 := hX5.cell 2; have f2 := hX5.frozen 2; have HAT : Hid ((Value.slice A5 (k + 1) c5).ownBlock = (Value.slice O k oc).ownBlock ∨ ∃ N, (Value.slice A5 (k + 1) c5).ownBlock = some N ∧ w.heap.size ≤ N) := (hat5.imp id fun e => ⟨_, e, by have := K0.out.size; omega⟩); clear hown5 hgrow5 hat5 hX5 hs5 x2)
  clear a2 f2 H0 K0 R0 hs0
  generalize w5.setCell ⟨X, 2, none⟩ (.slice A5 (k + 1) c5) = w6 at *
  have x3 := H5.out.blk.cell 3
  have hvl : v < (ints pl).length := by rw [ints_length, HPL.out]; exact hv
  obtain ⟨u0, hu0⟩ : ∃ u, (ints pl)[v]? = some u := ⟨_, List.getElem?_eq_getElem hvl⟩
  have y0 : w6.cell? ⟨P, v, none⟩ = some u0 := by rw [H5.out.pl.cell, List.getElem?_toArray]; exact hu0
  have f0 : w6.frozen? ⟨P, v, none⟩ = false := H5.out.pl.frozen v
  have hv0 : (v : Int) < (m : Int) := by omega
  have H6 := Lib.hid (H5.out.place v (k : Int))
  have K6 : Hid (Keep (fun j => j ≠ X ∧ j ≠ P ∧ (Value.slice O k oc).ownBlock ≠ some j) w (w6.setCell ⟨P, v, none⟩ (.int .i64 (k : Int)))) := K5.out.set (.inr fun hS => hS.2.1 rfl) _ _
  have R6 := Lib.hid (R5.out.far (p := ⟨P, v, none⟩) (Ne.symm (Nat.ne_of_lt HPX.out.1)) (.int .i64 (k : Int)))
  clear hvl hu0 H5 K5 R5
  go_upto_region 4 with fail
  clear x3 y0 f0
  generalize w6.setCell ⟨P, v, none⟩ (.int .i64 (k : Int)) = w7 at *
  have hb7 : Below B2 w w7 := K6.out.below HB.out fun j hj => ⟨by have := H6.out.lo.1; omega, by have := H6.out.lo.2; omega, fun e => by have := HPX.out.2.2.2 _ e; omega⟩
  obtain ⟨b, o, rfl, hb, s0, s1⟩ := HST.out w7 hb7
  have x1 := H6.out.blk.cell 1
  clear hb7 hb
  go_quiet (fail)
  have H8 : Hid (WalkAt X P A n c (some ⟨b, o, none⟩) sn sc A5 (k + 1) c5 B2 m (op ++ [(v : Int)]) (pl.set v (k : Int)) (w7.drewN nq)) := ⟨H6.out.blk.drewN nq, H6.out.pl.drewN nq, H6.out.op, H6.out.apart, H6.out.lo⟩
  have K8 := Lib.hid (K6.out.drewN nq)
  have R8 := Lib.hid (R6.out.drewN nq)
  clear H6 K6 R6 x1 s0 s1
  generalize w7.drewN nq = w8 at *
  have x0 := H8.out.blk.cell 0
  have r0 := R8.out.cell 0
  have r1 := R8.out.cell 1
  have r2 := R8.out.cell 2
  have q0 := R8.out.frozen 0
  have q1 := R8.out.frozen 1
  have q2 := R8.out.frozen 2
  have HE : Hid (OpenedIs X P A n c (some ⟨b, o, none⟩) sn sc O k oc B2 m op pl zs v w (.returned (.agg #[.int .i64 (k : Int), .int .i64 (k : Int), .slice C (t - s) (t - s)])) (((w8.setCell ⟨w.heap.size, 0, none⟩ (.int .i64 (k : Int))).setCell ⟨w.heap.size, 1, none⟩ (.int .i64 (k : Int))).setCell ⟨w.heap.size, 2, none⟩ (.slice C (t - s) (t - s)))) := by
    have hr := R8.out
    have h1 := H8.out.other hr (by decide) (by decide) 0 (.int .i64 (k : Int))
    have hr1 := hr.set_ 0 (.int .i64 (k : Int))
    have h2 := h1.other hr1 (by decide) (by decide) 1 (.int .i64 (k : Int))
    have hr2 := hr1.set_ 1 (.int .i64 (k : Int))
    have h3 := h2.other hr2 (by decide) (by decide) 2 (.slice C (t - s) (t - s))
    exact HF.out A5 c5 _ h3 HAT.out (((K8.out.set (.inl (Nat.le_refl _)) _ _).set (.inl (Nat.le_refl _)) _ _).set (.inl (Nat.le_refl _)) _ _)
  have e3 : Blk (((w8.setCell ⟨w.heap.size, 0, none⟩ (.int .i64 (k : Int))).setCell ⟨w.heap.size, 1, none⟩ (.int .i64 (k : Int))).setCell ⟨w.heap.size, 2, none⟩ (.slice C (t - s) (t - s))) w.heap.size 117 #[.int .i64 (k : Int), .int .i64 (k : Int), .slice C (t - s) (t - s)] := by
    have := ((R8.out.set_ 0 (.int .i64 (k : Int))).set_ 1 (.int .i64 (k : Int))).set_ 2 (.slice C (t - s) (t - s))
    simpa using this
  have y0 := e3.cell 0
  have y1 := e3.cell 1
  have y2 := e3.cell 2
  clear e3 H8 K8 R8 HF HAT HST
  go_wp2_with fail
  exact bodyPost_ret (v := .agg #[.int .i64 (k : Int), .int .i64 (k : Int), .slice C (t - s) (t - s)]) (by simp [results, Try.results86, go_sem, y0, y1, y2]) rfl HE.out

theorem ir_elem_size (W : World) : (sizeOf (Try.prog.elem 35)).run Try.prog W = .ok 1 W := by kernel_rfl
theorem ir_slice_h (A : Option Addr) (len cap h : Nat) (hh : h ≤ cap) (W : World) :
    (Instr.slice 35 (.slice A len cap) none (some (.int .i64 (h : Int))) none).run Try.prog W = .ok (.slice A h cap) W := by
  have e0 : Value.slice (if cap = 0 then A else A.map (·.add (0 * 1))) (h - 0) (cap - 0) = .slice A h cap := by
    have : (if cap = 0 then A else A.map (·.add (0 * 1))) = A := by
      split
      · rfl
      · cases A <;> simp [Addr.add]
    rw [this, Nat.sub_zero, Nat.sub_zero]
  rw [run_slice_h W 35 A len cap (show Try.prog.underlying 35 = some (.slice (Try.prog.elem 35)) by kernel_rfl) .i64 h (by omega) (by omega), ir_elem_size]
  exact congrArg (fun v => Result.ok v W) e0
theorem ir_slice_lhm (g len cap l h : Nat) (hl : l < h) (hh : h ≤ cap) (W : World) :
    (Instr.slice 35 (.slice (some ⟨g, 0, none⟩) len cap) (some (.int .i64 (l : Int))) (some (.int .i64 (h : Int))) (some (.int .i64 (h : Int)))).run Try.prog W = .ok (.slice (some ⟨g, l, none⟩) (h - l) (h - l)) W := by
  have e0 : Value.slice (if h = l then some ⟨g, 0, none⟩ else (some (⟨g, 0, none⟩ : Addr)).map (·.add (l * 1))) (h - l) (h - l) = .slice (some ⟨g, l, none⟩) (h - l) (h - l) := by
    rw [if_neg (by omega)]
    simp [Addr.add]
    exact fun e => e.symm
  rw [run_slice_lhm W 35 (some ⟨g, 0, none⟩) len cap (show Try.prog.underlying 35 = some (.slice (Try.prog.elem 35)) by kernel_rfl) .i64 .i64 .i64 l h h (by omega) (by omega) (by omega) (by omega), ir_elem_size]
  exact congrArg (fun v => Result.ok v W) e0

/-- The open nodes, where there are some. -/
theorem WalkAt.form {X P : Nat} {A : Option Addr} {n c : Nat} {Sa : Option Addr} {sn sc : Nat} {O : Option Addr} {k oc B2 m : Nat} {op pl : List Int} {W : World} (h : WalkAt X P A n c Sa sn sc O k oc B2 m op pl W) (hk : 0 < k) :
    ∃ g, O = some ⟨g, 0, none⟩ ∧ k ≤ oc ∧ oc ≤ 9223372036854775807 ∧ g < W.heap.size ∧ B2 ≤ g ∧ g ≠ P ∧ ∀ (j : Nat) (x : Int), op[j]? = some x → W.cell? ⟨g, j, none⟩ = some (.int .i64 x) := by
  have hl := h.len
  have ha := h.apart
  rcases h.op.2 with ⟨_, e2⟩ | ⟨g, cap, cur, e1, hb, hk2, h3, h4, h5, h6⟩
  · omega
  · injection e1 with e1 e3 e4
    subst e1; subst e4
    refine ⟨g, rfl, h3, by unfold maxLen at h4; exact h4, (Array.getElem?_eq_some_iff.1 hk2).1, hb, fun e => ha (by simp [Value.ownBlock, e]), fun j x hx => ?_⟩
    have hj := (List.getElem?_eq_some_iff.1 hx).1
    rw [cell_of_row W g j cur _ (0, 0) hk2]
    have : (ints op)[j]? = some (.int .i64 x) := by unfold ints; rw [List.getElem?_map, hx]; rfl
    rw [← h6, List.getElem?_take, if_pos (by omega), Array.getElem?_toList] at this
    exact this
theorem WalkAt.ne_x {X P : Nat} {A : Option Addr} {n c : Nat} {Sa : Option Addr} {sn sc : Nat} {g k oc B2 m : Nat} {op pl : List Int} {W : World} (h : WalkAt X P A n c Sa sn sc (some ⟨g, 0, none⟩) k oc B2 m op pl W) : g ≠ X := fun e =>
  own_blk_ne h.op h.blk (by decide) (by simp [Value.ownBlock, e])

/-- Nodes were taken away from the open ones. -/
def ClosedIs (X P : Nat) (A : Option Addr) (n c : Nat) (Sa : Option Addr) (sn sc g k oc B2 m p : Nat) (op pl : List Int) (w : World) (e : Ending) (w' : World) : Prop :=
  e = .returned (.slice (some ⟨g, p, none⟩) (k - p) (k - p)) ∧ WalkAt X P A n c Sa sn sc (some ⟨g, 0, none⟩) p oc B2 m (op.take p) (putE pl 300 (op.drop p)) w' ∧
    Reads w' w'.heap.size 1 (some ⟨g, p, none⟩) (op.drop p).length (ints (op.drop p)) ∧ Keep (fun j => j ≠ X ∧ j ≠ P) w w'

set_option maxRecDepth 100000 in
set_option maxHeartbeats 4000000 in
theorem closed_any (X P : Nat) (A : Option Addr) (n c : Nat) (Sa : Option Addr) (sn sc g k oc B2 m p : Nat) (op pl : List Int) (w : World) (h : WalkAt X P A n c Sa sn sc (some ⟨g, 0, none⟩) k oc B2 m op pl w)
    (hp : p < k) (hk : k ≤ 300) (hpl : pl.length = m) (hx : ∀ x ∈ op, 0 ≤ x ∧ x < (m : Int)) :
    Calls Try.prog 87 #[.pointer (some ⟨X, 0, none⟩), .int .i64 (p : Int)] w (ClosedIs X P A n c Sa sn sc g k oc B2 m p op pl w) := by
  obtain ⟨g', hg', hkc, hc, hgl, hBg, hgP, hcell⟩ := h.form (by omega)
  obtain rfl : g = g' := by injection hg' with e; injection e
  have hgX := h.ne_x
  have hsl := fun W => ir_slice_lhm g k oc p k hp hkc W
  have hsh := fun W => ir_slice_h (some ⟨g, 0, none⟩) k oc p (by omega) W
  have hlen := h.len
  have x2 := h.blk.cell 2
  have H0 := Lib.hid h
  have K0 : Hid (Keep (fun j => j ≠ X ∧ j ≠ P) w w) := Keep.refl _ _
  have HX := Lib.hid hx
  have HPL := Lib.hid hpl
  have HLEN := Lib.hid hlen
  have HGP := Lib.hid (And.intro hgX (And.intro hgP hgl))
  obtain ⟨d, hd⟩ : ∃ d, k - p = d := ⟨_, rfl⟩
  have HD := Lib.hid hd
  have hd300 : d ≤ 300 := by omega
  clear h hg' hcell hgX hgP hgl hlen hpl hx
  rw [hd] at hsl
  go_enter Try.func87, Try.ntmps87
  clear hd
  go_wp2_with fail
  clear x2 hsl
  go_loopg [24] d (fun gg s24 wr => ∃ i : Nat, i + gg = d ∧ s24 = .int .i64 i ∧ Hid (WalkAt X P A n c Sa sn sc (some ⟨g, 0, none⟩) k oc B2 m op (putE pl 300 ((op.drop p).take i)) wr) ∧ Hid (Keep (fun j => j ≠ X ∧ j ≠ P) w wr))
  case atStart => exact ⟨0, by omega, rfl, H0, K0⟩
  case round =>
    clear H0 K0
    obtain ⟨i, hi, rfl, H1, K1⟩ := hrel
    cases gk with
    | succ g2 =>
      have hlt : (i : Int) < (d : Int) := by omega
      have HI := Lib.hid hi
      have hii : p + i < op.length := by have := HD.out; have := HLEN.out; omega
      obtain ⟨x, hx⟩ : ∃ x, op[p + i]? = some x := ⟨_, List.getElem?_eq_getElem hii⟩
      obtain ⟨a, rfl⟩ : ∃ a : Nat, x = (a : Int) := ⟨x.toNat, by have := HX.out x (List.mem_of_getElem? hx); omega⟩
      have hlt2 : (a : Int) < (m : Int) := (HX.out _ (List.mem_of_getElem? hx)).2
      obtain ⟨g', hg', _, _, _, _, _, hcell⟩ := H1.out.form (by have := HD.out; omega)
      obtain rfl : g = g' := by injection hg' with e; injection e
      have c0 := hcell _ _ hx
      have x3 := H1.out.blk.cell 3
      have hal : a < (ints (putE pl 300 ((op.drop p).take i))).length := by rw [ints_length, putE_len, HPL.out]; omega
      obtain ⟨u0, hu0⟩ : ∃ u, (ints (putE pl 300 ((op.drop p).take i)))[a]? = some u := ⟨_, List.getElem?_eq_getElem hal⟩
      have y0 : wr.cell? ⟨P, a, none⟩ = some u0 := by rw [H1.out.pl.cell, List.getElem?_toArray]; exact hu0
      have f0 : wr.frozen? ⟨P, a, none⟩ = false := H1.out.pl.frozen a
      have H2 : Hid (WalkAt X P A n c Sa sn sc (some ⟨g, 0, none⟩) k oc B2 m op (putE pl 300 ((op.drop p).take (i + 1))) (wr.setCell ⟨P, a, none⟩ (.int .i64 300))) := by
        have := H1.out.place a 300
        rw [putE_next (v := (a : Int)) (by rw [List.getElem?_drop]; exact hx)]
        exact this
      have K2 : Hid (Keep (fun j => j ≠ X ∧ j ≠ P) w (wr.setCell ⟨P, a, none⟩ (.int .i64 300))) := K1.out.set (.inr fun hS => hS.2 rfl) _ _
      clear hi hii hx hg' hcell hal hu0 H1 K1
      go_wp2_with fail
      go_roundg g2
      case measure => omega
      case rel => exact ⟨i + 1, by have := HI.out; omega, by go_num, H2, K2⟩
    | zero =>
      have hge : ¬ (i : Int) < (d : Int) := by omega
      obtain rfl : i = d := by omega
      have x2 := H1.out.blk.cell 2
      have f2 := H1.out.blk.frozen 2
      have htk : (op.drop p).take i = op.drop p := List.take_of_length_le (by rw [List.length_drop]; have := HD.out; have := HLEN.out; omega)
      have HE : Hid (ClosedIs X P A n c Sa sn sc g k oc B2 m p op pl w (.returned (.slice (some ⟨g, p, none⟩) i i)) (wr.setCell ⟨X, 2, none⟩ (.slice (some ⟨g, 0, none⟩) p oc))) := by
        have h1 := H1.out
        rw [htk] at h1
        obtain ⟨g', hg', _, _, hgl, _, _, hcell⟩ := h1.form (by have := HD.out; omega)
        obtain rfl : g = g' := by injection hg' with e; injection e
        refine ⟨by rw [HD.out], h1.cut (by omega), ⟨by rw [ints_length, Nat.mul_one], fun _ => ⟨_, rfl, ?_, fun j u hu => ?_⟩⟩, K1.out.set (.inr fun hS => hS.1 rfl) _ _⟩
        · rw [World.size_setCell]; exact hgl
        · have : ∃ x, op[p + j]? = some x ∧ u = .int .i64 x := by
            unfold ints at hu
            rw [List.getElem?_map, List.getElem?_drop] at hu
            cases hx : op[p + j]? with
            | none => rw [hx] at hu; simp at hu
            | some x => rw [hx] at hu; simp at hu; exact ⟨x, rfl, hu.symm⟩
          obtain ⟨x, hx, rfl⟩ := this
          rw [Go.WideShapes.add_plain]
          exact (World.cell?_of_block (Below.heap_setCell wr ⟨X, 2, none⟩ _ g HGP.out.1)).trans (hcell _ _ hx)
      clear hi H1 K1 htk
      go_wp2_with fail
      go_ret
      exact HE.out
end Go.Proofs.Ytkebeadaoiiokaa
namespace Go.Proofs.Ytkebeadaoiiokaa
open Go.RowKit

def frCells (f : Fr) : List Value := [.int .i64 (f.p : Int), .int .i64 (f.l : Int), .slice f.A f.left.length f.left.length]
def cellsF (fs : List Fr) : List Value := fs.flatMap frCells
theorem cellsF_length (fs : List Fr) : (cellsF fs).length = fs.length * 3 := by
  induction fs with
  | nil => rfl
  | cons f fs ih => show (frCells f ++ cellsF fs).length = _; rw [List.length_append, ih, List.length_cons]; show 3 + _ = _; omega
theorem cellsF_snoc (fs : List Fr) (f : Fr) : cellsF (fs ++ [f]) = cellsF fs ++ frCells f := by simp [cellsF]
theorem set_behind (xs ys : List Value) (j : Nat) (v : Value) : (xs ++ ys).set (xs.length + j) v = xs ++ ys.set j v := by
  rw [List.set_append_right _ _ (by omega), Nat.add_sub_cancel_left]
theorem own_put {W : World} {base g n c size i : Nat} {e : TypeId} {xs : List Value} (h : W.ownsRow base e size (.slice (some ⟨g, 0, none⟩) n c) n xs) (u : Value) : (W.setCell ⟨g, i, none⟩ u).ownsRow base e size (.slice (some ⟨g, 0, none⟩) n c) n (xs.set i u) := by
  refine ⟨by rw [List.length_set]; exact h.1, ?_⟩
  rcases h.2 with ⟨e1, _⟩ | ⟨g', cap, cur, e1, hb, hk, h3, h4, h5, h6⟩
  · cases e1
  · injection e1 with e1 e3 e4
    injection e1 with e1
    injection e1 with e1
    subst e1; subst e4
    have hk2 : Blk W g e cur := hk
    refine .inr ⟨g, c, _, rfl, hb, hk2.set_ i u, h3, h4, by simpa using h5, ?_⟩
    rw [Array.toList_setIfInBounds, List.take_set, h6]
theorem own_first {W : World} {base n2 c2 size : Nat} {e : TypeId} {A2 : Option Addr} {xs ys : List Value} (h : W.ownsRow base e size (.slice A2 n2 c2) n2 (xs ++ ys)) {j : Nat} (hj : j ≤ n2) (hx : xs.length = j * size) : W.ownsRow base e size (.slice A2 j c2) j xs := by
  refine ⟨hx, ?_⟩
  rcases h.2 with ⟨e1, e2⟩ | ⟨g, cap, cur, e1, hb, hk, h3, h4, h5, h6⟩
  · injection e1 with e1 e3 e4
    subst e1; subst e4
    exact .inl ⟨by rw [show j = 0 by omega], by omega⟩
  · injection e1 with e1 e3 e4
    subst e1; subst e4
    refine .inr ⟨g, c2, cur, rfl, hb, hk, by omega, h4, h5, ?_⟩
    have : cur.toList.take (j * size) = (cur.toList.take (n2 * size)).take (j * size) := by
      rw [List.take_take]
      congr 1
      have := Nat.mul_le_mul_right size hj
      omega
    rw [this, h6, ← hx, List.take_left]
section
variable {W : World} {B2 d rc : Nat} {R : Option Addr} {init : List Fr} {f : Fr}
/-- The last frame of a row. -/
theorem fr_at (h : W.ownsRow B2 117 3 (.slice R (d + 1) rc) (d + 1) (cellsF (init ++ [f]))) : init.length = d ∧ ∃ r, R = some ⟨r, 0, none⟩ ∧ d + 1 ≤ rc ∧ rc ≤ 9223372036854775807 ∧ r < W.heap.size ∧ B2 ≤ r ∧
    (∃ cur, Blk W r 117 cur) ∧ W.cell? ⟨r, d * 3, none⟩ = some (.int .i64 (f.p : Int)) ∧ W.cell? ⟨r, d * 3 + 1, none⟩ = some (.int .i64 (f.l : Int)) ∧ W.cell? ⟨r, d * 3 + 2, none⟩ = some (.slice f.A f.left.length f.left.length) ∧ ∀ i, W.frozen? ⟨r, i, none⟩ = false := by
  have hl := h.1
  rw [cellsF_length, List.length_append, List.length_singleton] at hl
  have hd : init.length = d := by omega
  refine ⟨hd, ?_⟩
  rcases h.2 with ⟨_, e2⟩ | ⟨g, cap, cur, e1, hb, hk, h3, h4, h5, h6⟩
  · omega
  · injection e1 with e1 e3 e4
    subst e1; subst e4
    have hk2 : Blk W g 117 cur := hk
    have hcell : ∀ j, j < 3 → W.cell? ⟨g, d * 3 + j, none⟩ = (frCells f)[j]? := fun j hj => by
      rw [hk2.cell]
      have h7 : (cellsF (init ++ [f]))[d * 3 + j]? = (frCells f)[j]? := by
        rw [cellsF_snoc, List.getElem?_append_right (by rw [cellsF_length]; omega), cellsF_length, hd, Nat.add_sub_cancel_left]
      rw [← h6, List.getElem?_take, if_pos (by omega), Array.getElem?_toList] at h7
      exact h7
    exact ⟨g, rfl, h3, h4, hk2.lt, hb, ⟨cur, hk2⟩, hcell 0 (by omega), hcell 1 (by omega), hcell 2 (by omega), fun i => hk2.frozen i⟩
theorem fr_store {r : Nat} (h : W.ownsRow B2 117 3 (.slice (some ⟨r, 0, none⟩) (d + 1) rc) (d + 1) (cellsF (init ++ [f]))) (t : Fr) :
    (((W.setCell ⟨r, d * 3, none⟩ (.int .i64 (t.p : Int))).setCell ⟨r, d * 3 + 1, none⟩ (.int .i64 (t.l : Int))).setCell ⟨r, d * 3 + 2, none⟩ (.slice t.A t.left.length t.left.length)).ownsRow B2 117 3 (.slice (some ⟨r, 0, none⟩) (d + 1) rc) (d + 1) (cellsF (init ++ [t])) := by
  have hd := (fr_at h).1
  have := own_put (own_put (own_put h (i := d * 3) (.int .i64 (t.p : Int))) (i := d * 3 + 1) (.int .i64 (t.l : Int))) (i := d * 3 + 2) (.slice t.A t.left.length t.left.length)
  have hl : (cellsF init).length = d * 3 := by rw [cellsF_length, hd]
  rw [cellsF_snoc, show d * 3 = (cellsF init).length + 0 by omega, set_behind, show (cellsF init).length + 0 + 1 = (cellsF init).length + 1 by omega, set_behind, show (cellsF init).length + 0 + 2 = (cellsF init).length + 2 by omega, set_behind] at this
  rw [cellsF_snoc, ← hl]
  exact this
theorem fr_least {r : Nat} (h : W.ownsRow B2 117 3 (.slice (some ⟨r, 0, none⟩) (d + 1) rc) (d + 1) (cellsF (init ++ [f]))) (l : Nat) :
    (W.setCell ⟨r, d * 3 + 1, none⟩ (.int .i64 (l : Int))).ownsRow B2 117 3 (.slice (some ⟨r, 0, none⟩) (d + 1) rc) (d + 1) (cellsF (init ++ [⟨f.p, l, f.A, f.left⟩])) := by
  have hd := (fr_at h).1
  have := own_put h (i := d * 3 + 1) (.int .i64 (l : Int))
  have hl : (cellsF init).length = d * 3 := by rw [cellsF_length, hd]
  rw [cellsF_snoc, ← hl, set_behind] at this
  rw [cellsF_snoc, ← hl]
  exact this
theorem fr_cut (h : W.ownsRow B2 117 3 (.slice R (d + 1) rc) (d + 1) (cellsF (init ++ [f]))) : W.ownsRow B2 117 3 (.slice R d rc) d (cellsF init) := by
  have hd := (fr_at h).1
  rw [cellsF_snoc] at h
  exact own_first h (by omega) (by rw [cellsF_length, hd])
end
theorem fr_info : (Try.prog.info? 117).map (fun i => (i.zero, i.size, i.bytes)) = some (some (.agg #[.int .i64 0, .int .i64 0, .slice none 0 0]), 3, 40) := by kernel_rfl
theorem fr_elem_size (W : World) : (sizeOf (Try.prog.elem 119)).run Try.prog W = .ok 3 W := by kernel_rfl
theorem fr_slice_h (A : Option Addr) (len cap h : Nat) (hh : h ≤ cap) (W : World) :
    (Instr.slice 119 (.slice A len cap) none (some (.int .i64 (h : Int))) none).run Try.prog W = .ok (.slice A h cap) W := by
  have e0 : Value.slice (if cap = 0 then A else A.map (·.add (0 * 3))) (h - 0) (cap - 0) = .slice A h cap := by
    have : (if cap = 0 then A else A.map (·.add (0 * 3))) = A := by
      split
      · rfl
      · cases A <;> simp [Addr.add]
    rw [this, Nat.sub_zero, Nat.sub_zero]
  rw [run_slice_h W 119 A len cap (show Try.prog.underlying 119 = some (.slice (Try.prog.elem 119)) by kernel_rfl) .i64 h (by omega) (by omega), fr_elem_size]
  exact congrArg (fun v => Result.ok v W) e0
/-- The edges behind the first one. -/
theorem left_tail {A : Option Addr} {e : Ed} {es : List Ed} (hL : es.length + 1 ≤ 1000) : ∃ A2 : Option Addr,
    (∀ W, (Instr.slice 22 (.slice A (es.length + 1) (es.length + 1)) (some (.int .i64 1)) (some (.int .i64 ((es.length + 1 : Nat) : Int))) (some (.int .i64 ((es.length + 1 : Nat) : Int)))).run Try.prog W = .ok (.slice A2 es.length es.length) W) ∧
    ∀ W B, Reads W B 3 A (es.length + 1) (cellsE (e :: es)) → Reads W B 3 A2 es.length (cellsE es) := by
  refine ⟨if es.length + 1 = 1 then A else A.map (·.add (1 * 3)), fun W => ?_, fun W B h => ?_⟩
  · exact pr_slice_lhm A (es.length + 1) (es.length + 1) 1 (es.length + 1) (es.length + 1) 1 _ _ rfl rfl rfl (by omega) (Nat.le_refl _) (Nat.le_refl _) W
  · have := reads_part (l := 1) (h := es.length + 1) h (by omega) (by omega)
    rw [← cellsE_drop, ← cellsE_take] at this
    simpa using this
end Go.Proofs.Ytkebeadaoiiokaa
namespace Go.Proofs.Ytkebeadaoiiokaa
open Go.RowKit

/-- The walk, with what has been told, and whoever is told. -/
structure CoAt (B1 B2 X P : Nat) (A : Option Addr) (n c : Nat) (Sa : Option Addr) (sn sc m : Nat) (zs : List Ed) (w1 : World) (J : List (List Int) → (Nat → Prop) → World → Prop) (C : Nat → Prop) (O : Option Addr) (k oc : Nat) (op pl : List Int) (cs : List (List Int)) (W : World) : Prop where
  walk : WalkAt X P A n c Sa sn sc O k oc B2 m op pl W
  tj : Tj zs m op pl cs
  below : Below B1 w1 W
  cX : ¬ C X
  cP : ¬ C P
  cO : ∀ g, (Value.slice O k oc).ownBlock = some g → ¬ C g
  cC : ∀ j, C j → B1 ≤ j ∧ j < W.heap.size
  j : J cs C W
  size : B2 ≤ W.heap.size
  lo : B1 ≤ B2
/-- .. and the frames: ms as they lie, fs as they stand, the last one ahead. -/
structure ThAt (B1 B2 X P : Nat) (A : Option Addr) (n c : Nat) (Sa : Option Addr) (sn sc m : Nat) (zs : List Ed) (w1 : World) (J : List (List Int) → (Nat → Prop) → World → Prop) (pl0 : List Int) (C : Nat → Prop) (O : Option Addr) (k oc : Nat) (op pl : List Int) (cs : List (List Int)) (R : Option Addr) (rn rc : Nat) (ms fs : List Fr) (W : World) : Prop where
  co : CoAt B1 B2 X P A n c Sa sn sc m zs w1 J C O k oc op pl cs W
  row : W.ownsRow B2 117 3 (.slice R rn rc) rn (cellsF ms)
  reads : ∀ f ∈ fs, Reads W B1 3 f.A f.left.length (cellsE f.left) ∧ f.left.length ≤ 1000
  far : Far zs op pl k fs
  cR : ∀ g, (Value.slice R rn rc).ownBlock = some g → ¬ C g
  met : ∀ (u : Nat) (q : Int), pl0[u]? = some q → q ≠ -1 → ∃ q', pl[u]? = some q' ∧ q' ≠ -1
/-- The frame at hand. -/
structure TopAt (B2 T : Nat) (R : Option Addr) (rn rc : Nat) (C : Nat → Prop) (f : Fr) (W : World) : Prop where
  blk : Blk W T 117 #[.int .i64 (f.p : Int), .int .i64 (f.l : Int), .slice f.A f.left.length f.left.length]
  nC : ¬ C T
  nR : (Value.slice R rn rc).ownBlock ≠ some T
  lo : B2 ≤ T
section
variable {B1 B2 X P : Nat} {A : Option Addr} {n c : Nat} {Sa : Option Addr} {sn sc m : Nat} {zs : List Ed} {w1 : World} {J : List (List Int) → (Nat → Prop) → World → Prop} {C : Nat → Prop} {O : Option Addr} {k oc : Nat} {op pl pl0 : List Int} {cs : List (List Int)} {W W' : World}
variable {R : Option Addr} {rn rc : Nat} {ms fs : List Fr}
theorem CoAt.keep (h : CoAt B1 B2 X P A n c Sa sn sc m zs w1 J C O k oc op pl cs W) (hJ : ∀ cs C X Y, J cs C X → Keep (fun j => j < B2 ∨ C j) X Y → J cs C Y)
    (hk : Keep (fun j => j < B2 ∨ C j ∨ j = X ∨ j = P ∨ (Value.slice O k oc).ownBlock = some j) W W') : CoAt B1 B2 X P A n c Sa sn sc m zs w1 J C O k oc op pl cs W' :=
  ⟨h.walk.keep hk (.inr (.inr (.inl rfl))) (.inr (.inr (.inr (.inl rfl)))) (fun _ hg => .inr (.inr (.inr (.inr hg)))), h.tj, h.below.trans (hk.below (Nat.le_trans h.lo h.size) fun _ hj => .inl (Nat.lt_of_lt_of_le hj h.lo)), h.cX, h.cP, h.cO,
    fun j hj => ⟨(h.cC j hj).1, Nat.lt_of_lt_of_le (h.cC j hj).2 hk.size⟩, hJ _ _ _ _ h.j (hk.mono fun _ _ hj => hj.elim .inl fun h => .inr (.inl h)), Nat.le_trans h.size hk.size, h.lo⟩
theorem ThAt.keep (h : ThAt B1 B2 X P A n c Sa sn sc m zs w1 J pl0 C O k oc op pl cs R rn rc ms fs W) (hJ : ∀ cs C X Y, J cs C X → Keep (fun j => j < B2 ∨ C j) X Y → J cs C Y)
    (hk : Keep (fun j => j < B2 ∨ C j ∨ j = X ∨ j = P ∨ (Value.slice O k oc).ownBlock = some j ∨ (Value.slice R rn rc).ownBlock = some j) W W') : ThAt B1 B2 X P A n c Sa sn sc m zs w1 J pl0 C O k oc op pl cs R rn rc ms fs W' :=
  ⟨h.co.keep hJ (hk.mono fun j _ hj => by rcases hj with hj | hj | hj | hj | hj <;> simp [hj]), hk.own h.row fun _ hg => .inr (.inr (.inr (.inr (.inr hg)))),
    fun f hf => ⟨hk.reads (h.reads f hf).1 (Nat.le_trans h.co.lo h.co.size) fun _ hj => .inl (Nat.lt_of_lt_of_le hj h.co.lo), (h.reads f hf).2⟩, h.far, h.cR, h.met⟩
theorem ThAt.all (h : ThAt B1 B2 X P A n c Sa sn sc m zs w1 J pl0 C O k oc op pl cs R rn rc ms fs W) (hJ : ∀ cs C X Y, J cs C X → Keep (fun j => j < B2 ∨ C j) X Y → J cs C Y)
    (hk : Below W.heap.size W W') : ThAt B1 B2 X P A n c Sa sn sc m zs w1 J pl0 C O k oc op pl cs R rn rc ms fs W' := h.keep hJ (Keep.of_all _ hk)
/-- The frame at hand is written. -/
theorem ThAt.top {T : Nat} {f : Fr} (h : ThAt B1 B2 X P A n c Sa sn sc m zs w1 J pl0 C O k oc op pl cs R rn rc ms fs W) (hJ : ∀ cs C X Y, J cs C X → Keep (fun j => j < B2 ∨ C j) X Y → J cs C Y)
    (ht : TopAt B2 T R rn rc C f W) (i : Nat) (u : Value) : ThAt B1 B2 X P A n c Sa sn sc m zs w1 J pl0 C O k oc op pl cs R rn rc ms fs (W.setCell ⟨T, i, none⟩ u) := by
  refine h.keep hJ ((Keep.refl _ W).set (.inr fun hs => ?_) i u)
  rcases hs with hs | hs | hs | hs | hs | hs
  · have := ht.lo; omega
  · exact ht.nC hs
  · have := h.co.walk.blk
    rw [← hs] at this
    exact Blk.ne_ this ht.blk (by decide) rfl
  · have := h.co.walk.pl
    rw [← hs] at this
    exact Blk.ne_ this ht.blk (by decide) rfl
  · exact own_blk_ne h.co.walk.op ht.blk (by decide) hs
  · exact ht.nR hs
theorem TopAt.all {T : Nat} {f : Fr} (ht : TopAt B2 T R rn rc C f W) (hk : Below W.heap.size W W') : TopAt B2 T R rn rc C f W' := ⟨ht.blk.below hk ht.blk.lt, ht.nC, ht.nR, ht.lo⟩
theorem TopAt.left_ {T : Nat} {f : Fr} (ht : TopAt B2 T R rn rc C f W) (A2 : Option Addr) (es : List Ed) : TopAt B2 T R rn rc C ⟨f.p, f.l, A2, es⟩ (W.setCell ⟨T, 2, none⟩ (.slice A2 es.length es.length)) :=
  ⟨by have := ht.blk.set_ 2 (.slice A2 es.length es.length); simpa using this, ht.nC, ht.nR, ht.lo⟩
theorem TopAt.least {T : Nat} {f : Fr} (ht : TopAt B2 T R rn rc C f W) (l : Nat) : TopAt B2 T R rn rc C ⟨f.p, l, f.A, f.left⟩ (W.setCell ⟨T, 1, none⟩ (.int .i64 (l : Int))) :=
  ⟨by have := ht.blk.set_ 1 (.int .i64 (l : Int)); simpa using this, ht.nC, ht.nR, ht.lo⟩
/-- A node is met. -/
theorem CoAt.opened {v : Nat} (h : CoAt B1 B2 X P A n c Sa sn sc m zs w1 J C O k oc op pl cs W) (hJ : ∀ cs C X Y, J cs C X → Keep (fun j => j < B2 ∨ C j) X Y → J cs C Y) (hv : pl[v]? = some (-1)) {O' : Option Addr} {oc' : Nat}
    (hw : WalkAt X P A n c Sa sn sc O' (k + 1) oc' B2 m (op ++ [(v : Int)]) (pl.set v (k : Int)) W') (hat : (Value.slice O' (k + 1) oc').ownBlock = (Value.slice O k oc).ownBlock ∨ ∃ N, (Value.slice O' (k + 1) oc').ownBlock = some N ∧ W.heap.size ≤ N)
    (hk : Keep (fun j => j ≠ X ∧ j ≠ P ∧ (Value.slice O k oc).ownBlock ≠ some j) W W') : CoAt B1 B2 X P A n c Sa sn sc m zs w1 J C O' (k + 1) oc' (op ++ [(v : Int)]) (pl.set v (k : Int)) cs W' := by
  have hlen := h.walk.len
  have hS : ∀ j, j < B2 ∨ C j → j ≠ X ∧ j ≠ P ∧ (Value.slice O k oc).ownBlock ≠ some j := fun j hj => by
    rcases hj with hj | hj
    · exact ⟨by have := h.walk.lo.1; omega, by have := h.walk.lo.2; omega, fun e => by have := (own_in h.walk.op e).1; omega⟩
    · exact ⟨fun e => h.cX (e ▸ hj), fun e => h.cP (e ▸ hj), fun e => h.cO _ e hj⟩
  have htj := h.tj.open_ (v := (v : Int)) (by omega) (by simpa using hv)
  rw [hlen, Int.toNat_natCast] at htj
  refine ⟨hw, htj, h.below.trans (hk.below (Nat.le_trans h.lo h.size) fun j hj => hS j (.inl (Nat.lt_of_lt_of_le hj h.lo))), h.cX, h.cP, fun g hg => ?_, fun j hj => ⟨(h.cC j hj).1, Nat.lt_of_lt_of_le (h.cC j hj).2 hk.size⟩, hJ _ _ _ _ h.j (hk.mono fun j _ hj => hS j hj), Nat.le_trans h.size hk.size, h.lo⟩
  rcases hat with e | ⟨N, e, hN⟩
  · exact h.cO g (e ▸ hg)
  · rw [e] at hg
    injection hg with hg
    subst hg
    intro hc
    have := (h.cC _ hc).2
    omega
/-- The frames are not touched by that. -/
theorem ThAt.rowKept (h : ThAt B1 B2 X P A n c Sa sn sc m zs w1 J pl0 C O k oc op pl cs R rn rc ms fs W) (hk : Keep (fun j => j ≠ X ∧ j ≠ P ∧ (Value.slice O k oc).ownBlock ≠ some j) W W') : W'.ownsRow B2 117 3 (.slice R rn rc) rn (cellsF ms) :=
  hk.own h.row fun g hg => by
    obtain ⟨_, _, cur, hb⟩ := own_in h.row hg
    exact ⟨Blk.ne_ hb h.co.walk.blk (by decide), Blk.ne_ hb h.co.walk.pl (by decide), own_blk_ne h.co.walk.op hb (by decide)⟩
/-- A frame more. -/
theorem ThAt.push {v : Nat} {O' R' : Option Addr} {oc' rn' rc' : Nat} {ms' : List Fr} (h : ThAt B1 B2 X P A n c Sa sn sc m zs w1 J pl0 C O k oc op pl cs R rn rc ms fs W) (hv : pl[v]? = some (-1)) (hj : ∀ g ∈ fs.head?, ∀ x, op[g.p]? = some x → Comes zs x (v : Int))
    (hco : CoAt B1 B2 X P A n c Sa sn sc m zs w1 J C O' (k + 1) oc' (op ++ [(v : Int)]) (pl.set v (k : Int)) cs W') (hb : Below B1 W W') (hrd : Reads W' B1 3 (CutAt zs (v : Int) A) (outE zs (v : Int)).length (cellsE (outE zs (v : Int))) ∧ (outE zs (v : Int)).length ≤ 1000)
    (hrow : W'.ownsRow B2 117 3 (.slice R' rn' rc') rn' (cellsF ms')) (hcR : ∀ g, (Value.slice R' rn' rc').ownBlock = some g → ¬ C g) :
    ThAt B1 B2 X P A n c Sa sn sc m zs w1 J pl0 C O' (k + 1) oc' (op ++ [(v : Int)]) (pl.set v (k : Int)) cs R' rn' rc' ms' (⟨k, k, CutAt zs (v : Int) A, outE zs (v : Int)⟩ :: fs) W' := by
  have hlen := h.co.walk.len
  have hfar := Far.push (A := CutAt zs (v : Int) A) (es := outE zs (v : Int)) h.co.tj (by rw [hlen]; exact h.far) (v := (v : Int)) (by simpa using hv) (fun e => by unfold outE; rw [List.mem_filter]; simp) hj
  rw [hlen, Int.toNat_natCast] at hfar
  refine ⟨hco, hrow, fun f hf => ?_, hfar, hcR, fun u q hu hq => ?_⟩
  · rcases List.mem_cons.1 hf with rfl | hf
    · exact hrd
    · exact ⟨(h.reads f hf).1.below hb, (h.reads f hf).2⟩
  · obtain ⟨q', h1, h2⟩ := h.met u q hu hq
    have hlt := (List.getElem?_eq_some_iff.1 hv).1
    rw [get_set hlt]
    split
    · exact ⟨_, rfl, by omega⟩
    · exact ⟨q', h1, h2⟩
/-- Nothing is open. -/
theorem ThAt.start (h : CoAt B1 B2 X P A n c Sa sn sc m zs w1 J C O 0 oc [] pl cs W) : ThAt B1 B2 X P A n c Sa sn sc m zs w1 J pl C O 0 oc [] pl cs none 0 0 [] [] W :=
  ⟨h, World.ownsRow_nil _ _ _ _, (fun f hf => by simp at hf), rfl, (fun g hg => by cases hg), fun _ q h1 h2 => ⟨q, h1, h2⟩⟩
theorem own_new_fr {base : Nat} {W : World} {t : TypeId} (hb : base ≤ W.heap.size) (f : Fr) : (W.alloc (.cells #[.int .i64 (f.p : Int), .int .i64 (f.l : Int), .slice f.A f.left.length f.left.length] t)).ownsRow base t 3 (.slice (some ⟨W.heap.size, 0, none⟩) 1 1) 1 (cellsF [f]) := by
  refine ⟨by simp [cellsF, frCells], .inr ⟨W.heap.size, 1, _, rfl, hb, heap_alloc_new W _, Nat.le_refl _, by unfold maxLen; omega, rfl, ?_⟩⟩
  simp [cellsF, frCells]
/-- A cell of the frames' row is written. -/
theorem ThAt.rowSet {r : Nat} (h : ThAt B1 B2 X P A n c Sa sn sc m zs w1 J pl0 C O k oc op pl cs (some ⟨r, 0, none⟩) rn rc ms fs W) (hJ : ∀ cs C X Y, J cs C X → Keep (fun j => j < B2 ∨ C j) X Y → J cs C Y) (i : Nat) (u : Value) {ms' : List Fr}
    (hrow : (W.setCell ⟨r, i, none⟩ u).ownsRow B2 117 3 (.slice (some ⟨r, 0, none⟩) rn rc) rn (cellsF ms')) : ThAt B1 B2 X P A n c Sa sn sc m zs w1 J pl0 C O k oc op pl cs (some ⟨r, 0, none⟩) rn rc ms' fs (W.setCell ⟨r, i, none⟩ u) := by
  have ho : (Value.slice (some ⟨r, 0, none⟩) rn rc).ownBlock = some r := rfl
  obtain ⟨hb, _, cur, hk⟩ := own_in h.row ho
  have hn : ¬ (r < B2 ∨ C r ∨ r = X ∨ r = P ∨ (Value.slice O k oc).ownBlock = some r) := fun hs => by
    rcases hs with hs | hs | hs | hs | hs
    · omega
    · exact h.cR _ ho hs
    · exact Blk.ne_ hk h.co.walk.blk (by decide) hs
    · exact Blk.ne_ hk h.co.walk.pl (by decide) hs
    · exact own_blk_ne h.co.walk.op hk (by decide) hs
  have hco := h.co.keep hJ ((Keep.refl _ W).set (.inr hn) i u)
  exact ⟨hco, hrow, fun f hf => ⟨(h.reads f hf).1.setCell (p := ⟨r, i, none⟩) (Nat.le_trans h.co.lo hb) u, (h.reads f hf).2⟩, h.far, h.cR, h.met⟩
theorem own_same {base size n2 : Nat} {e : TypeId} {v : Value} {xs ys : List Value} {W : World} (h : W.ownsRow base e size v n2 xs) (he : xs = ys) : W.ownsRow base e size v n2 ys := he ▸ h
/-- The frame at hand is put back. -/
theorem ThAt.stored {r d : Nat} {init : List Fr} {f : Fr} (h : ThAt B1 B2 X P A n c Sa sn sc m zs w1 J pl0 C O k oc op pl cs (some ⟨r, 0, none⟩) (d + 1) rc (init ++ [f]) fs W) (hJ : ∀ cs C X Y, J cs C X → Keep (fun j => j < B2 ∨ C j) X Y → J cs C Y) (t : Fr) :
    ThAt B1 B2 X P A n c Sa sn sc m zs w1 J pl0 C O k oc op pl cs (some ⟨r, 0, none⟩) (d + 1) rc (init ++ [t]) fs (((W.setCell ⟨r, d * 3, none⟩ (.int .i64 (t.p : Int))).setCell ⟨r, d * 3 + 1, none⟩ (.int .i64 (t.l : Int))).setCell ⟨r, d * 3 + 2, none⟩ (.slice t.A t.left.length t.left.length)) := by
  have hd := (fr_at h.row).1
  have hl : (cellsF init).length = d * 3 := by rw [cellsF_length, hd]
  have e1 : (cellsF (init ++ [f])).set (d * 3) (.int .i64 (t.p : Int)) = cellsF (init ++ [⟨t.p, f.l, f.A, f.left⟩]) := by
    rw [cellsF_snoc, cellsF_snoc, show d * 3 = (cellsF init).length + 0 by omega, set_behind]; rfl
  have h1 := h.rowSet hJ (d * 3) (.int .i64 (t.p : Int)) (own_same (own_put h.row _) e1)
  have h2 := h1.rowSet hJ (d * 3 + 1) (.int .i64 (t.l : Int)) (fr_least h1.row t.l)
  have e3 : (cellsF (init ++ [⟨t.p, t.l, f.A, f.left⟩])).set (d * 3 + 2) (.slice t.A t.left.length t.left.length) = cellsF (init ++ [t]) := by
    rw [cellsF_snoc, cellsF_snoc, ← hl, set_behind]; rfl
  exact h2.rowSet hJ (d * 3 + 2) _ (own_same (own_put h2.row _) e3)
/-- The row is cut by its last frame. -/
theorem ThAt.cut {d : Nat} {init : List Fr} {f : Fr} (h : ThAt B1 B2 X P A n c Sa sn sc m zs w1 J pl0 C O k oc op pl cs R (d + 1) rc (init ++ [f]) fs W) : ThAt B1 B2 X P A n c Sa sn sc m zs w1 J pl0 C O k oc op pl cs R d rc init fs W :=
  ⟨h.co, fr_cut h.row, h.reads, h.far, fun g hg => h.cR g (by cases R <;> exact hg), h.met⟩
/-- The last frame's least place is written. -/
theorem ThAt.lessened {r d : Nat} {init : List Fr} {f : Fr} (h : ThAt B1 B2 X P A n c Sa sn sc m zs w1 J pl0 C O k oc op pl cs (some ⟨r, 0, none⟩) (d + 1) rc (init ++ [f]) fs W) (hJ : ∀ cs C X Y, J cs C X → Keep (fun j => j < B2 ∨ C j) X Y → J cs C Y) (l : Nat) :
    ThAt B1 B2 X P A n c Sa sn sc m zs w1 J pl0 C O k oc op pl cs (some ⟨r, 0, none⟩) (d + 1) rc (init ++ [⟨f.p, l, f.A, f.left⟩]) fs (W.setCell ⟨r, d * 3 + 1, none⟩ (.int .i64 (l : Int))) :=
  h.rowSet hJ _ _ (fr_least h.row l)
/-- The frame at hand is another block. -/
theorem TopAt.far_ {T r : Nat} {f : Fr} (ht : TopAt B2 T (some ⟨r, 0, none⟩) rn rc C f W) (i : Nat) (u : Value) : TopAt B2 T (some ⟨r, 0, none⟩) rn rc C f (W.setCell ⟨r, i, none⟩ u) :=
  ⟨ht.blk.far (p := ⟨r, i, none⟩) (fun e => ht.nR (by rw [e]; rfl)) u, ht.nC, ht.nR, ht.lo⟩
/-- The frames stand otherwise. -/
theorem ThAt.turn {fs' : List Fr} (h : ThAt B1 B2 X P A n c Sa sn sc m zs w1 J pl0 C O k oc op pl cs R rn rc ms fs W) (hf : Far zs op pl k fs') (hr : ∀ f ∈ fs', Reads W B1 3 f.A f.left.length (cellsE f.left) ∧ f.left.length ≤ 1000) : ThAt B1 B2 X P A n c Sa sn sc m zs w1 J pl0 C O k oc op pl cs R rn rc ms fs' W :=
  ⟨h.co, h.row, hr, hf, h.cR, h.met⟩
/-- An edge to a node that was met. -/
theorem ThAt.step {t : Fr} {e : Ed} {es : List Ed} {rest : List Fr} {q : Int} {A2 : Option Addr} (h : ThAt B1 B2 X P A n c Sa sn sc m zs w1 J pl0 C O k oc op pl cs R rn rc ms (t :: rest) W) (hl : t.left = e :: es) (hq : pl[e.2.1.toNat]? = some q) (hq1 : q ≠ -1) (he0 : 0 ≤ e.2.1)
    (hrd : Reads W B1 3 A2 es.length (cellsE es)) : 0 ≤ q ∧ ThAt B1 B2 X P A n c Sa sn sc m zs w1 J pl0 C O k oc op pl cs R rn rc ms (⟨t.p, min t.l q.toNat, A2, es⟩ :: rest) W := by
  have hlen := h.co.walk.len
  have hf := h.far
  rw [← hlen] at hf
  obtain ⟨h1, h2⟩ := Far.step h.co.tj hf hl hq hq1 he0 A2
  rw [hlen] at h2
  refine ⟨h1, h.turn h2 fun f hf => ?_⟩
  rcases List.mem_cons.1 hf with rfl | hf
  · have := (h.reads t (.head _)).2
    rw [hl, List.length_cons] at this
    exact ⟨hrd, by show es.length ≤ 1000; omega⟩
  · exact h.reads f (.tail _ hf)
theorem Far.second {zs : List Ed} {op pl : List Int} {b : Nat} {f t : Fr} {rest : List Fr} {e : Ed} {es : List Ed} {q : Int} {A2 : Option Addr} (h : Far zs op pl b (f :: t :: rest)) (hl : t.left = e :: es) (hq : pl[e.2.1.toNat]? = some q) (hq1 : (t.l : Int) ≤ q) :
    Far zs op pl b (f :: ⟨t.p, t.l, A2, es⟩ :: rest) := by
  obtain ⟨h1, h2, h3, h4, h5, h6, h7⟩ := h
  refine ⟨h1, h2, fun g hg => ?_, h4, ⟨h5.low, fun a ha => h5.outs a (by rw [hl]; exact .tail _ ha), h5.both, h5.back, fun j x a k1 k2 k3 k4 k5 k6 => ?_⟩, h6, h7⟩
  · simp at hg
    subst hg
    exact h3 t rfl
  · by_cases hae : a = e
    · subst hae
      exact ⟨q, hq, hq1⟩
    · exact h5.gone j x a k1 k2 k3 k4 k5 fun e2 hm => by
        rw [hl] at hm
        rcases List.mem_cons.1 hm with hm | hm
        · exact hae hm
        · exact k6 e2 hm
/-- An edge to a node that was not met: its frame. -/
theorem ThAt.onward {t : Fr} {e : Ed} {es : List Ed} {rest : List Fr} {u : Nat} {A2 O' R' : Option Addr} {oc' rn' rc' : Nat} {ms' : List Fr} (h : ThAt B1 B2 X P A n c Sa sn sc m zs w1 J pl0 C O k oc op pl cs R rn rc ms (t :: rest) W) (hl : t.left = e :: es) (hu : e.2.1 = (u : Int)) (hv : pl[u]? = some (-1))
    (hco : CoAt B1 B2 X P A n c Sa sn sc m zs w1 J C O' (k + 1) oc' (op ++ [(u : Int)]) (pl.set u (k : Int)) cs W') (hb : Below B1 W W') (hrd : Reads W' B1 3 (CutAt zs (u : Int) A) (outE zs (u : Int)).length (cellsE (outE zs (u : Int))) ∧ (outE zs (u : Int)).length ≤ 1000)
    (hrd2 : Reads W B1 3 A2 es.length (cellsE es)) (hrow : W'.ownsRow B2 117 3 (.slice R' rn' rc') rn' (cellsF ms')) (hcR : ∀ g, (Value.slice R' rn' rc').ownBlock = some g → ¬ C g) :
    ThAt B1 B2 X P A n c Sa sn sc m zs w1 J pl0 C O' (k + 1) oc' (op ++ [(u : Int)]) (pl.set u (k : Int)) cs R' rn' rc' ms' (⟨k, k, CutAt zs (u : Int) A, outE zs (u : Int)⟩ :: ⟨t.p, t.l, A2, es⟩ :: rest) W' := by
  obtain ⟨f1, f2, f3, f4⟩ := h.far
  have hlow := f2.low
  have hp := h.push hv (fun g hg x hx => by
    simp at hg
    subst hg
    obtain ⟨z1, z2⟩ := f2.outs e (by rw [hl]; exact .head _)
    rw [← z2 x hx, ← hu]
    exact .edge z1) hco hb hrd hrow hcR
  refine hp.turn (Far.second hp.far hl (q := (k : Int)) ?_ (by omega)) fun f hf => ?_
  · have hlt := (List.getElem?_eq_some_iff.1 hv).1
    rw [hu, Int.toNat_natCast, get_set hlt, if_pos rfl]
  · rcases List.mem_cons.1 hf with rfl | hf
    · exact hrd
    · rcases List.mem_cons.1 hf with rfl | hf
      · have := (h.reads t (.head _)).2
        rw [hl, List.length_cons] at this
        exact ⟨hrd2.below hb, by show es.length ≤ 1000; omega⟩
      · exact ⟨((h.reads f (.tail _ hf)).1).below hb, (h.reads f (.tail _ hf)).2⟩
end
end Go.Proofs.Ytkebeadaoiiokaa
namespace Go.Proofs.Ytkebeadaoiiokaa
open Go.RowKit

section
variable {B1 B2 X P : Nat} {A : Option Addr} {n c : Nat} {Sa : Option Addr} {sn sc m : Nat} {zs : List Ed} {w1 : World} {J : List (List Int) → (Nat → Prop) → World → Prop} {C : Nat → Prop} {O : Option Addr} {k oc : Nat} {op pl pl0 : List Int} {cs : List (List Int)} {W : World}
variable {R : Option Addr} {rn rc : Nat} {ms fs : List Fr}
/-- A node is met, and its frame is appended. -/
theorem ThAt.pushed {r d u : Nat} {t : Fr} {rest : List Fr} {e : Ed} {es : List Ed} {A2 O' R5 : Option Addr} {oc' c5 N : Nat} {w4 w5 : World} {o : Obj}
    (h : ThAt B1 B2 X P A n c Sa sn sc m zs w1 J pl0 C O k oc op pl cs (some ⟨r, 0, none⟩) (d + 1) rc (rest.reverse ++ [⟨t.p, t.l, A2, es⟩]) (t :: rest) W)
    (hJ : ∀ cs C X Y, J cs C X → Keep (fun j => j < B2 ∨ C j) X Y → J cs C Y) (hl : t.left = e :: es) (hu : e.2.1 = (u : Int)) (hv : pl[u]? = some (-1))
    (hw : WalkAt X P A n c Sa sn sc O' (k + 1) oc' B2 m (op ++ [(u : Int)]) (pl.set u (k : Int)) w4) (hat : (Value.slice O' (k + 1) oc').ownBlock = (Value.slice O k oc).ownBlock ∨ ∃ N, (Value.slice O' (k + 1) oc').ownBlock = some N ∧ W.heap.size ≤ N)
    (hk : Keep (fun j => j ≠ X ∧ j ≠ P ∧ (Value.slice O k oc).ownBlock ≠ some j) W w4)
    (hown : w5.ownsRow B2 117 3 (.slice R5 (d + 1 + 1) c5) (d + 1 + 1) (cellsF (rest.reverse ++ [⟨t.p, t.l, A2, es⟩]) ++ frCells ⟨k, k, CutAt zs (u : Int) A, outE zs (u : Int)⟩))
    (hgrow : (w4.alloc o).grownBy w5 (some r)) (hat5 : (Value.slice R5 (d + 1 + 1) c5).ownBlock = some r ∨ (Value.slice R5 (d + 1 + 1) c5).ownBlock = some N) (hN : w4.heap.size ≤ N)
    (HRD : ∀ (W : World) (v : Int), Below B1 w1 W → Reads W B1 3 (CutAt zs v A) (outE zs v).length (cellsE (outE zs v)) ∧ (outE zs v).length ≤ 1000)
    (hrd2 : Reads W B1 3 A2 es.length (cellsE es)) :
    ThAt B1 B2 X P A n c Sa sn sc m zs w1 J pl0 C O' (k + 1) oc' (op ++ [(u : Int)]) (pl.set u (k : Int)) cs R5 (d + 1 + 1) c5 (⟨k, k, CutAt zs (u : Int) A, outE zs (u : Int)⟩ :: ⟨t.p, t.l, A2, es⟩ :: rest).reverse (⟨k, k, CutAt zs (u : Int) A, outE zs (u : Int)⟩ :: ⟨t.p, t.l, A2, es⟩ :: rest) w5 := by
  have hco := h.co.opened hJ hv hw hat hk
  have hrow4 := h.rowKept hk
  have hro : (Value.slice (some ⟨r, 0, none⟩) (d + 1) rc).ownBlock = some r := rfl
  obtain ⟨hb, _, cur, hbk⟩ := own_in hrow4 hro
  have hk5 : Keep (fun j => j ≠ r) w4 w5 := ((Keep.refl _ w4).alloc o).grown hgrow (fun g hg => by injection hg with hg; exact .inr fun hS => hS hg.symm)
  have hco5 := hco.keep hJ (hk5.mono fun j _ hj e => by
    subst e
    rcases hj with hj | hj | hj | hj | hj
    · omega
    · exact h.cR _ hro hj
    · exact Blk.ne_ hbk hco.walk.blk (by decide) hj
    · exact Blk.ne_ hbk hco.walk.pl (by decide) hj
    · exact own_blk_ne hco.walk.op hbk (by decide) hj)
  have hb4 : Below B1 W w4 := hk.below (Nat.le_trans h.co.lo h.co.size) fun j hj => by
    have := h.co.lo
    exact ⟨by have := h.co.walk.lo.1; omega, by have := h.co.walk.lo.2; omega, fun e => by have := (own_in h.co.walk.op e).1; omega⟩
  have hb5 : Below B1 w4 w5 := hk5.below (Nat.le_trans hco.lo hco.size) fun j hj => by have := h.co.lo; omega
  have hrow5 : w5.ownsRow B2 117 3 (.slice R5 (d + 1 + 1) c5) (d + 1 + 1) (cellsF (⟨k, k, CutAt zs (u : Int) A, outE zs (u : Int)⟩ :: ⟨t.p, t.l, A2, es⟩ :: rest).reverse) := own_same hown (by rw [← cellsF_snoc]; simp)
  refine h.onward hl hu hv hco5 (hb4.trans hb5) (HRD _ _ hco5.below) hrd2 hrow5 ?_
  intro g hg hc
  rcases hat5 with e5 | e5
  · rw [e5] at hg
    injection hg with hg
    subst hg
    exact h.cR _ hro hc
  · rw [e5] at hg
    injection hg with hg
    subst hg
    have := (hco.cC _ hc).2
    omega
/-- The last frame is done, and its node came to one ahead. -/
theorem ThAt.merged {t g : Fr} {rest : List Fr} (h : ThAt B1 B2 X P A n c Sa sn sc m zs w1 J pl0 C O k oc op pl cs R rn rc ms (t :: g :: rest) W) (hl : t.left = []) (hlt : t.l < t.p) :
    ThAt B1 B2 X P A n c Sa sn sc m zs w1 J pl0 C O k oc op pl cs R rn rc ms (⟨g.p, min g.l t.l, g.A, g.left⟩ :: rest) W := by
  have hlen := h.co.walk.len
  have hf := h.far
  rw [← hlen] at hf
  have h2 := Far.merge hf hl hlt
  rw [hlen] at h2
  refine h.turn h2 fun f hf => ?_
  rcases List.mem_cons.1 hf with rfl | hf
  · exact h.reads g (.tail _ (.head _))
  · exact h.reads f (.tail _ (.tail _ hf))
theorem Far.least_alone {zs : List Ed} {op pl : List Int} {b : Nat} {t : Fr} (h : Far zs op pl b [t]) : t.p = 0 ∧ t.l = t.p := by
  obtain ⟨_, h2, _, h4⟩ := h
  have h4 : t.p = 0 := h4
  have := h2.low
  omega
theorem Far.least_kept {zs : List Ed} {op pl : List Int} {b : Nat} {t g : Fr} {rest : List Fr} (h : Far zs op pl b (t :: g :: rest)) (he : t.l = t.p) : min g.l t.l = g.l := by
  obtain ⟨_, _, _, h4, h5, _⟩ := h
  have := h5.low
  omega
/-- The last frame is done, and its node is the first one met of its component, which is told. -/
theorem ThAt.told {t : Fr} {rest : List Fr} {g : Nat} {W2 : World} (h : ThAt B1 B2 X P A n c Sa sn sc m zs w1 J pl0 C (some ⟨g, 0, none⟩) k oc op pl cs R rn rc ms (t :: rest) W)
    (hJ : ∀ cs C X Y, J cs C X → Keep (fun j => j < B2 ∨ C j) X Y → J cs C Y) (hz : ∀ e ∈ zs, 0 ≤ e.1 ∧ 0 ≤ e.2.1 ∧ e.2.1 < (m : Int)) (hl : t.left = []) (he : t.l = t.p)
    (hw : WalkAt X P A n c Sa sn sc (some ⟨g, 0, none⟩) t.p oc B2 m (op.take t.p) (putE pl 300 (op.drop t.p)) W2) (hk : Keep (fun j => j ≠ X ∧ j ≠ P) W W2) :
    J cs C W2 ∧ PartsIn zs m (cs ++ [op.drop t.p]) ∧ ¬ C g ∧ (∀ j, C j → B1 ≤ j ∧ j < W2.heap.size) ∧ B2 ≤ W2.heap.size ∧ (putE pl 300 (op.drop t.p)).count (-1) ≤ pl.count (-1) ∧
    ∀ (C' : Nat → Prop) (W3 : World), (∀ j, C' j → j < W3.heap.size ∧ (C j ∨ W2.heap.size ≤ j)) → Keep (fun j => ¬ C j) W2 W3 → J (cs ++ [op.drop t.p]) C' W3 →
      ThAt B1 B2 X P A n c Sa sn sc m zs w1 J pl0 C' (some ⟨g, 0, none⟩) t.p oc (op.take t.p) (putE pl 300 (op.drop t.p)) (cs ++ [op.drop t.p]) R rn rc ms rest W3 := by
  have hlen := h.co.walk.len
  have hf := h.far
  rw [← hlen] at hf
  obtain ⟨htj, hfar, _⟩ := Far.close h.co.tj hz hf hl he
  have hgo : (Value.slice (some ⟨g, 0, none⟩) k oc).ownBlock = some g := rfl
  have hS : ∀ j, j < B2 ∨ C j → j ≠ X ∧ j ≠ P := fun j hj => by
    rcases hj with hj | hj
    · exact ⟨by have := h.co.walk.lo.1; omega, by have := h.co.walk.lo.2; omega⟩
    · exact ⟨fun e => h.co.cX (e ▸ hj), fun e => h.co.cP (e ▸ hj)⟩
  have hs2 : W.heap.size ≤ W2.heap.size := hk.size
  have hj2 : J cs C W2 := hJ _ _ _ _ h.co.j (hk.mono fun j _ hj => hS j hj)
  refine ⟨hj2, htj.parts, h.co.cO g hgo, fun j hj => ⟨(h.co.cC j hj).1, Nat.lt_of_lt_of_le (h.co.cC j hj).2 hs2⟩, Nat.le_trans h.co.size hs2, putE_count 300 (by omega) _ _, fun C' W3 hC' hk3 hj3 => ?_⟩
  have hn : ∀ j, ¬ C j → j < W2.heap.size → ¬ C' j := fun j h1 h2 h3 => by
    rcases (hC' j h3).2 with h4 | h4
    · exact h1 h4
    · omega
  have hg2 : g < W2.heap.size := by have := (own_in h.co.walk.op hgo).2.1; omega
  have hX2 : X < W2.heap.size := by have := h.co.walk.blk.lt; omega
  have hP2 : P < W2.heap.size := by have := h.co.walk.pl.lt; omega
  have hb2 : Below B1 W W2 := hk.below (Nat.le_trans h.co.lo h.co.size) fun j hj => hS j (.inl (Nat.lt_of_lt_of_le hj h.co.lo))
  have hb3 : Below B1 W2 W3 := hk3.below (by have := h.co.lo; have := h.co.size; omega) fun j hj hc => by have := (h.co.cC j hc).1; omega
  have hw3 := hw.keep hk3 h.co.cX h.co.cP (fun g' hg' => by injection hg' with hg'; subst hg'; exact h.co.cO _ hgo)
  have hrow2 := hk.own h.row fun g' hg' => by
    obtain ⟨_, _, cur, hb⟩ := own_in h.row hg'
    exact ⟨Blk.ne_ hb h.co.walk.blk (by decide), Blk.ne_ hb h.co.walk.pl (by decide)⟩
  have hrow3 := hk3.own hrow2 fun g' hg' => h.cR g' hg'
  refine ⟨⟨hw3, htj, (h.co.below.trans hb2).trans hb3, hn X h.co.cX hX2, hn P h.co.cP hP2, fun g' hg' => ?_, fun j hj => ?_, hj3, ?_, h.co.lo⟩, hrow3, fun f hf => ⟨((h.reads f (.tail _ hf)).1.below hb2).below hb3, (h.reads f (.tail _ hf)).2⟩, hfar, fun g' hg' => hn g' (h.cR g' hg') ?_, fun u q hu hq => ?_⟩
  · injection hg' with hg'
    subst hg'
    exact hn _ (h.co.cO _ hgo) hg2
  · obtain ⟨h1, h2⟩ := hC' j hj
    refine ⟨?_, h1⟩
    rcases h2 with h2 | h2
    · exact (h.co.cC j h2).1
    · have := h.co.lo
      have := h.co.size
      omega
  · have := hk3.size
    have := h.co.size
    omega
  · exact (own_in hrow2 hg').2.1
  · obtain ⟨q', h1, h2⟩ := h.met u q hu hq
    have hlt := (List.getElem?_eq_some_iff.1 h1).1
    rw [putE_get pl _ 300 u hlt (fun x hx => by obtain ⟨j, _, hj⟩ := mem_drop_iff.1 hx; exact (h.co.tj.opn j x hj).1)]
    split
    · exact ⟨_, rfl, by omega⟩
    · exact ⟨q', h1, h2⟩
theorem ThAt.again (h : ThAt B1 B2 X P A n c Sa sn sc m zs w1 J pl0 C O k oc op pl cs R rn rc ms fs W) : ThAt B1 B2 X P A n c Sa sn sc m zs w1 J pl C O k oc op pl cs R rn rc ms fs W :=
  ⟨h.co, h.row, h.reads, h.far, h.cR, fun _ q h1 h2 => ⟨q, h1, h2⟩⟩
theorem Far.few {zs : List Ed} {op pl : List Int} : ∀ {fs : List Fr} {b : Nat}, Far zs op pl b fs → fs.length ≤ b
  | [], _, _ => Nat.zero_le _
  | f :: fs, b, h => by
    obtain ⟨h1, _, _, h4⟩ := h
    have := Far.few h4
    rw [List.length_cons]
    omega
theorem ThAt.few (h : ThAt B1 B2 X P A n c Sa sn sc m zs w1 J pl0 C O k oc op pl cs R rn rc ms fs W) : fs.length ≤ k ∧ k ≤ 300 := by
  have := h.co.tj.op_len
  rw [h.co.walk.len] at this
  exact ⟨Far.few h.far, this⟩
theorem fr_new (w : World) (f : Fr) (t : TypeId) : ∀ j u, (frCells f)[j]? = some u → (w.alloc (.cells #[.int .i64 (f.p : Int), .int .i64 (f.l : Int), .slice f.A f.left.length f.left.length] t)).cell? ((⟨w.heap.size, 0, none⟩ : Addr).add j) = some u := by
  intro j u hu
  have hb := Blk.new w t #[.int .i64 (f.p : Int), .int .i64 (f.l : Int), .slice f.A f.left.length f.left.length]
  rw [Go.WideShapes.add_plain, Nat.zero_add, hb.cell, ← hu, ← List.getElem?_toArray]
  rfl
theorem frCells_one (f : Fr) : ∀ u ∈ frCells f, u.oneCell' = true := by simp [frCells, Value.oneCell']
end
end Go.Proofs.Ytkebeadaoiiokaa
namespace Go.Proofs.Ytkebeadaoiiokaa
open Go.RowKit Go.Shelf

def small6M : List (List Bool) := [[false, true, true, false], [false, true, true, false], [false, true, true, false], [true, true, true, false]]
theorem small6_in {x y : Int} (h : Leads small6 x y) : (y = 1 ∨ y = 2) ∨ (x = 3 ∧ y = 0) := by
  induction h with
  | @one p hp hu =>
    subst hu
    unfold small6 at hp
    simp only [List.mem_cons, List.not_mem_nil, or_false] at hp
    rcases hp with rfl | rfl | rfl | rfl <;> simp
  | @more p _ hp ih =>
    unfold small6 at hp
    simp only [List.mem_cons, List.not_mem_nil, or_false] at hp
    rcases hp with rfl | rfl | rfl | rfl <;> simp at ih ⊢
theorem small6_from {x y : Int} (h : Leads small6 x y) : x = 0 ∨ x = 1 ∨ x = 2 ∨ x = 3 := by
  induction h with
  | @one p hp hu =>
    subst hu
    unfold small6 at hp
    simp only [List.mem_cons, List.not_mem_nil, or_false] at hp
    rcases hp with rfl | rfl | rfl | rfl <;> simp
  | more _ _ ih => exact ih
theorem l12 : Leads small6 1 2 := .one (p := (1, 2, 0)) (by decide) rfl
theorem l21 : Leads small6 2 1 := .one (p := (2, 1, 0)) (by decide) rfl
theorem l01 : Leads small6 0 1 := .one (p := (0, 1, 0)) (by decide) rfl
theorem l30 : Leads small6 3 0 := .one (p := (3, 0, 0)) (by decide) rfl
theorem small6_all : AllM small6 4 small6M := by
  refine ⟨rfl, fun i bs hb => ?_⟩
  have hi : i < 4 := (List.getElem?_eq_some_iff.1 hb).1
  have h4 : bs.length = 4 ∧ ∀ u : Nat, bs[u]? = some true ↔ ((u = 1 ∨ u = 2) ∨ (i = 3 ∧ u = 0)) := by
    match i, hi, hb with
    | 0, _, hb => injection hb with hb; subst hb; exact ⟨rfl, fun u => by match u with | 0 => simp | 1 => simp | 2 => simp | 3 => simp | u + 4 => simp⟩
    | 1, _, hb => injection hb with hb; subst hb; exact ⟨rfl, fun u => by match u with | 0 => simp | 1 => simp | 2 => simp | 3 => simp | u + 4 => simp⟩
    | 2, _, hb => injection hb with hb; subst hb; exact ⟨rfl, fun u => by match u with | 0 => simp | 1 => simp | 2 => simp | 3 => simp | u + 4 => simp⟩
    | 3, _, hb => injection hb with hb; subst hb; exact ⟨rfl, fun u => by match u with | 0 => simp | 1 => simp | 2 => simp | 3 => simp | u + 4 => simp⟩
  refine ⟨h4.1, fun u => ?_⟩
  rw [h4.2 u]
  constructor
  · have hto : Leads small6 (i : Int) 1 ∧ Leads small6 (i : Int) 2 := by
      match i, hi with
      | 0, _ => exact ⟨l01, l01.trans l12⟩
      | 1, _ => exact ⟨l12.trans l21, l12⟩
      | 2, _ => exact ⟨l21, l21.trans l12⟩
      | 3, _ => exact ⟨l30.trans l01, (l30.trans l01).trans l12⟩
    rintro ((rfl | rfl) | ⟨rfl, rfl⟩)
    · exact hto.1
    · exact hto.2
    · exact l30
  · intro h
    rcases small6_in h with h | h
    · exact .inl (by omega)
    · exact .inr (by omega)
theorem small6_comps {ls : List (List Int)} {os : List Int} (h : Comps small6 4 ls os) : os = [0, 1, 1, 2] := by
  obtain ⟨ms, h1, rfl, rfl⟩ := h
  rw [h1.unique small6_all]
  decide
theorem small6_right : rightG 4 small6 = true := by decide
theorem none_wrong : rightG (-1) [] = false := by decide
theorem small6_fold : sorE (foldL [0, 1, 1, 2] small6) = [(0, 1, 0), (2, 0, 0)] := by decide
def two6A : Array Value := #[.int .i64 0, .int .i64 1, .int .i64 0, .int .i64 2, .int .i64 0, .int .i64 0]
theorem two6_reads (w : World) : Reads (w.alloc (.cells two6A 34)) (w.alloc (.cells two6A 34)).heap.size 3 (some ⟨w.heap.size, 0, none⟩) 2 (cellsE [(0, 1, 0), (2, 0, 0)]) :=
  ⟨rfl, fun _ => ⟨_, rfl, by simp, fun j u hu => by
    rw [Go.WideShapes.add_plain, Nat.zero_add, (Blk.new w 34 two6A).cell, ← hu, ← List.getElem?_toArray]
    rfl⟩⟩

set_option maxRecDepth 100000 in
set_option maxHeartbeats 4000000 in
theorem wakes6_any (S : Scc) (w : World) : Calls Try.prog 7 #[] w fun e w' => e = .returned (.bool true) ∧ Below w.heap.size w w' := by
  have HS := Lib.hid S
  clear S
  go_enter Try.func7, Try.ntmps7
  go_wp2_with fail
  refine (small6_any _).mono ?_
  rintro e w1 ⟨A1, c1, rfl, h1, h2, h3, h4, b1⟩
  have B1 := Lib.hid b1
  have HO := Lib.hid (HS.out.of ⟨4, A1, 4, c1, small6⟩ w1 (show 4 ≤ 700 by decide) ⟨h1, h2, h3, h4⟩)
  clear h1 h2 h3 h4 b1
  go_wp2_with fail
  refine HO.out.mono ?_
  rintro e w2 ⟨os, k, ⟨Ao, co, he, hr, _, _, b⟩, hright, _⟩
  obtain ⟨rfl, ls, hcs⟩ := hright small6_right
  obtain rfl := small6_comps hcs
  obtain rfl : e = .returned (.tuple #[.slice Ao 4 co, .int .i64 0]) := he
  have RO := Lib.hid (show Reads w2 w2.heap.size 1 Ao 4 (ints [0, 1, 1, 2]) from hr)
  have B2 : Hid (Below w.heap.size w w2) := B1.out.trans (b.mono B1.out.size)
  clear hright hcs hr b HO B1
  go_wp2_with fail
  refine (small6_any _).mono ?_
  rintro e w3 ⟨A1, c1, rfl, h1, h2, h3, h4, b1⟩
  have B3 : Hid (Below w.heap.size w w3) := B2.out.trans (b1.mono B2.out.size)
  have RO3 := Lib.hid (Ints.on6 RO.out b1)
  have HO := Lib.hid (HS.out.cyclic ⟨4, A1, 4, c1, small6⟩ w3 (show 4 ≤ 700 by decide) ⟨h1, h2, h3, h4⟩)
  clear h1 h2 h3 h4 b1 B2 RO
  go_wp2_with fail
  refine HO.out.mono ?_
  rintro e w4 ⟨cb, k, rfl, b, hright, _⟩
  obtain ⟨rfl, hcb⟩ := hright small6_right
  obtain rfl : cb = true := hcb.2 ⟨1, l12.trans l21⟩
  have B4 : Hid (Below w.heap.size w w4) := B3.out.trans (b.mono B3.out.size)
  have RO4 := Lib.hid (Ints.on6 RO3.out b)
  clear hright hcb b HO B3 RO3
  go_wp2_with fail
  refine (small6_any _).mono ?_
  rintro e w5 ⟨A1, c1, rfl, h1, h2, h3, h4, b1⟩
  have B5 : Hid (Below w.heap.size w w5) := B4.out.trans (b1.mono B4.out.size)
  have RO5 := Lib.hid (Ints.on6 RO4.out b1)
  have HO := Lib.hid (HS.out.fold ⟨4, A1, 4, c1, small6⟩ w5 (show 4 ≤ 700 by decide) ⟨h1, h2, h3, h4⟩)
  clear h1 h2 h3 h4 b1 B4 RO4
  go_wp2_with fail
  refine HO.out.mono ?_
  rintro e w6 ⟨gz, ges, k, hgerr, hright, _⟩
  obtain ⟨rfl, ls, os, hcs, rfl, rfl⟩ := hright small6_right
  obtain rfl := small6_comps hcs
  rw [small6_fold] at hgerr
  obtain ⟨gf, rfl, hz, he, okf, b⟩ := gerr_gv hgerr
  have B6 : Hid (Below w.heap.size w w6) := B5.out.trans (b.mono B5.out.size)
  have RO6 := Lib.hid (Ints.on6 RO5.out b)
  have HF := Lib.hid he
  have GF := Lib.hid okf
  have K6 := Lib.hid (Blk.new w6 24 #[.int .i64 gf.z, .slice gf.A gf.n gf.c])
  clear hright hcs hgerr hz he okf b HO B5 RO5
  have hb7 : Below w6.heap.size w6 (w6.alloc (.cells #[.int .i64 gf.z, .slice gf.A gf.n gf.c] 24)) := (Below.refl _ _).alloc (Nat.le_refl _) _
  have B7 : Hid (Below w.heap.size w (w6.alloc (.cells #[.int .i64 gf.z, .slice gf.A gf.n gf.c] 24))) := B6.out.trans (hb7.mono B6.out.size)
  have RO7 := Lib.hid (Ints.on6 RO6.out hb7)
  have GF7 := Lib.hid (GF.out.on hb7)
  clear hb7 B6 RO6 GF
  go_wp2_with fail
  generalize w6.alloc (.cells #[.int .i64 gf.z, .slice gf.A gf.n gf.c] 24) = w7 at *
  generalize w6.heap.size = X at *
  refine (HS.out.of ⟨-1, none, 0, 0, []⟩ w7 (Nat.zero_le _) ⟨Reads.none_, Nat.le_refl _, Nat.zero_le _, fun _ => rfl⟩).mono ?_
  rintro e w8 ⟨os, k, ⟨An, cn, he, _, _, _, b⟩, _, hwrong⟩
  obtain ⟨rfl, rfl⟩ := hwrong none_wrong
  obtain rfl : e = .returned (.tuple #[.slice An 0 cn, .int .i64 150]) := he
  have B8 : Hid (Below w.heap.size w w8) := B7.out.trans (b.mono B7.out.size)
  have RO8 := Lib.hid (Ints.on6 RO7.out b)
  have GF8 := Lib.hid (GF7.out.on b)
  have K8 := Lib.hid (K6.out.below b K6.out.lt)
  clear hwrong b B7 RO7 GF7 K6 HS
  go_wp2_with fail
  have hb : Below w8.heap.size w8 (w8.alloc (.cells #[.int .i64 0, .int .i64 1, .int .i64 1, .int .i64 2] 3)) := (Below.refl _ _).alloc (Nat.le_refl _) _
  have J1 : Hid (Below w.heap.size w (w8.alloc (.cells #[.int .i64 0, .int .i64 1, .int .i64 1, .int .i64 2] 3))) := B8.out.trans (hb.mono B8.out.size)
  have R1 := Lib.hid (Ints.on6 RO8.out hb)
  have G1 := Lib.hid (GF8.out.on hb)
  have K1 := Lib.hid (K8.out.below hb K8.out.lt)
  have L1 := Lib.hid (int_lit w8 [0, 1, 1, 2] 3 _ rfl)
  clear hb B8 RO8 GF8 K8
  refine (eqi_any Ao (some ⟨w8.heap.size, 0, none⟩) 4 4 co 4 [0, 1, 1, 2] [0, 1, 1, 2] (by omega) (by omega) _ R1.out L1.out).mono ?_
  rintro e v1 ⟨rfl, hb⟩
  have J2 : Hid (Below w.heap.size w v1) := J1.out.trans (hb.mono J1.out.size)
  have G2 := Lib.hid (G1.out.on hb)
  have K2 := Lib.hid (K1.out.below hb K1.out.lt)
  clear hb J1 R1 G1 K1 L1
  have z1 := K2.out.cell 1
  have K3 := Lib.hid (K2.out.alloc (.cells two6A 34))
  go_wp2_with fail
  have hb : Below v1.heap.size v1 (v1.alloc (.cells two6A 34)) := (Below.refl _ _).alloc (Nat.le_refl _) _
  have J3 : Hid (Below w.heap.size w (v1.alloc (.cells two6A 34))) := J2.out.trans (hb.mono J2.out.size)
  have G3 := Lib.hid (G2.out.on hb)
  have L3 := Lib.hid (two6_reads v1)
  clear hb J2 G2 K2 K3 z1
  refine (equal_any gf.A (some ⟨v1.heap.size, 0, none⟩) gf.n 2 gf.c 2 gf.es [(0, 1, 0), (2, 0, 0)] (by have h1 := G3.out.len; rw [HF.out] at h1; simp at h1; omega) _ G3.out.1 L3.out).mono ?_
  rintro e v2 ⟨rfl, hb⟩
  rw [decide_eq_true HF.out]
  have J4 : Hid (Below w.heap.size w v2) := J3.out.trans (hb.mono J3.out.size)
  clear hb J3 G3 L3
  go_wp2_with fail
  go_ret
  exact ⟨rfl, J4.out⟩
end Go.Proofs.Ytkebeadaoiiokaa
