/- SccEdges: which nodes a map of bools tells, round by round; an edge more: plain facts. -/
import Derived.Maps.OwnSet
import Derived.Maps.Own
import Derived.Maps.Keyed
import Derived.Maps.Views
import Derived.Test.YtkebeadaoiiokaaM11
import Derived.Test.YtkebeadaoiiokaaM10
-- holds: YtkebeadaoiiokaaCea
namespace Go.Proofs.Ytkebeadaoiiokaa
open Go.RowKit
open Go.Maps (Keyed IsMap atKey_put_same atKey_put_other int_keyed keyOf_int_mk)

/-- What a map tells of numbers. -/
def SeenI (D : DataW Unit) (S : Int → Bool) : Prop := ∀ v : Int, D.atKey (.int .i64 v) (.lit (.bool false)) = .lit (.bool (S v))
def addI (S : Int → Bool) (v : Int) : Int → Bool := fun u => S u || u == v
theorem seenI_none : SeenI (.map []) (fun _ => false) := fun _ => rfl
theorem SeenI.put {D : DataW Unit} {S : Int → Bool} (h : SeenI D S) (hD : IsMap D) (v : Int) : SeenI (D.put (.int .i64 v) (.lit (.bool true))) (addI S v) := fun u => by
  by_cases e : u = v
  · subst e
    rw [atKey_put_same hD (show WideAt.IsKeyLit (.int .i64 u) from trivial)]
    simp [addI]
  · rw [atKey_put_other (fun e2 => e (by injection e2)), h u]
    simp [addI, e]
section
variable {P : Program} {w : World} {t k e : TypeId} {b n : Nat} {D : DataW Unit}
theorem look_b (h : w.ownsMap P k (plainElem P e) b n D) (K : Keyed P k) (ht : P.underlying t = some (.map k e)) (he : P.underlying e = some .bool) (hz : (zeroValue e).run P w = .ok (.bool false) w)
    {key : Value} {kl : Lit} (hkey : keyOf P k key = some kl) {c : Bool} (hat : D.atKey kl (.lit (.bool false)) = .lit (.bool c)) : (Instr.lookup t (.map (some b)) key false).run P w = .ok (.bool c) w := by
  obtain ⟨v, ps, hrun, hv⟩ := h.lookup K ht hz (plainElem_bool he false) hkey
  rw [hat] at hv
  unfold plainElem at hv
  rw [he] at hv
  cases v <;> simp at hv
  obtain ⟨rfl, _⟩ := hv
  exact hrun
end

/-- One edge gone along, and all of a row. -/
def hop (S : Int → Bool) (e : Ed) : Int → Bool := if S e.1 then addI S e.2.1 else S
def hops (S : Int → Bool) (l : List Ed) : Int → Bool := l.foldl hop S
theorem hops_next {S : Int → Bool} {l : List Ed} {j : Nat} {e : Ed} (h : l[j]? = some e) : hops S (l.take (j + 1)) = hop (hops S (l.take j)) e := by
  unfold hops
  rw [List.take_add_one, h, List.foldl_append]
  rfl
theorem hop_mono {S : Int → Bool} {e : Ed} {u : Int} (h : S u = true) : hop S e u = true := by
  unfold hop
  split
  · simp [addI, h]
  · exact h
theorem hops_mono : ∀ (l : List Ed) {S : Int → Bool} {u : Int}, S u = true → hops S l u = true
  | [], _, _, h => h
  | _ :: l, _, _, h => hops_mono l (hop_mono h)
theorem hops_has : ∀ (l : List Ed) {S : Int → Bool} {e : Ed}, e ∈ l → S e.1 = true → hops S l e.2.1 = true
  | [], _, _, h, _ => by simp at h
  | x :: l, S, e, h, hs => by
    rcases List.mem_cons.1 h with rfl | h
    · refine hops_mono l ?_
      unfold hop
      rw [if_pos hs]
      simp [addI]
    · exact hops_has l h (hop_mono hs)
def Sound (zs : List Ed) (fr : Int) (S : Int → Bool) : Prop := ∀ u, S u = true → Comes zs fr u
def Closed (zs : List Ed) (S : Int → Bool) : Prop := ∀ e ∈ zs, S e.1 = true → S e.2.1 = true
theorem Sound.hops {zs : List Ed} {fr : Int} : ∀ (l : List Ed) {S : Int → Bool}, (∀ e ∈ l, e ∈ zs) → Sound zs fr S → Sound zs fr (hops S l)
  | [], _, _, h => h
  | e :: l, S, hl, h => Sound.hops l (fun x hx => hl x (.tail _ hx)) fun u hu => by
    unfold hop at hu
    split at hu
    · rename_i hs
      simp only [addI, Bool.or_eq_true, beq_iff_eq] at hu
      rcases hu with hu | rfl
      · exact h u hu
      · exact (h _ hs).trans (.edge (hl e (.head _)))
    · exact h u hu
theorem Closed.hops {zs : List Ed} {S : Int → Bool} (hc : Closed zs S) : ∀ l : List Ed, (∀ e ∈ l, e ∈ zs) → hops S l = S
  | [], _ => rfl
  | e :: l, hl => by
    have h1 : hop S e = S := by
      unfold hop
      split
      · rename_i hs
        have h2 := hc e (hl e (.head _)) hs
        funext u
        unfold addI
        by_cases hu : u = e.2.1
        · subst hu; simp [h2]
        · simp [hu]
      · rfl
    show (l.foldl hop (hop S e)) = S
    rw [h1]
    exact Closed.hops hc l fun x hx => hl x (.tail _ hx)
theorem filter_le {p q : Nat → Bool} (h : ∀ x, p x = true → q x = true) : ∀ l : List Nat, (l.filter p).length ≤ (l.filter q).length
  | [] => Nat.le_refl _
  | x :: l => by
    have := filter_le h l
    rw [List.filter_cons, List.filter_cons]
    cases hp : p x
    · cases hq : q x <;> simp <;> omega
    · rw [h x hp]
      simp
      omega
theorem filter_lt {p q : Nat → Bool} (h : ∀ x, p x = true → q x = true) {w : Nat} (hq : q w = true) (hp : p w = false) : ∀ l : List Nat, w ∈ l → (l.filter p).length + 1 ≤ (l.filter q).length
  | [], hw => by simp at hw
  | x :: l, hw => by
    rcases List.mem_cons.1 hw with rfl | hw
    · have := filter_le h l
      rw [List.filter_cons, List.filter_cons, hq, hp]
      simp
      omega
    · have := filter_lt h hq hp l hw
      rw [List.filter_cons, List.filter_cons]
      cases hpx : p x
      · cases hqx : q x <;> simp <;> omega
      · rw [h x hpx]
        simp
        omega
def cntS (m : Nat) (S : Int → Bool) : Nat := ((List.range m).filter fun (v : Nat) => S (v : Int)).length
/-- Behind k rounds. -/
structure Went (zs : List Ed) (m : Nat) (fr : Int) (k : Nat) (S : Int → Bool) : Prop where
  sound : Sound zs fr S
  start : S fr = true
  far : Closed zs S ∨ k + 1 ≤ cntS m S
theorem Went.first {zs : List Ed} {m fr : Nat} (hf : fr < m) : Went zs m (fr : Int) 0 (addI (fun _ => false) (fr : Int)) := by
  refine ⟨fun u hu => ?_, by simp [addI], .inr ?_⟩
  · simp [addI] at hu
    subst hu
    exact .refl
  · have := filter_lt (p := fun _ => false) (q := fun (v : Nat) => addI (fun _ => false) (fr : Int) (v : Int)) (fun x h => by simp at h) (w := fr) (by simp [addI]) rfl (List.range m) (List.mem_range.2 hf)
    unfold cntS
    omega
theorem Went.next {zs : List Ed} {m k : Nat} {fr : Int} {S : Int → Bool} (hz : ∀ p ∈ zs, rightE (m : Int) p = true) (h : Went zs m fr k S) : Went zs m fr (k + 1) (hops S zs) := by
  refine ⟨h.sound.hops zs fun e he => he, hops_mono zs h.start, ?_⟩
  by_cases hc : Closed zs S
  · rw [hc.hops zs fun e he => he]
    exact .inl hc
  · have hk := h.far.resolve_left hc
    obtain ⟨e, he, h1, h2⟩ : ∃ e ∈ zs, S e.1 = true ∧ S e.2.1 = false := by
      refine Classical.byContradiction fun hn => hc fun e he h1 => ?_
      cases h2 : S e.2.1
      · exact absurd ⟨e, he, h1, h2⟩ hn
      · rfl
    have hr := of_decide_eq_true (hz e he)
    obtain ⟨w, hw⟩ : ∃ w : Nat, e.2.1 = (w : Int) := ⟨e.2.1.toNat, by omega⟩
    have h3 := hops_has zs he h1
    rw [hw] at h2 h3
    have := filter_lt (p := fun (v : Nat) => S (v : Int)) (q := fun (v : Nat) => hops S zs (v : Int)) (fun x hx => hops_mono zs hx) h3 h2 (List.range m) (List.mem_range.2 (by omega))
    refine .inr ?_
    unfold cntS at *
    omega
theorem Went.done {zs : List Ed} {m : Nat} {fr : Int} {S : Int → Bool} (h : Went zs m fr m S) (v : Int) : S v = true ↔ Comes zs fr v := by
  have hc : Closed zs S := h.far.resolve_right fun h1 => by
    have := List.length_filter_le (fun v : Nat => S (v : Int)) (List.range m)
    rw [List.length_range] at this
    unfold cntS at h1
    omega
  exact ⟨h.sound v, fun hv => hv.within (S := fun u => S u = true) hc h.start⟩

/-- An edge more. -/
theorem more_right {zs : List Ed} {m a b : Nat} (hg : IsG (m : Int) zs) (ha : a < m) (hb : b < m) (hne : a ≠ b) : (∀ p ∈ zs ++ [((a : Int), (b : Int), (0 : Int))], rightE (m : Int) p = true) ∧ IsG (m : Int) (sorE (zs ++ [((a : Int), (b : Int), (0 : Int))])) ∧
    ∀ p, p ∈ sorE (zs ++ [((a : Int), (b : Int), (0 : Int))]) ↔ p ∈ zs ∨ p = ((a : Int), (b : Int), (0 : Int)) := by
  have h1 : ∀ p ∈ zs ++ [((a : Int), (b : Int), (0 : Int))], rightE (m : Int) p = true := fun p hp => by
    rcases List.mem_append.1 hp with hp | hp
    · exact hg.all p hp
    · simp at hp
      subst hp
      exact decide_eq_true (by simp; omega)
  refine ⟨h1, IsG.sor hg.may h1, fun p => ?_⟩
  rw [mem_sorE (fun p hp => rightE_ok hg.may (h1 p hp)), List.mem_append, List.mem_singleton]
theorem more_there {zs : List Ed} {m a b : Nat} {ls ls' : List (List Int)} {os os' : List Int} (hg : IsG (m : Int) zs) (ha : a < m) (hb : b < m) (hne : a ≠ b) (h : Comps zs m ls os) (h' : Comps (sorE (zs ++ [((a : Int), (b : Int), (0 : Int))])) m ls' os') (hl : Leads zs (a : Int) (b : Int)) : os' = os := by
  have hy := (more_right hg ha hb hne).2.2
  refine (h'.congr h fun u v _ _ => ?_).2
  unfold Tog
  rw [leads_there hy hl, leads_there hy hl]
theorem more_back {zs : List Ed} {m a b : Nat} {ls' : List (List Int)} {os' : List Int} (hg : IsG (m : Int) zs) (ha : a < m) (hb : b < m) (hne : a ≠ b) (h' : Comps (sorE (zs ++ [((b : Int), (a : Int), (0 : Int))])) m ls' os') : os'.getD a 0 = os'.getD b 0 ↔ Leads zs (a : Int) (b : Int) := by
  have hy := (more_right hg hb ha (Ne.symm hne)).2.2
  have h1 := h'.same ha hb
  have hl := h'.len.1
  rw [getD_of hl ha, getD_of hl hb] at h1
  have h2 := tog_edge (from_ := a) (to_ := b) (e := ((b : Int), (a : Int), (0 : Int))) rfl rfl hne hy
  rw [← h2, ← h1]
  simp
theorem turn6 (turn : Int) (m : Nat) (hm : m ≤ 300) (hm0 : 0 < m) : ∃ k : Nat, k < m ∧ wrap64 ((IntKind.u64.wrap turn).tmod (m : Int)) = (k : Int) := by
  have h0 : 0 ≤ IntKind.u64.wrap turn := by rw [IntKind.wrap_u64]; omega
  have h1 := Int.emod_nonneg (IntKind.u64.wrap turn) (show (m : Int) ≠ 0 by omega)
  have h2 := Int.emod_lt_of_pos (IntKind.u64.wrap turn) (show (0 : Int) < (m : Int) by omega)
  rw [Int.tmod_eq_emod_of_nonneg h0]
  exact ⟨(IntKind.u64.wrap turn % (m : Int)).toNat, by omega, by unfold wrap64; omega⟩
end Go.Proofs.Ytkebeadaoiiokaa
