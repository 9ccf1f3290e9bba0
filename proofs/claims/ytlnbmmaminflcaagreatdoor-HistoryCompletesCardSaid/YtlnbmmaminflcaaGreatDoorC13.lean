/- How an operation is taken first: two lemmas on the model's rule. -/
import Derived.Deep.RegionHeld3
import Derived.WalkKit
import Derived.OrdersIn
import Derived.Test.YtlnbmmaminflcaaGreatDoorWords
-- holds: YtlnbmmaminflcaaGreatDoorSWtk
namespace Go.Proofs.YtlnbmmaminflcaaGreatDoor
open Go.RowKit
theorem c8 {X : World} {g : Nat} {t : TypeId} {c0 c1 c2 c3 c4 c5 c6 c7 : Value} (h : Blk X g t #[c0, c1, c2, c3, c4, c5, c6, c7]) : X.cell? ⟨g, 0, none⟩ = some c0 ∧ X.cell? ⟨g, 1, none⟩ = some c1 ∧ X.cell? ⟨g, 2, none⟩ = some c2 ∧ X.cell? ⟨g, 3, none⟩ = some c3 ∧ X.cell? ⟨g, 4, none⟩ = some c4 ∧ X.cell? ⟨g, 5, none⟩ = some c5 ∧ X.cell? ⟨g, 6, none⟩ = some c6 ∧ X.cell? ⟨g, 7, none⟩ = some c7 := ⟨h.cell 0, h.cell 1, h.cell 2, h.cell 3, h.cell 4, h.cell 5, h.cell 6, h.cell 7⟩
theorem sA {α : Type _} {a : List α} {i : Nat} {x : α} : a.toArray.setIfInBounds i x = (a.set i x).toArray := List.setIfInBounds_toArray ..
theorem sB {α : Type _} {a x : α} {l : List α} : (x :: l).set 0 a = a :: l := List.set_cons_zero ..
theorem sC {α : Type _} {a x : α} {l : List α} {n : Nat} : (x :: l).set (n + 1) a = x :: l.set n a := List.set_cons_succ ..
variable {P : Program} {md : Region.Mode} {ops : Array Oper} {Q : Exit → Act → World → Prop} {S : World → Prop}
theorem tkv {oi : Oper} {fuel : Nat} {listed : Array Bool} {a : Act} {w : World} (i : Nat) (d : Option Tmp) (v : Value) (hi : ops[i]? = some oi) (hd : oi.dst = d)
    (hy : ∀ w', S w' → (execOp a.eval oi).run P w' = .ok (.value v) w') (h : wpAnyH P md ops Q S fuel (listed.setIfInBounds i true) (a.put d v) w)
    (h1 : Region.wanted oi (yielded ops a.tmps) = true := by kernel_rfl) (hs : Region.noSelect ops = true := by kernel_rfl) (hf : Region.free md ops listed i = true := by kernel_rfl) (hr : (Region.ready md ops listed).contains i = true := by kernel_rfl)
    (hQ : ∀ c a w, Q (.panic c) (a.put d v) w → Q (.panic c) a w := by exact fun _ _ _ h => h) (hS : S w := by assumption) : wpAnyH P md ops Q S (fuel + 1) listed a w :=
  by subst hd; exact wpAnyH_take hi hs hf hr hQ (Or.inl ⟨h1, hy⟩) hS h
theorem tku {oi : Oper} {fuel : Nat} {listed : Array Bool} {a : Act} {w : World} (i : Nat) (d : Option Tmp) (hi : ops[i]? = some oi) (hd : oi.dst = d)
    (h : wpAnyH P md ops Q S fuel (listed.setIfInBounds i true) (a.put d undef) w)
    (h1 : Region.wanted oi (yielded ops a.tmps) = false := by kernel_rfl) (hs : Region.noSelect ops = true := by kernel_rfl) (hf : Region.free md ops listed i = true := by kernel_rfl) (hr : (Region.ready md ops listed).contains i = true := by kernel_rfl)
    (hQ : ∀ c a w, Q (.panic c) (a.put d undef) w → Q (.panic c) a w := by exact fun _ _ _ h => h) (hS : S w := by assumption) : wpAnyH P md ops Q S (fuel + 1) listed a w :=
  by subst hd; exact wpAnyH_take hi hs hf hr hQ (Or.inr ⟨h1, rfl⟩) hS h
section
variable {F : Fence} {n : Nat}
theorem tkiv {oi : Oper} {fuel : Nat} {listed : Array Bool} {a : Act} {w : World} (i : Nat) (d : Option Tmp) (v : Value) (hro : F.round = none) (hi : ops[i]? = some oi) (hd : oi.dst = d)
    (hy : ∀ w', (execOp a.eval oi).run P w' = .ok (.value v) w') (h : wpAnyIn F n P md ops Q fuel (listed.setIfInBounds i true) (a.put d v) w)
    (h1 : Region.wanted oi (yielded ops a.tmps) = true := by kernel_rfl) (ha : ∀ w, oi.about P w a.eval = none := by exact fun _ => rfl) (hs : Region.noSelect ops = true := by kernel_rfl) (hf : Region.free md ops listed i = true := by kernel_rfl) (hr : (Region.ready md ops listed).contains i = true := by kernel_rfl)
    (hQ : ∀ c a w, Q (.panic c) (a.put d v) w → Q (.panic c) a w := by exact fun _ _ _ h => h) : wpAnyIn F n P md ops Q (fuel + 1) listed a w :=
  by subst hd; exact wpAnyIn_take hro hi hs hf hr hQ ⟨Or.inl ⟨h1, hy⟩, ha⟩ h
theorem tkiu {oi : Oper} {fuel : Nat} {listed : Array Bool} {a : Act} {w : World} (i : Nat) (d : Option Tmp) (hro : F.round = none) (hi : ops[i]? = some oi) (hd : oi.dst = d)
    (h : wpAnyIn F n P md ops Q fuel (listed.setIfInBounds i true) (a.put d undef) w)
    (h1 : Region.wanted oi (yielded ops a.tmps) = false := by kernel_rfl) (ha : ∀ w, oi.about P w a.eval = none := by exact fun _ => rfl) (hs : Region.noSelect ops = true := by kernel_rfl) (hf : Region.free md ops listed i = true := by kernel_rfl) (hr : (Region.ready md ops listed).contains i = true := by kernel_rfl)
    (hQ : ∀ c a w, Q (.panic c) (a.put d undef) w → Q (.panic c) a w := by exact fun _ _ _ h => h) : wpAnyIn F n P md ops Q (fuel + 1) listed a w :=
  by subst hd; exact wpAnyIn_take hro hi hs hf hr hQ ⟨Or.inr ⟨h1, rfl⟩, ha⟩ h
end
end Go.Proofs.YtlnbmmaminflcaaGreatDoor
