/- Layer history: each, at six types, over any question that is asked of each row: contracts. -/
import Derived.Test.YtlnbmmaminflcaaGreatDoorM8
import Derived.Test.YtlnbmmaminflcaaGreatDoorM9
import Derived.Test.YtlnbmmaminflcaaGreatDoorM10
import Derived.Lib.Hide
-- holds: YtlnbmmaminflcaaGreatDoorVIb YtlnbmmaminflcaaGreatDoorVId
namespace Go.Proofs.YtlnbmmaminflcaaGreatDoor
open Go.RowKit Go.Shelf

/- Rows of what takes several cells. -/
section
variable {α : Type} {enc : α → List Value} {s : Nat}
theorem fm_len (hs : ∀ x, (enc x).length = s) : ∀ l : List α, (l.flatMap enc).length = l.length * s
 | [] => by simp
 | x :: l => by rw [List.flatMap_cons, List.length_append, hs, fm_len hs l, List.length_cons, Nat.succ_mul, Nat.add_comm]
theorem fm_at (hs : ∀ x, (enc x).length = s) : ∀ {l : List α} {k j : Nat} {x : α} {u : Value}, l[k]? = some x → (enc x)[j]? = some u → (l.flatMap enc)[k * s + j]? = some u
 | [], _, _, _, _, h, _ => by simp at h
 | y :: l, 0, j, x, u, h, hu => by
  simp only [List.getElem?_cons_zero, Option.some.injEq] at h
  subst h
  rw [List.flatMap_cons, Nat.zero_mul, Nat.zero_add, List.getElem?_append_left (List.getElem?_eq_some_iff.1 hu).1, hu]
 | y :: l, k + 1, j, x, u, h, hu => by
  simp only [List.getElem?_cons_succ] at h
  have e : (k + 1) * s + j = s + (k * s + j) := by rw [Nat.succ_mul]; omega
  rw [List.flatMap_cons, e, List.getElem?_append_right (by rw [hs]; omega), hs, Nat.add_sub_cancel_left]
  exact fm_at hs h hu
theorem fm_set (hs : ∀ x, (enc x).length = s) : ∀ {l : List α} {k j : Nat} {x x' : α} {u : Value}, l[k]? = some x → j < s → (enc x).set j u = enc x' → (l.flatMap enc).set (k * s + j) u = (l.set k x').flatMap enc
 | [], _, _, _, _, _, h, _, _ => by simp at h
 | y :: l, 0, j, x, x', u, h, hj, hu => by
  simp only [List.getElem?_cons_zero, Option.some.injEq] at h
  subst h
  rw [List.set_cons_zero, List.flatMap_cons, List.flatMap_cons, Nat.zero_mul, Nat.zero_add, List.set_append_left _ _ (by rw [hs]; exact hj), hu]
 | y :: l, k + 1, j, x, x', u, h, hj, hu => by
  simp only [List.getElem?_cons_succ] at h
  have e : (k + 1) * s + j = s + (k * s + j) := by rw [Nat.succ_mul]; omega
  rw [List.set_cons_succ, List.flatMap_cons, List.flatMap_cons, e, List.set_append_right _ _ (by rw [hs]; omega), hs, Nat.add_sub_cancel_left, fm_set hs h hj hu]
theorem reads_len_s {w : World} {B n : Nat} {A : Option Addr} {l : List α} (hs : ∀ x, (enc x).length = s) (hp : 0 < s) (h : Reads w B s A n (l.flatMap enc)) : l.length = n := by
 have := h.1
 rw [fm_len hs] at this
 exact Nat.eq_of_mul_eq_mul_right hp this
theorem row_plain {w : World} {B n : Nat} {A : Option Addr} {xs : List Value} (hp : 0 < s) (h : Reads w B s A n xs) (hn : 0 < n) : ∃ b o, A = some ⟨b, o, none⟩ ∧ b < B ∧ ∀ j u, xs[j]? = some u → w.cell? ⟨b, o + j, none⟩ = some u := by
 obtain ⟨ad, hA, hb, hc⟩ := h.2 hn
 have hl : 0 < xs.length := by rw [h.1]; exact Nat.mul_pos hn hp
 have h0 := hc 0 xs[0] (List.getElem?_eq_getElem hl)
 obtain ⟨b, off, spot⟩ := ad
 have hspot : spot = none := by simpa [Addr.add] using World.cell?_spot h0
 subst hspot
 exact ⟨b, off, hA, hb, fun j u hu => by rw [← Go.WideShapes.add_plain]; exact hc j u hu⟩
theorem row_cells {w : World} {B n k : Nat} {A : Option Addr} {l : List α} {x : α} (hs : ∀ x, (enc x).length = s) (hp : 0 < s) (h : Reads w B s A n (l.flatMap enc)) (hk : l[k]? = some x) :
 ∃ b o, A = some ⟨b, o, none⟩ ∧ b < B ∧ ∀ j u, (enc x)[j]? = some u → w.cell? ⟨b, o + (k * s + j), none⟩ = some u := by
 have hn : 0 < n := by
  have := reads_len_s hs hp h
  have := (List.getElem?_eq_some_iff.1 hk).1
  omega
 obtain ⟨b, o, hA, hb, hc⟩ := row_plain hp h hn
 exact ⟨b, o, hA, hb, fun j u hu => hc _ _ (fm_at hs hk hu)⟩
end

structure SH where
 A : Option Addr
 n : Nat
 c : Nat
instance : Inhabited SH := ⟨⟨none, 0, 0⟩⟩
def SH.v (h : SH) : Value := .slice h.A h.n h.c
def SH.ad (h : SH) (j : Nat) : Addr := match h.A with
 | some a => ⟨a.block, a.off + j, none⟩
 | none => ⟨0, j, none⟩
theorem SH.ad_is {h : SH} {b o j : Nat} (e : h.A = some ⟨b, o, none⟩) : h.ad j = ⟨b, o + j, none⟩ := by unfold SH.ad; rw [e]
def seCs (s : SeenP) : List Value := [.int .i64 s.o, .int .i64 s.t, .int .i64 s.k]
def evCs (p : EvP × SH) : List Value := [.int .i64 p.1.kd, .int .i64 p.1.t, .int .i64 p.1.s, .int .i64 p.1.lev, .int .i64 p.1.o, .int .i64 p.1.vt, .int .i64 p.1.vk, .int .i64 p.1.p, .slice p.2.A p.2.n p.2.c]
def odCs (p : OrdP × SH) : List Value := [.int .i64 p.1.o, .slice p.2.A p.2.n p.2.c]
def maCs (p : MatP × SH) : List Value := [.int .i64 p.1.p, .int .i64 p.1.o, .bool p.1.fi, .slice p.2.A p.2.n p.2.c]
def waCs (r : WantP) : List Value := [.int .i64 r.s, .int .i64 r.b]
theorem seCs_len (s : SeenP) : (seCs s).length = 3 := rfl
theorem evCs_len (s : EvP × SH) : (evCs s).length = 9 := rfl
theorem odCs_len (s : OrdP × SH) : (odCs s).length = 2 := rfl
theorem maCs_len (s : MatP × SH) : (maCs s).length = 4 := rfl
theorem waCs_len (s : WantP) : (waCs s).length = 2 := rfl
structure HistM where
 tr : SH × List ByteArray
 se : SH × List ByteArray
 ob : SH × List ByteArray
 pr : SH × List ByteArray
 ev : SH × List (EvP × SH)
 od : SH × List (OrdP × SH)
 ma : SH × List (MatP × SH)
 wa : SH × List WantP
def HistM.pl (m : HistM) : Hist := ⟨m.tr.2, m.se.2, m.ob.2, m.pr.2, m.ev.2.map (·.1), m.od.2.map (·.1), m.ma.2.map (·.1), m.wa.2⟩
def HistM.cs (m : HistM) : Array Value := #[.slice m.tr.1.A m.tr.1.n m.tr.1.c, .slice m.se.1.A m.se.1.n m.se.1.c, .slice m.ob.1.A m.ob.1.n m.ob.1.c, .slice m.pr.1.A m.pr.1.n m.pr.1.c, .slice m.ev.1.A m.ev.1.n m.ev.1.c, .slice m.od.1.A m.od.1.n m.od.1.c, .slice m.ma.1.A m.ma.1.n m.ma.1.c, .slice m.wa.1.A m.wa.1.n m.wa.1.c]
structure HRd (W : World) (B : Nat) (m : HistM) : Prop where
 tr : Reads W B 1 m.tr.1.A m.tr.1.n (strs m.tr.2)
 se : Reads W B 1 m.se.1.A m.se.1.n (strs m.se.2)
 ob : Reads W B 1 m.ob.1.A m.ob.1.n (strs m.ob.2)
 pr : Reads W B 1 m.pr.1.A m.pr.1.n (strs m.pr.2)
 ev : Reads W B 9 m.ev.1.A m.ev.1.n (m.ev.2.flatMap evCs)
 od : Reads W B 2 m.od.1.A m.od.1.n (m.od.2.flatMap odCs)
 ma : Reads W B 4 m.ma.1.A m.ma.1.n (m.ma.2.flatMap maCs)
 wa : Reads W B 2 m.wa.1.A m.wa.1.n (m.wa.2.flatMap waCs)
 sc : ∀ p ∈ m.ev.2, Reads W B 3 p.2.A p.2.n (p.1.scan.flatMap seCs)
 ot : ∀ p ∈ m.od.2, Reads W B 1 p.2.A p.2.n (ints p.1.ts)
 mt : ∀ p ∈ m.ma.2, Reads W B 1 p.2.A p.2.n (ints p.1.ts)
section
variable {W W' : World} {B B' : Nat} {m : HistM}
theorem HRd.map (h : HRd W B m) (f : ∀ {size n : Nat} {A : Option Addr} {xs : List Value}, Reads W B size A n xs → Reads W' B' size A n xs) : HRd W' B' m :=
 ⟨f h.tr, f h.se, f h.ob, f h.pr, f h.ev, f h.od, f h.ma, f h.wa, fun p hp => f (h.sc p hp), fun p hp => f (h.ot p hp), fun p hp => f (h.mt p hp)⟩
theorem HRd.on (h : HRd W B m) (hb : Below B W W') : HRd W' B m := h.map fun r => r.below hb
theorem HRd.on_ (h : HRd W W.heap.size m) (hb : Below W.heap.size W W') : HRd W' W'.heap.size m := h.map fun r => (r.below hb).more hb.size
theorem HRd.more (h : HRd W B m) (hB : B ≤ B') : HRd W B' m := h.map fun r => r.more hB
theorem HRd.keep {S : Nat → Prop} (h : HRd W B m) (hk : Keep S W W') (hB : B ≤ W.heap.size) (hs : ∀ k, k < B → S k) : HRd W' B m := h.map fun r => hk.reads r hB hs
end

def flatI {α β : Type} (f : Nat → α → List β) : Nat → List α → List β
 | _, [] => []
 | i, x :: xs => f i x ++ flatI f (i + 1) xs
section
variable {α β : Type} {f : Nat → α → List β}
theorem flatI_take_succ : ∀ {l : List α} {i k : Nat} {x : α}, l[k]? = some x → flatI f i (l.take (k + 1)) = flatI f i (l.take k) ++ f (i + k) x
 | [], _, _, _, h => by simp at h
 | y :: l, i, 0, x, h => by
  simp only [List.getElem?_cons_zero, Option.some.injEq] at h
  subst h
  simp [flatI]
 | y :: l, i, k + 1, x, h => by
  simp only [List.getElem?_cons_succ] at h
  rw [List.take_succ_cons, List.take_succ_cons]
  unfold flatI
  rw [flatI_take_succ h, List.append_assoc, show i + 1 + k = i + (k + 1) by omega]
theorem flatI_split {l : List α} {i k : Nat} {x : α} (h : l[k]? = some x) : flatI f i l = flatI f i (l.take k) ++ (f (i + k) x ++ flatI f (i + k + 1) (l.drop (k + 1))) := by
 induction l generalizing i k with
 | nil => simp at h
 | cons y l ih =>
  cases k with
  | zero =>
   simp only [List.getElem?_cons_zero, Option.some.injEq] at h
   subst h
   simp [flatI]
  | succ k =>
   simp only [List.getElem?_cons_succ] at h
   rw [List.take_succ_cons, List.drop_succ_cons]
   conv => lhs; unfold flatI
   conv => rhs; lhs; unfold flatI
   rw [ih h, List.append_assoc, show i + 1 + k = i + (k + 1) by omega]
end
def plV (h : SH) (j : Nat) (k : Int) : List (Nat × Addr) := if k = 0 then [] else [(0, h.ad j)]
def plS (h : SH) (j : Nat) (s : SeenP) : List (Nat × Addr) := (2, h.ad (j * 3)) :: plV h (j * 3 + 1) s.k
def plK (h : SH) (i : Nat) (p : EvP × SH) : List (Nat × Addr) :=
 if p.1.kd = 1 then [(1, h.ad (i * 9 + 2))] else if p.1.kd = 2 ∨ p.1.kd = 3 then (2, h.ad (i * 9 + 4)) :: plV h (i * 9 + 5) p.1.vk else if p.1.kd = 4 then (3, h.ad (i * 9 + 7)) :: flatI (plS p.2) 0 p.1.scan else []
def plE (h : SH) (i : Nat) (p : EvP × SH) : List (Nat × Addr) := (0, h.ad (i * 9 + 1)) :: plK h i p
def plT (h : SH) (ts : List Int) : List (Nat × Addr) := flatI (fun j _ => [(0, h.ad j)]) 0 ts
def plO (h : SH) (i : Nat) (p : OrdP × SH) : List (Nat × Addr) := (2, h.ad (i * 2)) :: plT p.2 p.1.ts
def plM (h : SH) (i : Nat) (p : MatP × SH) : List (Nat × Addr) := (3, h.ad (i * 4)) :: (2, h.ad (i * 4 + 1)) :: plT p.2 p.1.ts
def plW (h : SH) (i : Nat) (_ : WantP) : List (Nat × Addr) := [(1, h.ad (i * 2))]
def plcs (m : HistM) : List (Nat × Addr) := flatI (plE m.ev.1) 0 m.ev.2 ++ (flatI (plO m.od.1) 0 m.od.2 ++ (flatI (plM m.ma.1) 0 m.ma.2 ++ flatI (plW m.wa.1) 0 m.wa.2))

def Lnk (W : World) : List (Nat × Addr) → List (Nat × Int) → Prop
 | [], [] => True
 | (s, a) :: x, (q, n) :: y => (s = q ∧ W.cell? a = some (.int .i64 n)) ∧ Lnk W x y
 | _, _ => False
section
variable {W : World} {B : Nat} {m : HistM}
theorem Lnk.append : ∀ {x x' : List (Nat × Addr)} {y y' : List (Nat × Int)}, Lnk W x y → Lnk W x' y' → Lnk W (x ++ x') (y ++ y')
 | [], _, [], _, _, h => h
 | (_, _) :: _, _, (_, _) :: _, _, h, h' => ⟨h.1, Lnk.append h.2 h'⟩
 | [], _, (_, _) :: _, _, h, _ => h.elim
 | (_, _) :: _, _, [], _, h, _ => h.elim
theorem Lnk.len : ∀ {x : List (Nat × Addr)} {y : List (Nat × Int)}, Lnk W x y → x.length = y.length
 | [], [], _ => rfl
 | (_, _) :: _, (_, _) :: _, h => by rw [List.length_cons, List.length_cons, Lnk.len h.2]
 | [], (_, _) :: _, h => h.elim
 | (_, _) :: _, [], h => h.elim
theorem Lnk.at_ : ∀ {x : List (Nat × Addr)} {y : List (Nat × Int)} {k s : Nat} {a : Addr}, Lnk W x y → x[k]? = some (s, a) → ∃ n, y[k]? = some (s, n) ∧ W.cell? a = some (.int .i64 n)
 | [], _, _, _, _, _, h => by simp at h
 | (s', a') :: x, (q, n) :: y, 0, s, a, hl, h => by
  simp only [List.getElem?_cons_zero, Option.some.injEq, Prod.mk.injEq] at h
  obtain ⟨rfl, rfl⟩ := h
  exact ⟨n, by rw [List.getElem?_cons_zero, hl.1.1], hl.1.2⟩
 | (s', a') :: x, (q, n) :: y, k + 1, s, a, hl, h => by
  simp only [List.getElem?_cons_succ] at h ⊢
  exact Lnk.at_ hl.2 h
 | (_, _) :: _, [], _, _, _, hl, _ => hl.elim
theorem Lnk.flat {α : Type} {f : Nat → α → List (Nat × Addr)} {g : α → List (Nat × Int)} : ∀ {l : List α} {i : Nat}, (∀ k x, l[k]? = some x → Lnk W (f (i + k) x) (g x)) → Lnk W (flatI f i l) (l.flatMap g)
 | [], _, _ => trivial
 | x :: l, i, h => by
  unfold flatI
  rw [List.flatMap_cons]
  refine Lnk.append (h 0 x rfl) (Lnk.flat fun k y hy => ?_)
  have := h (k + 1) y (by simpa using hy)
  rwa [show i + 1 + k = i + (k + 1) by omega]
theorem lnkV {h : SH} {j : Nat} {t k : Int} (hc : W.cell? (h.ad j) = some (.int .i64 t)) : Lnk W (plV h j k) (refsV t k) := by
 unfold plV refsV
 split
 ·trivial
 ·exact ⟨⟨rfl, hc⟩, trivial⟩
theorem map_flat : ∀ ts : List Int, (ts.map fun t => ((0 : Nat), t)) = ts.flatMap fun t => [((0 : Nat), t)]
 | [] => rfl
 | t :: ts => by rw [List.map_cons, List.flatMap_cons, map_flat ts]; rfl
theorem lnkT {h : SH} {ts : List Int} (hr : Reads W B 1 h.A h.n (ints ts)) : Lnk W (plT h ts) (refsT ts) := by
 have e : refsT ts = ts.flatMap fun t => [((0 : Nat), t)] := by
  unfold refsT
  exact map_flat ts
 rw [e]
 refine Lnk.flat fun k t hk => ?_
 obtain ⟨b, o, hA, _, hc⟩ := int_at hr hk
 refine ⟨⟨rfl, ?_⟩, trivial⟩
 rw [SH.ad_is hA, Nat.zero_add]
 exact hc
theorem lnkE {h : SH} {n : Nat} {l : List (EvP × SH)} (hr : Reads W B 9 h.A n (l.flatMap evCs)) (hs : ∀ p ∈ l, Reads W B 3 p.2.A p.2.n (p.1.scan.flatMap seCs)) {i : Nat} {p : EvP × SH} (hi : l[i]? = some p) : Lnk W (plE h i p) (refsE p.1) := by
 obtain ⟨b, o, hA, _, hc⟩ := row_cells evCs_len (by omega) hr hi
 have c1 := hc 1 _ rfl
 have c2 := hc 2 _ rfl
 have c4 := hc 4 _ rfl
 have c5 := hc 5 _ rfl
 have c7 := hc 7 _ rfl
 unfold plE refsE
 refine ⟨⟨rfl, by rw [SH.ad_is hA]; exact c1⟩, ?_⟩
 unfold plK refsK
 by_cases h1 : p.1.kd = 1
 ·rw [if_pos h1, if_pos h1]
  exact ⟨⟨rfl, by rw [SH.ad_is hA]; exact c2⟩, trivial⟩
 ·by_cases h2 : p.1.kd = 2 ∨ p.1.kd = 3
  ·rw [if_neg h1, if_neg h1, if_pos h2, if_pos h2]
   exact ⟨⟨rfl, by rw [SH.ad_is hA]; exact c4⟩, lnkV (by rw [SH.ad_is hA]; exact c5)⟩
  ·by_cases h4 : p.1.kd = 4
   ·rw [if_neg h1, if_neg h1, if_neg h2, if_neg h2, if_pos h4, if_pos h4]
    refine ⟨⟨rfl, by rw [SH.ad_is hA]; exact c7⟩, Lnk.flat fun k x hk => ?_⟩
    obtain ⟨b2, o2, hA2, _, hd⟩ := row_cells seCs_len (by omega) (hs p (List.mem_of_getElem? hi)) hk
    have d0 := hd 0 _ rfl
    have d1 := hd 1 _ rfl
    unfold plS refsS
    rw [Nat.zero_add]
    exact ⟨⟨rfl, by rw [SH.ad_is hA2]; exact d0⟩, lnkV (by rw [SH.ad_is hA2]; exact d1)⟩
   ·rw [if_neg h1, if_neg h1, if_neg h2, if_neg h2, if_neg h4, if_neg h4]
    trivial
theorem HRd.lnk (h : HRd W B m) : Lnk W (plcs m) (refs m.pl) := by
 unfold plcs refs HistM.pl
 simp only
 rw [List.flatMap_map, List.flatMap_map, List.flatMap_map]
 refine Lnk.append (Lnk.flat fun k p hk => ?_) (Lnk.append (Lnk.flat fun k p hk => ?_) (Lnk.append (Lnk.flat fun k p hk => ?_) (Lnk.flat fun k p hk => ?_)))
 ·rw [Nat.zero_add]
  exact lnkE h.ev h.sc hk
 ·obtain ⟨b, o, hA, _, hc⟩ := row_cells odCs_len (by omega) h.od hk
  have c0 := hc 0 _ rfl
  unfold plO refsO
  rw [Nat.zero_add]
  exact ⟨⟨rfl, by rw [SH.ad_is hA]; exact c0⟩, lnkT (h.ot p (List.mem_of_getElem? hk))⟩
 ·obtain ⟨b, o, hA, _, hc⟩ := row_cells maCs_len (by omega) h.ma hk
  have c0 := hc 0 _ rfl
  have c1 := hc 1 _ rfl
  unfold plM refsM
  rw [Nat.zero_add]
  exact ⟨⟨rfl, by rw [SH.ad_is hA]; exact c0⟩, ⟨rfl, by rw [SH.ad_is hA]; exact c1⟩, lnkT (h.mt p (List.mem_of_getElem? hk))⟩
 ·obtain ⟨b, o, hA, _, hc⟩ := row_cells waCs_len (by omega) h.wa hk
  have c0 := hc 0 _ rfl
  unfold plW refsW
  rw [Nat.zero_add]
  exact ⟨⟨rfl, by rw [SH.ad_is hA]; exact c0⟩, trivial⟩

structure SkE (h : SH) (X : World) (i : Nat) (p : EvP × SH) : Prop where
 k0 : X.cell? (h.ad (i * 9)) = some (.int .i64 p.1.kd)
 k6 : X.cell? (h.ad (i * 9 + 6)) = some (.int .i64 p.1.vk)
 k8 : X.cell? (h.ad (i * 9 + 8)) = some (.slice p.2.A p.2.n p.2.c)
 sc : ∀ j s, p.1.scan[j]? = some s → X.cell? (p.2.ad (j * 3 + 2)) = some (.int .i64 s.k)
structure SkH (m : HistM) (Bh : Nat) (X : World) : Prop where
 b4 : X.cell? ⟨Bh, 4, none⟩ = some (.slice m.ev.1.A m.ev.1.n m.ev.1.c)
 b5 : X.cell? ⟨Bh, 5, none⟩ = some (.slice m.od.1.A m.od.1.n m.od.1.c)
 b6 : X.cell? ⟨Bh, 6, none⟩ = some (.slice m.ma.1.A m.ma.1.n m.ma.1.c)
 b7 : X.cell? ⟨Bh, 7, none⟩ = some (.slice m.wa.1.A m.wa.1.n m.wa.1.c)
 ev : ∀ i p, m.ev.2[i]? = some p → SkE m.ev.1 X i p
 od : ∀ i p, m.od.2[i]? = some p → X.cell? (m.od.1.ad (i * 2 + 1)) = some (.slice p.2.A p.2.n p.2.c)
 ma : ∀ i p, m.ma.2[i]? = some p → X.cell? (m.ma.1.ad (i * 4 + 3)) = some (.slice p.2.A p.2.n p.2.c)
structure Fit (m : HistM) : Prop where
 ev : m.ev.2.length = m.ev.1.n ∧ (0 < m.ev.1.n → ∃ b o, m.ev.1.A = some ⟨b, o, none⟩)
 od : m.od.2.length = m.od.1.n ∧ (0 < m.od.1.n → ∃ b o, m.od.1.A = some ⟨b, o, none⟩)
 ma : m.ma.2.length = m.ma.1.n ∧ (0 < m.ma.1.n → ∃ b o, m.ma.1.A = some ⟨b, o, none⟩)
 wa : m.wa.2.length = m.wa.1.n ∧ (0 < m.wa.1.n → ∃ b o, m.wa.1.A = some ⟨b, o, none⟩)
 sc : ∀ p ∈ m.ev.2, p.1.scan.length = p.2.n ∧ (0 < p.2.n → ∃ b o, p.2.A = some ⟨b, o, none⟩)
 ot : ∀ p ∈ m.od.2, p.1.ts.length = p.2.n ∧ (0 < p.2.n → ∃ b o, p.2.A = some ⟨b, o, none⟩)
 mt : ∀ p ∈ m.ma.2, p.1.ts.length = p.2.n ∧ (0 < p.2.n → ∃ b o, p.2.A = some ⟨b, o, none⟩)
theorem row_fit {α : Type} {enc : α → List Value} {s n : Nat} {A : Option Addr} {l : List α} (hs : ∀ x, (enc x).length = s) (hp : 0 < s) (h : Reads W B s A n (l.flatMap enc)) : l.length = n ∧ (0 < n → ∃ b o, A = some ⟨b, o, none⟩) :=
 ⟨reads_len_s hs hp h, fun hn => by obtain ⟨b, o, e, _⟩ := row_plain hp h hn; exact ⟨b, o, e⟩⟩
theorem ints_fit {n : Nat} {A : Option Addr} {l : List Int} (h : Reads W B 1 A n (ints l)) : l.length = n ∧ (0 < n → ∃ b o, A = some ⟨b, o, none⟩) :=
 ⟨ints_len h, fun hn => by obtain ⟨b, o, e, _⟩ := row_plain (by omega) h hn; exact ⟨b, o, e⟩⟩
theorem HRd.fit (h : HRd W B m) : Fit m :=
 ⟨row_fit evCs_len (by omega) h.ev, row_fit odCs_len (by omega) h.od, row_fit maCs_len (by omega) h.ma, row_fit waCs_len (by omega) h.wa,
  fun p hp => row_fit seCs_len (by omega) (h.sc p hp), fun p hp => ints_fit (h.ot p hp), fun p hp => ints_fit (h.mt p hp)⟩
theorem HRd.skel {Bh : Nat} (h : HRd W B m) (hb : Blk W Bh 28 m.cs) : SkH m Bh W where
 b4 := hb.cell 4
 b5 := hb.cell 5
 b6 := hb.cell 6
 b7 := hb.cell 7
 ev := fun i p hi => by
  obtain ⟨b, o, hA, _, hc⟩ := row_cells evCs_len (by omega) h.ev hi
  refine ⟨by rw [SH.ad_is hA]; exact hc 0 _ rfl, by rw [SH.ad_is hA]; exact hc 6 _ rfl, by rw [SH.ad_is hA]; exact hc 8 _ rfl, fun j s hj => ?_⟩
  obtain ⟨b2, o2, hA2, _, hd⟩ := row_cells seCs_len (by omega) (h.sc p (List.mem_of_getElem? hi)) hj
  rw [SH.ad_is hA2]
  exact hd 2 _ rfl
 od := fun i p hi => by
  obtain ⟨b, o, hA, _, hc⟩ := row_cells odCs_len (by omega) h.od hi
  rw [SH.ad_is hA]
  exact hc 1 _ rfl
 ma := fun i p hi => by
  obtain ⟨b, o, hA, _, hc⟩ := row_cells maCs_len (by omega) h.ma hi
  rw [SH.ad_is hA]
  exact hc 3 _ rfl
end
end Go.Proofs.YtlnbmmaminflcaaGreatDoor
namespace Go.Proofs.YtlnbmmaminflcaaGreatDoor
open Go.RowKit Go.Shelf

def EachIs (J : Nat → World → Prop) (Jx : World → Prop) (n : Nat) : Ending → World → Prop := fun e X => (e = .returned (.bool true) ∧ J n X) ∨ (e = .returned (.bool false) ∧ Jx X)

set_option maxRecDepth 100000 in
set_option maxHeartbeats 4000000 in
theorem each_ev (g : FuncId) (lb : Array Value) (eg : ∀ args w, (callFunc g args).run Tryz.prog w = .ok (.enter g args) w) (A : Option Addr) (n c : Nat) (hA : 0 < n → ∃ b o, A = some ⟨b, o, none⟩) (J : Nat → World → Prop) (Jx : World → Prop)
 (hQ : ∀ i X, i < n → J i X → Calls Tryz.prog g (#[.pointer (some (SH.ad ⟨A, n, c⟩ (i * 9)))] ++ lb) X (EachIs (fun _ => J (i + 1)) Jx 0)) (hn : n ≤ 1000000) (W : World) (h0 : J 0 W) :
 Calls Tryz.prog 68 #[.slice A n c, .func (.func g) #[] lb] W (EachIs J Jx n) := by
 have HQ := Lib.hid hQ
 have H0 := Lib.hid h0
 have HA := Lib.hid hA
 clear hQ h0 hA
 go_enter Tryz.func68, Tryz.ntmps68
 go_wp2_with fail
 go_loopw [8] (fun v wr => ∃ i : Nat, v = .int .i64 i ∧ i ≤ n ∧ Hid (J i wr)) (fun v _ => n - (intOf v).toNat)
 case atStart => exact ⟨0, rfl, Nat.zero_le _, H0⟩
 case round =>
  clear H0
  obtain ⟨i, rfl, hin, HJ⟩ := hrel
  by_cases hin2 : i < n
  ·have hlt : (i : Int) < (n : Int) := by omega
   obtain ⟨b, o, rfl⟩ := HA.out (by omega)
   have HC := Lib.hid (HQ.out i wr hin2 HJ.out)
   rw [SH.ad_is rfl] at HC
   clear HJ
   go_wp2_with fail
   refine HC.out.mono ?_
   rintro e w2 (⟨rfl, hj⟩ | ⟨rfl, hj⟩)
   ·have HJ2 := Lib.hid hj
    clear hj HC
    go_wp2_with fail
    go_roundw
    case rel => exact ⟨i + 1, by go_num, hin2, HJ2⟩
    case measure => simp [intOf]; omega
   ·have HJ2 := Lib.hid hj
    clear hj HC
    go_wp2_with fail
    go_ret
    exact .inr ⟨rfl, HJ2.out⟩
  ·have hge : ¬ (i : Int) < (n : Int) := by omega
   obtain rfl : i = n := by omega
   go_wp2_with fail
   go_ret
   exact .inl ⟨rfl, HJ.out⟩

set_option maxRecDepth 100000 in
set_option maxHeartbeats 4000000 in
theorem each_od (g : FuncId) (lb : Array Value) (eg : ∀ args w, (callFunc g args).run Tryz.prog w = .ok (.enter g args) w) (A : Option Addr) (n c : Nat) (hA : 0 < n → ∃ b o, A = some ⟨b, o, none⟩) (J : Nat → World → Prop) (Jx : World → Prop)
 (hQ : ∀ i X, i < n → J i X → Calls Tryz.prog g (#[.pointer (some (SH.ad ⟨A, n, c⟩ (i * 2)))] ++ lb) X (EachIs (fun _ => J (i + 1)) Jx 0)) (hn : n ≤ 1000000) (W : World) (h0 : J 0 W) :
 Calls Tryz.prog 71 #[.slice A n c, .func (.func g) #[] lb] W (EachIs J Jx n) := by
 have HQ := Lib.hid hQ
 have H0 := Lib.hid h0
 have HA := Lib.hid hA
 clear hQ h0 hA
 go_enter Tryz.func71, Tryz.ntmps71
 go_wp2_with fail
 go_loopw [8] (fun v wr => ∃ i : Nat, v = .int .i64 i ∧ i ≤ n ∧ Hid (J i wr)) (fun v _ => n - (intOf v).toNat)
 case atStart => exact ⟨0, rfl, Nat.zero_le _, H0⟩
 case round =>
  clear H0
  obtain ⟨i, rfl, hin, HJ⟩ := hrel
  by_cases hin2 : i < n
  ·have hlt : (i : Int) < (n : Int) := by omega
   obtain ⟨b, o, rfl⟩ := HA.out (by omega)
   have HC := Lib.hid (HQ.out i wr hin2 HJ.out)
   rw [SH.ad_is rfl] at HC
   clear HJ
   go_wp2_with fail
   refine HC.out.mono ?_
   rintro e w2 (⟨rfl, hj⟩ | ⟨rfl, hj⟩)
   ·have HJ2 := Lib.hid hj
    clear hj HC
    go_wp2_with fail
    go_roundw
    case rel => exact ⟨i + 1, by go_num, hin2, HJ2⟩
    case measure => simp [intOf]; omega
   ·have HJ2 := Lib.hid hj
    clear hj HC
    go_wp2_with fail
    go_ret
    exact .inr ⟨rfl, HJ2.out⟩
  ·have hge : ¬ (i : Int) < (n : Int) := by omega
   obtain rfl : i = n := by omega
   go_wp2_with fail
   go_ret
   exact .inl ⟨rfl, HJ.out⟩

set_option maxRecDepth 100000 in
set_option maxHeartbeats 4000000 in
theorem each_ma (g : FuncId) (lb : Array Value) (eg : ∀ args w, (callFunc g args).run Tryz.prog w = .ok (.enter g args) w) (A : Option Addr) (n c : Nat) (hA : 0 < n → ∃ b o, A = some ⟨b, o, none⟩) (J : Nat → World → Prop) (Jx : World → Prop)
 (hQ : ∀ i X, i < n → J i X → Calls Tryz.prog g (#[.pointer (some (SH.ad ⟨A, n, c⟩ (i * 4)))] ++ lb) X (EachIs (fun _ => J (i + 1)) Jx 0)) (hn : n ≤ 1000000) (W : World) (h0 : J 0 W) :
 Calls Tryz.prog 73 #[.slice A n c, .func (.func g) #[] lb] W (EachIs J Jx n) := by
 have HQ := Lib.hid hQ
 have H0 := Lib.hid h0
 have HA := Lib.hid hA
 clear hQ h0 hA
 go_enter Tryz.func73, Tryz.ntmps73
 go_wp2_with fail
 go_loopw [8] (fun v wr => ∃ i : Nat, v = .int .i64 i ∧ i ≤ n ∧ Hid (J i wr)) (fun v _ => n - (intOf v).toNat)
 case atStart => exact ⟨0, rfl, Nat.zero_le _, H0⟩
 case round =>
  clear H0
  obtain ⟨i, rfl, hin, HJ⟩ := hrel
  by_cases hin2 : i < n
  ·have hlt : (i : Int) < (n : Int) := by omega
   obtain ⟨b, o, rfl⟩ := HA.out (by omega)
   have HC := Lib.hid (HQ.out i wr hin2 HJ.out)
   rw [SH.ad_is rfl] at HC
   clear HJ
   go_wp2_with fail
   refine HC.out.mono ?_
   rintro e w2 (⟨rfl, hj⟩ | ⟨rfl, hj⟩)
   ·have HJ2 := Lib.hid hj
    clear hj HC
    go_wp2_with fail
    go_roundw
    case rel => exact ⟨i + 1, by go_num, hin2, HJ2⟩
    case measure => simp [intOf]; omega
   ·have HJ2 := Lib.hid hj
    clear hj HC
    go_wp2_with fail
    go_ret
    exact .inr ⟨rfl, HJ2.out⟩
  ·have hge : ¬ (i : Int) < (n : Int) := by omega
   obtain rfl : i = n := by omega
   go_wp2_with fail
   go_ret
   exact .inl ⟨rfl, HJ.out⟩

set_option maxRecDepth 100000 in
set_option maxHeartbeats 4000000 in
theorem each_wa (g : FuncId) (lb : Array Value) (eg : ∀ args w, (callFunc g args).run Tryz.prog w = .ok (.enter g args) w) (A : Option Addr) (n c : Nat) (hA : 0 < n → ∃ b o, A = some ⟨b, o, none⟩) (J : Nat → World → Prop) (Jx : World → Prop)
 (hQ : ∀ i X, i < n → J i X → Calls Tryz.prog g (#[.pointer (some (SH.ad ⟨A, n, c⟩ (i * 2)))] ++ lb) X (EachIs (fun _ => J (i + 1)) Jx 0)) (hn : n ≤ 1000000) (W : World) (h0 : J 0 W) :
 Calls Tryz.prog 75 #[.slice A n c, .func (.func g) #[] lb] W (EachIs J Jx n) := by
 have HQ := Lib.hid hQ
 have H0 := Lib.hid h0
 have HA := Lib.hid hA
 clear hQ h0 hA
 go_enter Tryz.func75, Tryz.ntmps75
 go_wp2_with fail
 go_loopw [8] (fun v wr => ∃ i : Nat, v = .int .i64 i ∧ i ≤ n ∧ Hid (J i wr)) (fun v _ => n - (intOf v).toNat)
 case atStart => exact ⟨0, rfl, Nat.zero_le _, H0⟩
 case round =>
  clear H0
  obtain ⟨i, rfl, hin, HJ⟩ := hrel
  by_cases hin2 : i < n
  ·have hlt : (i : Int) < (n : Int) := by omega
   obtain ⟨b, o, rfl⟩ := HA.out (by omega)
   have HC := Lib.hid (HQ.out i wr hin2 HJ.out)
   rw [SH.ad_is rfl] at HC
   clear HJ
   go_wp2_with fail
   refine HC.out.mono ?_
   rintro e w2 (⟨rfl, hj⟩ | ⟨rfl, hj⟩)
   ·have HJ2 := Lib.hid hj
    clear hj HC
    go_wp2_with fail
    go_roundw
    case rel => exact ⟨i + 1, by go_num, hin2, HJ2⟩
    case measure => simp [intOf]; omega
   ·have HJ2 := Lib.hid hj
    clear hj HC
    go_wp2_with fail
    go_ret
    exact .inr ⟨rfl, HJ2.out⟩
  ·have hge : ¬ (i : Int) < (n : Int) := by omega
   obtain rfl : i = n := by omega
   go_wp2_with fail
   go_ret
   exact .inl ⟨rfl, HJ.out⟩

set_option maxRecDepth 100000 in
set_option maxHeartbeats 4000000 in
theorem each_se (g : FuncId) (lb : Array Value) (eg : ∀ args w, (callFunc g args).run Tryz.prog w = .ok (.enter g args) w) (A : Option Addr) (n c : Nat) (hA : 0 < n → ∃ b o, A = some ⟨b, o, none⟩) (J : Nat → World → Prop) (Jx : World → Prop)
 (hQ : ∀ i X, i < n → J i X → Calls Tryz.prog g (#[.pointer (some (SH.ad ⟨A, n, c⟩ (i * 3)))] ++ lb) X (EachIs (fun _ => J (i + 1)) Jx 0)) (hn : n ≤ 1000000) (W : World) (h0 : J 0 W) :
 Calls Tryz.prog 105 #[.slice A n c, .func (.func g) #[] lb] W (EachIs J Jx n) := by
 have HQ := Lib.hid hQ
 have H0 := Lib.hid h0
 have HA := Lib.hid hA
 clear hQ h0 hA
 go_enter Tryz.func105, Tryz.ntmps105
 go_wp2_with fail
 go_loopw [8] (fun v wr => ∃ i : Nat, v = .int .i64 i ∧ i ≤ n ∧ Hid (J i wr)) (fun v _ => n - (intOf v).toNat)
 case atStart => exact ⟨0, rfl, Nat.zero_le _, H0⟩
 case round =>
  clear H0
  obtain ⟨i, rfl, hin, HJ⟩ := hrel
  by_cases hin2 : i < n
  ·have hlt : (i : Int) < (n : Int) := by omega
   obtain ⟨b, o, rfl⟩ := HA.out (by omega)
   have HC := Lib.hid (HQ.out i wr hin2 HJ.out)
   rw [SH.ad_is rfl] at HC
   clear HJ
   go_wp2_with fail
   refine HC.out.mono ?_
   rintro e w2 (⟨rfl, hj⟩ | ⟨rfl, hj⟩)
   ·have HJ2 := Lib.hid hj
    clear hj HC
    go_wp2_with fail
    go_roundw
    case rel => exact ⟨i + 1, by go_num, hin2, HJ2⟩
    case measure => simp [intOf]; omega
   ·have HJ2 := Lib.hid hj
    clear hj HC
    go_wp2_with fail
    go_ret
    exact .inr ⟨rfl, HJ2.out⟩
  ·have hge : ¬ (i : Int) < (n : Int) := by omega
   obtain rfl : i = n := by omega
   go_wp2_with fail
   go_ret
   exact .inl ⟨rfl, HJ.out⟩

set_option maxRecDepth 100000 in
set_option maxHeartbeats 4000000 in
theorem each_in (g : FuncId) (lb : Array Value) (eg : ∀ args w, (callFunc g args).run Tryz.prog w = .ok (.enter g args) w) (A : Option Addr) (n c : Nat) (hA : 0 < n → ∃ b o, A = some ⟨b, o, none⟩) (J : Nat → World → Prop) (Jx : World → Prop)
 (hQ : ∀ i X, i < n → J i X → Calls Tryz.prog g (#[.pointer (some (SH.ad ⟨A, n, c⟩ (i)))] ++ lb) X (EachIs (fun _ => J (i + 1)) Jx 0)) (hn : n ≤ 1000000) (W : World) (h0 : J 0 W) :
 Calls Tryz.prog 66 #[.slice A n c, .func (.func g) #[] lb] W (EachIs J Jx n) := by
 have HQ := Lib.hid hQ
 have H0 := Lib.hid h0
 have HA := Lib.hid hA
 clear hQ h0 hA
 go_enter Tryz.func66, Tryz.ntmps66
 go_wp2_with fail
 go_loopw [8] (fun v wr => ∃ i : Nat, v = .int .i64 i ∧ i ≤ n ∧ Hid (J i wr)) (fun v _ => n - (intOf v).toNat)
 case atStart => exact ⟨0, rfl, Nat.zero_le _, H0⟩
 case round =>
  clear H0
  obtain ⟨i, rfl, hin, HJ⟩ := hrel
  by_cases hin2 : i < n
  ·have hlt : (i : Int) < (n : Int) := by omega
   obtain ⟨b, o, rfl⟩ := HA.out (by omega)
   have HC := Lib.hid (HQ.out i wr hin2 HJ.out)
   rw [SH.ad_is rfl] at HC
   clear HJ
   go_wp2_with fail
   refine HC.out.mono ?_
   rintro e w2 (⟨rfl, hj⟩ | ⟨rfl, hj⟩)
   ·have HJ2 := Lib.hid hj
    clear hj HC
    go_wp2_with fail
    go_roundw
    case rel => exact ⟨i + 1, by go_num, hin2, HJ2⟩
    case measure => simp [intOf]; omega
   ·have HJ2 := Lib.hid hj
    clear hj HC
    go_wp2_with fail
    go_ret
    exact .inr ⟨rfl, HJ2.out⟩
  ·have hge : ¬ (i : Int) < (n : Int) := by omega
   obtain rfl : i = n := by omega
   go_wp2_with fail
   go_ret
   exact .inl ⟨rfl, HJ.out⟩
end Go.Proofs.YtlnbmmaminflcaaGreatDoor
