/- Layer history: histories as plain data, what they speak of, numbered anew, completed: plain facts. -/
import Derived.Test.YtlnbmmaminflcaaGreatDoorM6
import Derived.Test.YtlnbmmaminflcaaGreatDoorM7
-- holds: YtlnbmmaminflcaaGreatDoorVIa
namespace Go.Proofs.YtlnbmmaminflcaaGreatDoor

structure SeenP where
 o : Int
 t : Int
 k : Int
deriving DecidableEq
structure EvP where
 kd : Int
 t : Int
 s : Int
 lev : Int
 o : Int
 vt : Int
 vk : Int
 p : Int
 scan : List SeenP
deriving DecidableEq
structure OrdP where
 o : Int
 ts : List Int
deriving DecidableEq
structure MatP where
 p : Int
 o : Int
 fi : Bool
 ts : List Int
deriving DecidableEq
structure WantP where
 s : Int
 b : Int
deriving DecidableEq
structure Hist where
 tr : List ByteArray
 se : List ByteArray
 ob : List ByteArray
 pr : List ByteArray
 ev : List EvP
 od : List OrdP
 ma : List MatP
 wa : List WantP
deriving DecidableEq

def refsV (t k : Int) : List (Nat × Int) := if k = 0 then [] else [(0, t)]
def refsS (s : SeenP) : List (Nat × Int) := (2, s.o) :: refsV s.t s.k
def refsK (e : EvP) : List (Nat × Int) :=
 if e.kd = 1 then [(1, e.s)] else if e.kd = 2 ∨ e.kd = 3 then (2, e.o) :: refsV e.vt e.vk else if e.kd = 4 then (3, e.p) :: e.scan.flatMap refsS else []
def refsE (e : EvP) : List (Nat × Int) := (0, e.t) :: refsK e
def refsT (ts : List Int) : List (Nat × Int) := ts.map fun t => (0, t)
def refsO (r : OrdP) : List (Nat × Int) := (2, r.o) :: refsT r.ts
def refsM (r : MatP) : List (Nat × Int) := (3, r.p) :: (2, r.o) :: refsT r.ts
def refsW (r : WantP) : List (Nat × Int) := [(1, r.s)]
def refs (H : Hist) : List (Nat × Int) := H.ev.flatMap refsE ++ (H.od.flatMap refsO ++ (H.ma.flatMap refsM ++ H.wa.flatMap refsW))

def reV (f : Nat → Int → Int) (t k : Int) : Int := if k = 0 then t else f 0 t
def reS (f : Nat → Int → Int) (s : SeenP) : SeenP := ⟨f 2 s.o, reV f s.t s.k, s.k⟩
def reE (f : Nat → Int → Int) (e : EvP) : EvP :=
 if e.kd = 1 then ⟨e.kd, f 0 e.t, f 1 e.s, e.lev, e.o, e.vt, e.vk, e.p, e.scan⟩
 else if e.kd = 2 ∨ e.kd = 3 then ⟨e.kd, f 0 e.t, e.s, e.lev, f 2 e.o, reV f e.vt e.vk, e.vk, e.p, e.scan⟩
 else if e.kd = 4 then ⟨e.kd, f 0 e.t, e.s, e.lev, e.o, e.vt, e.vk, f 3 e.p, e.scan.map (reS f)⟩
 else ⟨e.kd, f 0 e.t, e.s, e.lev, e.o, e.vt, e.vk, e.p, e.scan⟩
def reO (f : Nat → Int → Int) (r : OrdP) : OrdP := ⟨f 2 r.o, r.ts.map (f 0)⟩
def reM (f : Nat → Int → Int) (r : MatP) : MatP := ⟨f 3 r.p, f 2 r.o, r.fi, r.ts.map (f 0)⟩
def reW (f : Nat → Int → Int) (r : WantP) : WantP := ⟨f 1 r.s, r.b⟩
def reH (f : Nat → Int → Int) (H : Hist) : Hist := { H with ev := H.ev.map (reE f), od := H.od.map (reO f), ma := H.ma.map (reM f), wa := H.wa.map (reW f) }
section
variable {f : Nat → Int → Int} {e : EvP} {t k : Int}
def reP (f : Nat → Int → Int) (p : Nat × Int) : Nat × Int := (p.1, f p.1 p.2)
theorem refsV_re (t k : Int) : refsV (reV f t k) k = (refsV t k).map (reP f) := by
 unfold refsV reV; split <;> rfl
theorem refsS_re (s : SeenP) : refsS (reS f s) = (refsS s).map (reP f) := by
 unfold refsS reS
 simp only [refsV_re, List.map_cons]; rfl
theorem reE_kd (e : EvP) : (reE f e).kd = e.kd := by unfold reE; (repeat' split) <;> rfl
theorem reE_vk (e : EvP) : (reE f e).vk = e.vk := by unfold reE; (repeat' split) <;> rfl
theorem reE_t (e : EvP) : (reE f e).t = f 0 e.t := by unfold reE; (repeat' split) <;> rfl
theorem scan_re (l : List SeenP) : (l.map (reS f)).flatMap refsS = (l.flatMap refsS).map (reP f) := by
 simp only [List.map_flatMap, List.flatMap_map, refsS_re]
theorem refsE_re (e : EvP) : refsE (reE f e) = (refsE e).map (reP f) := by
 unfold refsE
 rw [reE_t, List.map_cons]
 congr 1
 unfold refsK
 rw [reE_kd]
 unfold reE
 by_cases h1 : e.kd = 1
 ·rw [if_pos h1, if_pos h1, if_pos h1]; rfl
 ·by_cases h2 : e.kd = 2 ∨ e.kd = 3
  ·rw [if_neg h1, if_neg h1, if_neg h1, if_pos h2, if_pos h2, if_pos h2, List.map_cons, ← refsV_re]; rfl
  ·by_cases h4 : e.kd = 4
   ·rw [if_neg h1, if_neg h1, if_neg h1, if_neg h2, if_neg h2, if_neg h2, if_pos h4, if_pos h4, if_pos h4, List.map_cons, ← scan_re]; rfl
   ·rw [if_neg h1, if_neg h1, if_neg h1, if_neg h2, if_neg h2, if_neg h2, if_neg h4, if_neg h4]; rfl
theorem refsT_re (ts : List Int) : refsT (ts.map (f 0)) = (refsT ts).map (reP f) := by
 unfold refsT; rw [List.map_map, List.map_map]; rfl
theorem refsO_re (r : OrdP) : refsO (reO f r) = (refsO r).map (reP f) := by
 unfold refsO reO; simp only [refsT_re, List.map_cons]; rfl
theorem refsM_re (r : MatP) : refsM (reM f r) = (refsM r).map (reP f) := by
 unfold refsM reM; simp only [refsT_re, List.map_cons]; rfl
theorem refsW_re (r : WantP) : refsW (reW f r) = (refsW r).map (reP f) := rfl
theorem refs_re (H : Hist) : refs (reH f H) = (refs H).map (reP f) := by
 unfold refs reH
 simp only [List.map_append, List.map_flatMap, List.flatMap_map, refsE_re, refsO_re, refsM_re, refsW_re]
theorem reE_one (h : e.kd = 1) : reE f e = ⟨e.kd, f 0 e.t, f 1 e.s, e.lev, e.o, e.vt, e.vk, e.p, e.scan⟩ := by unfold reE; rw [if_pos h]
theorem reE_two (h : e.kd = 2 ∨ e.kd = 3) : reE f e = ⟨e.kd, f 0 e.t, e.s, e.lev, f 2 e.o, reV f e.vt e.vk, e.vk, e.p, e.scan⟩ := by unfold reE; rw [if_neg (by omega), if_pos h]
theorem reE_four (h : e.kd = 4) : reE f e = ⟨e.kd, f 0 e.t, e.s, e.lev, e.o, e.vt, e.vk, f 3 e.p, e.scan.map (reS f)⟩ := by unfold reE; rw [if_neg (by omega), if_neg (by omega), if_pos h]
theorem reE_end (h : ¬ e.kd = 1 ∧ ¬ (e.kd = 2 ∨ e.kd = 3) ∧ ¬ e.kd = 4) : reE f e = ⟨e.kd, f 0 e.t, e.s, e.lev, e.o, e.vt, e.vk, e.p, e.scan⟩ := by unfold reE; rw [if_neg h.1, if_neg h.2.1, if_neg h.2.2]
end

def addI (l : List Int) (n : Int) : List Int := if n ∈ l then l else l ++ [n]
def firstsF (l : List Int) (r : List Int) : List Int := r.foldl addI l
def ofSort (s : Nat) (r : List (Nat × Int)) : List Int := (r.filter fun p => p.1 == s).map (·.2)
def spk (s : Nat) (r : List (Nat × Int)) : List Int := firstsF [] (ofSort s r)
def idxI : List Int → Int → Nat
 | [], _ => 0
 | x :: xs, s => if x = s then 0 else idxI xs s + 1
section
variable {l l2 r : List Int} {n m : Int} {i : Nat}
theorem addI_in (h : n ∈ l) : addI l n = l := by unfold addI; rw [if_pos h]
theorem addI_out (h : n ∉ l) : addI l n = l ++ [n] := by unfold addI; rw [if_neg h]
theorem mem_addI : m ∈ addI l n ↔ m ∈ l ∨ m = n := by
 unfold addI
 split
 ·exact ⟨.inl, fun h => h.elim id fun h => by rw [h]; assumption⟩
 ·simp
theorem firstsF_cons : firstsF l (n :: r) = firstsF (addI l n) r := rfl
theorem firstsF_append (a b : List Int) : firstsF l (a ++ b) = firstsF (firstsF l a) b := by unfold firstsF; rw [List.foldl_append]
theorem mem_firstsF : ∀ {r l : List Int}, m ∈ firstsF l r ↔ m ∈ l ∨ m ∈ r
 | [], l => by simp [firstsF]
 | n :: r, l => by
  rw [firstsF_cons, mem_firstsF, mem_addI, List.mem_cons, or_assoc]
theorem addI_nodup (h : l.Nodup) : (addI l n).Nodup := by
 unfold addI
 split
 ·exact h
 ·rename_i hn
  rw [List.nodup_append]
  exact ⟨h, by simp, fun a ha b hb => by simp at hb; subst hb; exact fun e => hn (e ▸ ha)⟩
theorem firstsF_nodup : ∀ {r l : List Int}, l.Nodup → (firstsF l r).Nodup
 | [], _, h => h
 | n :: r, l, h => firstsF_nodup (r := r) (l := addI l n) (addI_nodup h)
theorem addI_pre : ∃ t, addI l n = l ++ t := by
 unfold addI
 split
 ·exact ⟨[], by simp⟩
 ·exact ⟨[n], rfl⟩
theorem firstsF_pre : ∀ {r l : List Int}, ∃ t, firstsF l r = l ++ t
 | [], l => ⟨[], by simp [firstsF]⟩
 | n :: r, l => by
  obtain ⟨t, ht⟩ := addI_pre (l := l) (n := n)
  obtain ⟨u, hu⟩ := firstsF_pre (r := r) (l := addI l n)
  exact ⟨t ++ u, by rw [firstsF_cons, hu, ht, List.append_assoc]⟩
theorem idxI_more : ∀ {l : List Int} (t : List Int), n ∈ l → idxI (l ++ t) n = idxI l n
 | x :: xs, t, h => by
  rw [List.cons_append]
  unfold idxI
  split
  ·rfl
  ·rename_i e
   rcases List.mem_cons.1 h with h | h
   ·exact absurd h.symm e
   ·rw [idxI_more t h]
theorem idxI_new (h : n ∉ l) : idxI (l ++ [n]) n = l.length := by
 induction l with
 | nil => simp [idxI]
 | cons x xs ih =>
  rw [List.cons_append]
  unfold idxI
  rw [if_neg (fun e => h (by simp [e])), ih (fun e => h (by simp [e]))]
  rfl
def upI (n : Nat) : List Int := (List.range n).map fun (i : Nat) => (i : Int)
theorem upI_len (n : Nat) : (upI n).length = n := by unfold upI; simp
theorem upI_at {n i : Nat} (h : i < n) : (upI n)[i]? = some (i : Int) := by unfold upI; rw [List.getElem?_map, List.getElem?_range h]; rfl
theorem mem_upI {n : Nat} : m ∈ upI n ↔ 0 ≤ m ∧ m < n := by
 unfold upI
 simp only [List.mem_map, List.mem_range]
 exact ⟨fun ⟨i, hi, e⟩ => by omega, fun h => ⟨m.toNat, by omega, by omega⟩⟩
theorem upI_succ (n : Nat) : upI (n + 1) = upI n ++ [(n : Int)] := by unfold upI; rw [List.range_succ, List.map_append]; rfl
end

theorem ofSort_append (s : Nat) (a b : List (Nat × Int)) : ofSort s (a ++ b) = ofSort s a ++ ofSort s b := by unfold ofSort; rw [List.filter_append, List.map_append]
theorem mem_ofSort {s : Nat} {n : Int} {r : List (Nat × Int)} : n ∈ ofSort s r ↔ (s, n) ∈ r := by
 unfold ofSort
 simp only [List.mem_map, List.mem_filter, beq_iff_eq]
 exact ⟨fun ⟨p, ⟨h, e⟩, e2⟩ => by obtain ⟨a, b⟩ := p; simp only at e e2; subst e; subst e2; exact h, fun h => ⟨_, ⟨h, rfl⟩, rfl⟩⟩
theorem mem_spk {s : Nat} {n : Int} {r : List (Nat × Int)} : n ∈ spk s r ↔ (s, n) ∈ r := by
 unfold spk; rw [mem_firstsF, mem_ofSort]; simp
theorem spk_nodup (s : Nat) (r : List (Nat × Int)) : (spk s r).Nodup := firstsF_nodup (by simp)
theorem spk_snoc (s : Nat) (r : List (Nat × Int)) (q : Nat) (n : Int) : spk s (r ++ [(q, n)]) = if q = s then addI (spk s r) n else spk s r := by
 unfold spk
 rw [ofSort_append, firstsF_append]
 unfold ofSort
 by_cases h : q = s
 ·subst h; simp [firstsF]
 ·simp [h, firstsF]
theorem spk_pre (s : Nat) (a b : List (Nat × Int)) : ∃ t, spk s (a ++ b) = spk s a ++ t := by
 unfold spk
 rw [ofSort_append, firstsF_append]
 exact firstsF_pre
def anewI (r : List (Nat × Int)) (s : Nat) (n : Int) : Int := (idxI (spk s r) n : Int)
def Hist.many (H : Hist) (s : Nat) : Nat := if s = 0 then H.tr.length else if s = 1 then H.se.length else if s = 2 then H.ob.length else H.pr.length
def Hist.names (H : Hist) (s : Nat) : List ByteArray := if s = 0 then H.tr else if s = 1 then H.se else if s = 2 then H.ob else H.pr
theorem many_len (H : Hist) (s : Nat) : H.many s = (H.names s).length := by unfold Hist.many Hist.names; (repeat' split) <;> rfl
def namedN (l : List ByteArray) (ns : List Int) : List ByteArray := ns.map fun n => l.getD n.toNat ⟨#[]⟩
def numP (H : Hist) : Hist :=
 { reH (anewI (refs H)) H with tr := namedN H.tr (spk 0 (refs H)), se := namedN H.se (spk 1 (refs H)), ob := namedN H.ob (spk 2 (refs H)), pr := namedN H.pr (spk 3 (refs H)) }
theorem refs_num (H : Hist) : refs (numP H) = (refs H).map (reP (anewI (refs H))) := refs_re H
def ordP (H : Hist) : Prop := ∀ s, s < 4 → spk s (refs H) = upI (H.many s)
theorem refs_sort {H : Hist} : ∀ p ∈ refs H, p.1 < 4 := by
 intro p hp
 have hT : ∀ ts, p ∈ refsT ts → p.1 < 4 := fun ts h => by obtain ⟨t, _, rfl⟩ := List.mem_map.1 h; exact Nat.zero_lt_succ _
 have hV : ∀ t k, p ∈ refsV t k → p.1 < 4 := fun t k h => by unfold refsV at h; split at h <;> simp at h; subst h; exact Nat.zero_lt_succ _
 have hS : ∀ s, p ∈ refsS s → p.1 < 4 := fun s h => by
  rcases List.mem_cons.1 h with rfl | h
  ·show 2 < 4; omega
  ·exact hV _ _ h
 unfold refs at hp
 rcases List.mem_append.1 hp with h | h
 ·obtain ⟨e, _, h⟩ := List.mem_flatMap.1 h
  rcases List.mem_cons.1 h with rfl | h
  ·show 0 < 4; omega
  ·unfold refsK at h
   split at h
   ·simp at h; subst h; show 1 < 4; omega
   ·split at h
    ·rcases List.mem_cons.1 h with rfl | h
     ·show 2 < 4; omega
     ·exact hV _ _ h
    ·split at h
     ·rcases List.mem_cons.1 h with rfl | h
      ·show 3 < 4; omega
      ·obtain ⟨s, _, h⟩ := List.mem_flatMap.1 h
       exact hS _ h
     ·simp at h
 ·rcases List.mem_append.1 h with h | h
  ·obtain ⟨e, _, h⟩ := List.mem_flatMap.1 h
   rcases List.mem_cons.1 h with rfl | h
   ·show 2 < 4; omega
   ·exact hT _ h
  ·rcases List.mem_append.1 h with h | h
   ·obtain ⟨e, _, h⟩ := List.mem_flatMap.1 h
    rcases List.mem_cons.1 h with rfl | h
    ·show 3 < 4; omega
    ·rcases List.mem_cons.1 h with rfl | h
     ·show 2 < 4; omega
     ·exact hT _ h
   ·obtain ⟨e, _, h⟩ := List.mem_flatMap.1 h
    simp [refsW] at h
    subst h
    show 1 < 4; omega
def isN (n : Int) (many : Nat) : Bool := decide (0 ≤ n ∧ n < many)
theorem isN_iff {n : Int} {m : Nat} : isN n m = true ↔ 0 ≤ n ∧ n < m := by unfold isN; simp
def toldB (t k : Int) : Bool := if k = 0 then decide (t = 0) else decide (0 < k) && decide (k ≤ 999)
def verB (t k : Int) (many : Nat) : Bool := decide (t = 0 ∧ k = 0) || (isN t many && (decide (1 ≤ k) && decide (k ≤ 999)))
def bareE (e : EvP) : EvP :=
 if e.kd = 1 then ⟨e.kd, e.t, e.s, e.lev, 0, 0, 0, 0, []⟩
 else if e.kd = 2 ∨ e.kd = 3 then ⟨e.kd, e.t, 0, 0, e.o, e.vt, e.vk, 0, []⟩
 else if e.kd = 4 then ⟨e.kd, e.t, 0, 0, 0, 0, 0, e.p, e.scan⟩
 else ⟨e.kd, e.t, 0, 0, 0, 0, 0, 0, []⟩
def mayE (e : EvP) : Bool :=
 if e.kd = 1 then levB e.lev
 else if e.kd = 2 then (decide (e.vt = e.t) && decide (0 < e.vk)) && toldB e.vt e.vk
 else if e.kd = 3 then toldB e.vt e.vk
 else if e.kd = 4 then decide (e.scan.length ≤ 40) && e.scan.all fun s => toldB s.t s.k
 else true
def fineE (e : EvP) : Bool := decide (1 ≤ e.kd ∧ e.kd ≤ 6) && (mayE e && decide (e = bareE e))
def Hist.inR (H : Hist) (p : Nat × Int) : Bool := isN p.2 (H.many p.1)
def wrdB (s : ByteArray) : Bool := wordB s.data.toList
def namesB (l : List ByteArray) : Bool := l.all wrdB && decide l.Nodup
def fineH (H : Hist) : Bool := H.ev.all fineE && H.wa.all fun r => guB r.b
def nmsB (H : Hist) : Bool := (namesB H.tr && namesB H.se) && (namesB H.ob && namesB H.pr)
def shapedB (H : Hist) : Bool := (nmsB H && fineH H) && (refs H).all H.inR
def ordB (H : Hist) : Bool := (List.range 4).all fun s => decide (spk s (refs H) = upI (H.many s))
theorem ordB_iff {H : Hist} : ordB H = true ↔ ordP H := by unfold ordB ordP; simp
def rightB (H : Hist) : Bool := shapedB H && ordB H
structure Small (H : Hist) : Prop where
 tr : H.tr.length ≤ 60
 se : H.se.length ≤ 60
 ob : H.ob.length ≤ 60
 pr : H.pr.length ≤ 60
 ev : H.ev.length ≤ 200
 od : H.od.length ≤ 60
 ma : H.ma.length ≤ 60
 wa : H.wa.length ≤ 60
 sc : ∀ e ∈ H.ev, e.scan.length ≤ 60
 ot : ∀ r ∈ H.od, r.ts.length ≤ 60
 mt : ∀ r ∈ H.ma, r.ts.length ≤ 60
 tx : ∀ s, s < 4 → ∀ b ∈ H.names s, b.size ≤ 100
section
variable {H : Hist} {e : EvP} {s : Nat}
theorem Small.many (h : Small H) (s : Nat) : H.many s ≤ 60 := by
 have := h.tr; have := h.se; have := h.ob; have := h.pr
 unfold Hist.many
 (repeat' split) <;> assumption
theorem verB_told {t k : Int} {many : Nat} : verB t k many = (toldB t k && ((refsV t k).all fun p => isN p.2 many)) := by
 unfold verB toldB refsV
 by_cases h : k = 0
 ·subst h; simp
 ·by_cases h1 : 1 ≤ k
  ·have : 0 < k := by omega
   simp [h, h1, this, Bool.and_comm]
  ·have : ¬ 0 < k := by omega
   simp [h, h1, this]
def revB (nt ns no np : Nat) (e : EvP) : Bool :=
 isN e.t nt &&
  (if e.kd = 1 then (decide (bareE e = e) && isN e.s ns) && levB e.lev
  else if e.kd = 2 ∨ e.kd = 3 then (if e.kd = 2 ∧ (e.vk < 1 ∨ e.vt ≠ e.t) then false else (decide (bareE e = e) && isN e.o no) && verB e.vt e.vk nt)
  else if e.kd = 4 then (e.scan.all fun s => isN s.o no && verB s.t s.k nt) && ((decide (bareE e = e) && isN e.p np) && decide (e.scan.length ≤ 40))
  else decide (bareE e = e) && decide (e.kd = 5 ∨ e.kd = 6))
theorem isN_inR0 {n : Int} : isN n H.tr.length = H.inR (0, n) := rfl
theorem isN_inR1 {n : Int} : isN n H.se.length = H.inR (1, n) := rfl
theorem isN_inR2 {n : Int} : isN n H.ob.length = H.inR (2, n) := rfl
theorem isN_inR3 {n : Int} : isN n H.pr.length = H.inR (3, n) := rfl
theorem refsV_inR {t k : Int} : ((refsV t k).all fun p => isN p.2 H.tr.length) = (refsV t k).all H.inR := by
 unfold refsV
 split
 ·rfl
 ·simp [isN_inR0]
theorem all_and {α : Type} (l : List α) (p q : α → Bool) : (l.all fun x => p x && q x) = (l.all p && l.all q) := by
 induction l with
 | nil => rfl
 | cons x l ih => simp only [List.all_cons, ih]; cases p x <;> cases q x <;> cases l.all p <;> cases l.all q <;> rfl
theorem revB_is : revB H.tr.length H.se.length H.ob.length H.pr.length e = (fineE e && (refsE e).all H.inR) := by
 have hb : decide (bareE e = e) = decide (e = bareE e) := by rw [decide_eq_decide]; exact ⟨Eq.symm, Eq.symm⟩
 unfold revB fineE refsE refsK mayE
 rw [hb, List.all_cons, isN_inR0]
 by_cases h1 : e.kd = 1
 ·simp only [h1, if_true, isN_inR1, List.all_cons, List.all_nil]
  cases H.inR (0, e.t) <;> cases H.inR (1, e.s) <;> cases levB e.lev <;> cases decide (e = bareE e) <;> rfl
 ·by_cases h2 : e.kd = 2
  ·simp only [h2, true_or, if_true, isN_inR2, verB_told, refsV_inR, true_and]
   by_cases hx : e.vk < 1 ∨ e.vt ≠ e.t
   ·have : (decide (e.vt = e.t) && decide (0 < e.vk)) = false := by
     rcases hx with h | h
     ·have : ¬ 0 < e.vk := by omega
      simp [this]
     ·simp [h]
    simp [hx, this]
   ·have h3 : e.vt = e.t := by omega
    have h4 : 0 < e.vk := by omega
    have h5 : ¬ (e.vk < 1 ∨ e.vt ≠ e.t) := hx
    rw [if_neg h5]
    simp only [h3, h4, decide_true, Int.reduceEq, if_false, List.all_cons]
    rw [← h3]
    generalize (refsV e.vt e.vk).all H.inR = r
    generalize decide (e = bareE e) = q
    generalize toldB e.vt e.vk = z
    generalize H.inR (0, e.vt) = x
    generalize H.inR (2, e.o) = y
    revert x y z q r
    decide
  ·by_cases h3 : e.kd = 3
   ·simp only [h3, or_true, if_true, isN_inR2, List.all_cons, verB_told, refsV_inR, Int.reduceEq, if_false, false_and, false_or]
    cases H.inR (0, e.t) <;> cases H.inR (2, e.o) <;> cases toldB e.vt e.vk <;> cases decide (e = bareE e) <;> cases (refsV e.vt e.vk).all H.inR <;> simp
   ·by_cases h4 : e.kd = 4
    ·have hs : (e.scan.all fun s => isN s.o H.ob.length && verB s.t s.k H.tr.length) = ((e.scan.all fun s => toldB s.t s.k) && (e.scan.flatMap refsS).all H.inR) := by
      rw [List.all_flatMap, ← all_and]
      congr 1
      funext s
      unfold refsS
      rw [List.all_cons, verB_told, refsV_inR, isN_inR2]
      cases H.inR (2, s.o) <;> cases toldB s.t s.k <;> rfl
     simp only [h4, if_true, hs, isN_inR3, List.all_cons, Int.reduceEq, if_false, or_self]
     cases H.inR (0, e.t) <;> cases H.inR (3, e.p) <;> cases decide (e.scan.length ≤ 40) <;> cases decide (e = bareE e) <;> cases (e.scan.all fun s => toldB s.t s.k) <;> cases (e.scan.flatMap refsS).all H.inR <;> simp
    ·have h23 : ¬ (e.kd = 2 ∨ e.kd = 3) := by omega
     simp only [h1, h2, h3, h4, if_false, or_self, List.all_nil, Bool.and_true, Bool.true_and]
     by_cases h5 : e.kd = 5 ∨ e.kd = 6
     ·have : 1 ≤ e.kd ∧ e.kd ≤ 6 := by omega
      simp only [h5, this, decide_true, and_self]
      cases H.inR (0, e.t) <;> cases decide (e = bareE e) <;> rfl
     ·have : ¬ (1 ≤ e.kd ∧ e.kd ≤ 6) := by omega
      simp [h5, this]
theorem fine_bare (h : fineE e = true) : bareE e = e := by unfold fineE at h; simp at h; exact h.2.2.symm
theorem fine_scan (h : fineE e = true) (hk : e.kd ≠ 4) : e.scan = [] := by
 have h2 := fine_bare h
 unfold bareE at h2
 rw [← h2]
 (repeat' split) <;> first | rfl | omega
variable {f : Nat → Int → Int}
end

section
variable {H : Hist} {s : Nat} {n : Int}
theorem shaped_in (h : shapedB H = true) {p : Nat × Int} (hp : p ∈ refs H) : 0 ≤ p.2 ∧ p.2 < H.many p.1 := by
 unfold shapedB at h
 simp only [Bool.and_eq_true, List.all_eq_true] at h
 exact isN_iff.1 (h.2 p hp)
theorem shaped_ev (h : shapedB H = true) {e : EvP} (he : e ∈ H.ev) : fineE e = true := by
 unfold shapedB fineH at h
 simp only [Bool.and_eq_true, List.all_eq_true] at h
 exact h.1.2.1 e he
theorem namesB_iff {l : List ByteArray} : namesB l = true ↔ (∀ x ∈ l, wrdB x = true) ∧ l.Nodup := by unfold namesB; simp
theorem right_shaped (h : rightB H = true) : shapedB H = true := by
 unfold rightB at h
 exact (Bool.and_eq_true_iff.1 h).1
end

def hasB (H : Hist) (t kd : Int) : Bool := H.ev.any fun e => decide (e.t = t) && decide (e.kd = kd)
def openB (H : Hist) (t : Int) : Bool := hasB H t 1 && (!hasB H t 5 && !hasB H t 6)
def leftL (H : Hist) : List Int := (upI H.tr.length).filter (openB H)
def abortE (t : Int) : EvP := ⟨6, t, 0, 0, 0, 0, 0, 0, []⟩
def comP (H : Hist) : Hist := { H with ev := H.ev ++ (leftL H).map abortE }
def ofP (H : Hist) (t : Int) : List Int := (upI H.ev.length).filter fun i => decide ((H.ev.map (·.t))[i.toNat]? = some t)
section
variable {H : Hist} {t : Int}
theorem hasB_iff {kd : Int} : hasB H t kd = true ↔ ∃ e ∈ H.ev, e.t = t ∧ e.kd = kd := by unfold hasB; simp
theorem refs_t {e : EvP} (he : e ∈ H.ev) : (0, e.t) ∈ refs H := List.mem_append_left _ (List.mem_flatMap.2 ⟨e, he, List.mem_cons_self ..⟩)
theorem left_len (H : Hist) : (leftL H).length ≤ H.tr.length := by
 unfold leftL
 have := List.length_filter_le (openB H) (upI H.tr.length)
 rwa [upI_len] at this
end
end Go.Proofs.YtlnbmmaminflcaaGreatDoor
