/- Layer history: histories as plain data, what they speak of, numbered anew, completed: plain facts. -/
import Derived.Test.YtlnbmmaminflcaaDoorM6
import Derived.Test.YtlnbmmaminflcaaDoorM7
-- holds: YtlnbmmaminflcaaDoorQIa
namespace Go.Proofs.YtlnbmmaminflcaaDoor

structure SeenP where
  o : Int
  t : Int
  k : Int
deriving DecidableEq
structure EvP where
  kd : Int
  t : Int
  s : Int
  lev : Int
  o : Int
  vt : Int
  vk : Int
  p : Int
  scan : List SeenP
deriving DecidableEq
structure OrdP where
  o : Int
  ts : List Int
deriving DecidableEq
structure MatP where
  p : Int
  o : Int
  fi : Bool
  ts : List Int
deriving DecidableEq
structure WantP where
  s : Int
  b : Int
deriving DecidableEq
structure Hist where
  tr : List ByteArray
  se : List ByteArray
  ob : List ByteArray
  pr : List ByteArray
  ev : List EvP
  od : List OrdP
  ma : List MatP
  wa : List WantP
deriving DecidableEq

def refsV (t k : Int) : List (Nat × Int) := if k = 0 then [] else [(0, t)]
def refsS (s : SeenP) : List (Nat × Int) := (2, s.o) :: refsV s.t s.k
def refsK (e : EvP) : List (Nat × Int) :=
  if e.kd = 1 then [(1, e.s)] else if e.kd = 2 ∨ e.kd = 3 then (2, e.o) :: refsV e.vt e.vk else if e.kd = 4 then (3, e.p) :: e.scan.flatMap refsS else []
def refsE (e : EvP) : List (Nat × Int) := (0, e.t) :: refsK e
def refsT (ts : List Int) : List (Nat × Int) := ts.map fun t => (0, t)
def refsO (r : OrdP) : List (Nat × Int) := (2, r.o) :: refsT r.ts
def refsM (r : MatP) : List (Nat × Int) := (3, r.p) :: (2, r.o) :: refsT r.ts
def refsW (r : WantP) : List (Nat × Int) := [(1, r.s)]
def refs (H : Hist) : List (Nat × Int) := H.ev.flatMap refsE ++ (H.od.flatMap refsO ++ (H.ma.flatMap refsM ++ H.wa.flatMap refsW))

def reV (f : Nat → Int → Int) (t k : Int) : Int := if k = 0 then t else f 0 t
def reS (f : Nat → Int → Int) (s : SeenP) : SeenP := ⟨f 2 s.o, reV f s.t s.k, s.k⟩
def reE (f : Nat → Int → Int) (e : EvP) : EvP :=
  if e.kd = 1 then ⟨e.kd, f 0 e.t, f 1 e.s, e.lev, e.o, e.vt, e.vk, e.p, e.scan⟩
  else if e.kd = 2 ∨ e.kd = 3 then ⟨e.kd, f 0 e.t, e.s, e.lev, f 2 e.o, reV f e.vt e.vk, e.vk, e.p, e.scan⟩
  else if e.kd = 4 then ⟨e.kd, f 0 e.t, e.s, e.lev, e.o, e.vt, e.vk, f 3 e.p, e.scan.map (reS f)⟩
  else ⟨e.kd, f 0 e.t, e.s, e.lev, e.o, e.vt, e.vk, e.p, e.scan⟩
def reO (f : Nat → Int → Int) (r : OrdP) : OrdP := ⟨f 2 r.o, r.ts.map (f 0)⟩
def reM (f : Nat → Int → Int) (r : MatP) : MatP := ⟨f 3 r.p, f 2 r.o, r.fi, r.ts.map (f 0)⟩
def reW (f : Nat → Int → Int) (r : WantP) : WantP := ⟨f 1 r.s, r.b⟩
def reH (f : Nat → Int → Int) (H : Hist) : Hist := { H with ev := H.ev.map (reE f), od := H.od.map (reO f), ma := H.ma.map (reM f), wa := H.wa.map (reW f) }
section
variable {f : Nat → Int → Int} {e : EvP} {t k : Int}
def reP (f : Nat → Int → Int) (p : Nat × Int) : Nat × Int := (p.1, f p.1 p.2)
theorem refsV_re (t k : Int) : refsV (reV f t k) k = (refsV t k).map (reP f) := by
  unfold refsV reV; split <;> rfl
theorem refsS_re (s : SeenP) : refsS (reS f s) = (refsS s).map (reP f) := by
  unfold refsS reS
  simp only [refsV_re, List.map_cons]; rfl
theorem reE_kd (e : EvP) : (reE f e).kd = e.kd := by unfold reE; (repeat' split) <;> rfl
theorem reE_vk (e : EvP) : (reE f e).vk = e.vk := by unfold reE; (repeat' split) <;> rfl
theorem reE_lev (e : EvP) : (reE f e).lev = e.lev := by unfold reE; (repeat' split) <;> rfl
theorem reE_t (e : EvP) : (reE f e).t = f 0 e.t := by unfold reE; (repeat' split) <;> rfl
theorem scan_re (l : List SeenP) : (l.map (reS f)).flatMap refsS = (l.flatMap refsS).map (reP f) := by
  simp only [List.map_flatMap, List.flatMap_map, refsS_re]
theorem refsE_re (e : EvP) : refsE (reE f e) = (refsE e).map (reP f) := by
  unfold refsE
  rw [reE_t, List.map_cons]
  congr 1
  unfold refsK
  rw [reE_kd]
  unfold reE
  by_cases h1 : e.kd = 1
  · rw [if_pos h1, if_pos h1, if_pos h1]; rfl
  · by_cases h2 : e.kd = 2 ∨ e.kd = 3
    · rw [if_neg h1, if_neg h1, if_neg h1, if_pos h2, if_pos h2, if_pos h2, List.map_cons, ← refsV_re]; rfl
    · by_cases h4 : e.kd = 4
      · rw [if_neg h1, if_neg h1, if_neg h1, if_neg h2, if_neg h2, if_neg h2, if_pos h4, if_pos h4, if_pos h4, List.map_cons, ← scan_re]; rfl
      · rw [if_neg h1, if_neg h1, if_neg h1, if_neg h2, if_neg h2, if_neg h2, if_neg h4, if_neg h4]; rfl
theorem refsT_re (ts : List Int) : refsT (ts.map (f 0)) = (refsT ts).map (reP f) := by
  unfold refsT; rw [List.map_map, List.map_map]; rfl
theorem refsO_re (r : OrdP) : refsO (reO f r) = (refsO r).map (reP f) := by
  unfold refsO reO; simp only [refsT_re, List.map_cons]; rfl
theorem refsM_re (r : MatP) : refsM (reM f r) = (refsM r).map (reP f) := by
  unfold refsM reM; simp only [refsT_re, List.map_cons]; rfl
theorem refsW_re (r : WantP) : refsW (reW f r) = (refsW r).map (reP f) := rfl
theorem refs_re (H : Hist) : refs (reH f H) = (refs H).map (reP f) := by
  unfold refs reH
  simp only [List.map_append, List.map_flatMap, List.flatMap_map, refsE_re, refsO_re, refsM_re, refsW_re]
theorem reV_id (h : ∀ p ∈ refsV t k, f p.1 p.2 = p.2) : reV f t k = t := by
  unfold reV
  unfold refsV at h
  split
  · rfl
  · rename_i hk
    rw [if_neg hk] at h
    exact h (0, t) (by simp)
theorem reS_id {s : SeenP} (h : ∀ p ∈ refsS s, f p.1 p.2 = p.2) : reS f s = s := by
  unfold reS
  rw [h (2, s.o) (by unfold refsS; simp), reV_id fun p hp => h p (by unfold refsS; simp [hp])]
theorem map_id_of {α : Type} {f : α → α} {l : List α} (h : ∀ x ∈ l, f x = x) : l.map f = l := by
  induction l with
  | nil => rfl
  | cons x l ih => rw [List.map_cons, h x (by simp), ih fun y hy => h y (by simp [hy])]
theorem reE_id {e : EvP} (h : ∀ p ∈ refsE e, f p.1 p.2 = p.2) : reE f e = e := by
  have ht := h (0, e.t) (by unfold refsE; simp)
  have hk : ∀ p ∈ refsK e, f p.1 p.2 = p.2 := fun p hp => h p (by unfold refsE; simp [hp])
  unfold refsK at hk
  simp only at ht
  unfold reE
  by_cases h1 : e.kd = 1
  · rw [if_pos h1] at hk ⊢
    have h0 := hk (1, e.s) (by simp)
    simp only at h0
    rw [ht, h0]
  · by_cases h2 : e.kd = 2 ∨ e.kd = 3
    · rw [if_neg h1, if_pos h2] at hk ⊢
      have h0 := hk (2, e.o) (by simp)
      simp only at h0
      rw [ht, h0, reV_id fun p hp => hk p (by simp [hp])]
    · by_cases h4 : e.kd = 4
      · rw [if_neg h1, if_neg h2, if_pos h4] at hk ⊢
        have h0 := hk (3, e.p) (by simp)
        simp only at h0
        rw [ht, h0, map_id_of fun s hs => reS_id fun p hp => hk p (List.mem_cons_of_mem _ (List.mem_flatMap.2 ⟨s, hs, hp⟩))]
      · rw [if_neg h1, if_neg h2, if_neg h4, ht]
theorem ts_id {ts : List Int} (h : ∀ p ∈ refsT ts, f p.1 p.2 = p.2) : ts.map (f 0) = ts :=
  map_id_of fun t ht => h (0, t) (List.mem_map.2 ⟨t, ht, rfl⟩)
theorem reO_id {r : OrdP} (h : ∀ p ∈ refsO r, f p.1 p.2 = p.2) : reO f r = r := by
  have h0 := h (2, r.o) (by unfold refsO; simp)
  simp only at h0
  unfold reO
  rw [h0, ts_id fun p hp => h p (by unfold refsO; simp [hp])]
theorem reM_id {r : MatP} (h : ∀ p ∈ refsM r, f p.1 p.2 = p.2) : reM f r = r := by
  have h0 := h (3, r.p) (by unfold refsM; simp)
  have h1 := h (2, r.o) (by unfold refsM; simp)
  simp only at h0 h1
  unfold reM
  rw [h0, h1, ts_id fun p hp => h p (by unfold refsM; simp [hp])]
theorem reW_id {r : WantP} (h : ∀ p ∈ refsW r, f p.1 p.2 = p.2) : reW f r = r := by
  have h0 := h (1, r.s) (by unfold refsW; simp)
  simp only at h0
  unfold reW
  rw [h0]
theorem reH_id {H : Hist} (h : ∀ p ∈ refs H, f p.1 p.2 = p.2) : reH f H = H := by
  unfold reH
  unfold refs at h
  rw [map_id_of fun e he => reE_id fun p hp => h p (List.mem_append_left _ (List.mem_flatMap.2 ⟨e, he, hp⟩)),
    map_id_of fun e he => reO_id fun p hp => h p (List.mem_append_right _ (List.mem_append_left _ (List.mem_flatMap.2 ⟨e, he, hp⟩))),
    map_id_of fun e he => reM_id fun p hp => h p (List.mem_append_right _ (List.mem_append_right _ (List.mem_append_left _ (List.mem_flatMap.2 ⟨e, he, hp⟩)))),
    map_id_of fun e he => reW_id fun p hp => h p (List.mem_append_right _ (List.mem_append_right _ (List.mem_append_right _ (List.mem_flatMap.2 ⟨e, he, hp⟩))))]
theorem reE_one (h : e.kd = 1) : reE f e = ⟨e.kd, f 0 e.t, f 1 e.s, e.lev, e.o, e.vt, e.vk, e.p, e.scan⟩ := by unfold reE; rw [if_pos h]
theorem reE_two (h : e.kd = 2 ∨ e.kd = 3) : reE f e = ⟨e.kd, f 0 e.t, e.s, e.lev, f 2 e.o, reV f e.vt e.vk, e.vk, e.p, e.scan⟩ := by unfold reE; rw [if_neg (by omega), if_pos h]
theorem reE_four (h : e.kd = 4) : reE f e = ⟨e.kd, f 0 e.t, e.s, e.lev, e.o, e.vt, e.vk, f 3 e.p, e.scan.map (reS f)⟩ := by unfold reE; rw [if_neg (by omega), if_neg (by omega), if_pos h]
theorem reE_end (h : ¬ e.kd = 1 ∧ ¬ (e.kd = 2 ∨ e.kd = 3) ∧ ¬ e.kd = 4) : reE f e = ⟨e.kd, f 0 e.t, e.s, e.lev, e.o, e.vt, e.vk, e.p, e.scan⟩ := by unfold reE; rw [if_neg h.1, if_neg h.2.1, if_neg h.2.2]
end

def addI (l : List Int) (n : Int) : List Int := if n ∈ l then l else l ++ [n]
def firstsF (l : List Int) (r : List Int) : List Int := r.foldl addI l
def ofSort (s : Nat) (r : List (Nat × Int)) : List Int := (r.filter fun p => p.1 == s).map (·.2)
def spk (s : Nat) (r : List (Nat × Int)) : List Int := firstsF [] (ofSort s r)
def idxI : List Int → Int → Nat
  | [], _ => 0
  | x :: xs, s => if x = s then 0 else idxI xs s + 1
section
variable {l l2 r : List Int} {n m : Int} {i : Nat}
theorem addI_in (h : n ∈ l) : addI l n = l := by unfold addI; rw [if_pos h]
theorem addI_out (h : n ∉ l) : addI l n = l ++ [n] := by unfold addI; rw [if_neg h]
theorem mem_addI : m ∈ addI l n ↔ m ∈ l ∨ m = n := by
  unfold addI
  split
  · exact ⟨.inl, fun h => h.elim id fun h => by rw [h]; assumption⟩
  · simp
theorem firstsF_cons : firstsF l (n :: r) = firstsF (addI l n) r := rfl
theorem firstsF_append (a b : List Int) : firstsF l (a ++ b) = firstsF (firstsF l a) b := by unfold firstsF; rw [List.foldl_append]
theorem mem_firstsF : ∀ {r l : List Int}, m ∈ firstsF l r ↔ m ∈ l ∨ m ∈ r
  | [], l => by simp [firstsF]
  | n :: r, l => by
    rw [firstsF_cons, mem_firstsF, mem_addI, List.mem_cons, or_assoc]
theorem firstsF_all : ∀ {r l : List Int}, (∀ n ∈ r, n ∈ l) → firstsF l r = l
  | [], _, _ => rfl
  | n :: r, l, h => by rw [firstsF_cons, addI_in (h n (by simp))]; exact firstsF_all fun m hm => h m (by simp [hm])
theorem addI_nodup (h : l.Nodup) : (addI l n).Nodup := by
  unfold addI
  split
  · exact h
  · rename_i hn
    rw [List.nodup_append]
    exact ⟨h, by simp, fun a ha b hb => by simp at hb; subst hb; exact fun e => hn (e ▸ ha)⟩
theorem firstsF_nodup : ∀ {r l : List Int}, l.Nodup → (firstsF l r).Nodup
  | [], _, h => h
  | n :: r, l, h => firstsF_nodup (r := r) (l := addI l n) (addI_nodup h)
theorem addI_pre : ∃ t, addI l n = l ++ t := by
  unfold addI
  split
  · exact ⟨[], by simp⟩
  · exact ⟨[n], rfl⟩
theorem firstsF_pre : ∀ {r l : List Int}, ∃ t, firstsF l r = l ++ t
  | [], l => ⟨[], by simp [firstsF]⟩
  | n :: r, l => by
    obtain ⟨t, ht⟩ := addI_pre (l := l) (n := n)
    obtain ⟨u, hu⟩ := firstsF_pre (r := r) (l := addI l n)
    exact ⟨t ++ u, by rw [firstsF_cons, hu, ht, List.append_assoc]⟩
theorem idxI_lt : ∀ {l : List Int}, n ∈ l → idxI l n < l.length
  | x :: xs, h => by
    unfold idxI
    split
    · simp
    · rename_i e
      rcases List.mem_cons.1 h with h | h
      · exact absurd h.symm e
      · have := idxI_lt h; simp; omega
theorem idxI_at : ∀ {l : List Int}, n ∈ l → l[idxI l n]? = some n
  | x :: xs, h => by
    unfold idxI
    split
    · rename_i e; simp [e]
    · rename_i e
      rcases List.mem_cons.1 h with h | h
      · exact absurd h.symm e
      · simpa using idxI_at h
theorem idxI_more : ∀ {l : List Int} (t : List Int), n ∈ l → idxI (l ++ t) n = idxI l n
  | x :: xs, t, h => by
    rw [List.cons_append]
    unfold idxI
    split
    · rfl
    · rename_i e
      rcases List.mem_cons.1 h with h | h
      · exact absurd h.symm e
      · rw [idxI_more t h]
theorem idxI_new (h : n ∉ l) : idxI (l ++ [n]) n = l.length := by
  induction l with
  | nil => simp [idxI]
  | cons x xs ih =>
    rw [List.cons_append]
    unfold idxI
    rw [if_neg (fun e => h (by simp [e])), ih (fun e => h (by simp [e]))]
    rfl
theorem idxI_get : ∀ {l : List Int}, l.Nodup → l[i]? = some n → idxI l n = i := by
  intro l
  induction l generalizing i with
  | nil => intro _ h; simp at h
  | cons x xs ih =>
    intro hn h
    have hn := List.nodup_cons.1 hn
    unfold idxI
    cases i with
    | zero => simp at h; rw [if_pos h]
    | succ i =>
      simp at h
      rw [if_neg (fun e => hn.1 (by rw [e]; exact List.mem_of_getElem? h)), ih hn.2 h]
def upI (n : Nat) : List Int := (List.range n).map fun (i : Nat) => (i : Int)
theorem upI_len (n : Nat) : (upI n).length = n := by unfold upI; simp
theorem upI_at {n i : Nat} (h : i < n) : (upI n)[i]? = some (i : Int) := by unfold upI; rw [List.getElem?_map, List.getElem?_range h]; rfl
theorem mem_upI {n : Nat} : m ∈ upI n ↔ 0 ≤ m ∧ m < n := by
  unfold upI
  simp only [List.mem_map, List.mem_range]
  exact ⟨fun ⟨i, hi, e⟩ => by omega, fun h => ⟨m.toNat, by omega, by omega⟩⟩
theorem upI_nodup (n : Nat) : (upI n).Nodup := by
  unfold upI
  refine List.Pairwise.map _ (R := fun a b => a ≠ b) ?_ List.nodup_range
  intro a b h e
  exact h (by omega)
theorem upI_idx {n : Nat} (h : 0 ≤ m ∧ m < n) : (idxI (upI n) m : Int) = m := by
  have h1 := idxI_get (upI_nodup n) (upI_at (n := n) (i := m.toNat) (by omega))
  rw [show ((m.toNat : Nat) : Int) = m by omega] at h1
  omega
theorem upI_succ (n : Nat) : upI (n + 1) = upI n ++ [(n : Int)] := by unfold upI; rw [List.range_succ, List.map_append]; rfl
theorem firsts_idx : ∀ {r l : List Int}, (∀ n ∈ r, n ∈ firstsF l r) → firstsF (upI l.length) (r.map fun n => (idxI (firstsF l r) n : Int)) = upI (firstsF l r).length
  | [], l, _ => rfl
  | n :: r, l, h => by
    rw [List.map_cons, firstsF_cons]
    obtain ⟨t, ht⟩ := firstsF_pre (r := r) (l := addI l n)
    have hin : n ∈ addI l n := mem_addI.2 (.inr rfl)
    have hstep : addI (upI l.length) (idxI (firstsF l (n :: r)) n : Int) = upI (addI l n).length := by
      rw [firstsF_cons, ht, idxI_more t hin]
      by_cases hn : n ∈ l
      · rw [addI_in hn]
        refine addI_in (mem_upI.2 ?_)
        have := idxI_lt hn
        omega
      · rw [addI_out hn, idxI_new hn, addI_out (fun hm => by have := (mem_upI.1 hm).2; omega), List.length_append, List.length_singleton, upI_succ]
    rw [hstep]
    exact firsts_idx (r := r) (l := addI l n) fun m hm => by rw [← firstsF_cons]; exact h m (List.mem_cons_of_mem _ hm)
end

theorem ofSort_append (s : Nat) (a b : List (Nat × Int)) : ofSort s (a ++ b) = ofSort s a ++ ofSort s b := by unfold ofSort; rw [List.filter_append, List.map_append]
theorem mem_ofSort {s : Nat} {n : Int} {r : List (Nat × Int)} : n ∈ ofSort s r ↔ (s, n) ∈ r := by
  unfold ofSort
  simp only [List.mem_map, List.mem_filter, beq_iff_eq]
  exact ⟨fun ⟨p, ⟨h, e⟩, e2⟩ => by obtain ⟨a, b⟩ := p; simp only at e e2; subst e; subst e2; exact h, fun h => ⟨_, ⟨h, rfl⟩, rfl⟩⟩
theorem mem_spk {s : Nat} {n : Int} {r : List (Nat × Int)} : n ∈ spk s r ↔ (s, n) ∈ r := by
  unfold spk; rw [mem_firstsF, mem_ofSort]; simp
theorem spk_nodup (s : Nat) (r : List (Nat × Int)) : (spk s r).Nodup := firstsF_nodup (by simp)
theorem spk_snoc (s : Nat) (r : List (Nat × Int)) (q : Nat) (n : Int) : spk s (r ++ [(q, n)]) = if q = s then addI (spk s r) n else spk s r := by
  unfold spk
  rw [ofSort_append, firstsF_append]
  unfold ofSort
  by_cases h : q = s
  · subst h; simp [firstsF]
  · simp [h, firstsF]
theorem spk_pre (s : Nat) (a b : List (Nat × Int)) : ∃ t, spk s (a ++ b) = spk s a ++ t := by
  unfold spk
  rw [ofSort_append, firstsF_append]
  exact firstsF_pre
theorem ofSort_re (f : Nat → Int → Int) (s : Nat) (r : List (Nat × Int)) : ofSort s (r.map (reP f)) = (ofSort s r).map (f s) := by
  induction r with
  | nil => rfl
  | cons p r ih =>
    rw [List.map_cons, show reP f p :: r.map (reP f) = [reP f p] ++ r.map (reP f) from rfl, ofSort_append, ih, show p :: r = [p] ++ r from rfl, ofSort_append, List.map_append]
    congr 1
    unfold ofSort reP
    by_cases h : p.1 = s
    · subst h; simp
    · simp [h]
def anewI (r : List (Nat × Int)) (s : Nat) (n : Int) : Int := (idxI (spk s r) n : Int)
theorem spk_anew (s : Nat) (r : List (Nat × Int)) : spk s (r.map (reP (anewI r))) = upI (spk s r).length := by
  unfold spk
  rw [ofSort_re]
  exact firsts_idx (l := []) (r := ofSort s r) (fun n hn => mem_firstsF.2 (.inr hn))

def Hist.many (H : Hist) (s : Nat) : Nat := if s = 0 then H.tr.length else if s = 1 then H.se.length else if s = 2 then H.ob.length else H.pr.length
def Hist.names (H : Hist) (s : Nat) : List ByteArray := if s = 0 then H.tr else if s = 1 then H.se else if s = 2 then H.ob else H.pr
theorem many_len (H : Hist) (s : Nat) : H.many s = (H.names s).length := by unfold Hist.many Hist.names; (repeat' split) <;> rfl
def namedN (l : List ByteArray) (ns : List Int) : List ByteArray := ns.map fun n => l.getD n.toNat ⟨#[]⟩
def numP (H : Hist) : Hist :=
  { reH (anewI (refs H)) H with tr := namedN H.tr (spk 0 (refs H)), se := namedN H.se (spk 1 (refs H)), ob := namedN H.ob (spk 2 (refs H)), pr := namedN H.pr (spk 3 (refs H)) }
theorem refs_num (H : Hist) : refs (numP H) = (refs H).map (reP (anewI (refs H))) := refs_re H
theorem num_many {H : Hist} {s : Nat} (hs : s < 4) : (numP H).many s = (spk s (refs H)).length := by
  have : s = 0 ∨ s = 1 ∨ s = 2 ∨ s = 3 := by omega
  rcases this with rfl | rfl | rfl | rfl <;> simp [Hist.many, numP, namedN]
theorem num_names {H : Hist} {s : Nat} (hs : s < 4) : (numP H).names s = namedN (H.names s) (spk s (refs H)) := by
  have : s = 0 ∨ s = 1 ∨ s = 2 ∨ s = 3 := by omega
  rcases this with rfl | rfl | rfl | rfl <;> simp [Hist.names, numP]
def ordP (H : Hist) : Prop := ∀ s, s < 4 → spk s (refs H) = upI (H.many s)
theorem num_ord (H : Hist) : ordP (numP H) := fun s hs => by rw [refs_num, spk_anew, num_many hs]
theorem namedN_id (l : List ByteArray) : namedN l (upI l.length) = l := by
  refine List.ext_getElem? fun i => ?_
  unfold namedN upI
  rw [List.map_map, List.getElem?_map]
  rcases Nat.lt_or_ge i l.length with h | h
  · rw [List.getElem?_range h, List.getElem?_eq_getElem h]
    simp [h]
  · rw [List.getElem?_eq_none (by simpa using h), List.getElem?_eq_none h]
    rfl
theorem num_same {H : Hist} (hs : ∀ p ∈ refs H, p.1 < 4) (h : ordP H) : numP H = H := by
  have hid : reH (anewI (refs H)) H = H := reH_id fun p hp => by
    have h4 := hs p hp
    have hm : p.2 ∈ spk p.1 (refs H) := mem_spk.2 hp
    unfold anewI
    rw [h p.1 h4] at hm ⊢
    exact upI_idx (mem_upI.1 hm)
  unfold numP
  have h0 := h 0 (by omega)
  have h1 := h 1 (by omega)
  have h2 := h 2 (by omega)
  have h3 := h 3 (by omega)
  simp only [Hist.many, if_true, if_false, Nat.one_ne_zero, Nat.reduceEqDiff] at h0 h1 h2 h3
  rw [hid, h0, h1, h2, h3, namedN_id, namedN_id, namedN_id, namedN_id]
theorem refs_sort {H : Hist} : ∀ p ∈ refs H, p.1 < 4 := by
  intro p hp
  have hT : ∀ ts, p ∈ refsT ts → p.1 < 4 := fun ts h => by obtain ⟨t, _, rfl⟩ := List.mem_map.1 h; exact Nat.zero_lt_succ _
  have hV : ∀ t k, p ∈ refsV t k → p.1 < 4 := fun t k h => by unfold refsV at h; split at h <;> simp at h; subst h; exact Nat.zero_lt_succ _
  have hS : ∀ s, p ∈ refsS s → p.1 < 4 := fun s h => by
    rcases List.mem_cons.1 h with rfl | h
    · show 2 < 4; omega
    · exact hV _ _ h
  unfold refs at hp
  rcases List.mem_append.1 hp with h | h
  · obtain ⟨e, _, h⟩ := List.mem_flatMap.1 h
    rcases List.mem_cons.1 h with rfl | h
    · show 0 < 4; omega
    · unfold refsK at h
      split at h
      · simp at h; subst h; show 1 < 4; omega
      · split at h
        · rcases List.mem_cons.1 h with rfl | h
          · show 2 < 4; omega
          · exact hV _ _ h
        · split at h
          · rcases List.mem_cons.1 h with rfl | h
            · show 3 < 4; omega
            · obtain ⟨s, _, h⟩ := List.mem_flatMap.1 h
              exact hS _ h
          · simp at h
  · rcases List.mem_append.1 h with h | h
    · obtain ⟨e, _, h⟩ := List.mem_flatMap.1 h
      rcases List.mem_cons.1 h with rfl | h
      · show 2 < 4; omega
      · exact hT _ h
    · rcases List.mem_append.1 h with h | h
      · obtain ⟨e, _, h⟩ := List.mem_flatMap.1 h
        rcases List.mem_cons.1 h with rfl | h
        · show 3 < 4; omega
        · rcases List.mem_cons.1 h with rfl | h
          · show 2 < 4; omega
          · exact hT _ h
      · obtain ⟨e, _, h⟩ := List.mem_flatMap.1 h
        simp [refsW] at h
        subst h
        show 1 < 4; omega
theorem num_twice (H : Hist) : numP (numP H) = numP H := num_same refs_sort (num_ord H)
def isN (n : Int) (many : Nat) : Bool := decide (0 ≤ n ∧ n < many)
theorem isN_iff {n : Int} {m : Nat} : isN n m = true ↔ 0 ≤ n ∧ n < m := by unfold isN; simp
def toldB (t k : Int) : Bool := if k = 0 then decide (t = 0) else decide (0 < k) && decide (k ≤ 999)
def bareE (e : EvP) : EvP :=
  if e.kd = 1 then ⟨e.kd, e.t, e.s, e.lev, 0, 0, 0, 0, []⟩
  else if e.kd = 2 ∨ e.kd = 3 then ⟨e.kd, e.t, 0, 0, e.o, e.vt, e.vk, 0, []⟩
  else if e.kd = 4 then ⟨e.kd, e.t, 0, 0, 0, 0, 0, e.p, e.scan⟩
  else ⟨e.kd, e.t, 0, 0, 0, 0, 0, 0, []⟩
def mayE (e : EvP) : Bool :=
  if e.kd = 1 then levB e.lev
  else if e.kd = 2 then (decide (e.vt = e.t) && decide (0 < e.vk)) && toldB e.vt e.vk
  else if e.kd = 3 then toldB e.vt e.vk
  else if e.kd = 4 then decide (e.scan.length ≤ 40) && e.scan.all fun s => toldB s.t s.k
  else true
def fineE (e : EvP) : Bool := decide (1 ≤ e.kd ∧ e.kd ≤ 6) && (mayE e && decide (e = bareE e))
def Hist.inR (H : Hist) (p : Nat × Int) : Bool := isN p.2 (H.many p.1)
def wrdB (s : ByteArray) : Bool := wordB s.data.toList
def namesB (l : List ByteArray) : Bool := l.all wrdB && decide l.Nodup
def fineH (H : Hist) : Bool := H.ev.all fineE && H.wa.all fun r => guB r.b
def nmsB (H : Hist) : Bool := (namesB H.tr && namesB H.se) && (namesB H.ob && namesB H.pr)
def shapedB (H : Hist) : Bool := (nmsB H && fineH H) && (refs H).all H.inR
def ordB (H : Hist) : Bool := (List.range 4).all fun s => decide (spk s (refs H) = upI (H.many s))
theorem ordB_iff {H : Hist} : ordB H = true ↔ ordP H := by unfold ordB ordP; simp
def rightB (H : Hist) : Bool := shapedB H && ordB H
structure Small (H : Hist) : Prop where
  tr : H.tr.length ≤ 60
  se : H.se.length ≤ 60
  ob : H.ob.length ≤ 60
  pr : H.pr.length ≤ 60
  ev : H.ev.length ≤ 200
  od : H.od.length ≤ 60
  ma : H.ma.length ≤ 60
  wa : H.wa.length ≤ 60
  sc : ∀ e ∈ H.ev, e.scan.length ≤ 60
  ot : ∀ r ∈ H.od, r.ts.length ≤ 60
  mt : ∀ r ∈ H.ma, r.ts.length ≤ 60
  tx : ∀ s, s < 4 → ∀ b ∈ H.names s, b.size ≤ 100
section
variable {H : Hist} {e : EvP} {s : Nat}
theorem Small.many (h : Small H) (s : Nat) : H.many s ≤ 60 := by
  have := h.tr; have := h.se; have := h.ob; have := h.pr
  unfold Hist.many
  (repeat' split) <;> assumption
theorem fine_kd (h : fineE e = true) : 1 ≤ e.kd ∧ e.kd ≤ 6 := by unfold fineE at h; simp at h; exact h.1
theorem fine_bare (h : fineE e = true) : bareE e = e := by unfold fineE at h; simp at h; exact h.2.2.symm
theorem fine_may (h : fineE e = true) : mayE e = true := by unfold fineE at h; simp at h; exact h.2.1
theorem fine_scan (h : fineE e = true) (hk : e.kd ≠ 4) : e.scan = [] := by
  have h2 := fine_bare h
  unfold bareE at h2
  rw [← h2]
  (repeat' split) <;> first | rfl | omega
variable {f : Nat → Int → Int}
theorem toldB_re {t k : Int} : toldB (reV f t k) k = toldB t k := by unfold toldB reV; split <;> rfl
theorem fineE_re (h : fineE e = true) : fineE (reE f e) = true := by
  have hk := fine_kd h
  have hb := fine_bare h
  have hm := fine_may h
  have hs := fine_scan h
  unfold mayE at hm
  unfold bareE at hb
  unfold fineE
  rw [reE_kd]
  by_cases h1 : e.kd = 1
  · rw [if_pos h1] at hb hm
    have : reE f e = bareE (reE f e) := by
      rw [reE_one h1]
      unfold bareE
      rw [if_pos h1]
      rw [← hb]
    rw [← this, reE_one h1]
    unfold mayE
    simp [h1, hm]
  · by_cases h2 : e.kd = 2 ∨ e.kd = 3
    · rw [if_neg h1, if_pos h2] at hb
      have : reE f e = bareE (reE f e) := by
        rw [reE_two h2]
        unfold bareE
        rw [if_neg h1, if_pos h2]
        rw [← hb]
      rw [← this, reE_two h2]
      unfold mayE
      rw [if_neg h1] at hm
      rcases h2 with h2 | h2
      · simp only [h2, if_true, Bool.and_eq_true, decide_eq_true_eq] at hm
        have hk0 : e.vk ≠ 0 := by omega
        have hv : reV f e.vt e.vk = f 0 e.t := by unfold reV; rw [if_neg hk0, hm.1.1]
        simp [h2, hm.1.2, hv]
        rw [← hv, toldB_re]
        exact hm.2
      · simp [h2] at hm
        simp [h2, toldB_re, hm]
    · by_cases h4 : e.kd = 4
      · rw [if_neg h1, if_neg h2, if_pos h4] at hb
        have : reE f e = bareE (reE f e) := by
          rw [reE_four h4]
          unfold bareE
          rw [if_neg h1, if_neg h2, if_pos h4]
          rw [← hb]
        rw [← this, reE_four h4]
        unfold mayE
        simp only [h4, if_true, Int.reduceEq, if_false, Bool.and_eq_true, decide_eq_true_eq, List.all_eq_true] at hm
        simp only [h4, if_true, Int.reduceEq, if_false, List.length_map, List.all_map, Bool.and_eq_true, decide_eq_true_eq, List.all_eq_true]
        exact ⟨by omega, ⟨hm.1, fun s hs => by show toldB (reV f s.t s.k) s.k = true; rw [toldB_re]; exact hm.2 s hs⟩, trivial⟩
      · rw [if_neg h1, if_neg h2, if_neg h4] at hb
        have : reE f e = bareE (reE f e) := by
          rw [reE_end ⟨h1, h2, h4⟩]
          unfold bareE
          rw [if_neg h1, if_neg h2, if_neg h4]
          rw [← hb]
        rw [← this, reE_end ⟨h1, h2, h4⟩]
        have h22 : ¬ e.kd = 2 := by omega
        have h33 : ¬ e.kd = 3 := by omega
        unfold mayE
        simp [h1, h22, h33, h4, hk]
end

section
variable {H : Hist} {s : Nat} {n : Int}
theorem shaped_in (h : shapedB H = true) {p : Nat × Int} (hp : p ∈ refs H) : 0 ≤ p.2 ∧ p.2 < H.many p.1 := by
  unfold shapedB at h
  simp only [Bool.and_eq_true, List.all_eq_true] at h
  exact isN_iff.1 (h.2 p hp)
theorem shaped_names (h : shapedB H = true) (hs : s < 4) : namesB (H.names s) = true := by
  unfold shapedB nmsB at h
  simp only [Bool.and_eq_true] at h
  have : s = 0 ∨ s = 1 ∨ s = 2 ∨ s = 3 := by omega
  rcases this with rfl | rfl | rfl | rfl
  · exact h.1.1.1.1
  · exact h.1.1.1.2
  · exact h.1.1.2.1
  · exact h.1.1.2.2
theorem shaped_ev (h : shapedB H = true) {e : EvP} (he : e ∈ H.ev) : fineE e = true := by
  unfold shapedB fineH at h
  simp only [Bool.and_eq_true, List.all_eq_true] at h
  exact h.1.2.1 e he
theorem shaped_wa (h : shapedB H = true) {r : WantP} (he : r ∈ H.wa) : guB r.b = true := by
  unfold shapedB fineH at h
  simp only [Bool.and_eq_true, List.all_eq_true] at h
  exact h.1.2.2 r he
theorem namesB_iff {l : List ByteArray} : namesB l = true ↔ (∀ x ∈ l, wrdB x = true) ∧ l.Nodup := by unfold namesB; simp
theorem get_of {l : List ByteArray} (h : 0 ≤ n ∧ n < l.length) : l[n.toNat]? = some (l.getD n.toNat ⟨#[]⟩) := by
  rw [List.getD_eq_getElem?_getD, List.getElem?_eq_getElem (by omega : n.toNat < l.length)]; rfl
theorem namedN_ok {l : List ByteArray} {ns : List Int} (h : namesB l = true) (hn : ns.Nodup) (hr : ∀ n ∈ ns, 0 ≤ n ∧ n < l.length) : namesB (namedN l ns) = true := by
  rw [namesB_iff] at h ⊢
  refine ⟨fun x hx => ?_, ?_⟩
  · obtain ⟨n, hm, rfl⟩ := List.mem_map.1 hx
    exact h.1 _ (List.mem_of_getElem? (get_of (hr n hm)))
  · unfold namedN
    have hr2 := hr
    clear hr
    induction ns with
    | nil => simp
    | cons n ns ih =>
      have hn2 := List.nodup_cons.1 hn
      rw [List.map_cons, List.nodup_cons]
      refine ⟨fun hm => ?_, ih hn2.2 fun m hm => hr2 m (by simp [hm])⟩
      obtain ⟨m, hm, e⟩ := List.mem_map.1 hm
      have h1 := get_of (l := l) (hr2 n (by simp))
      have h2 := get_of (l := l) (hr2 m (by simp [hm]))
      rw [e] at h2
      have h3 := (List.getElem?_inj (i := n.toNat) (j := m.toNat) (show n.toNat < l.length by have := hr2 n (by simp); omega) h.2).1 (h1.trans h2.symm)
      have := hr2 n (by simp)
      have := hr2 m (by simp [hm])
      have : n = m := by omega
      subst this
      exact hn2.1 hm
theorem num_shaped (h : shapedB H = true) : shapedB (numP H) = true := by
  have hn : ∀ s, s < 4 → namesB ((numP H).names s) = true := fun s hs => by
    rw [num_names hs]
    refine namedN_ok (shaped_names h hs) (spk_nodup _ _) fun n hn => ?_
    have := shaped_in h (mem_spk.1 hn)
    rw [← many_len]
    exact this
  have h0 := hn 0 (by omega)
  have h1 := hn 1 (by omega)
  have h2 := hn 2 (by omega)
  have h3 := hn 3 (by omega)
  have he : (numP H).ev.all fineE = true := by
    rw [List.all_eq_true]
    intro e he
    obtain ⟨e0, h0, rfl⟩ := List.mem_map.1 he
    exact fineE_re (shaped_ev h h0)
  have hw : (numP H).wa.all (fun r => guB r.b) = true := by
    rw [List.all_eq_true]
    intro e he
    obtain ⟨e0, h0, e1⟩ := List.mem_map.1 he
    rw [← e1]
    exact shaped_wa (r := e0) h h0
  have hr : (refs (numP H)).all (numP H).inR = true := by
    rw [List.all_eq_true, refs_num]
    intro p hp
    obtain ⟨q, hq, rfl⟩ := List.mem_map.1 hp
    refine isN_iff.2 ?_
    unfold reP anewI
    simp only
    rw [num_many (refs_sort q hq)]
    have := idxI_lt (mem_spk.2 (show (q.1, q.2) ∈ refs H from hq))
    omega
  unfold shapedB nmsB fineH
  rw [he, hw, hr]
  simp only [Hist.names, if_true, if_false, Nat.one_ne_zero, Nat.reduceEqDiff] at h0 h1 h2 h3
  rw [h0, h1, h2, h3]
  rfl
theorem num_right (h : shapedB H = true) : rightB (numP H) = true := by
  unfold rightB; rw [num_shaped h, ordB_iff.2 (num_ord H)]; rfl
theorem right_num (h : rightB H = true) : numP H = H := by
  unfold rightB at h
  simp only [Bool.and_eq_true] at h
  exact num_same refs_sort (ordB_iff.1 h.2)
theorem right_shaped (h : rightB H = true) : shapedB H = true := by
  unfold rightB at h
  exact (Bool.and_eq_true_iff.1 h).1
theorem named_at (_h : shapedB H = true) (hp : (s, n) ∈ refs H) : ((numP H).names s)[(anewI (refs H) s n).toNat]? = some ((H.names s).getD n.toNat ⟨#[]⟩) := by
  have hs := refs_sort _ hp
  have hm := mem_spk.2 hp
  rw [num_names hs]
  unfold namedN anewI
  rw [List.getElem?_map, Int.toNat_natCast, idxI_at hm]
  rfl
end

def hasB (H : Hist) (t kd : Int) : Bool := H.ev.any fun e => decide (e.t = t) && decide (e.kd = kd)
def openB (H : Hist) (t : Int) : Bool := hasB H t 1 && (!hasB H t 5 && !hasB H t 6)
def leftL (H : Hist) : List Int := (upI H.tr.length).filter (openB H)
def abortE (t : Int) : EvP := ⟨6, t, 0, 0, 0, 0, 0, 0, []⟩
def comP (H : Hist) : Hist := { H with ev := H.ev ++ (leftL H).map abortE }
def ofP (H : Hist) (t : Int) : List Int := (upI H.ev.length).filter fun i => decide ((H.ev.map (·.t))[i.toNat]? = some t)
section
variable {H : Hist} {t : Int}
theorem hasB_iff {kd : Int} : hasB H t kd = true ↔ ∃ e ∈ H.ev, e.t = t ∧ e.kd = kd := by unfold hasB; simp
theorem refs_t {e : EvP} (he : e ∈ H.ev) : (0, e.t) ∈ refs H := List.mem_append_left _ (List.mem_flatMap.2 ⟨e, he, List.mem_cons_self ..⟩)
theorem left_begun (h : t ∈ leftL H) : ∃ e ∈ H.ev, e.t = t := by
  have := (List.mem_filter.1 h).2
  unfold openB at this
  simp only [Bool.and_eq_true] at this
  obtain ⟨e, he, h1, _⟩ := hasB_iff.1 this.1
  exact ⟨e, he, h1⟩
theorem abort_flat : ∀ l : List Int, (l.map abortE).flatMap refsE = l.map fun t => ((0 : Nat), t)
  | [] => rfl
  | t :: l => by rw [List.map_cons, List.flatMap_cons, abort_flat l]; rfl
theorem refs_com (H : Hist) : ∃ a c, refs H = a ++ c ∧ refs (comP H) = a ++ ((leftL H).map (fun t => ((0 : Nat), t)) ++ c) ∧ ∀ t ∈ leftL H, (0, t) ∈ a := by
  refine ⟨H.ev.flatMap refsE, H.od.flatMap refsO ++ (H.ma.flatMap refsM ++ H.wa.flatMap refsW), rfl, ?_, fun t ht => ?_⟩
  · unfold refs comP
    rw [List.flatMap_append, abort_flat, List.append_assoc]
  · obtain ⟨e, he, rfl⟩ := left_begun ht
    exact List.mem_flatMap.2 ⟨e, he, List.mem_cons_self ..⟩
theorem spk_com (H : Hist) (s : Nat) : spk s (refs (comP H)) = spk s (refs H) := by
  obtain ⟨a, c, h1, h2, h3⟩ := refs_com H
  rw [h1, h2]
  unfold spk
  rw [ofSort_append, ofSort_append, ofSort_append, firstsF_append, firstsF_append, firstsF_append]
  rw [firstsF_all (r := ofSort s ((leftL H).map fun t => ((0 : Nat), t)))]
  intro n hn
  obtain ⟨t, ht, e⟩ := List.mem_map.1 (mem_ofSort.1 hn)
  injection e with e1 e2
  subst e1; subst e2
  exact mem_firstsF.2 (.inr (mem_ofSort.2 (h3 _ ht)))
theorem com_right (h : rightB H = true) : rightB (comP H) = true := by
  have hs := right_shaped h
  unfold rightB at h ⊢
  simp only [Bool.and_eq_true] at h ⊢
  refine ⟨?_, ordB_iff.2 fun s hs4 => by rw [spk_com]; exact ordB_iff.1 h.2 s hs4⟩
  have he : (comP H).ev.all fineE = true := by
    rw [List.all_eq_true]
    intro e he
    rcases List.mem_append.1 he with he | he
    · exact shaped_ev hs he
    · obtain ⟨t, _, rfl⟩ := List.mem_map.1 he
      unfold fineE mayE bareE abortE
      simp
  have hr : (refs (comP H)).all (comP H).inR = true := by
    rw [List.all_eq_true]
    obtain ⟨a, c, h1, h2, h3⟩ := refs_com H
    intro p hp
    have : p ∈ refs H := by
      rw [h2] at hp
      rw [h1]
      rcases List.mem_append.1 hp with hp | hp
      · exact List.mem_append_left _ hp
      · rcases List.mem_append.1 hp with hp | hp
        · obtain ⟨t, ht, rfl⟩ := List.mem_map.1 hp
          exact List.mem_append_left _ (h3 t ht)
        · exact List.mem_append_right _ hp
    exact isN_iff.2 (shaped_in hs this)
  have hx := h.1
  unfold shapedB fineH at hx ⊢
  rw [he, hr]
  simp only [Bool.and_eq_true] at hx ⊢
  exact ⟨⟨hx.1.1, trivial, hx.1.2.2⟩, trivial⟩
theorem has_com {kd : Int} : hasB (comP H) t kd = true ↔ hasB H t kd = true ∨ (kd = 6 ∧ t ∈ leftL H) := by
  rw [hasB_iff, hasB_iff]
  constructor
  · rintro ⟨e, he, h1, h2⟩
    rcases List.mem_append.1 he with he | he
    · exact .inl ⟨e, he, h1, h2⟩
    · obtain ⟨u, hu, rfl⟩ := List.mem_map.1 he
      simp only [abortE] at h1 h2
      subst h1
      exact .inr ⟨h2.symm, hu⟩
  · rintro (⟨e, he, h1, h2⟩ | ⟨h1, h2⟩)
    · exact ⟨e, List.mem_append_left _ he, h1, h2⟩
    · exact ⟨abortE t, List.mem_append_right _ (List.mem_map.2 ⟨t, h2, rfl⟩), rfl, h1.symm⟩
theorem com_ended (hs : shapedB H = true) (h : hasB (comP H) t 1 = true) : hasB (comP H) t 5 = true ∨ hasB (comP H) t 6 = true := by
  rcases has_com.1 h with h1 | ⟨h1, _⟩
  · by_cases h5 : hasB H t 5 = true
    · exact .inl (has_com.2 (.inl h5))
    · by_cases h6 : hasB H t 6 = true
      · exact .inr (has_com.2 (.inl h6))
      · refine .inr (has_com.2 (.inr ⟨rfl, List.mem_filter.2 ⟨mem_upI.2 ?_, ?_⟩⟩))
        · obtain ⟨e, he, rfl, _⟩ := hasB_iff.1 h1
          exact shaped_in hs (refs_t he)
        · unfold openB
          simp [h1, h5, h6]
  · omega
theorem com_left (hs : shapedB H = true) : leftL (comP H) = [] := by
  refine List.filter_eq_nil_iff.2 fun t _ h => ?_
  unfold openB at h
  simp only [Bool.and_eq_true, Bool.not_eq_true'] at h
  rcases com_ended hs h.1 with h5 | h6
  · rw [h.2.1] at h5; cases h5
  · rw [h.2.2] at h6; cases h6
theorem com_twice (hs : shapedB H = true) : comP (comP H) = comP H := by
  have h := com_left hs
  unfold comP at h ⊢
  simp only at h ⊢
  rw [h]
  simp
theorem left_len (H : Hist) : (leftL H).length ≤ H.tr.length := by
  unfold leftL
  have := List.length_filter_le (openB H) (upI H.tr.length)
  rwa [upI_len] at this
end
end Go.Proofs.YtlnbmmaminflcaaDoor
