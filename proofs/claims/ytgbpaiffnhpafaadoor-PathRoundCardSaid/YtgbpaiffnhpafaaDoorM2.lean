/- Rounds over nodes that are not below one, the least of all, and turned: plain facts. -/
-- holds: YtgbpaiffnhpafaaDoorOa YtgbpaiffnhpafaaDoorPa YtgbpaiffnhpafaaDoorPb YtgbpaiffnhpafaaDoorPc
namespace Go.Proofs.YtgbpaiffnhpafaaDoor

section
variable {α : Type}

/-- A test that says of two whether the first one stands ahead. -/
structure Ahead (lt : α → α → Bool) : Prop where
  asym : ∀ {x y}, lt x y = true → lt y x = false
  trans : ∀ {x y z}, lt y x = false → lt z y = false → lt z x = false

/-- Is x alike to e? -/
def alike (lt : α → α → Bool) (e x : α) : Bool := !lt x e && !lt e x
/-- None stands ahead of an elder one. -/
def InOrder (lt : α → α → Bool) (l : List α) : Prop := l.Pairwise fun x y => lt y x = false

variable {lt : α → α → Bool}

theorem Ahead.irrefl (h : Ahead lt) (x : α) : lt x x = false := by
  cases e : lt x x
  · rfl
  · exact absurd e (by rw [h.asym e]; decide)
theorem Ahead.before (h : Ahead lt) {x y z : α} (h1 : lt x y = true) (h2 : lt z y = false) : lt x z = true := by
  cases e : lt x z
  · exact absurd h1 (by rw [h.trans h2 e]; decide)
  · rfl
theorem alike_self (h : Ahead lt) (x : α) : alike lt x x = true := by
  unfold alike; rw [h.irrefl]; rfl
theorem alike_far (h : Ahead lt) {x y z e : α} (h1 : lt y x = true) (h2 : lt z x = false) (h3 : alike lt e y = true) : alike lt e z = false := by
  unfold alike at *
  rw [Bool.and_eq_true, Bool.not_eq_true', Bool.not_eq_true'] at h3
  have h4 : lt y z = true := h.before h1 h2
  cases h5 : lt e z
  · exact absurd h4 (by rw [h.trans h5 h3.1]; decide)
  · simp

/-- Two rows put together; of those that are alike those of the first one go ahead. -/
def mrg (lt : α → α → Bool) : List α → List α → List α
  | [], b => b
  | x :: a, [] => x :: a
  | x :: a, y :: b => if lt y x = true then y :: mrg lt (x :: a) b else x :: mrg lt a (y :: b)
termination_by a b => a.length + b.length
decreasing_by all_goals (simp only [List.length_cons]; omega)

theorem mrg_nil (b : List α) : mrg lt [] b = b := by rw [mrg]
theorem mrg_nil2 (a : List α) : mrg lt a [] = a := by cases a <;> rw [mrg]
theorem mrg_second {x y : α} {a b : List α} (h : lt y x = true) : mrg lt (x :: a) (y :: b) = y :: mrg lt (x :: a) b := by rw [mrg, if_pos h]
theorem mrg_first {x y : α} {a b : List α} (h : lt y x = false) : mrg lt (x :: a) (y :: b) = x :: mrg lt a (y :: b) := by rw [mrg, if_neg (by rw [h]; decide)]

theorem mrg_length (lt : α → α → Bool) : ∀ (n : Nat) (a b : List α), a.length + b.length = n → (mrg lt a b).length = n
  | n, [], b, h => by rw [mrg_nil]; simpa using h
  | n, x :: a, [], h => by rw [mrg_nil2]; simpa using h
  | 0, x :: a, y :: b, h => by simp only [List.length_cons] at h; omega
  | n + 1, x :: a, y :: b, h => by
    simp only [List.length_cons] at h
    rw [mrg]
    split
    · rw [List.length_cons, mrg_length lt n _ _ (by simp only [List.length_cons]; omega)]
    · rw [List.length_cons, mrg_length lt n _ _ (by simp only [List.length_cons]; omega)]
theorem mrg_len (a b : List α) : (mrg lt a b).length = a.length + b.length := mrg_length lt _ a b rfl

theorem mrg_mem (lt : α → α → Bool) (z : α) : ∀ (n : Nat) (a b : List α), a.length + b.length = n → (z ∈ mrg lt a b ↔ z ∈ a ∨ z ∈ b)
  | n, [], b, h => by rw [mrg_nil]; simp
  | n, x :: a, [], h => by rw [mrg_nil2]; simp
  | 0, x :: a, y :: b, h => by simp only [List.length_cons] at h; omega
  | n + 1, x :: a, y :: b, h => by
    simp only [List.length_cons] at h
    rw [mrg]
    split
    · rw [List.mem_cons, mrg_mem lt z n _ _ (by simp only [List.length_cons]; omega), List.mem_cons (a := z) (b := y)]
      exact ⟨fun h => h.elim (fun h => .inr (.inl h)) fun h => h.elim .inl fun h => .inr (.inr h), fun h => h.elim (fun h => .inr (.inl h)) fun h => h.elim .inl fun h => .inr (.inr h)⟩
    · rw [List.mem_cons, mrg_mem lt z n _ _ (by simp only [List.length_cons]; omega), List.mem_cons (a := z) (b := x), or_assoc]
theorem mem_mrg {z : α} {a b : List α} : z ∈ mrg lt a b ↔ z ∈ a ∨ z ∈ b := mrg_mem lt z _ a b rfl

theorem order_tail {x : α} {a : List α} (h : InOrder lt (x :: a)) : InOrder lt a := (List.pairwise_cons.1 h).2
theorem order_head {x : α} {a : List α} (h : InOrder lt (x :: a)) : ∀ z ∈ a, lt z x = false := (List.pairwise_cons.1 h).1
theorem order_all (H : Ahead lt) {x : α} {a : List α} (h : InOrder lt (x :: a)) : ∀ z ∈ x :: a, lt z x = false := by
  intro z hz
  rcases List.mem_cons.1 hz with rfl | hz
  · exact H.irrefl z
  · exact order_head h z hz

theorem mrg_order (H : Ahead lt) : ∀ (n : Nat) (a b : List α), a.length + b.length = n → InOrder lt a → InOrder lt b → InOrder lt (mrg lt a b)
  | n, [], b, h, ha, hb => by rw [mrg_nil]; exact hb
  | n, x :: a, [], h, ha, hb => by rw [mrg_nil2]; exact ha
  | 0, x :: a, y :: b, h, _, _ => by simp only [List.length_cons] at h; omega
  | n + 1, x :: a, y :: b, h, ha, hb => by
    simp only [List.length_cons] at h
    cases e : lt y x
    · rw [mrg_first e]
      refine List.pairwise_cons.2 ⟨fun z hz => ?_, mrg_order H n _ _ (by simp only [List.length_cons]; omega) (order_tail ha) hb⟩
      rcases mem_mrg.1 hz with hz | hz
      · exact order_head ha z hz
      · exact H.trans e (order_all H hb z hz)
    · rw [mrg_second e]
      refine List.pairwise_cons.2 ⟨fun z hz => ?_, mrg_order H n _ _ (by simp only [List.length_cons]; omega) ha (order_tail hb)⟩
      rcases mem_mrg.1 hz with hz | hz
      · exact H.asym (H.before e (order_all H ha z hz))
      · exact order_head hb z hz

theorem mrg_alike (H : Ahead lt) (e : α) : ∀ (n : Nat) (a b : List α), a.length + b.length = n → InOrder lt a → InOrder lt b → (mrg lt a b).filter (alike lt e) = a.filter (alike lt e) ++ b.filter (alike lt e)
  | n, [], b, h, ha, hb => by rw [mrg_nil]; simp
  | n, x :: a, [], h, ha, hb => by rw [mrg_nil2]; simp
  | 0, x :: a, y :: b, h, _, _ => by simp only [List.length_cons] at h; omega
  | n + 1, x :: a, y :: b, h, ha, hb => by
    simp only [List.length_cons] at h
    cases hyx : lt y x
    · rw [mrg_first hyx, List.filter_cons, List.filter_cons, mrg_alike H e n _ _ (by simp only [List.length_cons]; omega) (order_tail ha) hb]
      split <;> simp
    · rw [mrg_second hyx, List.filter_cons, mrg_alike H e n _ _ (by simp only [List.length_cons]; omega) ha (order_tail hb)]
      cases hy : alike lt e y
      · rw [if_neg (by decide), List.filter_cons (x := y), hy, if_neg (by decide)]
      · have hnone : (x :: a).filter (alike lt e) = [] := by
          rw [List.filter_eq_nil_iff]
          intro z hz
          rw [alike_far H hyx (order_all H ha z hz) hy]
          decide
        rw [hnone, if_pos rfl, List.nil_append, List.nil_append, List.filter_cons, hy, if_pos rfl]

/-- A row in order is known by those that are alike. -/
theorem order_one (H : Ahead lt) : ∀ (l m : List α), InOrder lt l → InOrder lt m → (∀ e, l.filter (alike lt e) = m.filter (alike lt e)) → l = m
  | [], [], _, _, _ => rfl
  | [], y :: m, _, _, h => by
    have := h y
    rw [List.filter_cons, alike_self H, if_pos rfl] at this
    cases this
  | x :: l, [], _, _, h => by
    have := h x
    rw [List.filter_cons, alike_self H, if_pos rfl] at this
    cases this
  | x :: l, y :: m, hl, hm, h => by
    have hym : y ∈ x :: l := by
      have : y ∈ (x :: l).filter (alike lt y) := by rw [h y, List.filter_cons, alike_self H, if_pos rfl]; exact List.mem_cons_self
      exact (List.mem_filter.1 this).1
    have hxm : x ∈ y :: m := by
      have : x ∈ (y :: m).filter (alike lt x) := by rw [← h x, List.filter_cons, alike_self H, if_pos rfl]; exact List.mem_cons_self
      exact (List.mem_filter.1 this).1
    have h1 := order_all H hl y hym
    have h2 := order_all H hm x hxm
    have hxy : x = y := by
      have := h x
      rw [List.filter_cons, alike_self H, if_pos rfl, List.filter_cons, if_pos (by unfold alike; rw [h1, h2]; rfl)] at this
      exact (List.cons.inj this).1
    subst hxy
    congr 1
    refine order_one H l m (order_tail hl) (order_tail hm) fun e => ?_
    have := h e
    rw [List.filter_cons, List.filter_cons] at this
    split at this
    · exact (List.cons.inj this).2
    · exact this

/-- How many at the head of a row x does not stand ahead of. -/
def atF (lt : α → α → Bool) (x : α) : List α → Nat
  | [] => 0
  | y :: l => if lt x y = true then 0 else atF lt x l + 1
/-- x put into a row in order, behind those that are alike. -/
def ins (lt : α → α → Bool) (x : α) (l : List α) : List α := l.take (atF lt x l) ++ x :: l.drop (atF lt x l)
/-- A row in order. -/
def srt (lt : α → α → Bool) (l : List α) : List α := l.foldl (fun a x => ins lt x a) []

theorem atF_le (x : α) (l : List α) : atF lt x l ≤ l.length := by
  induction l with
  | nil => exact Nat.le_refl _
  | cons y l ih =>
    rw [atF]
    split
    · exact Nat.zero_le _
    · exact Nat.succ_le_succ ih
theorem ins_length (x : α) (l : List α) : (ins lt x l).length = l.length + 1 := by
  have := atF_le (lt := lt) x l
  unfold ins; simp; omega
theorem ins_cons (x y : α) (l : List α) : ins lt x (y :: l) = if lt x y = true then x :: y :: l else y :: ins lt x l := by
  unfold ins
  rw [atF]
  split
  · rfl
  · rfl
theorem ins_order (H : Ahead lt) (x : α) (l : List α) (h : InOrder lt l) : InOrder lt (ins lt x l) := by
  induction l with
  | nil => exact List.pairwise_cons.2 ⟨fun z hz => (by cases hz), List.Pairwise.nil⟩
  | cons y l ih =>
    rw [ins_cons]
    split
    · rename_i hx
      exact List.pairwise_cons.2 ⟨fun z hz => H.asym (H.before hx (order_all H h z hz)), h⟩
    · rename_i hx
      refine List.pairwise_cons.2 ⟨fun z hz => ?_, ih (order_tail h)⟩
      have hz' : z = x ∨ z ∈ l := by
        unfold ins at hz
        rcases List.mem_append.1 hz with hz | hz
        · exact .inr (List.mem_of_mem_take hz)
        · rcases List.mem_cons.1 hz with hz | hz
          · exact .inl hz
          · exact .inr (List.mem_of_mem_drop hz)
      rcases hz' with rfl | hz'
      · exact Bool.eq_false_iff.2 hx
      · exact order_head h z hz'
theorem ins_alike (H : Ahead lt) (e x : α) (l : List α) (h : InOrder lt l) : (ins lt x l).filter (alike lt e) = l.filter (alike lt e) ++ [x].filter (alike lt e) := by
  induction l with
  | nil => rfl
  | cons y l ih =>
    rw [ins_cons]
    split
    · rename_i hx
      rw [List.filter_cons (x := x)]
      cases hxe : alike lt e x
      · simp [hxe]
      · have hnone : (y :: l).filter (alike lt e) = [] := by
          rw [List.filter_eq_nil_iff]
          intro z hz
          rw [alike_far H hx (order_all H h z hz) hxe]
          decide
        rw [hnone]
        simp [hxe]
    · rw [List.filter_cons, ih (order_tail h), List.filter_cons (x := y) (xs := l)]
      split <;> rfl
theorem srt_from (H : Ahead lt) (l : List α) : ∀ a, InOrder lt a → InOrder lt (l.foldl (fun a x => ins lt x a) a) ∧ (l.foldl (fun a x => ins lt x a) a).length = a.length + l.length ∧
    ∀ e, (l.foldl (fun a x => ins lt x a) a).filter (alike lt e) = a.filter (alike lt e) ++ l.filter (alike lt e) := by
  induction l with
  | nil => intro a h; exact ⟨h, rfl, fun e => by simp⟩
  | cons x l ih =>
    intro a h
    obtain ⟨h1, h2, h3⟩ := ih (ins lt x a) (ins_order H x a h)
    refine ⟨h1, ?_, fun e => ?_⟩
    · rw [List.foldl_cons, h2, ins_length, List.length_cons]; omega
    · rw [List.foldl_cons, h3, ins_alike H e x a h, List.append_assoc, ← List.filter_append]; rfl
theorem srt_order (H : Ahead lt) (l : List α) : InOrder lt (srt lt l) := (srt_from H l [] List.Pairwise.nil).1
theorem srt_len (H : Ahead lt) (l : List α) : (srt lt l).length = l.length := by have := (srt_from H l [] List.Pairwise.nil).2.1; rw [List.length_nil, Nat.zero_add] at this; exact this
theorem srt_alike (H : Ahead lt) (l : List α) (e : α) : (srt lt l).filter (alike lt e) = l.filter (alike lt e) := by have := (srt_from H l [] List.Pairwise.nil).2.2 e; rw [List.filter_nil, List.nil_append] at this; exact this
theorem srt_is (H : Ahead lt) {l m : List α} (h : InOrder lt m) (h2 : ∀ e, m.filter (alike lt e) = l.filter (alike lt e)) : m = srt lt l :=
  order_one H m (srt lt l) h (srt_order H l) fun e => (h2 e).trans (srt_alike H l e).symm
theorem srt_same (H : Ahead lt) {l : List α} (h : InOrder lt l) : srt lt l = l := (srt_is H h fun _ => rfl).symm
theorem srt_mrg (H : Ahead lt) (a b : List α) : mrg lt (srt lt a) (srt lt b) = srt lt (a ++ b) :=
  srt_is H (mrg_order H _ _ _ rfl (srt_order H a) (srt_order H b)) fun e => by
    rw [mrg_alike H e _ _ _ rfl (srt_order H a) (srt_order H b), srt_alike H, srt_alike H, List.filter_append]
theorem mrg_srt (H : Ahead lt) {a b : List α} (ha : InOrder lt a) (hb : InOrder lt b) : mrg lt a b = srt lt (a ++ b) :=
  srt_is H (mrg_order H _ _ _ rfl ha hb) fun e => by rw [mrg_alike H e _ _ _ rfl ha hb, List.filter_append]
theorem mem_srt (H : Ahead lt) (z : α) (l : List α) : z ∈ srt lt l ↔ z ∈ l := by
  have h1 : ∀ m : List α, z ∈ m ↔ z ∈ m.filter (alike lt z) := fun m => by
    rw [List.mem_filter, alike_self H]; simp
  rw [h1 (srt lt l), srt_alike H, ← h1]

/-- The first i of the pairs of neighbours of width v, each two merged. -/
def passN (lt : α → α → Bool) (v : Nat) (l : List α) : Nat → List α
  | 0 => []
  | i + 1 => passN lt v l i ++ mrg lt ((l.drop (2 * v * i)).take v) ((l.drop (2 * v * i + v)).take v)
/-- Each part of width v is in order. -/
def Chunks (lt : α → α → Bool) (v : Nat) (l : List α) : Prop := ∀ j, InOrder lt ((l.drop (v * j)).take v)

theorem part_length (v i : Nat) (l : List α) : (mrg lt ((l.drop (2 * v * i)).take v) ((l.drop (2 * v * i + v)).take v)).length = min (2 * v) (l.length - 2 * v * i) := by
  rw [mrg_len]
  simp only [List.length_take, List.length_drop]
  omega
theorem passN_length (v : Nat) (l : List α) : ∀ i, (passN lt v l i).length = min (2 * v * i) l.length
  | 0 => by rw [passN]; simp
  | i + 1 => by
    rw [passN, List.length_append, passN_length v l i, part_length, Nat.mul_succ]
    omega
theorem chunk_first {v i : Nat} {l : List α} (h : Chunks lt v l) : InOrder lt ((l.drop (2 * v * i)).take v) := by
  have := h (2 * i)
  rwa [show v * (2 * i) = 2 * v * i by rw [← Nat.mul_assoc, Nat.mul_comm v 2]] at this
theorem chunk_second {v i : Nat} {l : List α} (h : Chunks lt v l) : InOrder lt ((l.drop (2 * v * i + v)).take v) := by
  have := h (2 * i + 1)
  rwa [Nat.mul_add, show v * (2 * i) = 2 * v * i by rw [← Nat.mul_assoc, Nat.mul_comm v 2], Nat.mul_one] at this
theorem passN_alike (H : Ahead lt) {v : Nat} {l : List α} (h : Chunks lt v l) (e : α) : ∀ i, (passN lt v l i).filter (alike lt e) = (l.take (2 * v * i)).filter (alike lt e)
  | 0 => by rw [passN]; simp
  | i + 1 => by
    rw [passN, List.filter_append, passN_alike H h e i, mrg_alike H e _ _ _ rfl (chunk_first h) (chunk_second h), ← List.filter_append, ← List.filter_append]
    congr 1
    rw [Nat.mul_succ, List.take_add, show 2 * v = v + v by omega, List.take_add, List.drop_drop]
theorem passN_drop (v : Nat) (l : List α) (j : Nat) : ∀ i, j < i → 2 * v * j < l.length → ∃ r, (passN lt v l i).drop (2 * v * j) = mrg lt ((l.drop (2 * v * j)).take v) ((l.drop (2 * v * j + v)).take v) ++ r ∧ (2 * v * (j + 1) < l.length ∨ r = [])
  | 0, h, _ => by omega
  | i + 1, h, hl => by
    rcases Nat.lt_or_ge j i with hj | hj
    · obtain ⟨r, hr, h2⟩ := passN_drop v l j i hj hl
      have hge : 2 * v * (j + 1) ≤ 2 * v * i := Nat.mul_le_mul_left _ hj
      have hlen := passN_length (lt := lt) v l i
      rw [passN, List.drop_append_of_le_length (by rw [hlen]; rw [Nat.mul_succ] at hge; omega), hr, List.append_assoc]
      refine ⟨_, rfl, ?_⟩
      rcases h2 with h2 | h2
      · exact .inl h2
      · rcases Nat.lt_or_ge (2 * v * (j + 1)) l.length with h3 | h3
        · exact .inl h3
        · refine .inr ?_
          rw [h2, List.nil_append]
          have : ((mrg lt ((l.drop (2 * v * i)).take v) ((l.drop (2 * v * i + v)).take v)).length = 0) := by rw [part_length]; omega
          exact List.eq_nil_of_length_eq_zero this
    · obtain rfl : j = i := by omega
      have hlen := passN_length (lt := lt) v l j
      refine ⟨[], ?_, .inr rfl⟩
      rw [passN, List.append_nil, List.drop_append, hlen, List.drop_of_length_le (by rw [hlen]; omega), List.nil_append, show 2 * v * j - min (2 * v * j) l.length = 0 by omega]
      rfl
theorem pass_chunks (H : Ahead lt) {v n : Nat} {l : List α} (h : Chunks lt v l) (hn : l.length ≤ 2 * v * n) : Chunks lt (2 * v) (passN lt v l n) := by
  intro j
  have hlen := passN_length (lt := lt) v l n
  rcases Nat.lt_or_ge (2 * v * j) l.length with hj | hj
  · have hjn : j < n := by
      rcases Nat.lt_or_ge j n with h1 | h1
      · exact h1
      · have : 2 * v * n ≤ 2 * v * j := Nat.mul_le_mul_left _ h1
        omega
    obtain ⟨r, hr, h2⟩ := passN_drop (lt := lt) v l j n hjn hj
    have hp := part_length (lt := lt) v j l
    rw [hr]
    have ho := mrg_order H _ _ _ rfl (chunk_first (i := j) h) (chunk_second (i := j) h)
    rcases h2 with h2 | rfl
    · rw [Nat.mul_succ] at h2
      rw [List.take_append_of_le_length (by omega)]
      exact ho.sublist (List.take_sublist _ _)
    · rw [List.append_nil]
      exact ho.sublist (List.take_sublist _ _)
  · rw [List.drop_of_length_le (by rw [hlen]; omega)]
    simp [InOrder]
theorem pass_alike (H : Ahead lt) {v n : Nat} {l : List α} (h : Chunks lt v l) (hn : l.length ≤ 2 * v * n) (e : α) : (passN lt v l n).filter (alike lt e) = l.filter (alike lt e) := by
  rw [passN_alike H h e n, List.take_of_length_le hn]
theorem chunks_one (l : List α) : Chunks lt 1 l := by
  intro j
  match l.drop (1 * j) with
  | [] => simp [InOrder]
  | x :: r => simp [InOrder]
theorem chunks_all (H : Ahead lt) {v : Nat} {l xs : List α} (h : Chunks lt v l) (hv : l.length ≤ v) (ha : ∀ e, l.filter (alike lt e) = xs.filter (alike lt e)) : l = srt lt xs := by
  have := h 0
  rw [Nat.mul_zero, List.drop_zero, List.take_of_length_le hv] at this
  exact srt_is H this ha
end
end Go.Proofs.YtgbpaiffnhpafaaDoor
namespace Go.Proofs.YtgbpaiffnhpafaaDoor

/-- Of two rows of numbers the one is not behind the other one. -/
def lle : List Int → List Int → Prop
  | [], _ => True
  | _ :: _, [] => False
  | x :: l, y :: m => x < y ∨ (x = y ∧ lle l m)
theorem lle_refl : ∀ l, lle l l
  | [] => trivial
  | _ :: l => .inr ⟨rfl, lle_refl l⟩
theorem lle_trans : ∀ {a b c : List Int}, lle a b → lle b c → lle a c
  | [], _, _, _, _ => trivial
  | _ :: _, [], _, h, _ => h.elim
  | _ :: _, _ :: _, [], _, h => h.elim
  | x :: a, y :: b, z :: c, h, k => by
    rcases h with h | ⟨rfl, h⟩ <;> rcases k with k | ⟨rfl, k⟩
    · exact .inl (by omega)
    · exact .inl h
    · exact .inl k
    · exact .inr ⟨rfl, lle_trans h k⟩
theorem lle_anti : ∀ {a b : List Int}, a.length = b.length → lle a b → lle b a → a = b
  | [], [], _, _, _ => rfl
  | [], _ :: _, h, _, _ => by simp at h
  | _ :: _, [], h, _, _ => by simp at h
  | x :: a, y :: b, hl, h, k => by
    rcases h with h | ⟨rfl, h⟩ <;> rcases k with k | ⟨e, k⟩
    · omega
    · omega
    · omega
    · rw [lle_anti (by simpa using hl) h k]
theorem lle_total : ∀ (a b : List Int), lle a b ∨ lle b a
  | [], _ => .inl trivial
  | _ :: _, [] => .inr trivial
  | x :: a, y :: b => by
    rcases Int.lt_trichotomy x y with h | h | h
    · exact .inl (.inl h)
    · subst h
      rcases lle_total a b with h | h
      · exact .inl (.inr ⟨rfl, h⟩)
      · exact .inr (.inr ⟨rfl, h⟩)
    · exact .inr (.inl h)
theorem lle_append : ∀ {a b : List Int} (r : List Int), a.length = b.length → lle a b → lle (a ++ r) (b ++ r)
  | [], [], r, _, _ => lle_refl r
  | [], _ :: _, _, h, _ => by simp at h
  | _ :: _, [], _, h, _ => by simp at h
  | x :: a, y :: b, r, hl, h => h.elim .inl fun h => .inr ⟨h.1, lle_append r (by simpa using hl) h.2⟩
theorem lle_less : ∀ {a b : List Int} (r s : List Int), a.length = b.length → lle a b → a ≠ b → lle (a ++ r) (b ++ s)
  | [], [], _, _, _, _, h => absurd rfl h
  | [], _ :: _, _, _, h, _, _ => by simp at h
  | _ :: _, [], _, _, h, _, _ => by simp at h
  | x :: a, y :: b, r, s, hl, h, hne => h.elim .inl fun h => .inr ⟨h.1, lle_less r s (by simpa using hl) h.2 fun e => hne (by rw [h.1, e])⟩
theorem lle_end : ∀ (a : List Int) {x y : Int}, x < y → lle (a ++ [x]) (a ++ [y])
  | [], _, _, h => .inl h
  | _ :: a, _, _, h => .inr ⟨rfl, lle_end a h⟩

/-- The one is shorter, or as long and not behind the other one. -/
def sle (p q : List Int) : Prop := p.length < q.length ∨ (p.length = q.length ∧ lle p q)
def slt (p q : List Int) : Prop := sle p q ∧ p ≠ q
theorem sle_refl (p : List Int) : sle p p := .inr ⟨rfl, lle_refl p⟩
theorem sle_len {p q : List Int} (h : sle p q) : p.length ≤ q.length := h.elim Nat.le_of_lt fun h => Nat.le_of_eq h.1
theorem sle_trans {p q r : List Int} (h : sle p q) (k : sle q r) : sle p r := by
  rcases h with h | ⟨e, h⟩ <;> rcases k with k | ⟨f, k⟩
  · exact .inl (by omega)
  · exact .inl (by omega)
  · exact .inl (by omega)
  · exact .inr ⟨by omega, lle_trans h k⟩
theorem sle_anti {p q : List Int} (h : sle p q) (k : sle q p) : p = q := by
  rcases h with h | ⟨e, h⟩ <;> rcases k with k | ⟨f, k⟩
  · omega
  · omega
  · omega
  · exact lle_anti e h k
theorem sle_total (p q : List Int) : sle p q ∨ sle q p := by
  rcases Nat.lt_trichotomy p.length q.length with h | h | h
  · exact .inl (.inl h)
  · exact (lle_total p q).elim (fun k => .inl (.inr ⟨h, k⟩)) fun k => .inr (.inr ⟨h.symm, k⟩)
  · exact .inr (.inl h)
theorem sle_snoc {p q : List Int} (h : sle p q) (r : List Int) : sle (p ++ r) (q ++ r) := by
  rcases h with h | ⟨e, h⟩
  · exact .inl (by simp; omega)
  · exact .inr ⟨by simp; omega, lle_append r e h⟩
theorem sle_cons {p q : List Int} (x : Int) : sle (x :: p) (x :: q) ↔ sle p q := by
  unfold sle
  simp [lle]

/-- A row of nodes from one on, each step by R; where it ends. -/
inductive Wk (R : Int → Int → Prop) (a : Int) : List Int → Int → Prop
  | one : Wk R a [a] a
  | more {p : List Int} {b c : Int} : Wk R a p b → R b c → Wk R a (p ++ [c]) c
def endO (p : List Int) : Int := p.getLastD 0
theorem endO_snoc (p : List Int) (x : Int) : endO (p ++ [x]) = x := by unfold endO; simp
section
variable {R S : Int → Int → Prop} {a b c : Int} {p q : List Int}
theorem Wk.end_ (h : Wk R a p b) : endO p = b := by
  cases h with
  | one => rfl
  | more _ _ => exact endO_snoc _ _
theorem Wk.pos (h : Wk R a p b) : 1 ≤ p.length := by
  cases h <;> simp
theorem Wk.mono (hs : ∀ x y, R x y → S x y) (h : Wk R a p b) : Wk S a p b := by
  induction h with
  | one => exact .one
  | more _ hr ih => exact .more ih (hs _ _ hr)
theorem Wk.head (h : Wk R a p b) : p.head? = some a := by
  induction h with
  | one => rfl
  | more _ _ ih => rw [List.head?_append, ih]; rfl
theorem Wk.cons (hr : R a b) (h : Wk R b p c) : Wk R a (a :: p) c := by
  induction h with
  | one => exact .more .one hr
  | more _ hr' ih => exact .more ih hr'
theorem Wk.append (h : Wk R a p b) (k : Wk R b q c) : Wk R a (p ++ q.tail) c := by
  induction k with
  | one => simpa using h
  | more k hr ih =>
    have := Wk.more ih hr
    rwa [List.append_assoc, ← List.tail_append_of_ne_nil (by intro e; have := k.pos; rw [e] at this; simp at this)] at this
theorem Wk.uncons (h : Wk R a p c) : (p = [a] ∧ c = a) ∨ ∃ b q, R a b ∧ Wk R b q c ∧ p = a :: q := by
  induction h with
  | one => exact .inl ⟨rfl, rfl⟩
  | more h hr ih =>
    rename_i p b c
    rcases ih with ⟨rfl, rfl⟩ | ⟨x, q, h1, h2, rfl⟩
    · exact .inr ⟨c, [c], hr, .one, rfl⟩
    · exact .inr ⟨x, q ++ [c], h1, .more h2 hr, rfl⟩
theorem Wk.rev (h : Wk R a p b) : Wk (fun x y => R y x) b p.reverse a := by
  induction h with
  | one => exact .one
  | more _ hr ih => rw [List.reverse_append]; exact ih.cons hr
theorem Wk.unrev (h : Wk (fun x y => R y x) a p b) : Wk R b p.reverse a := h.rev
theorem Wk.unmore (h : Wk R a p c) : (p = [a] ∧ c = a) ∨ ∃ b q, Wk R a q b ∧ R b c ∧ p = q ++ [c] := by
  cases h with
  | one => exact .inl ⟨rfl, rfl⟩
  | more h hr => exact .inr ⟨_, _, h, hr, rfl⟩
/-- Where a walk leaves a set for the first time. -/
theorem Wk.leave {P : Int → Prop} (h : Wk R a p b) (ha : P a) (hb : ¬ P b) : ∃ p1 w x p2, Wk R a p1 w ∧ P w ∧ R w x ∧ ¬ P x ∧ p = p1 ++ [x] ++ p2 ∧ (p2 = [] → x = b) := by
  induction h with
  | one => exact absurd ha hb
  | more h hr ih =>
    rename_i p b c
    by_cases hb' : P b
    · exact ⟨p, b, c, [], h, hb', hr, hb, by simp, fun _ => rfl⟩
    · obtain ⟨p1, w, x, p2, h1, h2, h3, h4, rfl, _⟩ := ih hb'
      exact ⟨p1, w, x, p2 ++ [c], h1, h2, h3, h4, by simp, fun e => by simp at e⟩
theorem Wk.into (h : Wk R a p b) (hr : ∀ x y, R x y → S x y) : ∀ x ∈ p, x = a ∨ ∃ y, S y x := by
  induction h with
  | one => intro x hx; simp at hx; exact .inl hx
  | more _ h2 ih =>
    intro x hx
    rcases List.mem_append.1 hx with hx | hx
    · exact ih x hx
    · simp at hx; subst hx; exact .inr ⟨_, hr _ _ h2⟩
/-- A walk up to any of its nodes, and on from there. -/
theorem Wk.at_ (h : Wk R a p b) {x : Int} (hx : x ∈ p) : ∃ p1 p2, Wk R a (p1 ++ [x]) x ∧ Wk R x (x :: p2) b ∧ p = p1 ++ x :: p2 := by
  induction h with
  | one => simp at hx; subst hx; exact ⟨[], [], .one, .one, rfl⟩
  | more h hr ih =>
    rename_i p b c
    rcases List.mem_append.1 hx with hx | hx
    · obtain ⟨p1, p2, h1, h2, rfl⟩ := ih hx
      exact ⟨p1, p2 ++ [c], h1, .more h2 hr, by simp⟩
    · simp at hx
      subst hx
      exact ⟨p, [], .more h hr, .one, rfl⟩
end
/-- The least of all shortest walks. -/
def LW (R : Int → Int → Prop) (a : Int) (p : List Int) (b : Int) : Prop := Wk R a p b ∧ ∀ q, Wk R a q b → sle p q
theorem LW.one_ {R : Int → Int → Prop} {a b : Int} {p q : List Int} (h : LW R a p b) (k : LW R a q b) : p = q := sle_anti (h.2 _ k.1) (k.2 _ h.1)
theorem LW.start (R : Int → Int → Prop) (a : Int) : LW R a [a] a := ⟨.one, fun q hq => by
  have h1 := hq.pos
  rcases Nat.lt_or_ge 1 q.length with h | h
  · exact .inl h
  · have hh := hq.head
    match q, h1, h, hh with
    | [x], _, _, hh => simp at hh; subst hh; exact sle_refl _
    | [], h1, _, _ => simp at h1
    | _ :: _ :: _, _, h, _ => simp at h⟩

/-- How far the waves have come: L are the ways that were met, k of them are done; D are the nodes that were looked at from the next one. -/
structure Bw (R : Int → Int → Prop) (a : Int) (most : Nat) (L : List (List Int)) (k : Nat) (D : Int → Prop) : Prop where
  root : L[0]? = some [a]
  way : ∀ p ∈ L, LW R a p (endO p)
  few : ∀ p ∈ L, p.length ≤ most
  ends : (L.map endO).Nodup
  up : L.Pairwise slt
  par : ∀ j p, L[j]? = some p → 0 < j → ∃ (i : Nat) (q : List Int) (x : Int), i < j ∧ i ≤ k ∧ L[i]? = some q ∧ p = q ++ [x] ∧ R (endO q) x ∧ (i = k → D x)
  closed : ∀ j q x, j < k → L[j]? = some q → q.length < most → R (endO q) x → ∃ p ∈ L, endO p = x
  cur : ∀ q x, L[k]? = some q → q.length < most → R (endO q) x → D x → ∃ p ∈ L, endO p = x
section
variable {R : Int → Int → Prop} {a : Int} {most : Nat} {L : List (List Int)} {k : Nat} {D : Int → Prop}
theorem Bw.start (R : Int → Int → Prop) (a : Int) {most : Nat} (h : 1 ≤ most) : Bw R a most [[a]] 0 (fun _ => False) := by
  refine ⟨rfl, fun p hp => ?_, fun p hp => ?_, by simp, List.pairwise_singleton _ _, fun j p hj h0 => ?_, fun j q x hj => by omega, fun q x _ _ _ hD => hD.elim⟩
  · simp at hp; subst hp; exact LW.start R a
  · simp at hp; subst hp; exact h
  · cases j with
    | zero => omega
    | succ j => simp at hj
theorem Bw.le (h : Bw R a most L k D) {i j : Nat} {p q : List Int} (hi : L[i]? = some p) (hj : L[j]? = some q) (hij : i ≤ j) : sle p q := by
  rcases Nat.lt_or_eq_of_le hij with h1 | h1
  · obtain ⟨i1, e1⟩ := List.getElem?_eq_some_iff.1 hi
    obtain ⟨i2, e2⟩ := List.getElem?_eq_some_iff.1 hj
    have := List.pairwise_iff_getElem.1 h.up i j i1 i2 h1
    rw [e1, e2] at this
    exact this.1
  · subst h1
    rw [hi] at hj
    injection hj with hj
    subst hj
    exact sle_refl _
theorem Bw.root_end (h : Bw R a most L k D) : ∃ p ∈ L, endO p = a := ⟨[a], List.mem_of_getElem? h.root, rfl⟩
/-- Who is not met yet is led to only by who is not done yet. -/
theorem Bw.later (h : Bw R a most L k D) {q r : List Int} {x : Int} (hq : L[k]? = some q) (hr : Wk R a r x) (hx : ¬ ∃ p ∈ L, endO p = x) :
    (∃ r1, sle q r1 ∧ r = r1 ++ [x]) ∨ q.length + 1 < r.length ∨ (most < r.length) := by
  obtain ⟨p1, w, y, p2, h1, h2, h3, h4, rfl, h5⟩ := hr.leave (P := fun v => ∃ p ∈ L, endO p = v) h.root_end hx
  obtain ⟨p, hp, rfl⟩ := h2
  obtain ⟨j, hj, rfl⟩ := List.getElem_of_mem hp
  have hj2 := List.getElem?_eq_getElem hj
  have hle := (h.way _ hp).2 _ h1
  by_cases hjk : j < k
  · by_cases hm : L[j].length < most
    · exact absurd (h.closed j _ y hjk hj2 hm h3) h4
    · refine .inr (.inr ?_)
      have := sle_len hle
      simp
      omega
  · have hqp := sle_trans (h.le hq hj2 (by omega)) hle
    by_cases hp2 : p2 = []
    · subst hp2
      refine .inl ⟨p1, hqp, ?_⟩
      rw [h5 rfl]; simp
    · refine .inr (.inl ?_)
      have h6 := sle_len hqp
      have : 0 < p2.length := List.length_pos_iff.2 hp2
      simp
      omega
theorem Bw.add (h : Bw R a most L k D) {q : List Int} {x : Int} (hq : L[k]? = some q) (hm : q.length < most) (hr : R (endO q) x) (hx : ¬ ∃ p ∈ L, endO p = x) (hD : ∀ y, D y → y ≤ x) :
    Bw R a most (L ++ [q ++ [x]]) k (fun y => D y ∨ y = x) := by
  have hk : k < L.length := (List.getElem?_eq_some_iff.1 hq).1
  have hqm : q ∈ L := List.mem_of_getElem? hq
  have hnD : ¬ D x := fun hd => hx (h.cur q x hq hm hr hd)
  have old : ∀ i, i < L.length → (L ++ [q ++ [x]])[i]? = L[i]? := fun i hi => List.getElem?_append_left hi
  have lt_ : ∀ {i : Nat} {p : List Int}, L[i]? = some p → i < L.length := fun hi => (List.getElem?_eq_some_iff.1 hi).1
  have back : ∀ {i : Nat} {p : List Int}, i < L.length → (L ++ [q ++ [x]])[i]? = some p → L[i]? = some p := fun hi hp => by rwa [old _ hi] at hp
  refine ⟨?_, fun p hp => ?_, fun p hp => ?_, ?_, ?_, fun j p hj h0 => ?_, fun j p y hj hp hpm hy => ?_, fun p y hp hpm hy hyD => ?_⟩
  · rw [old _ (lt_ h.root)]; exact h.root
  · rcases List.mem_append.1 hp with hp | hp
    · exact h.way p hp
    · simp at hp
      subst hp
      rw [endO_snoc]
      refine ⟨.more (h.way q hqm).1 hr, fun r hw => ?_⟩
      rcases h.later hq hw hx with ⟨r1, h1, rfl⟩ | h1 | h1
      · exact sle_snoc h1 [x]
      · exact .inl (by simp; omega)
      · exact .inl (by simp; omega)
  · rcases List.mem_append.1 hp with hp | hp
    · exact h.few p hp
    · simp at hp; subst hp; simp; omega
  · rw [List.map_append, List.nodup_append]
    refine ⟨h.ends, by simp, ?_⟩
    intro y hy z hz e
    simp [endO_snoc] at hz
    subst hz
    subst e
    obtain ⟨p, hp, e⟩ := List.mem_map.1 hy
    exact hx ⟨p, hp, e⟩
  · rw [List.pairwise_append]
    refine ⟨h.up, List.pairwise_singleton _ _, fun p hp z hz => ?_⟩
    simp at hz
    subst hz
    have hne : p ≠ q ++ [x] := fun e => hx ⟨p, hp, by rw [e, endO_snoc]⟩
    refine ⟨?_, hne⟩
    obtain ⟨j, hj, rfl⟩ := List.getElem_of_mem hp
    have hj2 := List.getElem?_eq_getElem hj
    rcases Nat.eq_zero_or_pos j with h0 | h0
    · subst h0
      rw [h.root] at hj2
      injection hj2 with e
      rw [← e]
      have := (h.way q hqm).1.pos
      exact .inl (by simp; omega)
    · obtain ⟨i, p0, y, h1, h2, h3, h4, h5, h6⟩ := h.par j _ hj2 h0
      rw [h4]
      have hle := h.le h3 hq h2
      rcases Nat.lt_or_eq_of_le h2 with h7 | h7
      · rcases hle with h8 | ⟨h8, h9⟩
        · exact .inl (by simp; omega)
        · refine .inr ⟨by simp; omega, lle_less _ _ h8 h9 fun e => ?_⟩
          subst e
          obtain ⟨i1, e1⟩ := List.getElem?_eq_some_iff.1 h3
          obtain ⟨i2, e2⟩ := List.getElem?_eq_some_iff.1 hq
          have := List.pairwise_iff_getElem.1 h.up i k i1 i2 h7
          rw [e1, e2] at this
          exact this.2 rfl
      · subst h7
        rw [hq] at h3
        injection h3 with h3
        subst h3
        refine .inr ⟨by simp, ?_⟩
        have hyx := hD y (h6 rfl)
        rcases Int.lt_or_eq_of_le hyx with h8 | h8
        · exact lle_end _ h8
        · subst h8; exact lle_refl _
  · rcases Nat.lt_or_ge j L.length with hj1 | hj1
    · obtain ⟨i, p0, y, h1, h2, h3, h4, h5, h6⟩ := h.par j p (back hj1 hj) h0
      exact ⟨i, p0, y, h1, h2, by rw [old _ (lt_ h3)]; exact h3, h4, h5, fun e => .inl (h6 e)⟩
    · rw [List.getElem?_append_right hj1] at hj
      have : j = L.length := by
        rcases Nat.lt_or_eq_of_le hj1 with h1 | h1
        · rw [List.getElem?_eq_none (by simp; omega)] at hj; cases hj
        · exact h1.symm
      subst this
      simp at hj
      exact ⟨k, q, x, hk, Nat.le_refl _, by rw [old _ hk]; exact hq, hj.symm, hr, fun _ => .inr rfl⟩
  · obtain ⟨p', h1, h2⟩ := h.closed j p y hj (back (by omega) hp) hpm hy
    exact ⟨p', List.mem_append_left _ h1, h2⟩
  · have hp := back hk hp
    rcases hyD with hyD | rfl
    · obtain ⟨p', h1, h2⟩ := h.cur p y hp hpm hy hyD
      exact ⟨p', List.mem_append_left _ h1, h2⟩
    · exact ⟨q ++ [y], by simp, endO_snoc _ _⟩
theorem Bw.skip (h : Bw R a most L k D) {x : Int} (hx : ∀ q, L[k]? = some q → R (endO q) x → ∃ p ∈ L, endO p = x) : Bw R a most L k (fun y => D y ∨ y = x) :=
  ⟨h.root, h.way, h.few, h.ends, h.up, fun j p hj h0 => by
    obtain ⟨i, q, y, h1, h2, h3, h4, h5, h6⟩ := h.par j p hj h0
    exact ⟨i, q, y, h1, h2, h3, h4, h5, fun e => .inl (h6 e)⟩, h.closed, fun q y hq hm hr hD => by
    rcases hD with hD | rfl
    · exact h.cur q y hq hm hr hD
    · exact hx q hq hr⟩
theorem Bw.next (h : Bw R a most L k D) (hD : ∀ q x, L[k]? = some q → q.length < most → R (endO q) x → D x) : Bw R a most L (k + 1) (fun _ => False) :=
  ⟨h.root, h.way, h.few, h.ends, h.up, fun j p hj h0 => by
    obtain ⟨i, q, y, h1, h2, h3, h4, h5, h6⟩ := h.par j p hj h0
    exact ⟨i, q, y, h1, by omega, h3, h4, h5, fun e => by omega⟩, fun j q x hj hq hm hr => by
    rcases Nat.lt_or_eq_of_le (Nat.le_of_lt_succ hj) with h1 | h1
    · exact h.closed j q x h1 hq hm hr
    · subst h1
      exact h.cur q x hq hm hr (hD q x hq hm hr), fun _ _ _ _ _ e => e.elim⟩
/-- Who is told first of those that ask says true of has the least way of all. -/
theorem Bw.first (h : Bw R a most L k D) {ask : Int → Bool} {q r : List Int} {u : Int} (hq : L[k]? = some q) (hno : ∀ j p, j < k → L[j]? = some p → ask (endO p) = false) (hr : Wk R a r u) (hu : ask u = true) : sle q r := by
  by_cases hm : ∃ p ∈ L, endO p = u
  · obtain ⟨p, hp, rfl⟩ := hm
    obtain ⟨j, hj, rfl⟩ := List.getElem_of_mem hp
    have hj2 := List.getElem?_eq_getElem hj
    rcases Nat.lt_or_ge j k with h1 | h1
    · rw [hno j _ h1 hj2] at hu; cases hu
    · exact sle_trans (h.le hq hj2 h1) ((h.way _ hp).2 _ hr)
  · rcases h.later hq hr hm with ⟨r1, h1, rfl⟩ | h1 | h1
    · have := sle_len h1; exact .inl (by simp; omega)
    · exact .inl (by omega)
    · have := h.few q (List.mem_of_getElem? hq)
      exact .inl (by omega)
/-- At the end all who are led to by so many nodes are met. -/
theorem Bw.all (h : Bw R a most L k D) (hk : L.length ≤ k) {r : List Int} {u : Int} (hr : Wk R a r u) (hm : r.length ≤ most) : ∃ p ∈ L, endO p = u := by
  apply Classical.byContradiction
  intro hx
  obtain ⟨p1, w, y, p2, h1, h2, h3, h4, rfl, h5⟩ := hr.leave (P := fun v => ∃ p ∈ L, endO p = v) h.root_end hx
  obtain ⟨p, hp, rfl⟩ := h2
  obtain ⟨j, hj, rfl⟩ := List.getElem_of_mem hp
  have hle := sle_len ((h.way _ hp).2 _ h1)
  exact h4 (h.closed j _ y (by omega) (List.getElem?_eq_getElem hj) (by simp at hm; omega) h3)
theorem Bw.short (h : Bw R a most L k D) : ∀ (j : Nat) (p : List Int), L[j]? = some p → p.length ≤ j + 1 := by
  intro j
  induction j using Nat.strongRecOn with
  | _ j ih =>
    intro p hp
    rcases Nat.eq_zero_or_pos j with h0 | h0
    · subst h0
      rw [h.root] at hp
      injection hp with hp
      subst hp
      simp
    · obtain ⟨i, q, y, h1, _, h3, h4, _⟩ := h.par j p hp h0
      have := ih i h1 q h3
      rw [h4]
      simp
      omega
end
end Go.Proofs.YtgbpaiffnhpafaaDoor
namespace Go.Proofs.YtgbpaiffnhpafaaDoor
theorem nodes_few : ∀ {m : Nat} {l : List Int}, l.Nodup → (∀ x ∈ l, 0 ≤ x ∧ x < (m : Int)) → l.length ≤ m
  | 0, [], _, _ => Nat.le_refl _
  | 0, x :: l, _, h => by have := h x (.head _); omega
  | m + 1, l, hn, h => by
    have h1 : (l.filter fun x => decide (x ≠ (m : Int))).length ≤ m := nodes_few (hn.filter _) fun x hx => by
      obtain ⟨h1, h2⟩ := List.mem_filter.1 hx
      have := h x h1
      simp at h2
      omega
    have h2 : (l.filter fun x => decide (x = (m : Int))).length ≤ 1 := by
      have h3 : (l.filter fun x => decide (x = (m : Int))).Nodup := hn.filter _
      match hl : l.filter (fun x => decide (x = (m : Int))), h3 with
      | [], _ => simp
      | [_], _ => simp
      | x :: y :: r, h3 =>
        have hx : x ∈ l.filter fun x => decide (x = (m : Int)) := by rw [hl]; simp
        have hy : y ∈ l.filter fun x => decide (x = (m : Int)) := by rw [hl]; simp
        have e1 := (List.mem_filter.1 hx).2
        have e2 := (List.mem_filter.1 hy).2
        simp at e1 e2
        have := (List.nodup_cons.1 h3).1
        rw [e1, e2] at this
        simp at this
    have h3 : ∀ l : List Int, l.length = (l.filter fun x => decide (x ≠ (m : Int))).length + (l.filter fun x => decide (x = (m : Int))).length := by
      intro l
      induction l with
      | nil => rfl
      | cons x l ih => by_cases e : x = (m : Int) <;> simp [e] <;> simp at ih <;> omega
    have := h3 l
    omega
section
variable {R S : Int → Int → Prop} {a b c v u : Int} {p q r : List Int} {m most : Nat}
theorem Wk.simple (h : Wk R a p b) : ∃ q, Wk R a q b ∧ q.Nodup ∧ q.length ≤ p.length := by
  induction h with
  | one => exact ⟨[a], .one, by simp, Nat.le_refl _⟩
  | more h hr ih =>
    rename_i p b c
    obtain ⟨q, h1, h2, h3⟩ := ih
    by_cases hc : c ∈ q
    · obtain ⟨p1, p2, h4, _, rfl⟩ := h1.at_ hc
      refine ⟨_, h4, ?_, ?_⟩
      · have : (p1 ++ [c]) <+: (p1 ++ c :: p2) := ⟨p2, by simp⟩
        exact this.sublist.nodup h2
      · simp at h3 ⊢; omega
    · refine ⟨q ++ [c], .more h1 hr, ?_, by simp; omega⟩
      rw [List.nodup_append]
      exact ⟨h2, by simp, fun x hx y hy e => by simp at hy; subst hy; subst e; exact hc hx⟩
/-- Nodes: a step goes from one to one. -/
def In (R : Int → Int → Prop) (m : Nat) : Prop := ∀ x y, R x y → (0 ≤ x ∧ x < (m : Int)) ∧ (0 ≤ y ∧ y < (m : Int))
theorem Wk.nodes (hR : In R m) (ha : 0 ≤ a ∧ a < (m : Int)) (h : Wk R a p b) : ∀ x ∈ p, 0 ≤ x ∧ x < (m : Int) := by
  intro x hx
  rcases h.into (S := R) (fun _ _ h => h) x hx with rfl | ⟨y, hy⟩
  · exact ha
  · exact (hR _ _ hy).2
theorem Wk.few (hR : In R m) (ha : 0 ≤ a ∧ a < (m : Int)) (h : Wk R a p b) : ∃ q, Wk R a q b ∧ q.length ≤ m := by
  obtain ⟨q, h1, h2, _⟩ := h.simple
  exact ⟨q, h1, nodes_few h2 (h1.nodes hR ha)⟩
theorem Wk.end_in (h : Wk R a p b) : b ∈ p := by
  cases h with
  | one => simp
  | more _ _ => simp
theorem LW.nodup (h : LW R a p b) : p.Nodup := by
  obtain ⟨q, h1, h2, h3⟩ := h.1.simple
  have h4 := sle_len (h.2 q h1)
  -- a walk of the least length has no detour
  have key : ∀ {p : List Int} {b : Int}, Wk R a p b → (∀ q, Wk R a q b → p.length ≤ q.length) → p.Nodup := by
    intro p b hw
    induction hw with
    | one => intro _; simp
    | more hw hr ih =>
      rename_i p b c
      intro hl
      have h5 : p.Nodup := ih fun q hq => by have := hl _ (.more hq hr); simp at this; omega
      rw [List.nodup_append]
      refine ⟨h5, by simp, fun x hx y hy e => ?_⟩
      simp at hy
      subst hy
      subst e
      obtain ⟨p1, p2, h6, _, h7⟩ := hw.at_ hx
      have := hl _ h6
      rw [h7] at this
      simp at this
  exact key h.1 fun q hq => sle_len (h.2 q hq)

/-- A row from a node on, round and back to it; all others by R. -/
def Cw (R S : Int → Int → Prop) (v : Int) (p : List Int) : Prop := ∃ u, Wk R v p u ∧ S u v
/-- The least of all shortest ones. -/
def LC (R S : Int → Int → Prop) (v : Int) (p : List Int) : Prop := Cw R S v p ∧ ∀ q, Cw R S v q → sle p q
theorem LC.one_ (h : LC R S v p) (k : LC R S v q) : p = q := sle_anti (h.2 _ k.1) (k.2 _ h.1)
theorem Cw.few (hR : In R m) (hv : 0 ≤ v ∧ v < (m : Int)) (h : Cw R S v p) : ∃ q, Cw R S v q ∧ q.length ≤ m := by
  obtain ⟨u, h1, h2⟩ := h
  obtain ⟨q, h3, h4⟩ := h1.few hR hv
  exact ⟨q, ⟨u, h3, h2⟩, h4⟩
theorem LC.few (hR : In R m) (hv : 0 ≤ v ∧ v < (m : Int)) (h : LC R S v p) : p.length ≤ m := by
  obtain ⟨q, h1, h2⟩ := h.1.few hR hv
  have := sle_len (h.2 q h1)
  omega
theorem LC.nodup (h : LC R S v p) : p.Nodup := by
  obtain ⟨u, h1, h2⟩ := h.1
  exact LW.nodup (R := R) (a := v) (b := u) ⟨h1, fun q hq => h.2 q ⟨u, hq, h2⟩⟩
/-- What is found, of so many nodes at most. -/
def Found (R S : Int → Int → Prop) (v : Int) (most : Nat) (o : List Int) : Prop := (o ≠ [] ∧ LC R S v o ∧ o.length ≤ most) ∨ (o = [] ∧ ∀ r, Cw R S v r → most < r.length)
theorem Bw.found {D : Int → Prop} {k : Nat} {L : List (List Int)} {ask : Int → Bool} (h : Bw R v most L k D) (hq : L[k]? = some q) (hno : ∀ j p, j < k → L[j]? = some p → ask (endO p) = false) (hy : ask (endO q) = true) (hS : ∀ u, ask u = true ↔ S u v) : Found R S v most q := by
  have hm := List.mem_of_getElem? hq
  have hw := (h.way q hm).1
  refine .inl ⟨fun e => by have := hw.pos; rw [e] at this; simp at this, ⟨⟨_, hw, (hS _).1 hy⟩, fun r ⟨u, hr, hu⟩ => h.first hq hno hr ((hS u).2 hu)⟩, h.few q hm⟩
theorem Bw.lost {D : Int → Prop} {k : Nat} {L : List (List Int)} {ask : Int → Bool} (h : Bw R v most L k D) (hk : L.length ≤ k) (hno : ∀ j p, j < k → L[j]? = some p → ask (endO p) = false) (hS : ∀ u, S u v → ask u = true) : Found R S v most [] := by
  refine .inr ⟨rfl, fun r ⟨u, hr, hu⟩ => ?_⟩
  rcases Nat.lt_or_ge most r.length with h1 | h1
  · exact h1
  · obtain ⟨p, hp, e⟩ := h.all hk hr h1
    obtain ⟨j, hj, rfl⟩ := List.getElem_of_mem hp
    have := hno j _ (by omega) (List.getElem?_eq_getElem hj)
    rw [e, hS u hu] at this
    cases this
theorem Found.none_all (hR : In R m) (hv : 0 ≤ v ∧ v < (m : Int)) (h : Found R S v m []) : ∀ r, ¬ Cw R S v r := by
  intro r hr
  rcases h with ⟨h, _⟩ | ⟨_, h⟩
  · exact h rfl
  · obtain ⟨q, h1, h2⟩ := hr.few hR hv
    have := h q h1
    omega
/-- The least of all shortest walks to a node, if one was found. -/
def Got (R : Int → Int → Prop) (a b : Int) (o : List Int) : Prop := (o ≠ [] ∧ LW R a o b) ∨ (o = [] ∧ ∀ r, ¬ Wk R a r b)
theorem Got.one_ {o o' : List Int} (h : Got R a b o) (k : Got R a b o') : o = o' := by
  rcases h with ⟨_, h⟩ | ⟨rfl, h⟩ <;> rcases k with ⟨_, k⟩ | ⟨rfl, k⟩
  · exact h.one_ k
  · exact absurd h.1 (k _)
  · exact absurd k.1 (h _)
  · rfl
theorem Bw.got {D : Int → Prop} {k : Nat} {L : List (List Int)} (h : Bw R a most L k D) (hq : L[k]? = some q) (hy : endO q = b) : Got R a b q := by
  have hw := h.way q (List.mem_of_getElem? hq)
  refine .inl ⟨fun e => by have := hw.1.pos; rw [e] at this; simp at this, hy ▸ hw⟩
theorem Bw.ungot {D : Int → Prop} {k : Nat} {L : List (List Int)} (hR : In R m) (ha : 0 ≤ a ∧ a < (m : Int)) (h : Bw R a m L k D) (hk : L.length ≤ k) (hno : ∀ p ∈ L, endO p ≠ b) : Got R a b [] := by
  refine .inr ⟨rfl, fun r hr => ?_⟩
  obtain ⟨q, h1, h2⟩ := hr.few hR ha
  obtain ⟨p, hp, e⟩ := h.all hk h1 h2
  exact hno p hp e

/-- How far each node is. -/
def FarAt (R : Int → Int → Prop) (a : Int) (u : Int) (d : Int) : Prop := (d = -1 ∧ ∀ r, ¬ Wk R a r u) ∨ ((∃ r, Wk R a r u ∧ (r.length : Int) = d + 1) ∧ ∀ r, Wk R a r u → d + 1 ≤ (r.length : Int))
theorem FarAt.one_ {d e : Int} (h : FarAt R a u d) (k : FarAt R a u e) : d = e := by
  rcases h with ⟨rfl, h⟩ | ⟨⟨r, h1, h2⟩, h⟩ <;> rcases k with ⟨rfl, k⟩ | ⟨⟨s, k1, k2⟩, k⟩
  · rfl
  · exact absurd k1 (h _)
  · exact absurd h1 (k _)
  · have := h _ k1
    have := k _ h1
    omega
theorem FarAt.mono {T : Int → Int → Prop} {d : Int} {b : Int} (h : ∀ r, Wk R a r u → ∃ s, Wk T b s u ∧ s.length = r.length) (k : ∀ r, Wk T b r u → ∃ s, Wk R a s u ∧ s.length = r.length) (hd : FarAt R a u d) : FarAt T b u d := by
  rcases hd with ⟨rfl, h1⟩ | ⟨⟨r, h1, h2⟩, h3⟩
  · exact .inl ⟨rfl, fun r hr => by obtain ⟨s, h2, _⟩ := k r hr; exact h1 s h2⟩
  · obtain ⟨s, h4, h5⟩ := h r h1
    refine .inr ⟨⟨s, h4, by omega⟩, fun t ht => ?_⟩
    obtain ⟨s', h6, h7⟩ := k t ht
    have := h3 s' h6
    omega
theorem FarAt.way {d : Int} (h : FarAt R a u d) (hd : 0 ≤ d) : ∃ r, Wk R a r u ∧ (r.length : Int) = d + 1 := by
  rcases h with ⟨rfl, _⟩ | ⟨h, _⟩
  · omega
  · exact h
theorem FarAt.ge {d : Int} (h : FarAt R a u d) : -1 ≤ d := by
  rcases h with ⟨rfl, _⟩ | ⟨⟨r, h1, h2⟩, _⟩ <;> omega
theorem FarAt.le {d : Int} (h : FarAt R a u d) (hr : Wk R a r u) : 0 ≤ d ∧ d + 1 ≤ (r.length : Int) := by
  rcases h with ⟨rfl, h⟩ | ⟨⟨s, h1, h2⟩, h⟩
  · exact absurd hr (h _)
  · have := h1.pos
    exact ⟨by omega, h _ hr⟩
theorem FarAt.here {d : Int} (h : FarAt R a u d) (hd : d = 0) : u = a := by
  obtain ⟨r, h1, h2⟩ := h.way (by omega)
  subst hd
  rcases h1.unmore with ⟨_, e⟩ | ⟨b, q, h3, _, rfl⟩
  · exact e
  · have := h3.pos
    simp at h2
    omega
/-- Back from a node: the least next one whose distance is one less, and on from there. -/
def Rev (R : Int → Int → Prop) : Int → Int → Prop := fun x y => R y x
theorem Wk.rev_ (h : Wk R a p b) : Wk (Rev R) b p.reverse a := h.rev
theorem LW.step {d : Int} {w : Int} (hv : FarAt (Rev R) b v d) (hd : 0 < d) (hw : FarAt (Rev R) b w (d - 1)) (hr : R v w) (hleast : ∀ x e, R v x → FarAt (Rev R) b x e → e = d - 1 → w ≤ x) (hall : ∀ x, R v x → ∃ e, FarAt (Rev R) b x e) (h : LW R w p b) : LW R v (v :: p) b := by
  refine ⟨h.1.cons hr, fun r hrw => ?_⟩
  obtain ⟨s, h1, h2⟩ := hw.way (by omega)
  have h3 : p.length ≤ s.length := by have := sle_len (h.2 _ (Wk.unrev (R := R) h1)); simpa using this
  have hp : (p.length : Int) = d := by
    have := (hw.le h.1.rev_).2
    simp at this
    omega
  have hrl := (hv.le hrw.rev_).2
  simp at hrl
  rcases hrw.uncons with ⟨rfl, rfl⟩ | ⟨x, q, hx, hq, rfl⟩
  · simp at hrl; omega
  · rcases Nat.lt_or_ge p.length q.length with h4 | h4
    · exact .inl (by simp; omega)
    · obtain ⟨e, he⟩ := hall x hx
      have h5 := (he.le hq.rev_)
      simp at h5
      obtain ⟨s2, h6, h7⟩ := he.way h5.1
      have h8 := (hv.le (h6.more (b := x) (c := v) hx)).2
      simp at h8 hrl
      have e1 : e = d - 1 := by omega
      have h9 := hleast x e hx he e1
      refine .inr ⟨by simp; omega, ?_⟩
      rcases Int.lt_or_eq_of_le h9 with h10 | h10
      · have hph : p.head? = some w := h.1.head
        exact .inr ⟨rfl, by
          have hqh := hq.head
          match p, q, hph, hqh with
          | _ :: _, _ :: _, hph, hqh => simp at hph hqh; subst hph; subst hqh; exact .inl h10⟩
      · subst h10
        have := h.2 q hq
        rcases this with h11 | h11
        · omega
        · exact .inr ⟨rfl, h11.2⟩
/-- The way down, as far as it has come. -/
def Down (R : Int → Int → Prop) (a b v : Int) (out : List Int) : Prop := Wk R a out v ∧ ∀ t, LW R v t b → LW R a (out ++ t.tail) b
theorem Down.start (R : Int → Int → Prop) (a b : Int) : Down R a b a [a] := ⟨.one, fun t ht => by
  have := ht.1.head
  match t, this with
  | x :: t, h => simp at h; subst h; exact ht⟩
theorem Down.step {w : Int} (h : Down R a b v p) (hr : R v w) (hs : ∀ t, LW R w t b → LW R v (v :: t) b) : Down R a b w (p ++ [w]) := ⟨h.1.more hr, fun t ht => by
  have h1 := h.2 _ (hs t ht)
  have h2 := ht.1.head
  match t, h2 with
  | x :: t, h2 =>
    simp at h2
    subst h2
    simpa using h1⟩
theorem Down.done (h : Down R a b b p) : LW R a p b := by simpa using h.2 [b] (LW.start R b)
end
end Go.Proofs.YtgbpaiffnhpafaaDoor
namespace Go.Proofs.YtgbpaiffnhpafaaDoor
section
variable {E R S : Int → Int → Prop} {a b c v u : Int} {p q r : List Int} {m : Nat}
/-- Steps to those that are not below one; from those. -/
def To (E : Int → Int → Prop) (l : Int) : Int → Int → Prop := fun x y => E x y ∧ l ≤ y
def Fro (E : Int → Int → Prop) (l : Int) : Int → Int → Prop := fun x y => E x y ∧ l ≤ x
def Ab (E : Int → Int → Prop) (l : Int) : Int → Int → Prop := fun x y => E x y ∧ l < y
theorem Wk.fro_to {l : Int} (h : Wk (Fro E l) a p b) (hb : l ≤ b) : Wk (To E l) a p b := by
  induction h with
  | one => exact .one
  | more _ hr ih => exact .more (ih hr.2) ⟨hr.1, hb⟩
theorem Wk.to_end {l : Int} (h : Wk (To E l) a p b) (ha : l ≤ a) : l ≤ b := by
  cases h with
  | one => exact ha
  | more _ hr => exact hr.2
theorem Wk.to_fro {l : Int} (h : Wk (To E l) a p b) (ha : l ≤ a) : Wk (Fro E l) a p b := by
  induction h with
  | one => exact .one
  | more h hr ih => exact .more ih ⟨hr.1, h.to_end ha⟩
/-- Round from a node: to a next one, and the way back from there. -/
theorem Cw.out {l : Int} (hirr : ∀ x, ¬ E x x) (h : Cw (To E l) E v p) : ∃ x q, E v x ∧ l ≤ x ∧ Wk (Fro E l) x (q ++ [v]) v ∧ p = v :: q ∧ q ≠ [] := by
  obtain ⟨u, h1, h2⟩ := h
  rcases h1.uncons with ⟨rfl, rfl⟩ | ⟨x, q, hx, hq, rfl⟩
  · exact absurd h2 (hirr _)
  · exact ⟨x, q, hx.1, hx.2, .more (hq.to_fro hx.2) ⟨h2, hq.to_end hx.2⟩, rfl, fun e => by have := hq.pos; rw [e] at this; simp at this⟩
theorem Cw.in_ {l x : Int} (hirr : ∀ x, ¬ E x x) (hx : E v x) (hl : l ≤ x) (h : Wk (Fro E l) x p v) : Cw (To E l) E v (v :: p.dropLast) ∧ p = p.dropLast ++ [v] := by
  rcases h.unmore with ⟨_, rfl⟩ | ⟨u, q, h1, h2, rfl⟩
  · exact absurd hx (hirr _)
  · refine ⟨⟨u, ?_, h2.1⟩, by simp⟩
    rw [List.dropLast_concat]
    exact (h1.fro_to h2.2).cons ⟨hx, hl⟩
theorem lle_cut : ∀ {a b : List Int} {x y : Int}, a.length = b.length → lle (a ++ [x]) (b ++ [y]) → lle a b
  | [], _, _, _, _, _ => trivial
  | _ :: _, [], _, _, h, _ => by simp at h
  | x :: a, y :: b, _, _, hl, h => h.elim .inl fun h => .inr ⟨h.1, lle_cut (by simpa using hl) h.2⟩
/-- The least of the next ones that lead back soonest, and the least way back from there. -/
theorem LC.by_ {l x d : Int} (hirr : ∀ x, ¬ E x x) (hx : E v x) (hl : l ≤ x) (hd : FarAt (Rev (Fro E l)) v x d) (h : LW (Fro E l) x p v)
    (hleast : ∀ y e, E v y → l ≤ y → FarAt (Rev (Fro E l)) v y e → 0 ≤ e → d < e ∨ (d = e ∧ x ≤ y)) (hall : ∀ y, E v y → ∃ e, FarAt (Rev (Fro E l)) v y e) : LC (To E l) E v (v :: p.dropLast) := by
  obtain ⟨h1, h2⟩ := Cw.in_ hirr hx hl h.1
  refine ⟨h1, fun r hr => ?_⟩
  obtain ⟨y, q, hy, hly, hq, rfl, hne⟩ := hr.out hirr
  obtain ⟨e, he⟩ := hall y hy
  have hle := he.le hq.rev_
  simp at hle
  have hpl : (p.length : Int) = d + 1 := by
    have h3 := (hd.le h.1.rev_)
    obtain ⟨s, h4, h5⟩ := hd.way h3.1
    have h6 := sle_len (h.2 _ (Wk.unrev (R := Fro E l) h4))
    simp at h3 h6
    omega
  have hpq : p.length = p.dropLast.length + 1 := by
    have := congrArg List.length h2
    simpa using this
  have hlq := hleast y e hy hly he hle.1
  rw [sle_cons]
  rcases Nat.lt_or_ge p.dropLast.length q.length with h3 | h3
  · exact .inl h3
  · rcases hlq with h4 | ⟨h4, h5⟩
    · omega
    · have h6 : p.dropLast.length = q.length := by omega
      refine .inr ⟨h6, ?_⟩
      rcases Int.lt_or_eq_of_le h5 with h7 | h7
      · have h8 := h.1.head
        have h9 := hq.head
        rw [h2] at h8
        match p.dropLast, q, h8, h9, hne, h6 with
        | _ :: _, _ :: _, h8, h9, _, _ => simp at h8 h9; subst h8; subst h9; exact .inl h7
        | [], q, _, _, hne, h6 => exact absurd (List.length_eq_zero_iff.1 h6.symm) hne
        | _ :: _, [], _, _, hne, _ => exact absurd rfl hne
      · subst h7
        have h8 := h.2 _ hq
        rw [h2] at h8
        rcases h8 with h8 | ⟨_, h8⟩
        · simp at h8; omega
        · exact lle_cut h6 h8
theorem Cw.none_by {l : Int} (hirr : ∀ x, ¬ E x x) (h : ∀ y, E v y → l ≤ y → ∀ r, ¬ Wk (Fro E l) y r v) : ∀ r, ¬ Cw (To E l) E v r := by
  intro r hr
  obtain ⟨y, q, hy, hly, hq, _⟩ := hr.out hirr
  exact h y hy hly _ hq

/-- Who goes round over those that are above it alone is not worse off. -/
theorem Wk.above (h : Wk (To E v) v p b) : ∃ q, Wk (Ab E v) v q b ∧ sle q p := by
  induction h with
  | one => exact ⟨[v], .one, sle_refl _⟩
  | more h hr ih =>
    rename_i p b c
    obtain ⟨q, h1, h2⟩ := ih
    by_cases hc : c = v
    · subst hc
      exact ⟨[c], .one, .inl (by have := h.pos; simp; omega)⟩
    · exact ⟨q ++ [c], .more h1 ⟨hr.1, by have := hr.2; omega⟩, sle_snoc h2 [c]⟩
theorem Wk.ab_to (h : Wk (Ab E v) a p b) : Wk (To E v) a p b := h.mono fun _ _ h => ⟨h.1, by have := h.2; omega⟩
theorem LC.above (h : LC (Ab E v) S v p) : LC (To E v) S v p := by
  obtain ⟨⟨u, h1, h2⟩, h3⟩ := h
  refine ⟨⟨u, h1.ab_to, h2⟩, fun q ⟨u', h4, h5⟩ => ?_⟩
  obtain ⟨q', h6, h7⟩ := h4.above
  exact sle_trans (h3 q' ⟨u', h6, h5⟩) h7
theorem Found.above {most : Nat} (h : Found (Ab E v) S v most p) : Found (To E v) S v most p := by
  rcases h with ⟨h1, h2, h3⟩ | ⟨h1, h2⟩
  · exact .inl ⟨h1, h2.above, h3⟩
  · refine .inr ⟨h1, fun r ⟨u, h4, h5⟩ => ?_⟩
    obtain ⟨q', h6, h7⟩ := h4.above
    have := h2 q' ⟨u, h6, h5⟩
    have := sle_len h7
    omega

/-- Some way on, or none. -/
def Star (E : Int → Int → Prop) (x y : Int) : Prop := ∃ r, Wk E x r y
theorem Star.trans (h : Star E a b) (k : Star E b c) : Star E a c := by
  obtain ⟨r, h⟩ := h
  obtain ⟨s, k⟩ := k
  exact ⟨_, h.append k⟩
/-- Who goes round stays among those that lead to one another. -/
def Both_ (E T : Int → Int → Prop) : Int → Int → Prop := fun x y => E x y ∧ T x y
theorem Wk.within {T : Int → Int → Prop} (hT : ∀ x y, Star E x y → Star E y x → T x y) (hRE : ∀ x y, R x y → E x y) (h : Wk R v p b) (hb : Star E b v) : Wk (Both_ R T) v p b := by
  induction h with
  | one => exact .one
  | more h hr ih =>
    have h1 : Star E _ _ := ⟨_, .more .one (hRE _ _ hr)⟩
    exact .more (ih (h1.trans hb)) ⟨hr, hT _ _ h1 (hb.trans ⟨_, h.mono hRE⟩)⟩
theorem Cw.within {T : Int → Int → Prop} (hT : ∀ x y, Star E x y → Star E y x → T x y) (hRE : ∀ x y, R x y → E x y) (h : Cw R E v p) : Cw (Both_ R T) (Both_ E T) v p := by
  obtain ⟨u, h1, h2⟩ := h
  have h3 : Star E u v := ⟨_, .more .one h2⟩
  exact ⟨u, h1.within hT hRE h3, h2, hT _ _ h3 ⟨_, h1.mono hRE⟩⟩
theorem Cw.mono {R' S' : Int → Int → Prop} (hR : ∀ x y, R x y → R' x y) (hS : ∀ x y, S x y → S' x y) (h : Cw R S v p) : Cw R' S' v p := by
  obtain ⟨u, h1, h2⟩ := h
  exact ⟨u, h1.mono hR, hS _ _ h2⟩
theorem Found.congr {R' S' : Int → Int → Prop} {most : Nat} (h : ∀ r, Cw R S v r ↔ Cw R' S' v r) (k : Found R S v most p) : Found R' S' v most p := by
  rcases k with ⟨h1, h2, h3⟩ | ⟨h1, h2⟩
  · exact .inl ⟨h1, ⟨(h _).1 h2.1, fun q hq => h2.2 q ((h _).2 hq)⟩, h3⟩
  · exact .inr ⟨h1, fun r hr => h2 r ((h _).2 hr)⟩

/-- The least of all shortest rounds from so many nodes on; none has one: nothing. -/
def BestIs (E : Int → Int → Prop) (k : Nat) (o : List Int) : Prop :=
  (o = [] ∧ ∀ v : Nat, v < k → ∀ r, ¬ Cw (To E v) E v r) ∨ (o ≠ [] ∧ ∃ v : Nat, v < k ∧ LC (To E v) E v o ∧ (∀ v' : Nat, v' < k → ∀ r, Cw (To E v') E v' r → o.length ≤ r.length) ∧ ∀ v' : Nat, v' < v → ∀ r, Cw (To E v') E v' r → o.length < r.length)
theorem BestIs.start (E : Int → Int → Prop) : BestIs E 0 [] := .inl ⟨rfl, fun v h => by omega⟩
theorem BestIs.one_ {o o' : List Int} {k : Nat} (h : BestIs E k o) (h' : BestIs E k o') : o = o' := by
  rcases h with ⟨rfl, h⟩ | ⟨_, v, h1, h2, h3, h4⟩ <;> rcases h' with ⟨rfl, h'⟩ | ⟨_, v', h1', h2', h3', h4'⟩
  · rfl
  · exact absurd h2'.1 (h v' h1' _)
  · exact absurd h2.1 (h' v h1 _)
  · have e1 := h3 v' h1' _ h2'.1
    have e2 := h3' v h1 _ h2.1
    rcases Nat.lt_trichotomy v v' with h | h | h
    · have := h4' v h _ h2.1; omega
    · subst h; exact h2.one_ h2'
    · have := h4 v' h _ h2'.1; omega
/-- One node more: the one that was found is kept, if the new one is not shorter. -/
theorem BestIs.keep {o : List Int} {k : Nat} (h : BestIs E k o) (hn : ∀ r, Cw (To E k) E k r → o ≠ [] ∧ o.length ≤ r.length) : BestIs E (k + 1) o := by
  rcases h with ⟨rfl, h⟩ | ⟨h0, v, h1, h2, h3, h4⟩
  · refine .inl ⟨rfl, fun v hv r hr => ?_⟩
    rcases Nat.lt_or_eq_of_le (Nat.le_of_lt_succ hv) with h5 | h5
    · exact h v h5 r hr
    · subst h5; exact (hn r hr).1 rfl
  · refine .inr ⟨h0, v, by omega, h2, fun v' hv r hr => ?_, h4⟩
    rcases Nat.lt_or_eq_of_le (Nat.le_of_lt_succ hv) with h5 | h5
    · exact h3 v' h5 r hr
    · subst h5; exact (hn r hr).2
theorem BestIs.turn {o p : List Int} {k : Nat} (h : BestIs E k o) (hp : p ≠ []) (hn : LC (To E k) E k p) (hl : o ≠ [] → p.length < o.length) : BestIs E (k + 1) p := by
  refine .inr ⟨hp, k, by omega, hn, fun v' hv r hr => ?_, fun v' hv r hr => ?_⟩
  · rcases Nat.lt_or_eq_of_le (Nat.le_of_lt_succ hv) with h5 | h5
    · rcases h with ⟨_, h⟩ | ⟨h0, v, h1, h2, h3, h4⟩
      · exact absurd hr (h v' h5 r)
      · have := h3 v' h5 r hr
        have := hl h0
        omega
    · subst h5; exact sle_len (hn.2 r hr)
  · rcases h with ⟨_, h⟩ | ⟨h0, v, h1, h2, h3, h4⟩
    · exact absurd hr (h v' hv r)
    · have := h3 v' hv r hr
      have := hl h0
      omega
/-- So it goes on with what is looked for, of fewer nodes alone. -/
theorem BestIs.next {o p : List Int} {k most : Nat} (h : BestIs E k o) (hf : Found (To E k) E k most p) (hm : o ≠ [] → most + 1 = o.length) (hm0 : o = [] → ∀ r, Cw (To E k) E k r → ∃ s, Cw (To E k) E k s ∧ s.length ≤ most) : BestIs E (k + 1) (if o = [] ∨ (p ≠ [] ∧ p.length < o.length) then p else o) := by
  rcases hf with ⟨h1, h2, h3⟩ | ⟨rfl, h2⟩
  · by_cases ho : o = []
    · rw [if_pos (.inl ho)]
      exact h.turn h1 h2 fun e => absurd ho e
    · have := hm ho
      rw [if_pos (.inr ⟨h1, by omega⟩)]
      exact h.turn h1 h2 fun _ => by omega
  · by_cases ho : o = []
    · rw [if_pos (.inl ho)]
      rw [ho] at h
      refine h.keep fun r hr => ?_
      obtain ⟨s, h3, h4⟩ := hm0 ho r hr
      have := h2 s h3
      omega
    · rw [if_neg (by rintro (e | ⟨e, _⟩); exact ho e; exact e rfl)]
      refine h.keep fun r hr => ⟨ho, ?_⟩
      have := hm ho
      have := h2 r hr
      omega
/-- Round, from another node on. -/
theorem Cw.turn (h : Cw E E v p) {x : Int} (hx : x ∈ p) : ∃ q1 q2, p = q1 ++ q2 ∧ Cw E E x (q2 ++ q1) ∧ q2 ≠ [] := by
  obtain ⟨u, h1, h2⟩ := h
  obtain ⟨p1, p2, h3, h4, rfl⟩ := h1.at_ hx
  rcases h3.unmore with ⟨e, rfl⟩ | ⟨b, q, h5, h6, e⟩
  · have : p1 = [] := by simpa using e
    subst this
    exact ⟨[], x :: p2, rfl, by rw [List.append_nil]; exact ⟨u, h4, h2⟩, by simp⟩
  · have : p1 = q := List.append_inj_left' e rfl
    subst this
    refine ⟨p1, x :: p2, rfl, ⟨b, ?_, h6⟩, by simp⟩
    have h7 := (Wk.more h4 h2).append h5
    have h8 := h5.head
    match p1, h8 with
    | y :: p1, h8 =>
      simp at h8
      subst h8
      simpa using h7
end
end Go.Proofs.YtgbpaiffnhpafaaDoor
