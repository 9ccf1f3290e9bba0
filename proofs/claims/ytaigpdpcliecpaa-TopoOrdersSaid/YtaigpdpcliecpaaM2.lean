/- Layer order: rows in order, merged and sorted: plain facts on lists, with a test that says which of two stands ahead. -/
-- holds: YtaigpdpcliecpaaOa
namespace Go.Proofs.Ytaigpdpcliecpaa

section
variable {α : Type}

/-- A test that says of two whether the first one stands ahead. -/
structure Ahead (lt : α → α → Bool) : Prop where
  asym : ∀ {x y}, lt x y = true → lt y x = false
  trans : ∀ {x y z}, lt y x = false → lt z y = false → lt z x = false

/-- Is x alike to e? -/
def alike (lt : α → α → Bool) (e x : α) : Bool := !lt x e && !lt e x
/-- None stands ahead of an elder one. -/
def InOrder (lt : α → α → Bool) (l : List α) : Prop := l.Pairwise fun x y => lt y x = false

variable {lt : α → α → Bool}

theorem Ahead.irrefl (h : Ahead lt) (x : α) : lt x x = false := by
  cases e : lt x x
  · rfl
  · exact absurd e (by rw [h.asym e]; decide)
theorem Ahead.before (h : Ahead lt) {x y z : α} (h1 : lt x y = true) (h2 : lt z y = false) : lt x z = true := by
  cases e : lt x z
  · exact absurd h1 (by rw [h.trans h2 e]; decide)
  · rfl
theorem alike_self (h : Ahead lt) (x : α) : alike lt x x = true := by
  unfold alike; rw [h.irrefl]; rfl
theorem alike_far (h : Ahead lt) {x y z e : α} (h1 : lt y x = true) (h2 : lt z x = false) (h3 : alike lt e y = true) : alike lt e z = false := by
  unfold alike at *
  rw [Bool.and_eq_true, Bool.not_eq_true', Bool.not_eq_true'] at h3
  have h4 : lt y z = true := h.before h1 h2
  cases h5 : lt e z
  · exact absurd h4 (by rw [h.trans h5 h3.1]; decide)
  · simp

/-- Two rows put together; of those that are alike those of the first one go ahead. -/
def mrg (lt : α → α → Bool) : List α → List α → List α
  | [], b => b
  | x :: a, [] => x :: a
  | x :: a, y :: b => if lt y x = true then y :: mrg lt (x :: a) b else x :: mrg lt a (y :: b)
termination_by a b => a.length + b.length
decreasing_by all_goals (simp only [List.length_cons]; omega)

theorem mrg_nil (b : List α) : mrg lt [] b = b := by rw [mrg]
theorem mrg_nil2 (a : List α) : mrg lt a [] = a := by cases a <;> rw [mrg]
theorem mrg_second {x y : α} {a b : List α} (h : lt y x = true) : mrg lt (x :: a) (y :: b) = y :: mrg lt (x :: a) b := by rw [mrg, if_pos h]
theorem mrg_first {x y : α} {a b : List α} (h : lt y x = false) : mrg lt (x :: a) (y :: b) = x :: mrg lt a (y :: b) := by rw [mrg, if_neg (by rw [h]; decide)]

theorem mrg_length (lt : α → α → Bool) : ∀ (n : Nat) (a b : List α), a.length + b.length = n → (mrg lt a b).length = n
  | n, [], b, h => by rw [mrg_nil]; simpa using h
  | n, x :: a, [], h => by rw [mrg_nil2]; simpa using h
  | 0, x :: a, y :: b, h => by simp only [List.length_cons] at h; omega
  | n + 1, x :: a, y :: b, h => by
    simp only [List.length_cons] at h
    rw [mrg]
    split
    · rw [List.length_cons, mrg_length lt n _ _ (by simp only [List.length_cons]; omega)]
    · rw [List.length_cons, mrg_length lt n _ _ (by simp only [List.length_cons]; omega)]
theorem mrg_len (a b : List α) : (mrg lt a b).length = a.length + b.length := mrg_length lt _ a b rfl

theorem mrg_mem (lt : α → α → Bool) (z : α) : ∀ (n : Nat) (a b : List α), a.length + b.length = n → (z ∈ mrg lt a b ↔ z ∈ a ∨ z ∈ b)
  | n, [], b, h => by rw [mrg_nil]; simp
  | n, x :: a, [], h => by rw [mrg_nil2]; simp
  | 0, x :: a, y :: b, h => by simp only [List.length_cons] at h; omega
  | n + 1, x :: a, y :: b, h => by
    simp only [List.length_cons] at h
    rw [mrg]
    split
    · rw [List.mem_cons, mrg_mem lt z n _ _ (by simp only [List.length_cons]; omega), List.mem_cons (a := z) (b := y)]
      exact ⟨fun h => h.elim (fun h => .inr (.inl h)) fun h => h.elim .inl fun h => .inr (.inr h), fun h => h.elim (fun h => .inr (.inl h)) fun h => h.elim .inl fun h => .inr (.inr h)⟩
    · rw [List.mem_cons, mrg_mem lt z n _ _ (by simp only [List.length_cons]; omega), List.mem_cons (a := z) (b := x), or_assoc]
theorem mem_mrg {z : α} {a b : List α} : z ∈ mrg lt a b ↔ z ∈ a ∨ z ∈ b := mrg_mem lt z _ a b rfl

theorem order_tail {x : α} {a : List α} (h : InOrder lt (x :: a)) : InOrder lt a := (List.pairwise_cons.1 h).2
theorem order_head {x : α} {a : List α} (h : InOrder lt (x :: a)) : ∀ z ∈ a, lt z x = false := (List.pairwise_cons.1 h).1
theorem order_all (H : Ahead lt) {x : α} {a : List α} (h : InOrder lt (x :: a)) : ∀ z ∈ x :: a, lt z x = false := by
  intro z hz
  rcases List.mem_cons.1 hz with rfl | hz
  · exact H.irrefl z
  · exact order_head h z hz

theorem mrg_order (H : Ahead lt) : ∀ (n : Nat) (a b : List α), a.length + b.length = n → InOrder lt a → InOrder lt b → InOrder lt (mrg lt a b)
  | n, [], b, h, ha, hb => by rw [mrg_nil]; exact hb
  | n, x :: a, [], h, ha, hb => by rw [mrg_nil2]; exact ha
  | 0, x :: a, y :: b, h, _, _ => by simp only [List.length_cons] at h; omega
  | n + 1, x :: a, y :: b, h, ha, hb => by
    simp only [List.length_cons] at h
    cases e : lt y x
    · rw [mrg_first e]
      refine List.pairwise_cons.2 ⟨fun z hz => ?_, mrg_order H n _ _ (by simp only [List.length_cons]; omega) (order_tail ha) hb⟩
      rcases mem_mrg.1 hz with hz | hz
      · exact order_head ha z hz
      · exact H.trans e (order_all H hb z hz)
    · rw [mrg_second e]
      refine List.pairwise_cons.2 ⟨fun z hz => ?_, mrg_order H n _ _ (by simp only [List.length_cons]; omega) ha (order_tail hb)⟩
      rcases mem_mrg.1 hz with hz | hz
      · exact H.asym (H.before e (order_all H ha z hz))
      · exact order_head hb z hz

theorem mrg_alike (H : Ahead lt) (e : α) : ∀ (n : Nat) (a b : List α), a.length + b.length = n → InOrder lt a → InOrder lt b → (mrg lt a b).filter (alike lt e) = a.filter (alike lt e) ++ b.filter (alike lt e)
  | n, [], b, h, ha, hb => by rw [mrg_nil]; simp
  | n, x :: a, [], h, ha, hb => by rw [mrg_nil2]; simp
  | 0, x :: a, y :: b, h, _, _ => by simp only [List.length_cons] at h; omega
  | n + 1, x :: a, y :: b, h, ha, hb => by
    simp only [List.length_cons] at h
    cases hyx : lt y x
    · rw [mrg_first hyx, List.filter_cons, List.filter_cons, mrg_alike H e n _ _ (by simp only [List.length_cons]; omega) (order_tail ha) hb]
      split <;> simp
    · rw [mrg_second hyx, List.filter_cons, mrg_alike H e n _ _ (by simp only [List.length_cons]; omega) ha (order_tail hb)]
      cases hy : alike lt e y
      · rw [if_neg (by decide), List.filter_cons (x := y), hy, if_neg (by decide)]
      · have hnone : (x :: a).filter (alike lt e) = [] := by
          rw [List.filter_eq_nil_iff]
          intro z hz
          rw [alike_far H hyx (order_all H ha z hz) hy]
          decide
        rw [hnone, if_pos rfl, List.nil_append, List.nil_append, List.filter_cons, hy, if_pos rfl]

/-- A row in order is known by those that are alike. -/
theorem order_one (H : Ahead lt) : ∀ (l m : List α), InOrder lt l → InOrder lt m → (∀ e, l.filter (alike lt e) = m.filter (alike lt e)) → l = m
  | [], [], _, _, _ => rfl
  | [], y :: m, _, _, h => by
    have := h y
    rw [List.filter_cons, alike_self H, if_pos rfl] at this
    cases this
  | x :: l, [], _, _, h => by
    have := h x
    rw [List.filter_cons, alike_self H, if_pos rfl] at this
    cases this
  | x :: l, y :: m, hl, hm, h => by
    have hym : y ∈ x :: l := by
      have : y ∈ (x :: l).filter (alike lt y) := by rw [h y, List.filter_cons, alike_self H, if_pos rfl]; exact List.mem_cons_self
      exact (List.mem_filter.1 this).1
    have hxm : x ∈ y :: m := by
      have : x ∈ (y :: m).filter (alike lt x) := by rw [← h x, List.filter_cons, alike_self H, if_pos rfl]; exact List.mem_cons_self
      exact (List.mem_filter.1 this).1
    have h1 := order_all H hl y hym
    have h2 := order_all H hm x hxm
    have hxy : x = y := by
      have := h x
      rw [List.filter_cons, alike_self H, if_pos rfl, List.filter_cons, if_pos (by unfold alike; rw [h1, h2]; rfl)] at this
      exact (List.cons.inj this).1
    subst hxy
    congr 1
    refine order_one H l m (order_tail hl) (order_tail hm) fun e => ?_
    have := h e
    rw [List.filter_cons, List.filter_cons] at this
    split at this
    · exact (List.cons.inj this).2
    · exact this

/-- How many at the head of a row x does not stand ahead of. -/
def atF (lt : α → α → Bool) (x : α) : List α → Nat
  | [] => 0
  | y :: l => if lt x y = true then 0 else atF lt x l + 1
/-- x put into a row in order, behind those that are alike. -/
def ins (lt : α → α → Bool) (x : α) (l : List α) : List α := l.take (atF lt x l) ++ x :: l.drop (atF lt x l)
/-- A row in order. -/
def srt (lt : α → α → Bool) (l : List α) : List α := l.foldl (fun a x => ins lt x a) []

theorem atF_le (x : α) (l : List α) : atF lt x l ≤ l.length := by
  induction l with
  | nil => exact Nat.le_refl _
  | cons y l ih =>
    rw [atF]
    split
    · exact Nat.zero_le _
    · exact Nat.succ_le_succ ih
theorem ins_length (x : α) (l : List α) : (ins lt x l).length = l.length + 1 := by
  have := atF_le (lt := lt) x l
  unfold ins; simp; omega
theorem ins_cons (x y : α) (l : List α) : ins lt x (y :: l) = if lt x y = true then x :: y :: l else y :: ins lt x l := by
  unfold ins
  rw [atF]
  split
  · rfl
  · rfl
theorem ins_order (H : Ahead lt) (x : α) (l : List α) (h : InOrder lt l) : InOrder lt (ins lt x l) := by
  induction l with
  | nil => exact List.pairwise_cons.2 ⟨fun z hz => (by cases hz), List.Pairwise.nil⟩
  | cons y l ih =>
    rw [ins_cons]
    split
    · rename_i hx
      exact List.pairwise_cons.2 ⟨fun z hz => H.asym (H.before hx (order_all H h z hz)), h⟩
    · rename_i hx
      refine List.pairwise_cons.2 ⟨fun z hz => ?_, ih (order_tail h)⟩
      have hz' : z = x ∨ z ∈ l := by
        unfold ins at hz
        rcases List.mem_append.1 hz with hz | hz
        · exact .inr (List.mem_of_mem_take hz)
        · rcases List.mem_cons.1 hz with hz | hz
          · exact .inl hz
          · exact .inr (List.mem_of_mem_drop hz)
      rcases hz' with rfl | hz'
      · exact Bool.eq_false_iff.2 hx
      · exact order_head h z hz'
theorem ins_alike (H : Ahead lt) (e x : α) (l : List α) (h : InOrder lt l) : (ins lt x l).filter (alike lt e) = l.filter (alike lt e) ++ [x].filter (alike lt e) := by
  induction l with
  | nil => rfl
  | cons y l ih =>
    rw [ins_cons]
    split
    · rename_i hx
      rw [List.filter_cons (x := x)]
      cases hxe : alike lt e x
      · simp [hxe]
      · have hnone : (y :: l).filter (alike lt e) = [] := by
          rw [List.filter_eq_nil_iff]
          intro z hz
          rw [alike_far H hx (order_all H h z hz) hxe]
          decide
        rw [hnone]
        simp [hxe]
    · rw [List.filter_cons, ih (order_tail h), List.filter_cons (x := y) (xs := l)]
      split <;> rfl
theorem srt_from (H : Ahead lt) (l : List α) : ∀ a, InOrder lt a → InOrder lt (l.foldl (fun a x => ins lt x a) a) ∧ (l.foldl (fun a x => ins lt x a) a).length = a.length + l.length ∧
    ∀ e, (l.foldl (fun a x => ins lt x a) a).filter (alike lt e) = a.filter (alike lt e) ++ l.filter (alike lt e) := by
  induction l with
  | nil => intro a h; exact ⟨h, rfl, fun e => by simp⟩
  | cons x l ih =>
    intro a h
    obtain ⟨h1, h2, h3⟩ := ih (ins lt x a) (ins_order H x a h)
    refine ⟨h1, ?_, fun e => ?_⟩
    · rw [List.foldl_cons, h2, ins_length, List.length_cons]; omega
    · rw [List.foldl_cons, h3, ins_alike H e x a h, List.append_assoc, ← List.filter_append]; rfl
theorem srt_order (H : Ahead lt) (l : List α) : InOrder lt (srt lt l) := (srt_from H l [] List.Pairwise.nil).1
theorem srt_len (H : Ahead lt) (l : List α) : (srt lt l).length = l.length := by have := (srt_from H l [] List.Pairwise.nil).2.1; rw [List.length_nil, Nat.zero_add] at this; exact this
theorem srt_alike (H : Ahead lt) (l : List α) (e : α) : (srt lt l).filter (alike lt e) = l.filter (alike lt e) := by have := (srt_from H l [] List.Pairwise.nil).2.2 e; rw [List.filter_nil, List.nil_append] at this; exact this
theorem srt_is (H : Ahead lt) {l m : List α} (h : InOrder lt m) (h2 : ∀ e, m.filter (alike lt e) = l.filter (alike lt e)) : m = srt lt l :=
  order_one H m (srt lt l) h (srt_order H l) fun e => (h2 e).trans (srt_alike H l e).symm
theorem srt_same (H : Ahead lt) {l : List α} (h : InOrder lt l) : srt lt l = l := (srt_is H h fun _ => rfl).symm
theorem srt_mrg (H : Ahead lt) (a b : List α) : mrg lt (srt lt a) (srt lt b) = srt lt (a ++ b) :=
  srt_is H (mrg_order H _ _ _ rfl (srt_order H a) (srt_order H b)) fun e => by
    rw [mrg_alike H e _ _ _ rfl (srt_order H a) (srt_order H b), srt_alike H, srt_alike H, List.filter_append]
theorem mrg_srt (H : Ahead lt) {a b : List α} (ha : InOrder lt a) (hb : InOrder lt b) : mrg lt a b = srt lt (a ++ b) :=
  srt_is H (mrg_order H _ _ _ rfl ha hb) fun e => by rw [mrg_alike H e _ _ _ rfl ha hb, List.filter_append]
theorem mem_srt (H : Ahead lt) (z : α) (l : List α) : z ∈ srt lt l ↔ z ∈ l := by
  have h1 : ∀ m : List α, z ∈ m ↔ z ∈ m.filter (alike lt z) := fun m => by
    rw [List.mem_filter, alike_self H]; simp
  rw [h1 (srt lt l), srt_alike H, ← h1]

/-- The first i of the pairs of neighbours of width v, each two merged. -/
def passN (lt : α → α → Bool) (v : Nat) (l : List α) : Nat → List α
  | 0 => []
  | i + 1 => passN lt v l i ++ mrg lt ((l.drop (2 * v * i)).take v) ((l.drop (2 * v * i + v)).take v)
/-- Each part of width v is in order. -/
def Chunks (lt : α → α → Bool) (v : Nat) (l : List α) : Prop := ∀ j, InOrder lt ((l.drop (v * j)).take v)

theorem part_length (v i : Nat) (l : List α) : (mrg lt ((l.drop (2 * v * i)).take v) ((l.drop (2 * v * i + v)).take v)).length = min (2 * v) (l.length - 2 * v * i) := by
  rw [mrg_len]
  simp only [List.length_take, List.length_drop]
  omega
theorem passN_length (v : Nat) (l : List α) : ∀ i, (passN lt v l i).length = min (2 * v * i) l.length
  | 0 => by rw [passN]; simp
  | i + 1 => by
    rw [passN, List.length_append, passN_length v l i, part_length, Nat.mul_succ]
    omega
theorem chunk_first {v i : Nat} {l : List α} (h : Chunks lt v l) : InOrder lt ((l.drop (2 * v * i)).take v) := by
  have := h (2 * i)
  rwa [show v * (2 * i) = 2 * v * i by rw [← Nat.mul_assoc, Nat.mul_comm v 2]] at this
theorem chunk_second {v i : Nat} {l : List α} (h : Chunks lt v l) : InOrder lt ((l.drop (2 * v * i + v)).take v) := by
  have := h (2 * i + 1)
  rwa [Nat.mul_add, show v * (2 * i) = 2 * v * i by rw [← Nat.mul_assoc, Nat.mul_comm v 2], Nat.mul_one] at this
theorem passN_alike (H : Ahead lt) {v : Nat} {l : List α} (h : Chunks lt v l) (e : α) : ∀ i, (passN lt v l i).filter (alike lt e) = (l.take (2 * v * i)).filter (alike lt e)
  | 0 => by rw [passN]; simp
  | i + 1 => by
    rw [passN, List.filter_append, passN_alike H h e i, mrg_alike H e _ _ _ rfl (chunk_first h) (chunk_second h), ← List.filter_append, ← List.filter_append]
    congr 1
    rw [Nat.mul_succ, List.take_add, show 2 * v = v + v by omega, List.take_add, List.drop_drop]
theorem passN_drop (v : Nat) (l : List α) (j : Nat) : ∀ i, j < i → 2 * v * j < l.length → ∃ r, (passN lt v l i).drop (2 * v * j) = mrg lt ((l.drop (2 * v * j)).take v) ((l.drop (2 * v * j + v)).take v) ++ r ∧ (2 * v * (j + 1) < l.length ∨ r = [])
  | 0, h, _ => by omega
  | i + 1, h, hl => by
    rcases Nat.lt_or_ge j i with hj | hj
    · obtain ⟨r, hr, h2⟩ := passN_drop v l j i hj hl
      have hge : 2 * v * (j + 1) ≤ 2 * v * i := Nat.mul_le_mul_left _ hj
      have hlen := passN_length (lt := lt) v l i
      rw [passN, List.drop_append_of_le_length (by rw [hlen]; rw [Nat.mul_succ] at hge; omega), hr, List.append_assoc]
      refine ⟨_, rfl, ?_⟩
      rcases h2 with h2 | h2
      · exact .inl h2
      · rcases Nat.lt_or_ge (2 * v * (j + 1)) l.length with h3 | h3
        · exact .inl h3
        · refine .inr ?_
          rw [h2, List.nil_append]
          have : ((mrg lt ((l.drop (2 * v * i)).take v) ((l.drop (2 * v * i + v)).take v)).length = 0) := by rw [part_length]; omega
          exact List.eq_nil_of_length_eq_zero this
    · obtain rfl : j = i := by omega
      have hlen := passN_length (lt := lt) v l j
      refine ⟨[], ?_, .inr rfl⟩
      rw [passN, List.append_nil, List.drop_append, hlen, List.drop_of_length_le (by rw [hlen]; omega), List.nil_append, show 2 * v * j - min (2 * v * j) l.length = 0 by omega]
      rfl
theorem pass_chunks (H : Ahead lt) {v n : Nat} {l : List α} (h : Chunks lt v l) (hn : l.length ≤ 2 * v * n) : Chunks lt (2 * v) (passN lt v l n) := by
  intro j
  have hlen := passN_length (lt := lt) v l n
  rcases Nat.lt_or_ge (2 * v * j) l.length with hj | hj
  · have hjn : j < n := by
      rcases Nat.lt_or_ge j n with h1 | h1
      · exact h1
      · have : 2 * v * n ≤ 2 * v * j := Nat.mul_le_mul_left _ h1
        omega
    obtain ⟨r, hr, h2⟩ := passN_drop (lt := lt) v l j n hjn hj
    have hp := part_length (lt := lt) v j l
    rw [hr]
    have ho := mrg_order H _ _ _ rfl (chunk_first (i := j) h) (chunk_second (i := j) h)
    rcases h2 with h2 | rfl
    · rw [Nat.mul_succ] at h2
      rw [List.take_append_of_le_length (by omega)]
      exact ho.sublist (List.take_sublist _ _)
    · rw [List.append_nil]
      exact ho.sublist (List.take_sublist _ _)
  · rw [List.drop_of_length_le (by rw [hlen]; omega)]
    simp [InOrder]
theorem pass_alike (H : Ahead lt) {v n : Nat} {l : List α} (h : Chunks lt v l) (hn : l.length ≤ 2 * v * n) (e : α) : (passN lt v l n).filter (alike lt e) = l.filter (alike lt e) := by
  rw [passN_alike H h e n, List.take_of_length_le hn]
theorem chunks_one (l : List α) : Chunks lt 1 l := by
  intro j
  match l.drop (1 * j) with
  | [] => simp [InOrder]
  | x :: r => simp [InOrder]
theorem chunks_all (H : Ahead lt) {v : Nat} {l xs : List α} (h : Chunks lt v l) (hv : l.length ≤ v) (ha : ∀ e, l.filter (alike lt e) = xs.filter (alike lt e)) : l = srt lt xs := by
  have := h 0
  rw [Nat.mul_zero, List.drop_zero, List.take_of_length_le hv] at this
  exact srt_is H this ha
end
end Go.Proofs.Ytaigpdpcliecpaa
