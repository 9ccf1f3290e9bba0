/- BitsSets: facts: unions, meets and differences told by lists. -/
import Derived.Test.YtpkpfnilfabkaaaDoorBSb
import Derived.Test.YtpkpfnilfabkaaaDoorBOd
namespace Go.Proofs.YtpkpfnilfabkaaaDoor
open Go.RowKit

theorem mem_la (s : SV) {n : Nat} (hn : n < 10048) : decide ((n : Int) ∈ laS s) = inW s.ws n := by
  have e1 := ofF_intsN (numsF (inW s.ws)) n
  have m1 := @mem_nums (inW s.ws) n
  unfold ofF at e1
  unfold laS
  rw [e1, Bool.eq_iff_iff, decide_eq_true_iff, m1]
  exact ⟨fun h => h.2, fun h => ⟨hn, h⟩⟩
theorem of_cat (sa sb sc : SV) : setW (ofF (laS sa ++ (laS sb ++ laS sc))) = setW (unionF [sa, sb, sc]) := set_congr fun n hn => by
  have h1 := mem_la sa hn
  have h2 := mem_la sb hn
  have h3 := mem_la sc hn
  unfold ofF unionF
  rw [Bool.eq_iff_iff, decide_eq_true_iff]
  simp only [List.mem_append, List.any_cons, List.any_nil, Bool.or_false, Bool.or_eq_true]
  rw [← h1, ← h2, ← h3]
  simp only [decide_eq_true_eq]
theorem may_cat (sa sb sc : SV) : mayL (laS sa ++ (laS sb ++ laS sc)) := fun y hy => by
  rcases List.mem_append.1 hy with hy | hy
  · exact may_la sa y hy
  · rcases List.mem_append.1 hy with hy | hy
    · exact may_la sb y hy
    · exact may_la sc y hy
theorem of_meet (sa sb : SV) : setW (ofF (intsN (someL sa (laS sb) true))) = setW fun n => inW sa.ws n && inW sb.ws n :=
  of_some sa (laS sb) true _ fun n hn => by rw [mem_la sb hn]; cases inW sa.ws n <;> cases inW sb.ws n <;> rfl
theorem of_minus (sa sb : SV) : setW (ofF (intsN (someL sa (laS sb) false))) = setW fun n => inW sa.ws n && !inW sb.ws n :=
  of_some sa (laS sb) false _ fun n hn => by rw [mem_la sb hn]; cases inW sa.ws n <;> cases inW sb.ws n <;> rfl
theorem within_some (sa sb : SV) {k : Nat} (h : (someL sa (laS sb) false).length = k) : ((k : Int) == 0) = withinF (inW sa.ws) (inW sb.ws) := by
  rw [Bool.eq_iff_iff, withinF_iff, beq_iff_eq]
  have e : (k : Int) = 0 ↔ someL sa (laS sb) false = [] := by rw [← List.length_eq_zero_iff, h]; omega
  rw [e]
  unfold someL
  rw [List.filter_eq_nil_iff]
  constructor
  · intro h n hn hf
    have := h n (mem_nums.2 ⟨hn, hf⟩)
    rw [mem_la sb hn] at this
    cases hb : inW sb.ws n with
    | true => rfl
    | false => rw [hb] at this; exact absurd rfl this
  · intro h n hm
    obtain ⟨hn, hf⟩ := mem_nums.1 hm
    rw [mem_la sb hn, h n hn hf]
    decide
theorem la_64 (s : SV) : all64 (laS s) := fun z hz => by
  have := may_la s z hz
  unfold mayB at this
  simp at this
  omega
/-- A list that a law holds. -/
structure LS (A : Option Addr) (n c : Nat) : Prop where
  le : n ≤ 10048
  cap : n ≤ c
  max : c ≤ 9223372036854775807
  nil : A = none → n = 0 ∧ c = 0
theorem ls_of {l : List Int} {W0 W : World} {A : Option Addr} {n c : Nat} (hl : l.length ≤ 10048) (h1 : RI W W.heap.size A n l) (h2 : n ≤ c) (h3 : c ≤ 9223372036854775807) (h4 : W.ownsRow W0.heap.size 3 1 (.slice A n c) n (ints l)) : LS A n c :=
  ⟨by have := h1.len; omega, h2, h3, fun e => by
    rcases h4.2 with ⟨hv, _⟩ | ⟨g, cap, cur, hv, _⟩
    · injection hv with h5 h6 h7; exact ⟨h6, h7⟩
    · injection hv with h5; rw [e] at h5; cases h5⟩
set_option maxRecDepth 100000 in
theorem cat_rows {sa sb sc : SV} {Al Am An : Option Addr} {nl cl nm cm nn cn : Nat} (hl : LS Al nl cl) (hm : LS Am nm cm) (hn : LS An nn cn) (W : World) (h1 : RI W W.heap.size Al nl (laS sa)) (h2 : RI W W.heap.size Am nm (laS sb)) (h3 : RI W W.heap.size An nn (laS sc)) :
    Calls Tryd.prog 34 #[.slice (some ⟨W.heap.size, 0, none⟩) 3 3] (W.alloc (.cells #[.slice Al nl cl, .slice Am nm cm, .slice An nn cn] 28)) (fun e w' => ∃ (A : Option Addr) (n c : Nat), e = .returned (.slice A n c) ∧ RI w' w'.heap.size A n (laS sa ++ (laS sb ++ laS sc)) ∧ n ≤ 30144 ∧ Below W.heap.size W w') := by
  have hb := one_more W (.cells #[.slice Al nl cl, .slice Am nm cm, .slice An nn cn] 28)
  have hR : RowsAt (W.alloc (.cells #[.slice Al nl cl, .slice Am nm cm, .slice An nn cn] 28)) (W.alloc (.cells #[.slice Al nl cl, .slice Am nm cm, .slice An nn cn] 28)).heap.size (some ⟨W.heap.size, 0, none⟩) 3 [⟨Al, nl, cl, laS sa⟩, ⟨Am, nm, cm, laS sb⟩, ⟨An, nn, cn, laS sc⟩] := by
    refine ⟨⟨rfl, fun _ => ⟨_, rfl, by show W.heap.size < _; simp, fun j u hu => ?_⟩⟩, fun r hr => ?_⟩
    · rw [Go.WideShapes.add_plain, (Blk.new W 28 #[.slice Al nl cl, .slice Am nm cm, .slice An nn cn]).cell, Nat.zero_add, List.getElem?_toArray]; exact hu
    · simp only [List.mem_cons, List.not_mem_nil, or_false] at hr
      rcases hr with rfl | rfl | rfl
      · exact ⟨RI.on h1 hb, hl.cap, hl.max, la_64 sa⟩
      · exact ⟨RI.on h2 hb, hm.cap, hm.max, la_64 sb⟩
      · exact ⟨RI.on h3 hb, hn.cap, hn.max, la_64 sc⟩
  refine (concat_any _ 3 3 _ (by omega) (fun r hr => ?_) (fun r hr => ?_) _ hR).mono fun e w' h => ?_
  · simp only [List.mem_cons, List.not_mem_nil, or_false] at hr
    rcases hr with rfl | rfl | rfl
    · exact hl.le
    · exact hm.le
    · exact hn.le
  · simp only [List.mem_cons, List.not_mem_nil, or_false] at hr
    rcases hr with rfl | rfl | rfl
    · exact hl.nil
    · exact hm.nil
    · exact hn.nil
  · obtain ⟨A, n, c, he, hz, _, _, _, hb'⟩ := h
    have hc : catL [⟨Al, nl, cl, laS sa⟩, ⟨Am, nm, cm, laS sb⟩, ⟨An, nn, cn, laS sc⟩] = laS sa ++ (laS sb ++ laS sc) := by unfold catL; simp
    rw [hc] at hz
    refine ⟨A, n, c, he, hz, ?_, hb.trans (hb'.mono (by simp))⟩
    have h4 := hz.len
    have h5 := la_len sa
    have h6 := la_len sb
    have h7 := la_len sc
    simp only [List.length_append] at h4
    omega
theorem union_one (s : SV) (W : World) (hs : s.ok W W.heap.size) :
    Calls Tryd.prog 31 #[.slice (some ⟨W.heap.size, 0, none⟩) 1 1] (W.alloc (.cells #[.slice s.A s.n s.c] 24)) (fun e w' => ∃ u : SV, e = .returned (.agg #[.slice u.A u.n u.c]) ∧ u.ws = setW (inW s.ws) ∧ u.ok w' w'.heap.size ∧ OW W.heap.size w' u.A u.n u.ws ∧ Below W.heap.size W w') :=
  (union_any _ 1 1 [s] (by omega) _ (built_s W [s]) fun x hx => by
    simp only [List.mem_cons, List.not_mem_nil, or_false] at hx
    subst hx
    exact hs.on (one_more W _)).mono fun _ _ h => by
    obtain ⟨u, h1, h2, h3, h4, h5⟩ := got_of (can_set _).1 (setW_le _) h
    exact ⟨u, h1, by rw [h2]; congr 1; funext n; simp [unionF], h3, h4.less (by simp), (one_more W _).trans (h5.mono (by simp))⟩
theorem union_nil (W : World) : Calls Tryd.prog 31 #[.slice none 0 0] W (fun e w' => ∃ u : SV, e = .returned (.agg #[.slice u.A 0 u.c]) ∧ u.n = 0 ∧ u.ok w' w'.heap.size ∧ Below W.heap.size W w') :=
  (union_any none 0 0 [] (by omega) W Reads.none_ fun x hx => by simp at hx).mono fun _ _ h => by
    obtain ⟨u, h1, h2, h3, _, h5⟩ := got_of (can_set _).1 (setW_le _) h
    have hn : u.n = 0 := by
      have := h3.1.len
      rw [h2, set_none (fun n _ => by simp [unionF])] at this
      simpa using this.symm
    exact ⟨u, by rw [h1, hn], hn, h3, h5⟩
end Go.Proofs.YtpkpfnilfabkaaaDoor
