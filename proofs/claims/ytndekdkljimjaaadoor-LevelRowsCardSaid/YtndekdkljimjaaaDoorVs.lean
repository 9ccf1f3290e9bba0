/- LevelUniform: the walk; rows that are at hand. -/
import Derived.Test.YtndekdkljimjaaaDoorVo
import Derived.Test.YtndekdkljimjaaaDoorVl
import Derived.Test.YtndekdkljimjaaaDoorVn
namespace Go.Proofs.YtndekdkljimjaaaDoor
open Go.RowKit Go.Shelf

/-- Rows that are at hand. -/
structure Env9 (w0 : World) (L : List R9) (W : World) : Prop where
  below : Below w0.heap.size w0 W
  all : ∀ r ∈ L, Reads W W.heap.size 1 r.A r.n (ints r.l)
section
variable {w0 W W' : World} {L : List R9} {A : Option Addr} {n c : Nat} {xs : List Int}
theorem Env9.start (w : World) : Env9 w [] w := ⟨Below.refl _ _, fun r hr => by simp at hr⟩
theorem Env9.on (h : Env9 w0 L W) (b : Below W.heap.size W W') : Env9 w0 L W' :=
  ⟨h.below.trans (b.mono h.below.size), fun r hr => ((h.all r hr).below b).more b.size⟩
theorem Env9.add (h : Env9 w0 L W) (hr : Reads W W.heap.size 1 A n (ints xs)) : Env9 w0 (⟨A, n, c, xs⟩ :: L) W :=
  ⟨h.below, fun r hm => by
    rcases List.mem_cons.1 hm with rfl | hm
    · exact hr
    · exact h.all r hm⟩
theorem Env9.copy (h : Env9 w0 L W) (hc : CopyI n xs W A c W') : Env9 w0 (⟨A, n, c, xs⟩ :: L) W' := (h.on hc.below).add hc.reads
theorem Env9.rd (h : Env9 w0 L W) (hm : (⟨A, n, c, xs⟩ : R9) ∈ L) : Reads W W.heap.size 1 A n (ints xs) := h.all _ hm
theorem Env9.drewN (h : Env9 w0 L W) (q : Nat) : Env9 w0 L (W.drewN q) := h.on (below_drewN (Below.refl _ _) q)
end

theorem uni_low (n : Nat) (hn : n ≤ 40) (l : Int) (hl : levB l = true) : uniE (n : Int) l = 0 ∧ uniL (n : Int) l = List.replicate n l := by
  have h1 : uniE (n : Int) l = 0 := by unfold uniE; rw [if_pos (by omega), levE_ok hl]
  refine ⟨h1, ?_⟩
  unfold uniL
  rw [h1]
  rfl
theorem uni_ok (n : Nat) (hn : n ≤ 40) (l : Int) (hl : levB l = true) (w : World) : Calls Tryd.prog 20 #[.int .i64 (n : Int), .int .i64 l] w (RowE (List.replicate n l) 0 w) := by
  have := uni_any (n : Int) l w
  rwa [(uni_low n hn l hl).1, (uni_low n hn l hl).2] at this
theorem all_rep (n : Nat) (l : Int) (hl : levB l = true) : (List.replicate n l).all levB = true := by
  rw [List.all_eq_true]
  intro x hx
  rw [List.eq_of_mem_replicate hx]
  exact hl
theorem alike_two (xs ys : List Int) : alikeE [xs, ys] = if xs.all levB && ys.all levB then (if xs.length = ys.length then 0 else 2) else 190 := by
  unfold alikeE
  simp only [List.all_cons, List.all_nil, Bool.and_true, List.headD_cons, beq_self_eq_true, Bool.true_and, beq_iff_eq]
  cases xs.all levB && ys.all levB
  · rfl
  · by_cases h : xs.length = ys.length
    · rw [if_pos rfl, if_pos rfl, if_pos h.symm, if_pos h]
    · rw [if_pos rfl, if_pos rfl, if_neg (fun e => h e.symm), if_neg h]
theorem alike_ok {xs ys : List Int} (h1 : xs.all levB = true) (h2 : ys.all levB = true) (hl : xs.length = ys.length) : alikeE [xs, ys] = 0 := by
  rw [alike_two, h1, h2]
  simp [hl]
theorem alike_bad {xs ys : List Int} (h : (xs.all levB && ys.all levB) = false) : alikeE [xs, ys] = 190 := by
  rw [alike_two, h]; rfl
theorem lev_at {xs : List Int} {j : Nat} {x : Int} (h : xs.all levB = true) (hx : xs[j]? = some x) : 1 ≤ x ∧ x ≤ 4 :=
  levB_iff.1 (List.all_eq_true.1 h x (List.mem_of_getElem? hx))
theorem rep_at {n j : Nat} {v y : Int} (h : (List.replicate n v)[j]? = some y) : y = v := by
  rw [List.getElem?_replicate] at h
  split at h
  · injection h with h; exact h.symm
  · cases h

set_option maxRecDepth 100000 in
set_option maxHeartbeats 8000000 in
theorem uniform_core (A : Option Addr) (n c : Nat) (xs : List Int) (i l : Int) (hnc : n ≤ c) (hcm : c ≤ 9223372036854775807) (w : World) (hT : Tabs w) (hR : Reads w w.heap.size 1 A n (ints xs)) :
    Calls Tryd.prog 7 #[.slice A n c, .int .i64 i, .int .i64 l] w fun e w' => e = .returned (.bool true) ∧ Below w.heap.size w w' := by
  have E0 := Lib.hid ((Env9.start w).add (c := c) hR)
  have HC := Lib.hid (And.intro hnc hcm)
  have HW := Lib.hid (wakes9_any w hT)
  clear hT hR hnc hcm
  go_enter Tryd.func7, Tryd.ntmps7
  go_wp2_with fail
  refine HW.out.mono ?_
  rintro e w1 ⟨rfl, b⟩
  have E1 := Lib.hid (E0.out.on b)
  clear b HW E0
  go_wp2_with fail
  refine (few_any A n c xs HC.out.1 HC.out.2 w1 (E1.out.rd (.head _))).mono ?_
  rintro e w2 ⟨Aa, na, ca, rfl, h2⟩
  have HNA : Hid (na ≤ 40) := by
    show _ ≤ _
    rw [← h2.len, List.length_take]; omega
  have HLA := Lib.hid h2.len
  have E2 := Lib.hid (E1.out.copy h2)
  clear h2 E1
  generalize xs.take 40 = us at *
  go_wp2_with fail
  refine (uni_ok na HNA.out 1 (by decide) w2).mono ?_
  rintro e w3 ⟨A3, n3, c3, rfl, h3⟩
  obtain rfl : na = n3 := by rw [← h3.len, List.length_replicate]
  have E3 := Lib.hid (E2.out.copy h3)
  clear h3 E2
  go_wp2_with fail
  refine (uni_ok na HNA.out 4 (by decide) w3).mono ?_
  rintro e w4 ⟨A4, n4, c4, rfl, h4⟩
  obtain rfl : na = n4 := by rw [← h4.len, List.length_replicate]
  have E4 := Lib.hid (E3.out.copy h4)
  clear h4 E3
  have HBL : Hid (∃ (b : Bool) (k : Int), (k = 0 ∧ b = true ∨ k = 190 ∧ b = false) ∧ Calls Tryd.prog 24 #[.slice A3 na c3, .slice Aa na ca] w4 (BelowE b k w4) ∧ ∀ W, Below w4.heap.size w4 W → Calls Tryd.prog 24 #[.slice Aa na ca, .slice A4 na c4] W (BelowE b k W)) := by
    have hn40 := HNA.out
    cases hall : us.all levB
    · refine ⟨false, 190, .inr ⟨rfl, rfl⟩, below9_no A3 Aa na c3 na ca _ us (by omega) (by omega) 190 (alike_bad (by rw [hall, Bool.and_false])) (by decide) w4 (E4.out.rd (.tail _ (.head _))) (E4.out.rd (.tail _ (.tail _ (.head _)))), fun W hb => ?_⟩
      exact below9_no Aa A4 na ca na c4 us _ (by omega) (by omega) 190 (alike_bad (by rw [hall, Bool.false_and])) (by decide) W ((E4.out.on hb).rd (.tail _ (.tail _ (.head _)))) ((E4.out.on hb).rd (.head _))
    · have e1 : belowB (List.replicate na 1) us = true := below_yes fun j x y hx hy => by have := rep_at hx; have := lev_at hall hy; omega
      have e2 : belowB us (List.replicate na 4) = true := below_yes fun j x y hx hy => by have := rep_at hy; have := lev_at hall hx; omega
      refine ⟨true, 0, .inl ⟨rfl, rfl⟩, ?_, fun W hb => ?_⟩
      · have := below9_ok A3 Aa na c3 ca _ us (by omega) (alike_ok (all_rep na 1 (by decide)) hall (by rw [List.length_replicate, HLA.out])) w4 (E4.out.rd (.tail _ (.head _))) (E4.out.rd (.tail _ (.tail _ (.head _))))
        rwa [e1] at this
      · have := below9_ok Aa A4 na ca c4 us _ (by omega) (alike_ok hall (all_rep na 4 (by decide)) (by rw [List.length_replicate, HLA.out])) W ((E4.out.on hb).rd (.tail _ (.tail _ (.head _)))) ((E4.out.on hb).rd (.head _))
        rwa [e2] at this
  obtain ⟨bb, k, hbk, hc1, hc2⟩ := HBL.out
  have H1 := Lib.hid hc1
  have H2 : Hid (∀ W, Below w4.heap.size w4 W → Calls Tryd.prog 24 #[.slice Aa na ca, .slice A4 na c4] W (BelowE bb k W)) := hc2
  clear hc1 hc2 HBL
  go_wp2_with fail
  refine H1.out.mono ?_
  rintro e w5 ⟨rfl, b5⟩
  have E5 := Lib.hid (E4.out.on b5)
  have H3 := Lib.hid (H2.out w5 b5)
  clear b5 E4 H1 H2
  go_wp2_with fail
  refine H3.out.mono ?_
  rintro e w6 ⟨rfl, b6⟩
  have E6 := Lib.hid (E5.out.on b6)
  clear b6 E5 H3
  have HWT := Lib.hid (with_any Aa na ca us i l (by have := HNA.out; omega) w6 (E6.out.rd (.tail _ (.tail _ (.head _)))))
  by_cases hw : withE us i l = 0
  · have hi : 0 ≤ i ∧ i < (na : Int) := by
      unfold withE at hw
      split at hw
      · split at hw
        · rename_i h
          rwa [HLA.out] at h
        · cases hw
      · cases hw
    obtain ⟨p, rfl⟩ : ∃ p : Nat, i = p := ⟨i.toNat, by omega⟩
    have hwl : withL us (p : Int) l = us.set p l := by unfold withL; rw [if_pos hw]; rfl
    rw [hw, hwl] at HWT
    have HP : Hid (p < na) := by show _ < _; omega
    clear hw hwl hi
    rcases hbk with ⟨rfl, rfl⟩ | ⟨rfl, rfl⟩
    all_goals
      go_wp2_with fail
      refine HWT.out.mono ?_
      rintro e w7 ⟨A7, n7, c7, rfl, h7⟩
      obtain rfl : na = n7 := by rw [← h7.len, List.length_set, HLA.out]
      have E7 := Lib.hid (E6.out.copy h7)
      clear h7 HWT
      go_wp2_with fail
      go_loopw [83] (fun s wr => ∃ j : Nat, j ≤ na ∧ s = .int .i64 j ∧ Hid (Env9 w _ wr)) (fun s _ => na - (intOf s).toNat)
      case atStart => exact ⟨0, by omega, rfl, E7⟩
      case round =>
        clear E7
        obtain ⟨j, hj, rfl, E7⟩ := hrel
        by_cases hjn : j < na
        · have hjlt : (j : Int) < (na : Int) := by omega
          have hj40 : (j : Int) ≤ 40 := by have := HNA.out; omega
          obtain ⟨x, hx⟩ : ∃ x, us[j]? = some x := ⟨us[j]'(by rw [HLA.out]; exact hjn), List.getElem?_eq_getElem _⟩
          by_cases hjp : j = p
          · subst hjp
            have hb : (us.set j l)[j]? = some l := by rw [List.getElem?_set_self (by rw [HLA.out]; exact hjn)]
            obtain ⟨b1, o1, rfl, _, g1⟩ := int_at (E7.out.rd (.head _)) hb
            have t1 : ((j : Int) == (j : Int)) = true := by simp
            have t2 : ((j : Int) != (j : Int)) = false := by simp
            have t3 : (l != l) = false := by simp
            clear hx hb
            go_upto_region 16 with fail
            go_quiet (fail)
            have E8 := Lib.hid (E7.out.drewN nq)
            clear E7 g1
            generalize wr.drewN nq = w8 at *
            go_wp2_with fail
            go_roundw
            case rel => exact ⟨j + 1, by omega, by go_num, E8⟩
            case measure => simp [intOf]; omega
          · have hb : (us.set p l)[j]? = some x := by rw [List.getElem?_set_ne (fun e => hjp e.symm)]; exact hx
            obtain ⟨b1, o1, rfl, _, g1⟩ := int_at (E7.out.rd (.head _)) hb
            obtain ⟨b2, o2, rfl, _, g2⟩ := int_at (E7.out.rd (.tail _ (.tail _ (.tail _ (.head _))))) hx
            have t1 : ((j : Int) == (p : Int)) = false := by simp; omega
            have t2 : ((j : Int) != (p : Int)) = true := by simp; omega
            have t3 : (x != x) = false := by simp
            clear hx hb
            go_upto_region 16 with fail
            go_quiet (fail)
            have E8 := Lib.hid (E7.out.drewN nq)
            clear E7 g1 g2
            generalize wr.drewN nq = w8 at *
            go_wp2_with fail
            go_roundw
            case rel => exact ⟨j + 1, by omega, by go_num, E8⟩
            case measure => simp [intOf]; omega
        · obtain rfl : j = na := by omega
          go_wp2_with fail
          go_ret
          exact ⟨by simp, E7.out.below⟩
  · have hwl : withL us i l = [] := by unfold withL; rw [if_neg hw]
    rw [hwl] at HWT
    have hk0 : (withE us i l != 0) = true := by simpa using hw
    generalize withE us i l = k2 at *
    clear hw hwl
    rcases hbk with ⟨rfl, rfl⟩ | ⟨rfl, rfl⟩
    all_goals
      go_wp2_with fail
      refine HWT.out.mono ?_
      rintro e w7 ⟨A7, n7, c7, rfl, h7⟩
      obtain rfl : n7 = 0 := h7.len.symm
      have E7 := Lib.hid (E6.out.copy h7)
      clear h7 HWT
      go_wp2_with fail
      go_ret
      exact ⟨by simp, E7.out.below⟩
end Go.Proofs.YtndekdkljimjaaaDoor
