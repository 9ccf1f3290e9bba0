/- The document's answer for layer order: Sort and Merge of pairs: contracts. -/
import Derived.Test.YtldjffeecbegjaaOf
import Derived.Deep.RegionHeld3
namespace Go.Proofs.Ytldjffeecbegjaa
open Go.RowKit

theorem own_prefix {w : World} {base : Nat} {e : TypeId} {size : Nat} {A : Option Addr} {n c k : Nat} {xs : List Value} (h : w.ownsRow base e size (.slice A n c) n xs) (hk : k ≤ n) : w.ownsRow base e size (.slice A k c) k (xs.take (k * size)) := by
  refine ⟨by rw [List.length_take, h.1]; exact Nat.min_eq_left (Nat.mul_le_mul_right _ hk), ?_⟩
  rcases h.2 with ⟨hv, h0⟩ | ⟨g, cap, cur, hv, hb, hg, hnc, hcm, hcs, ht⟩
  · injection hv with h1 h2 h3
    exact .inl ⟨by rw [h1, h3, show k = 0 by omega], by omega⟩
  · injection hv with h1 h2 h3
    refine .inr ⟨g, cap, cur, by rw [h1, h3], hb, hg, by omega, hcm, hcs, ?_⟩
    rw [← ht, List.take_take, Nat.min_eq_left (Nat.mul_le_mul_right _ hk)]
theorem own_below2 {w w' : World} {B base : Nat} {e : TypeId} {size : Nat} {v : Value} {n : Nat} {xs : List Value} (h : w.ownsRow base e size v n xs) (hb : Below B w w') (hB : w.heap.size ≤ B) : w'.ownsRow base e size v n xs := by
  refine ⟨h.1, ?_⟩
  rcases h.2 with hn | ⟨g, cap, cur, hv, hbg, hg, rest⟩
  · exact .inl hn
  · refine .inr ⟨g, cap, cur, hv, hbg, ?_, rest⟩
    have hlt : g < w.heap.size := (Array.getElem?_eq_some_iff.1 hg).1
    rw [hb.block g (by omega)]
    exact hg
theorem own_base {w : World} {base base' : Nat} {e : TypeId} {size : Nat} {v : Value} {n : Nat} {xs : List Value} (h : w.ownsRow base e size v n xs) (hb : base' ≤ base) : w.ownsRow base' e size v n xs := by
  refine ⟨h.1, ?_⟩
  rcases h.2 with hn | ⟨g, cap, cur, hv, hbg, rest⟩
  · exact .inl hn
  · exact .inr ⟨g, cap, cur, hv, by omega, rest⟩

theorem srt_snoc (lt : Pr → Pr → Bool) (l : List Pr) (x : Pr) : srt lt (l ++ [x]) = ins lt x (srt lt l) := by unfold srt; rw [List.foldl_append]; rfl
theorem atF_before (lt : Pr → Pr → Bool) (x : Pr) : ∀ (l : List Pr) (k : Nat) (y : Pr), k < atF lt x l → l[k]? = some y → lt x y = false
  | [], k, y, h, _ => by rw [atF] at h; omega
  | z :: l, k, y, h, hy => by
    rw [atF] at h
    split at h
    · omega
    · rename_i hz
      cases k with
      | zero => simp at hy; subst hy; exact Bool.eq_false_iff.2 hz
      | succ k => simp only [List.getElem?_cons_succ] at hy; exact atF_before lt x l k y (by omega) hy
theorem atF_there (lt : Pr → Pr → Bool) (x : Pr) : ∀ (l : List Pr) (y : Pr), l[atF lt x l]? = some y → lt x y = true
  | [], y, h => by simp at h
  | z :: l, y, h => by
    rw [atF] at h
    split at h
    · rename_i hz; simp at h; subst h; exact hz
    · simp only [List.getElem?_cons_succ] at h; exact atF_there lt x l y h

theorem reads_dropped {w : World} {B n k c : Nat} {A : Option Addr} {xs : List Value} (h : Reads w B 2 A n xs) (hk : k ≤ n) (hc : n ≤ c) : Reads w B 2 (if c = k then A else A.map (·.add (k * 2))) (n - k) (xs.drop (k * 2)) := h.cut hk hc
theorem one_app {xs ys : List Value} (h : ∀ u ∈ xs, u.oneCell' = true) (h2 : ∀ u ∈ ys, u.oneCell' = true) : ∀ u ∈ xs ++ ys, u.oneCell' = true := by
  intro u hu
  rcases List.mem_append.1 hu with h1 | h1
  · exact h u h1
  · exact h2 u h1
theorem one_drop {xs : List Value} {k : Nat} (h : ∀ u ∈ xs, u.oneCell' = true) : ∀ u ∈ xs.drop k, u.oneCell' = true := fun u hu => h u (List.mem_of_mem_drop hu)
theorem one_own (w : World) (p : Pr) : (w.alloc (.cells #[.int .i64 p.1, .int .i64 p.2] 27)).ownsRow w.heap.size 27 2 (.slice (some ⟨w.heap.size, 0, none⟩) 1 1) 1 (cellsP [p]) :=
  World.ownsRow_lit w _ 1 (Nat.le_refl _) (by decide) rfl

theorem own_far {w : World} {base : Nat} {e : TypeId} {size : Nat} {v : Value} {n : Nat} {xs : List Value} (h : w.ownsRow base e size v n xs) : v.ownBlock = none ∨ v.ownBlock ≠ some w.heap.size :=
  .inr fun e => by have := (h.lt _ e).2; omega
theorem far_cell {w w4 : World} {o : Obj} {X j : Nat} {u : Value} (hX : X < w.heap.size) (h : w.cell? ⟨X, j, none⟩ = some u) (hg : (w.alloc o).drew.grownBy w4 (some w.heap.size)) : w4.cell? ⟨X, j, none⟩ = some u :=
  (hg.cell_far ⟨X, j, none⟩ (Nat.lt_of_lt_of_le hX (by simp)) (fun e => by injection e with e; exact absurd e (Nat.ne_of_lt hX))).trans ((World.cell?_alloc_lt w o ⟨X, j, none⟩ hX).trans h)

/-- Two appends make the row with one more. -/
theorem ins_cells (x : Pr) (l : List Pr) : (cellsP l).take (atF ltP x l * 2) ++ (cellsP [x] ++ (cellsP l).drop (atF ltP x l * 2)) = cellsP (ins ltP x l) := by
  unfold ins
  rw [cellsP_append, ← cellsP_take, ← cellsP_drop]
  rfl

set_option maxRecDepth 100000 in
set_option maxHeartbeats 4000000 in
theorem rsort_any (A : Option Addr) (n c : Nat) (xs : List Pr) (hn : n ≤ 100000) (w : World) (hR : Reads w w.heap.size 2 A n (cellsP xs)) :
    Calls Try.prog 13 #[.slice A n c] w (CopyIs n (srt ltP xs) w) := by
  have HR := Lib.hid hR
  have HL := Lib.hid (reads_len hR)
  obtain ⟨i0, hi, hz0, hz1, hz2⟩ := info_parts pair_info
  clear hR
  go_enter Try.func13, Try.ntmps13
  go_wp2_with fail
  go_loopg [3, 9] n (fun gg s3 s9 wr => ∃ (i : Nat) (A' : Option Addr) (c' : Nat), i + gg = n ∧ s9 = .int .i64 i ∧ s3 = .slice A' i c' ∧ i ≤ c' ∧ c' ≤ 9223372036854775807 ∧
    Hid (wr.ownsRow w.heap.size 27 2 (.slice A' i c') i (cellsP (srt ltP (xs.take i)))) ∧ Hid (Below w.heap.size w wr))
  case atStart => exact ⟨0, none, 0, by omega, rfl, rfl, Nat.le_refl _, by decide, World.ownsRow_nil _ _ _ _, Below.refl _ _⟩
  case round =>
    obtain ⟨i, A', c', hig, rfl, rfl, hic, hcm, HO, HB⟩ := hrel
    cases gk with
    | zero =>
      have hge : ¬ (i : Int) < (n : Int) := by omega
      have hin : i = n := by omega
      subst hin
      have hx : xs.take i = xs := List.take_of_length_le (by rw [HL.out]; exact Nat.le_refl _)
      rw [hx] at HO
      clear hx hig
      go_wp2_with fail
      go_ret
      exact ⟨A', c', rfl, HO.out, hic, hcm, HB.out⟩
    | succ g2 =>
      have hlt : (i : Int) < (n : Int) := by omega
      obtain ⟨p, hp⟩ : ∃ p, xs[i]? = some p := ⟨xs[i]'(by rw [HL.out]; omega), List.getElem?_eq_getElem _⟩
      obtain ⟨b, o, rfl, hb, g0, g1⟩ := pr_at (HR.out.below HB.out) hp
      obtain ⟨L, hL⟩ : ∃ L, srt ltP (xs.take i) = L := ⟨_, rfl⟩
      have hnx : srt ltP (xs.take (i + 1)) = ins ltP p L := by
        obtain ⟨hil, rfl⟩ := List.getElem?_eq_some_iff.1 hp
        rw [List.take_succ_eq_append_getElem hil, srt_snoc, hL]
      rw [hL] at HO
      have hLl : L.length = i := by rw [← hL, srt_len ltP_ahead, List.length_take, HL.out]; omega
      obtain ⟨F, hF⟩ : ∃ F, atF ltP p L = F := ⟨_, rfl⟩
      have hFi : F ≤ i := by rw [← hF, ← hLl]; exact atF_le _ _
      have HF := Lib.hid (And.intro hL (And.intro hnx (And.intro hLl hF)))
      have HIG := Lib.hid hig
      have hsz := HB.out.size
      clear hp hL hnx hLl hF hig
      have HX := Lib.hid (Blk.new wr 27 #[.int .i64 p.1, .int .i64 p.2])
      have HO1 := Lib.hid (HO.out.alloc (.cells #[.int .i64 p.1, .int .i64 p.2] 27))
      have HB1 : Hid (Below w.heap.size w (wr.alloc (.cells #[.int .i64 p.1, .int .i64 p.2] 27))) := HB.out.alloc hsz _
      obtain ⟨X, hX⟩ : ∃ X, wr.heap.size = X := ⟨_, rfl⟩
      rw [hX] at HX
      have HXX := Lib.hid hX
      go_wp2_with fail
      clear g0 g1 hX
      generalize wr.alloc (.cells #[.int .i64 p.1, .int .i64 p.2] 27) = wx at *
      go_loopg [6] F (fun gi s6 wy => ∃ a q : Nat, a + gi = F ∧ s6 = .int .i64 a ∧ wx.drewN q = wy)
      case atStart => exact ⟨0, 0, by omega, rfl, rfl⟩
      case round =>
        obtain ⟨a, q, hag, rfl, rfl⟩ := hrel
        have y0 : wx.cell? ⟨X, 0, none⟩ = some (.int .i64 p.1) := HX.out.cell 0
        have y1 : wx.cell? ⟨X, 1, none⟩ = some (.int .i64 p.2) := HX.out.cell 1
        have HRO : Hid (Reads wx wx.heap.size 2 A' i (cellsP L)) := Reads.of_own HO1.out
        cases gk with
        | succ g3 =>
          have haF : a < F := by omega
          have hai : a < i := by omega
          have hai2 : (a : Int) < (i : Int) := by omega
          have hai0 : (0 : Int) ≤ (a : Int) := by omega
          obtain ⟨y, hy⟩ : ∃ y, L[a]? = some y := ⟨L[a]'(by rw [HF.out.2.2.1]; exact hai), List.getElem?_eq_getElem _⟩
          have hle : y.1 ≤ p.1 := by
            have := atF_before ltP p L a y (by rw [HF.out.2.2.2]; exact haF) hy
            simpa [ltP] using this
          obtain ⟨b', o', rfl, hb', x0, x1⟩ := pr_at HRO.out hy
          have HAG := Lib.hid hag
          clear hy hag
          go_wp2_with fail
          go_quiet (fail)
          go_wp2_with fail
          go_roundg g3
          case measure => omega
          case rel => exact ⟨a + 1, _, by have := HAG.out; omega, by go_num, rfl⟩
        | zero =>
          obtain rfl : a = F := by omega
          by_cases hai : a < i
          · have hai2 : (a : Int) < (i : Int) := by omega
            have hai0 : (0 : Int) ≤ (a : Int) := by omega
            obtain ⟨y, hy⟩ : ∃ y, L[a]? = some y := ⟨L[a]'(by rw [HF.out.2.2.1]; exact hai), List.getElem?_eq_getElem _⟩
            have hgt : ¬ y.1 ≤ p.1 := by
              have := atF_there ltP p L y (by rw [HF.out.2.2.2]; exact hy)
              have h2 : p.1 < y.1 := by simpa [ltP] using this
              omega
            obtain ⟨b', o', rfl, hb', x0, x1⟩ := pr_at HRO.out hy
            clear hy hag
            go_wp2_with fail
            go_quiet (fail)
            go_wp2_with fail
            have sl1 := pr_slice_h (some ⟨b', o', none⟩) i c' a a rfl (by omega)
            have sl2 := pr_slice_l (some ⟨b', o', none⟩) i c' a a rfl (by omega)
            obtain ⟨A3, hA3⟩ : ∃ A3 : Option Addr, (if c' = a then (some ⟨b', o', none⟩) else Option.map (fun x : Addr => x.add (a * 2)) (some ⟨b', o', none⟩)) = A3 := ⟨_, rfl⟩
            rw [hA3] at sl2
            rw [World.drewN_drewN]
            have HR3 : Hid (Reads (wx.drewN (q + nq)) (wx.drewN (q + nq)).heap.size 2 A3 (i - a) ((cellsP L).drop (a * 2))) := by
              have := reads_dropped HRO.out (show a ≤ i by omega) hic
              rw [hA3] at this
              exact this
            have HO2 : Hid ((wx.drewN (q + nq)).ownsRow w.heap.size 27 2 (.slice (some ⟨b', o', none⟩) a c') a ((cellsP L).take (a * 2))) := own_prefix HO1.out (show a ≤ i by omega)
            have HB2 : Hid (Below w.heap.size w (wx.drewN (q + nq))) := below_drewN HB1.out _
            have z0 : (wx.drewN (q + nq)).cell? ⟨X, 0, none⟩ = some (.int .i64 p.1) := HX.out.cell 0
            have z1 : (wx.drewN (q + nq)).cell? ⟨X, 1, none⟩ = some (.int .i64 p.2) := HX.out.cell 1
            have hXl : X < (wx.drewN (q + nq)).heap.size := HX.out.lt
            have HOX : Hid (∀ j : Nat, some (⟨X, j, none⟩ : Addr).block ≠ (Value.slice (some ⟨b', o', none⟩) a c').ownBlock) := fun j e => by
              have := (own_prefix HO.out (show a ≤ i by omega)).lt X e.symm
              have := HXX.out
              omega
            clear hA3 y0 y1 HRO HO1 HO HB1 HX HXX x0 x1
            generalize wx.drewN (q + nq) = wz at *
            have hsz2 := HB2.out.size
            have tok1 : True := trivial
            go_region_held3 (fun w' => w'.cell? ⟨X, 0, none⟩ = some (.int .i64 p.1) ∧ w'.cell? ⟨X, 1, none⟩ = some (.int .i64 p.2)) (first | exact ⟨z0, z1⟩ | exact ⟨(World.cell?_alloc_lt _ _ _ hXl).trans z0, (World.cell?_alloc_lt _ _ _ hXl).trans z1⟩ | exact ⟨q0, q1⟩ | exact ⟨r0, r1⟩ | fail) (first
              | (have _t := HV4; refine step_append_any _ rfl (.tmp 31) (.tmp 37) 22 rfl w.heap.size 27 i0 _ 2 16 Try.underlying22 hi hz0 hz1 hz2 rfl (by decide) (.slice (some ⟨b', o', none⟩) a c') a _ rfl HO3.out w4.heap.size A4 (1 + (i - a)) c4 _ rfl HV4.out (by exact one_app (cellsP_one _) (one_drop (cellsP_one _))) (by unfold maxLen; omega) (by omega) (by exact HB4.out.size) ?_; intro v5 w5 hown5 hgrow5 _; have HG5 := Lib.hid hgrow5; have HB5 : Hid (Below w.heap.size w w5) := HB4.out.grown hgrow5 HB4.out.size (fun k hk => (HO3.out.lt k hk).1); have r0 := (hgrow5.cell_far ⟨X, 0, none⟩ hX4 (HOX.out 0)).trans q0; have r1 := (hgrow5.cell_far ⟨X, 1, none⟩ hX4 (HOX.out 1)).trans q1; obtain ⟨A5, c5, rfl, h51, h52⟩ := own_form2 hown5; have HO5 := Lib.hid hown5; clear hown5 hgrow5 q0 q1)
              | (have _t := tok1; refine step_append_any _ rfl (.tmp 33) (.tmp 36) 22 rfl wz.heap.size 27 i0 _ 2 16 Try.underlying22 hi hz0 hz1 hz2 rfl (by decide) (.slice (some ⟨wz.heap.size, 0, none⟩) 1 1) 1 (cellsP [p]) rfl (by exact (one_own wz p).drew) wz.heap.size A3 (i - a) (c' - a) _ rfl (by exact (HR3.out.alloc (Nat.le_refl _) _).drew) (by exact one_drop (cellsP_one _)) (by unfold maxLen; omega) (by omega) (by simp) ?_; intro v4 w4 hown4 hgrow4 _; clear tok1; have HB4 : Hid (Below w.heap.size w w4) := (HB2.out.alloc hsz2 _).drew.grown hgrow4 (by simp; omega) (fun k hk => by have e : some wz.heap.size = some k := hk; injection e with e; omega); have HO3 : Hid (w4.ownsRow w.heap.size 27 2 (.slice (some ⟨b', o', none⟩) a c') a ((cellsP L).take (a * 2))) := (HO2.out.alloc _).drew.kept hgrow4 (own_far HO2.out); have q0 := far_cell hXl z0 hgrow4; have q1 := far_cell hXl z1 hgrow4; have hX4 : X < w4.heap.size := Nat.lt_of_lt_of_le hXl (Nat.le_trans (by simp) hgrow4.size); obtain ⟨A4, c4, rfl, h41, h42⟩ := own_form2 hown4; have HV4 := Lib.hid (Reads.of_own hown4); clear hown4 hgrow4)
              | fail)
            have hcells := ins_cells p L
            rw [HF.out.2.2.2] at hcells
            rw [hcells, ← HF.out.2.1, show a + (1 + (i - a)) = i + 1 by omega] at HO5
            go_wp2_with fail
            go_roundg g2
            case measure => omega
            case rel => exact ⟨i + 1, A5, c5, by have := HIG.out; omega, by go_num, by simp; omega, by omega, by omega, HO5, HB5⟩
          · have hai2 : decide ((a : Int) < (i : Int)) = false := by simp; omega
            have hai3 : ¬ (a : Int) < (i : Int) := by omega
            clear hag
            go_wp2_with fail
            go_quiet (fail)
            go_wp2_with fail
            have sl1 := pr_slice_h A' i c' a a rfl (by omega)
            have sl2 := pr_slice_l A' i c' a a rfl (by omega)
            obtain ⟨A3, hA3⟩ : ∃ A3 : Option Addr, (if c' = a then A' else Option.map (fun x : Addr => x.add (a * 2)) A') = A3 := ⟨_, rfl⟩
            rw [hA3] at sl2
            rw [World.drewN_drewN]
            have HR3 : Hid (Reads (wx.drewN (q + nq)) (wx.drewN (q + nq)).heap.size 2 A3 (i - a) ((cellsP L).drop (a * 2))) := by
              have := reads_dropped HRO.out (show a ≤ i by omega) hic
              rw [hA3] at this
              exact this
            have HO2 : Hid ((wx.drewN (q + nq)).ownsRow w.heap.size 27 2 (.slice A' a c') a ((cellsP L).take (a * 2))) := own_prefix HO1.out (show a ≤ i by omega)
            have HB2 : Hid (Below w.heap.size w (wx.drewN (q + nq))) := below_drewN HB1.out _
            have z0 : (wx.drewN (q + nq)).cell? ⟨X, 0, none⟩ = some (.int .i64 p.1) := HX.out.cell 0
            have z1 : (wx.drewN (q + nq)).cell? ⟨X, 1, none⟩ = some (.int .i64 p.2) := HX.out.cell 1
            have hXl : X < (wx.drewN (q + nq)).heap.size := HX.out.lt
            have HOX : Hid (∀ j : Nat, some (⟨X, j, none⟩ : Addr).block ≠ (Value.slice A' a c').ownBlock) := fun j e => by
              have := (own_prefix HO.out (show a ≤ i by omega)).lt X e.symm
              have := HXX.out
              omega
            clear hA3 y0 y1 HRO HO1 HO HB1 HX HXX 
            generalize wx.drewN (q + nq) = wz at *
            have hsz2 := HB2.out.size
            have tok1 : True := trivial
            go_region_held3 (fun w' => w'.cell? ⟨X, 0, none⟩ = some (.int .i64 p.1) ∧ w'.cell? ⟨X, 1, none⟩ = some (.int .i64 p.2)) (first | exact ⟨z0, z1⟩ | exact ⟨(World.cell?_alloc_lt _ _ _ hXl).trans z0, (World.cell?_alloc_lt _ _ _ hXl).trans z1⟩ | exact ⟨q0, q1⟩ | exact ⟨r0, r1⟩ | fail) (first
              | (have _t := HV4; refine step_append_any _ rfl (.tmp 31) (.tmp 37) 22 rfl w.heap.size 27 i0 _ 2 16 Try.underlying22 hi hz0 hz1 hz2 rfl (by decide) (.slice A' a c') a _ rfl HO3.out w4.heap.size A4 (1 + (i - a)) c4 _ rfl HV4.out (by exact one_app (cellsP_one _) (one_drop (cellsP_one _))) (by unfold maxLen; omega) (by omega) (by exact HB4.out.size) ?_; intro v5 w5 hown5 hgrow5 _; have HG5 := Lib.hid hgrow5; have HB5 : Hid (Below w.heap.size w w5) := HB4.out.grown hgrow5 HB4.out.size (fun k hk => (HO3.out.lt k hk).1); have r0 := (hgrow5.cell_far ⟨X, 0, none⟩ hX4 (HOX.out 0)).trans q0; have r1 := (hgrow5.cell_far ⟨X, 1, none⟩ hX4 (HOX.out 1)).trans q1; obtain ⟨A5, c5, rfl, h51, h52⟩ := own_form2 hown5; have HO5 := Lib.hid hown5; clear hown5 hgrow5 q0 q1)
              | (have _t := tok1; refine step_append_any _ rfl (.tmp 33) (.tmp 36) 22 rfl wz.heap.size 27 i0 _ 2 16 Try.underlying22 hi hz0 hz1 hz2 rfl (by decide) (.slice (some ⟨wz.heap.size, 0, none⟩) 1 1) 1 (cellsP [p]) rfl (by exact (one_own wz p).drew) wz.heap.size A3 (i - a) (c' - a) _ rfl (by exact (HR3.out.alloc (Nat.le_refl _) _).drew) (by exact one_drop (cellsP_one _)) (by unfold maxLen; omega) (by omega) (by simp) ?_; intro v4 w4 hown4 hgrow4 _; clear tok1; have HB4 : Hid (Below w.heap.size w w4) := (HB2.out.alloc hsz2 _).drew.grown hgrow4 (by simp; omega) (fun k hk => by have e : some wz.heap.size = some k := hk; injection e with e; omega); have HO3 : Hid (w4.ownsRow w.heap.size 27 2 (.slice A' a c') a ((cellsP L).take (a * 2))) := (HO2.out.alloc _).drew.kept hgrow4 (own_far HO2.out); have q0 := far_cell hXl z0 hgrow4; have q1 := far_cell hXl z1 hgrow4; have hX4 : X < w4.heap.size := Nat.lt_of_lt_of_le hXl (Nat.le_trans (by simp) hgrow4.size); obtain ⟨A4, c4, rfl, h41, h42⟩ := own_form2 hown4; have HV4 := Lib.hid (Reads.of_own hown4); clear hown4 hgrow4)
              | fail)
            have hcells := ins_cells p L
            rw [HF.out.2.2.2] at hcells
            rw [hcells, ← HF.out.2.1, show a + (1 + (i - a)) = i + 1 by omega] at HO5
            go_wp2_with fail
            go_roundg g2
            case measure => omega
            case rel => exact ⟨i + 1, A5, c5, by have := HIG.out; omega, by go_num, by simp; omega, by omega, by omega, HO5, HB5⟩

set_option maxRecDepth 100000 in
set_option maxHeartbeats 2000000 in
theorem rmerge_any (A B : Option Addr) (na nb ca cb : Nat) (xs ys : List Pr) (hn : na + nb ≤ 100000) (w : World) (hA : Reads w w.heap.size 2 A na (cellsP xs)) (hB : Reads w w.heap.size 2 B nb (cellsP ys)) :
    Calls Try.prog 15 #[.slice A na ca, .slice B nb cb] w (CopyIs (na + nb) (srt ltP (xs ++ ys)) w) := by
  have HA := Lib.hid hA
  have HB := Lib.hid hB
  clear hA hB
  obtain ⟨i0, hi, hz0, hz1, hz2⟩ := info_parts pair_info
  go_enter Try.func15, Try.ntmps15
  have tok1 : True := trivial
  go_wp2_with (first
    | (have _t := HV1; at_builtin; refine wpList_append_any _ rfl (.tmp 9) (.tmp 10) 22 rfl w.heap.size 27 i0 _ 2 16 Try.underlying22 hi hz0 hz1 hz2 rfl (by decide) _ na _ rfl HV1.out w.heap.size B nb _ (cellsP ys) rfl (HB.out.below HB1.out) (cellsP_one _) (by unfold maxLen; omega) (by omega) HB1.out.size ?_; intro v2 w2 hown2 hgrow2 _; have HB2 : Hid (Below w.heap.size w w2) := HB1.out.grown hgrow2 HB1.out.size (fun k hk => (HV1.out.lt k hk).1); obtain ⟨A2, c2, rfl, h21, h22⟩ := own_form2 hown2; have HV2 := Lib.hid hown2; clear hown2 hgrow2)
    | (have _t := tok1; at_builtin; refine wpList_append_any _ rfl (.tmp 6) (.tmp 7) 22 rfl w.heap.size 27 i0 _ 2 16 Try.underlying22 hi hz0 hz1 hz2 rfl (by decide) (.slice none 0 0) 0 [] rfl (World.ownsRow_nil _ _ _ _) w.heap.size A na _ (cellsP xs) rfl HA.out (cellsP_one _) (by unfold maxLen; omega) (by omega) (Nat.le_refl _) ?_; intro v1 w1 hown1 hgrow1 _; clear tok1; rw [Nat.zero_add, List.nil_append] at hown1; have HB1 : Hid (Below w.heap.size w w1) := (Below.refl _ _).grown hgrow1 (Nat.le_refl _) (by simp [Value.ownBlock]); obtain ⟨A1, c1, rfl, h11, h12⟩ := own_form2 hown1; have HV1 := Lib.hid hown1; clear hown1 hgrow1)
    | fail)
  have hr := Reads.of_own HV2.out
  rw [← cellsP_append] at hr
  refine (rsort_any A2 (na + nb) c2 (xs ++ ys) hn w2 hr).mono ?_
  rintro e w3 ⟨A3, c3, rfl, o3, k1, k2, b3⟩
  have HF : Hid (w3.ownsRow w.heap.size 27 2 (.slice A3 (na + nb) c3) (na + nb) (cellsP (srt ltP (xs ++ ys))) ∧ Below w.heap.size w w3) := ⟨own_base o3 HB2.out.size, HB2.out.trans (b3.mono HB2.out.size)⟩
  clear o3 b3 hr
  go_wp2_with fail
  go_ret
  exact ⟨A3, c3, rfl, HF.out.1, k1, k2, HF.out.2⟩
end Go.Proofs.Ytldjffeecbegjaa
