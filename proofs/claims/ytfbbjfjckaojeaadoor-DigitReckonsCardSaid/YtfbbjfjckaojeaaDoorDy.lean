/- Law DigitSum: its walk. -/
import Derived.Test.YtfbbjfjckaojeaaDoorDl
import Derived.Deep.RegionHeld3
namespace Go.Proofs.YtfbbjfjckaojeaaDoor
open Go.RowKit

theorem info64 : (Tryd.prog.info? 2).map (fun i => (i.zero, i.size, i.bytes)) = some (some (.int .i64 0), 1, 8) := by kernel_rfl

theorem reads_take {w : World} {B : Nat} {A : Option Addr} {n m : Nat} {zs : List Int} (h : Reads w B 1 A n (ints zs)) (hm : m ≤ n) : Reads w B 1 A m (ints (zs.take m)) := by
  have hl := h.1
  rw [ints_length] at hl
  refine ⟨by rw [ints_length, List.length_take]; omega, fun h0 => ?_⟩
  obtain ⟨ad, e, hb, hc⟩ := h.2 (by omega)
  refine ⟨ad, e, hb, fun j u hu => hc j u ?_⟩
  have hj : j < m := by
    have := (List.getElem?_eq_some_iff.1 hu).1
    rw [ints_length, List.length_take] at this
    omega
  rw [← hu]
  simp [ints, hj]
theorem reads_drop {w : World} {B : Nat} {b off k n : Nat} {zs : List Int} (h : Reads w B 1 (some ⟨b, off, none⟩) n (ints zs)) (hk : k < n) : Reads w B 1 (some ⟨b, off + k, none⟩) (n - k) (ints (zs.drop k)) := by
  have hl := h.1
  rw [ints_length] at hl
  refine ⟨by rw [ints_length, List.length_drop]; omega, fun _ => ?_⟩
  obtain ⟨ad, e, hb, hc⟩ := h.2 (by omega)
  injection e with e
  subst e
  refine ⟨_, rfl, hb, fun j u hu => ?_⟩
  have := hc (k + j) u (by rw [← hu]; simp [ints])
  rw [Go.WideShapes.add_plain] at *
  rw [← this]
  congr 2
  omega
theorem own_reads {w : World} {base : Nat} {e : TypeId} {v : Value} {n : Nat} {xs : List Value} (h : w.ownsRow base e 1 v n xs) (hn : 0 < n) :
    ∃ g c, v = .slice (some ⟨g, 0, none⟩) n c ∧ n ≤ c ∧ c ≤ maxLen ∧ base ≤ g ∧ Reads w w.heap.size 1 (some ⟨g, 0, none⟩) n xs := by
  have h' := h
  obtain ⟨hl, ⟨_, h0⟩ | ⟨g, cap, cur, rfl, hb, _, hnc, hcm, _⟩⟩ := h'
  · omega
  · exact ⟨g, cap, rfl, hnc, hcm, hb, Reads.of_own h⟩
theorem own_new (w : World) (t : TypeId) : (w.alloc (.cells #[] t)).ownsRow w.heap.size t 1 (.slice (some ⟨w.heap.size, 0, none⟩) 0 0) 0 [] :=
  ⟨rfl, .inr ⟨w.heap.size, 0, #[], rfl, Nat.le_refl _, by show (w.heap.push _)[w.heap.size]? = _; simp, Nat.le_refl _, Nat.zero_le _, rfl, rfl⟩⟩
theorem ints_one (zs : List Int) : ∀ u ∈ ints zs, u.oneCell' = true := by
  intro u hu
  unfold ints at hu
  rw [List.mem_map] at hu
  obtain ⟨z, _, rfl⟩ := hu
  rfl
theorem own_block {w : World} {base : Nat} {e : TypeId} {size : Nat} {v : Value} {n : Nat} {xs : List Value} (h : w.ownsRow base e size v n xs) : ∀ j, v.ownBlock = some j → base ≤ j := by
  intro j hj
  rcases h.2 with ⟨rfl, _⟩ | ⟨g, cap, cur, rfl, hb, _⟩
  · cases hj
  · have e : some g = some j := hj
    injection e with e
    omega
theorem own_form {w : World} {base : Nat} {e : TypeId} {size : Nat} {v : Value} {n : Nat} {xs : List Value} (h : w.ownsRow base e size v n xs) : ∃ A c, v = .slice A n c := by
  rcases h.2 with ⟨rfl, rfl⟩ | ⟨g, cap, cur, rfl, _⟩
  · exact ⟨_, _, rfl⟩
  · exact ⟨_, _, rfl⟩
theorem own_lt {w w' : World} {g n : Nat} {zs : List Int} (h : Reads w w.heap.size 1 (some ⟨g, 0, none⟩) n (ints zs)) (h0 : 0 < n) (hs : w.heap.size ≤ w'.heap.size) : g < w'.heap.size := by
  obtain ⟨ad, e, hb, _⟩ := h.2 h0
  injection e with e
  subst e
  exact Nat.lt_of_lt_of_le hb hs
theorem two_reads {w : World} {B g n : Nat} {x y : Int} (h : Reads w B 1 (some ⟨g, 0, none⟩) n (ints [x, y])) (h0 : 0 < n) : w.cell? ⟨g, 0, none⟩ = some (.int .i64 x) ∧ w.cell? ⟨g, 1, none⟩ = some (.int .i64 y) := by
  obtain ⟨ad, e, hb, hc⟩ := h.2 h0
  injection e with e
  subst e
  have a0 := hc 0 (.int .i64 x) rfl
  have a1 := hc 1 (.int .i64 y) rfl
  rw [Go.WideShapes.add_plain] at a0 a1
  exact ⟨a0, a1⟩
theorem ints_append (xs ys : List Int) : ints xs ++ ints ys = ints (xs ++ ys) := by unfold ints; simp
theorem sum_turn (xs : List Int) (k : Nat) : (xs.drop k ++ xs.take k).sum = xs.sum := by
  have h : (xs.take k ++ xs.drop k).sum = xs.sum := by rw [List.take_append_drop]
  rw [List.sum_append] at *
  omega
theorem all64_turn {zs : List Int} (h : all64 zs) (k : Nat) : all64 (zs.drop k ++ zs.take k) := fun z hz => by
  rcases List.mem_append.1 hz with hz | hz
  · exact h z (List.mem_of_mem_drop hz)
  · exact h z (List.mem_of_mem_take hz)
theorem all64_take {zs : List Int} (h : all64 zs) (k : Nat) : all64 (zs.take k) := fun z hz => h z (List.mem_of_mem_take hz)

set_option maxHeartbeats 1600000 in
theorem sumlaw_gen (A : Option Addr) (n c m : Nat) (zs : List Int) (turn : Int) (hm : (min (n : Int) 30).toNat = m) (hmn : m ≤ n) (hm30 : m ≤ 30) (h : all64 zs) (w : World) (htab : Tab w) (hr : Reads w w.heap.size 1 A n (ints zs)) (hnc : n ≤ c) (hc : c ≤ 9223372036854775807)
    (hm2 : ((m : Int) == 2) = false) (hm0 : ((m : Int) == 0) = false) (k : Nat) (hk : wrap64 ((IntKind.u64.wrap turn).tmod m) = k) (hkm : k < m) (h0 : 0 < m) :
    Calls Tryd.prog 7 #[.slice A n c, .int .i64 turn] w fun e w' => e = .returned (.bool true) ∧ Below w.heap.size w w' := by
  have H0 := Lib.hid (wakes_any w htab)
  obtain ⟨i0, hi, hz0, hz1, hz2⟩ := info_parts info64
  have HR := Lib.hid (reads_take hr hmn)
  have hS := fun A' c' W hr' => sum_reads A' m c' (zs.take m) (all64_take h m) (by omega) W hr'
  have HA := Lib.hid (all64_turn (all64_take h m) k)
  have HS := Lib.hid hS
  clear htab hr h hS
  go_enter Tryd.func7, Tryd.ntmps7
  go_wp2_with fail
  refine H0.out.mono ?_
  rintro e w1 ⟨rfl, b1⟩
  have HRD := Lib.hid ((HR.out.below b1).alloc b1.size (.cells #[] 2))
  have hb1 := b1.size
  go_wp2_with (at_builtin; refine wpList_append_any _ rfl (.tmp 14) (.tmp 19) 22 rfl w1.heap.size 2 i0 (.int .i64 0) 1 8 Tryd.underlying22 hi hz0 hz1 hz2 rfl (by decide) _ 0 [] rfl (own_new w1 2) w.heap.size A m _ (ints (zs.take m)) rfl HRD.out (ints_one _) (by unfold maxLen; omega) (by omega) (by simp) ?_; intro v' w2 hown hgrow hat)
  rw [Nat.zero_add, List.nil_append] at hown
  obtain ⟨g, c2, rfl, hc2, hc3, hg, hr2⟩ := own_reads hown h0
  have b2 : Below w.heap.size w w2 := (b1.alloc hb1 _).grown hgrow (by simp; omega) (fun j hj => by have e : some w1.heap.size = some j := hj; injection e with e; omega)
  have HR2 := Lib.hid hr2
  unfold maxLen at hc3
  clear hown hgrow hat hr2 b1
  go_wp2_with fail
  refine (HS.out _ _ _ HR2.out).mono ?_
  rintro e w3 ⟨rfl, c3⟩
  have s3 := c3.size
  have B3 : Below w.heap.size w w3 := b2.trans (c3.mono b2.size)
  have HRK0 := Lib.hid (HR2.out.below c3)
  clear c3
  go_wp2_with fail
  have hrk := reads_drop HRK0.out hkm
  rw [Nat.zero_add] at hrk
  have HRK := Lib.hid hrk
  clear hrk
  have HRT := Lib.hid (reads_take HRK0.out (Nat.le_of_lt hkm))
  have j0 : (0 : Int) ≤ (k : Int) := by omega
  have j1 : (k : Int) ≤ (m : Int) := by omega
  have j2 : (m : Int) ≤ (c2 : Int) := by omega
  have j3 : (k : Int) ≤ (c2 : Int) := by omega
  have j4 : ¬ c2 = k := by omega
  have j5 : ¬ (c2 : Int) = (k : Int) := by omega
  have hS2 := fun A' c' W hr' => sum_reads A' m c' ((zs.take m).drop k ++ (zs.take m).take k) HA.out (by omega) W hr'
  rw [sum_turn] at hS2
  have HS2 := Lib.hid hS2
  clear hS2
  go_region_held3 (fun w' => True) (exact trivial) (first
    | (refine step_append_any _ rfl (.tmp 65) (.tmp 68) 22 rfl w3.heap.size 2 i0 (.int .i64 0) 1 8 Tryd.underlying22 hi hz0 hz1 hz2 rfl (by decide) _ 0 [] rfl (by exact own_new w3 2) w2.heap.size (some ⟨g, k, none⟩) (m - k) (c2 - k) (ints ((zs.take m).drop k)) rfl (by exact (HRK.out.alloc s3 _).drew) (ints_one _) (by unfold maxLen; omega) (by omega) (by simp) ?_; intro v4 w4 hown4 hgrow4 hat4; rw [Nat.zero_add, List.nil_append] at hown4; have b4 : Below w3.heap.size w3 w4 := ((Below.refl _ _).alloc (Nat.le_refl _) _).drew.grown hgrow4 (by simp) (fun j hj => by have e : some w3.heap.size = some j := hj; injection e with e; omega); have HRT4 := Lib.hid (HRT.out.keep fun p hp => b4.cell (Nat.lt_of_lt_of_le hp s3)); have HO4 := Lib.hid hown4; have s4 := b4.size; clear hown4 hgrow4 hat4)
    | (refine step_append_any _ rfl (.tmp 69) (.tmp 72) 22 rfl w3.heap.size 2 i0 (.int .i64 0) 1 8 Tryd.underlying22 hi hz0 hz1 hz2 rfl (by decide) v4 (m - k) _ rfl HO4.out w2.heap.size (some ⟨g, 0, none⟩) k c2 (ints ((zs.take m).take k)) rfl HRT4.out (ints_one _) (by unfold maxLen; omega) (by omega) s4 ?_; intro v5 w5 hown5 hgrow5 hat5; rw [Nat.sub_add_cancel (Nat.le_of_lt hkm)] at hown5; have b5 : Below w3.heap.size w3 w5 := b4.grown hgrow5 s4 (own_block HO4.out); obtain ⟨g5, c5, rfl, hc5, hc6, hg5, hr5⟩ := own_reads hown5 h0; unfold maxLen at hc6; rw [ints_append] at hr5; have HR5 := Lib.hid hr5; clear hown5 hgrow5 hat5 hr5)
    | (go_at_call 23; refine (HS2.out _ _ _ HR5.out).mono ?_; rintro e w6 ⟨rfl, c6⟩))
  have B5 : Below w.heap.size w w5 := B3.trans (b5.mono B3.size)
  have B6 := B5.trans (c6.mono B5.size)
  clear b5 c6 B3 B5 b4
  go_wp2_with fail
  go_ret
  exact ⟨rfl, B6⟩

set_option maxHeartbeats 1600000 in
theorem sumlaw_two_fit (A : Option Addr) (n c m : Nat) (zs : List Int) (turn : Int) (hm : (min (n : Int) 30).toNat = m) (hmn : m ≤ n) (hm30 : m ≤ 30) (h : all64 zs) (w : World) (htab : Tab w) (hr : Reads w w.heap.size 1 A n (ints zs)) (hnc : n ≤ c) (hc : c ≤ 9223372036854775807)
    (hm2 : ((m : Int) == 2) = true) (hm0 : ((m : Int) == 0) = false) (k : Nat) (hk : wrap64 ((IntKind.u64.wrap turn).tmod m) = k) (hkm : k < m) (h0 : 0 < m) (x y : Int) (hxy : Hid (zs.take m = [x, y])) (hm1 : (1 : Int) < (m : Int)) (hf : fitB (x + y) = true) :
    Calls Tryd.prog 7 #[.slice A n c, .int .i64 turn] w fun e w' => e = .returned (.bool true) ∧ Below w.heap.size w w' := by
  have H0 := Lib.hid (wakes_any w htab)
  obtain ⟨i0, hi, hz0, hz1, hz2⟩ := info_parts info64
  have HR := Lib.hid (reads_take hr hmn)
  have hS := fun A' c' W hr' => sum_reads A' m c' (zs.take m) (all64_take h m) (by omega) W hr'
  have HA := Lib.hid (all64_turn (all64_take h m) k)
  have hsum : (zs.take m).sum = x + y := by rw [hxy.out]; simp
  have hE : sumE (x + y) = 0 := by unfold sumE; rw [hf]; rfl
  rw [hsum, hE] at hS
  have hbx := all64_take h m
  rw [hxy.out] at hbx
  have hx := hbx x (by simp)
  have hy := hbx y (by simp)
  have hAdd := fun W => add_any x y hx.1 hx.2 hy.1 hy.2 W
  rw [hf] at hAdd
  have HAdd := Lib.hid hAdd
  have HE : Hid (sumE (x + y) = 0 ∧ (zs.take m).sum = x + y) := ⟨hE, hsum⟩
  clear hAdd hsum hE hbx hx hy hf
  have HS := Lib.hid hS
  clear htab hr h hS
  go_enter Tryd.func7, Tryd.ntmps7
  go_wp2_with fail
  refine H0.out.mono ?_
  rintro e w1 ⟨rfl, b1⟩
  have HRD := Lib.hid ((HR.out.below b1).alloc b1.size (.cells #[] 2))
  have hb1 := b1.size
  go_wp2_with (at_builtin; refine wpList_append_any _ rfl (.tmp 14) (.tmp 19) 22 rfl w1.heap.size 2 i0 (.int .i64 0) 1 8 Tryd.underlying22 hi hz0 hz1 hz2 rfl (by decide) _ 0 [] rfl (own_new w1 2) w.heap.size A m _ (ints (zs.take m)) rfl HRD.out (ints_one _) (by unfold maxLen; omega) (by omega) (by simp) ?_; intro v' w2 hown hgrow hat)
  rw [Nat.zero_add, List.nil_append] at hown
  obtain ⟨g, c2, rfl, hc2, hc3, hg, hr2⟩ := own_reads hown h0
  have b2 : Below w.heap.size w w2 := (b1.alloc hb1 _).grown hgrow (by simp; omega) (fun j hj => by have e : some w1.heap.size = some j := hj; injection e with e; omega)
  have HR2 := Lib.hid hr2
  unfold maxLen at hc3
  clear hown hgrow hat hr2 b1
  go_wp2_with fail
  refine (HS.out _ _ _ HR2.out).mono ?_
  rintro e w2b ⟨rfl, c2b⟩
  have s2 := c2b.size
  have B2 : Below w.heap.size w w2b := b2.trans (c2b.mono b2.size)
  have HRb := Lib.hid (HR2.out.below c2b)
  have hcells := HRb.out
  rw [hxy.out] at hcells
  obtain ⟨q0, q1⟩ := two_reads hcells h0
  have HQ : Hid (w2b.cell? ⟨g, 0, none⟩ = some (.int .i64 x) ∧ w2b.cell? ⟨g, 1, none⟩ = some (.int .i64 y)) := ⟨q0, q1⟩
  have hgl : g < w2b.heap.size := own_lt HR2.out h0 s2
  clear hcells c2b
  go_wp2_with fail
  go_region_held3 (fun w' => w'.cell? ⟨g, 0, none⟩ = some (.int .i64 x) ∧ w'.cell? ⟨g, 1, none⟩ = some (.int .i64 y)) (first | exact ⟨q0, q1⟩ | exact HQ.out | exact ⟨(c3.cell (p := ⟨g, 0, none⟩) hgl).trans q0, (c3.cell (p := ⟨g, 1, none⟩) hgl).trans q1⟩) (first
    | (go_at_call 19; refine (HAdd.out _).mono ?_; rintro e w3 ⟨rfl, c3⟩))
  have s3 : w2.heap.size ≤ w3.heap.size := Nat.le_trans s2 c3.size
  have B3 : Below w.heap.size w w3 := B2.drew.trans (c3.mono B2.size)
  have HRK0 := Lib.hid (HRb.out.keep (w' := w3) fun p hp => c3.cell (Nat.lt_of_lt_of_le hp s2))
  clear q0 q1 c3
  go_wp2_with fail
  have hrk := reads_drop HRK0.out hkm
  rw [Nat.zero_add] at hrk
  have HRK := Lib.hid hrk
  clear hrk
  have HRT := Lib.hid (reads_take HRK0.out (Nat.le_of_lt hkm))
  have j0 : (0 : Int) ≤ (k : Int) := by omega
  have j1 : (k : Int) ≤ (m : Int) := by omega
  have j2 : (m : Int) ≤ (c2 : Int) := by omega
  have j3 : (k : Int) ≤ (c2 : Int) := by omega
  have j4 : ¬ c2 = k := by omega
  have j5 : ¬ (c2 : Int) = (k : Int) := by omega
  have hS2 := fun A' c' W hr' => sum_reads A' m c' ((zs.take m).drop k ++ (zs.take m).take k) HA.out (by omega) W hr'
  rw [sum_turn] at hS2
  rw [HE.out.2, HE.out.1] at hS2
  have HS2 := Lib.hid hS2
  clear hS2
  go_region_held3 (fun w' => True) (exact trivial) (first
    | (refine step_append_any _ rfl (.tmp 65) (.tmp 68) 22 rfl w3.heap.size 2 i0 (.int .i64 0) 1 8 Tryd.underlying22 hi hz0 hz1 hz2 rfl (by decide) _ 0 [] rfl (by exact own_new w3 2) w2.heap.size (some ⟨g, k, none⟩) (m - k) (c2 - k) (ints ((zs.take m).drop k)) rfl (by exact (HRK.out.alloc s3 _).drew) (ints_one _) (by unfold maxLen; omega) (by omega) (by simp) ?_; intro v4 w4 hown4 hgrow4 hat4; rw [Nat.zero_add, List.nil_append] at hown4; have b4 : Below w3.heap.size w3 w4 := ((Below.refl _ _).alloc (Nat.le_refl _) _).drew.grown hgrow4 (by simp) (fun j hj => by have e : some w3.heap.size = some j := hj; injection e with e; omega); have HRT4 := Lib.hid (HRT.out.keep fun p hp => b4.cell (Nat.lt_of_lt_of_le hp s3)); have HO4 := Lib.hid hown4; have s4 := b4.size; clear hown4 hgrow4 hat4)
    | (refine step_append_any _ rfl (.tmp 69) (.tmp 72) 22 rfl w3.heap.size 2 i0 (.int .i64 0) 1 8 Tryd.underlying22 hi hz0 hz1 hz2 rfl (by decide) v4 (m - k) _ rfl HO4.out w2.heap.size (some ⟨g, 0, none⟩) k c2 (ints ((zs.take m).take k)) rfl HRT4.out (ints_one _) (by unfold maxLen; omega) (by omega) s4 ?_; intro v5 w5 hown5 hgrow5 hat5; rw [Nat.sub_add_cancel (Nat.le_of_lt hkm)] at hown5; have b5 : Below w3.heap.size w3 w5 := b4.grown hgrow5 s4 (own_block HO4.out); obtain ⟨g5, c5, rfl, hc5, hc6, hg5, hr5⟩ := own_reads hown5 h0; unfold maxLen at hc6; rw [ints_append] at hr5; have HR5 := Lib.hid hr5; clear hown5 hgrow5 hat5 hr5)
    | (go_at_call 23; refine (HS2.out _ _ _ HR5.out).mono ?_; rintro e w6 ⟨rfl, c6⟩))
  have B5 : Below w.heap.size w w5 := B3.trans (b5.mono B3.size)
  have B6 := B5.trans (c6.mono B5.size)
  clear b5 c6 B3 B5 b4
  go_wp2_with fail
  go_ret
  exact ⟨rfl, B6⟩

set_option maxHeartbeats 1600000 in
theorem sumlaw_two_not (A : Option Addr) (n c m : Nat) (zs : List Int) (turn : Int) (hm : (min (n : Int) 30).toNat = m) (hmn : m ≤ n) (hm30 : m ≤ 30) (h : all64 zs) (w : World) (htab : Tab w) (hr : Reads w w.heap.size 1 A n (ints zs)) (hnc : n ≤ c) (hc : c ≤ 9223372036854775807)
    (hm2 : ((m : Int) == 2) = true) (hm0 : ((m : Int) == 0) = false) (k : Nat) (hk : wrap64 ((IntKind.u64.wrap turn).tmod m) = k) (hkm : k < m) (h0 : 0 < m) (x y : Int) (hxy : Hid (zs.take m = [x, y])) (hm1 : (1 : Int) < (m : Int)) (hf : fitB (x + y) = false) :
    Calls Tryd.prog 7 #[.slice A n c, .int .i64 turn] w fun e w' => e = .returned (.bool true) ∧ Below w.heap.size w w' := by
  have H0 := Lib.hid (wakes_any w htab)
  obtain ⟨i0, hi, hz0, hz1, hz2⟩ := info_parts info64
  have HR := Lib.hid (reads_take hr hmn)
  have hS := fun A' c' W hr' => sum_reads A' m c' (zs.take m) (all64_take h m) (by omega) W hr'
  have HA := Lib.hid (all64_turn (all64_take h m) k)
  have hsum : (zs.take m).sum = x + y := by rw [hxy.out]; simp
  have hE : sumE (x + y) = 111 := by unfold sumE; rw [hf]; rfl
  rw [hsum, hE] at hS
  have hbx := all64_take h m
  rw [hxy.out] at hbx
  have hx := hbx x (by simp)
  have hy := hbx y (by simp)
  have hAdd := fun W => add_any x y hx.1 hx.2 hy.1 hy.2 W
  rw [hf] at hAdd
  have HAdd := Lib.hid hAdd
  have HE : Hid (sumE (x + y) = 111 ∧ (zs.take m).sum = x + y) := ⟨hE, hsum⟩
  clear hAdd hsum hE hbx hx hy hf
  have HS := Lib.hid hS
  clear htab hr h hS
  go_enter Tryd.func7, Tryd.ntmps7
  go_wp2_with fail
  refine H0.out.mono ?_
  rintro e w1 ⟨rfl, b1⟩
  have HRD := Lib.hid ((HR.out.below b1).alloc b1.size (.cells #[] 2))
  have hb1 := b1.size
  go_wp2_with (at_builtin; refine wpList_append_any _ rfl (.tmp 14) (.tmp 19) 22 rfl w1.heap.size 2 i0 (.int .i64 0) 1 8 Tryd.underlying22 hi hz0 hz1 hz2 rfl (by decide) _ 0 [] rfl (own_new w1 2) w.heap.size A m _ (ints (zs.take m)) rfl HRD.out (ints_one _) (by unfold maxLen; omega) (by omega) (by simp) ?_; intro v' w2 hown hgrow hat)
  rw [Nat.zero_add, List.nil_append] at hown
  obtain ⟨g, c2, rfl, hc2, hc3, hg, hr2⟩ := own_reads hown h0
  have b2 : Below w.heap.size w w2 := (b1.alloc hb1 _).grown hgrow (by simp; omega) (fun j hj => by have e : some w1.heap.size = some j := hj; injection e with e; omega)
  have HR2 := Lib.hid hr2
  unfold maxLen at hc3
  clear hown hgrow hat hr2 b1
  go_wp2_with fail
  refine (HS.out _ _ _ HR2.out).mono ?_
  rintro e w2b ⟨rfl, c2b⟩
  have s2 := c2b.size
  have B2 : Below w.heap.size w w2b := b2.trans (c2b.mono b2.size)
  have HRb := Lib.hid (HR2.out.below c2b)
  have hcells := HRb.out
  rw [hxy.out] at hcells
  obtain ⟨q0, q1⟩ := two_reads hcells h0
  have HQ : Hid (w2b.cell? ⟨g, 0, none⟩ = some (.int .i64 x) ∧ w2b.cell? ⟨g, 1, none⟩ = some (.int .i64 y)) := ⟨q0, q1⟩
  have hgl : g < w2b.heap.size := own_lt HR2.out h0 s2
  clear hcells c2b
  go_wp2_with fail
  go_region_held3 (fun w' => w'.cell? ⟨g, 0, none⟩ = some (.int .i64 x) ∧ w'.cell? ⟨g, 1, none⟩ = some (.int .i64 y)) (first | exact ⟨q0, q1⟩ | exact HQ.out | exact ⟨(c3.cell (p := ⟨g, 0, none⟩) hgl).trans q0, (c3.cell (p := ⟨g, 1, none⟩) hgl).trans q1⟩) (first
    | (go_at_call 19; refine (HAdd.out _).mono ?_; rintro e w3 ⟨rfl, c3⟩))
  have s3 : w2.heap.size ≤ w3.heap.size := Nat.le_trans s2 c3.size
  have B3 : Below w.heap.size w w3 := B2.drew.trans (c3.mono B2.size)
  have HRK0 := Lib.hid (HRb.out.keep (w' := w3) fun p hp => c3.cell (Nat.lt_of_lt_of_le hp s2))
  clear q0 q1 c3
  go_wp2_with fail
  have hrk := reads_drop HRK0.out hkm
  rw [Nat.zero_add] at hrk
  have HRK := Lib.hid hrk
  clear hrk
  have HRT := Lib.hid (reads_take HRK0.out (Nat.le_of_lt hkm))
  have j0 : (0 : Int) ≤ (k : Int) := by omega
  have j1 : (k : Int) ≤ (m : Int) := by omega
  have j2 : (m : Int) ≤ (c2 : Int) := by omega
  have j3 : (k : Int) ≤ (c2 : Int) := by omega
  have j4 : ¬ c2 = k := by omega
  have j5 : ¬ (c2 : Int) = (k : Int) := by omega
  have hS2 := fun A' c' W hr' => sum_reads A' m c' ((zs.take m).drop k ++ (zs.take m).take k) HA.out (by omega) W hr'
  rw [sum_turn] at hS2
  rw [HE.out.2, HE.out.1] at hS2
  have HS2 := Lib.hid hS2
  clear hS2
  go_region_held3 (fun w' => True) (exact trivial) (first
    | (refine step_append_any _ rfl (.tmp 65) (.tmp 68) 22 rfl w3.heap.size 2 i0 (.int .i64 0) 1 8 Tryd.underlying22 hi hz0 hz1 hz2 rfl (by decide) _ 0 [] rfl (by exact own_new w3 2) w2.heap.size (some ⟨g, k, none⟩) (m - k) (c2 - k) (ints ((zs.take m).drop k)) rfl (by exact (HRK.out.alloc s3 _).drew) (ints_one _) (by unfold maxLen; omega) (by omega) (by simp) ?_; intro v4 w4 hown4 hgrow4 hat4; rw [Nat.zero_add, List.nil_append] at hown4; have b4 : Below w3.heap.size w3 w4 := ((Below.refl _ _).alloc (Nat.le_refl _) _).drew.grown hgrow4 (by simp) (fun j hj => by have e : some w3.heap.size = some j := hj; injection e with e; omega); have HRT4 := Lib.hid (HRT.out.keep fun p hp => b4.cell (Nat.lt_of_lt_of_le hp s3)); have HO4 := Lib.hid hown4; have s4 := b4.size; clear hown4 hgrow4 hat4)
    | (refine step_append_any _ rfl (.tmp 69) (.tmp 72) 22 rfl w3.heap.size 2 i0 (.int .i64 0) 1 8 Tryd.underlying22 hi hz0 hz1 hz2 rfl (by decide) v4 (m - k) _ rfl HO4.out w2.heap.size (some ⟨g, 0, none⟩) k c2 (ints ((zs.take m).take k)) rfl HRT4.out (ints_one _) (by unfold maxLen; omega) (by omega) s4 ?_; intro v5 w5 hown5 hgrow5 hat5; rw [Nat.sub_add_cancel (Nat.le_of_lt hkm)] at hown5; have b5 : Below w3.heap.size w3 w5 := b4.grown hgrow5 s4 (own_block HO4.out); obtain ⟨g5, c5, rfl, hc5, hc6, hg5, hr5⟩ := own_reads hown5 h0; unfold maxLen at hc6; rw [ints_append] at hr5; have HR5 := Lib.hid hr5; clear hown5 hgrow5 hat5 hr5)
    | (go_at_call 23; refine (HS2.out _ _ _ HR5.out).mono ?_; rintro e w6 ⟨rfl, c6⟩))
  have B5 : Below w.heap.size w w5 := B3.trans (b5.mono B3.size)
  have B6 := B5.trans (c6.mono B5.size)
  clear b5 c6 B3 B5 b4
  go_wp2_with fail
  go_ret
  exact ⟨rfl, B6⟩

set_option maxHeartbeats 1600000 in
theorem sumlaw_nil (A : Option Addr) (n c m : Nat) (zs : List Int) (turn : Int) (hm : (min (n : Int) 30).toNat = m) (hmn : m ≤ n) (hm30 : m ≤ 30) (w : World) (htab : Tab w) (hr : Reads w w.heap.size 1 A n (ints zs)) (hnc : n ≤ c) (hc : c ≤ 9223372036854775807)
    (hmz : Hid (m = 0)) :
    Calls Tryd.prog 7 #[.slice A n c, .int .i64 turn] w fun e w' => e = .returned (.bool true) ∧ Below w.heap.size w w' := by
  have H0 := Lib.hid (wakes_any w htab)
  obtain ⟨i0, hi, hz0, hz1, hz2⟩ := info_parts info64
  have HR := Lib.hid (reads_take hr hmn)
  have hS : ∀ A' c' W, Calls Tryd.prog 23 #[.slice A' 0 c'] W fun e w' => e = .returned (.tuple #[.int .i64 0, .int .i64 0]) ∧ Below W.heap.size W w' := fun A' c' W => sum_empty A' c' W
  have HS := Lib.hid hS
  clear htab hr hS
  go_enter Tryd.func7, Tryd.ntmps7
  go_wp2_with fail
  refine H0.out.mono ?_
  rintro e w1 ⟨rfl, b1⟩
  have HRD := Lib.hid ((HR.out.below b1).alloc b1.size (.cells #[] 2))
  have hb1 := b1.size
  go_wp2_with (at_builtin; refine wpList_append_any _ rfl (.tmp 14) (.tmp 19) 22 rfl w1.heap.size 2 i0 (.int .i64 0) 1 8 Tryd.underlying22 hi hz0 hz1 hz2 rfl (by decide) _ 0 [] rfl (own_new w1 2) w.heap.size A m _ (ints (zs.take m)) rfl HRD.out (ints_one _) (by unfold maxLen; omega) (by omega) (by simp) ?_; intro v' w2 hown hgrow hat)
  rw [Nat.zero_add, List.nil_append] at hown
  rw [hmz.out] at hown
  obtain ⟨A2, c2, rfl⟩ := own_form hown
  have b2 : Below w.heap.size w w2 := (b1.alloc hb1 _).grown hgrow (by simp; omega) (fun j hj => by have e : some w1.heap.size = some j := hj; injection e with e; omega)
  clear hown hgrow hat b1
  go_wp2_with fail
  refine (HS.out _ _ _).mono ?_
  rintro e w3 ⟨rfl, c3⟩
  have B3 := b2.trans (c3.mono b2.size)
  clear b2 c3
  go_wp2_with fail
  go_ret
  exact ⟨rfl, B3⟩

/-- DigitSum answers true, whatever the slice and the turn. -/
theorem sumlaw_any (A : Option Addr) (n c : Nat) (zs : List Int) (turn : Int) (h : all64 zs) (w : World) (htab : Tab w) (hr : Reads w w.heap.size 1 A n (ints zs)) (hnc : n ≤ c) (hc : c ≤ 9223372036854775807) :
    Calls Tryd.prog 7 #[.slice A n c, .int .i64 turn] w fun e w' => e = .returned (.bool true) ∧ Below w.heap.size w w' := by
  obtain ⟨m, hm⟩ : ∃ m : Nat, (min (n : Int) 30).toNat = m := ⟨_, rfl⟩
  have hmn : m ≤ n := by omega
  have hm30 : m ≤ 30 := by omega
  by_cases h0 : m = 0
  · exact sumlaw_nil A n c m zs turn hm hmn hm30 w htab hr hnc hc h0
  · have hu : 0 ≤ IntKind.u64.wrap turn := by rw [wrap_lo]; exact lo64_nonneg _
    have hk : ∃ k : Nat, wrap64 ((IntKind.u64.wrap turn).tmod m) = k ∧ k < m := by
      refine ⟨((IntKind.u64.wrap turn) % m).toNat, ?_, ?_⟩
      · rw [Int.tmod_eq_emod_of_nonneg hu]
        have h1 := Int.emod_nonneg (IntKind.u64.wrap turn) (b := (m : Int)) (by omega)
        have h2 := Int.emod_lt_of_pos (IntKind.u64.wrap turn) (b := (m : Int)) (by omega)
        generalize IntKind.u64.wrap turn % (m : Int) = q at *
        unfold wrap64
        omega
      · have h1 := Int.emod_nonneg (IntKind.u64.wrap turn) (b := (m : Int)) (by omega)
        have h2 := Int.emod_lt_of_pos (IntKind.u64.wrap turn) (b := (m : Int)) (by omega)
        omega
    obtain ⟨k, hk, hkm⟩ := hk
    by_cases h2 : m = 2
    · have hl : (zs.take m).length = 2 := by
        have := hr.1
        rw [ints_length] at this
        rw [List.length_take]
        omega
      obtain ⟨x, y, hxy⟩ : ∃ x y, zs.take m = [x, y] := by
        match zs.take m, hl with
        | [x, y], _ => exact ⟨x, y, rfl⟩
      cases hf : fitB (x + y)
      · exact sumlaw_two_not A n c m zs turn hm hmn hm30 h w htab hr hnc hc (by rw [h2]; rfl) (by rw [h2]; rfl) k hk hkm (by omega) x y hxy (by omega) hf
      · exact sumlaw_two_fit A n c m zs turn hm hmn hm30 h w htab hr hnc hc (by rw [h2]; rfl) (by rw [h2]; rfl) k hk hkm (by omega) x y hxy (by omega) hf
    · exact sumlaw_gen A n c m zs turn hm hmn hm30 h w htab hr hnc hc (beq_eq_false_iff_ne.2 (by omega)) (beq_eq_false_iff_ne.2 (by omega)) k hk hkm (by omega)
end Go.Proofs.YtfbbjfjckaojeaaDoor
