/- Layer bits: Same, Meet, Minus, Within: contracts. -/
import Derived.Test.YtpkpfnilfabkaaaDoorBi
import Derived.Deep.RegionHeld3
import Derived.Deep.Draws
namespace Go.Proofs.YtpkpfnilfabkaaaDoor
open Go.RowKit

theorem below_drew' {B : Nat} {a w : World} (h : Below B a w) : Below B a w.drew := ⟨h.os, h.tape, h.output, h.size, h.block⟩
theorem RW.drew {w : World} {B n : Nat} {A : Option Addr} {ws : List Nat} (h : RW w B A n ws) : RW w.drew B A n ws := Reads.drew h
theorem two_boxes (w : World) (u v : Value) (t t' : TypeId) :
    ((w.alloc (.cells #[u] t)).alloc (.cells #[v] t')).cell? ⟨w.heap.size, 0, none⟩ = some u ∧ ((w.alloc (.cells #[u] t)).alloc (.cells #[v] t')).cell? ⟨w.heap.size + 1, 0, none⟩ = some v ∧
    ((w.alloc (.cells #[u] t)).alloc (.cells #[v] t')).heap.size = w.heap.size + 1 + 1 ∧ Below w.heap.size w ((w.alloc (.cells #[u] t)).alloc (.cells #[v] t')) := by
  have b0 := (Blk.new w t #[u]).alloc (.cells #[v] t')
  have b1 := Blk.new (w.alloc (.cells #[u] t)) t' #[v]
  rw [World.size_alloc] at b1
  exact ⟨b0.cell 0, b1.cell 0, by simp, ((Below.refl _ _).alloc (Nat.le_refl _) _).alloc (by simp) _⟩
theorem cell_on {w w' : World} {p : Addr} {v : Value} (hb : Below w.heap.size w w') (h : w.cell? p = some v) (hp : p.block < w.heap.size) : w'.cell? p = some v := (hb.cell hp).trans h

/-- Have two sets the same numbers? -/
def sameF (f g : Nat → Bool) : Bool := (List.range 10048).all fun n => f n == g n
theorem sameF_iff {f g : Nat → Bool} : sameF f g = true ↔ ∀ n, n < 10048 → f n = g n := by
  unfold sameF
  rw [List.all_eq_true]
  exact ⟨fun h n hn => by simpa using h n (by simpa using hn), fun h n hn => by simpa using h n (by simpa using hn)⟩
theorem eff_eq {xs ys : List Nat} (hx : W64 xs) (hy : W64 ys) : decide (effW xs = effW ys) = sameF (inW xs) (inW ys) := by
  rw [Bool.eq_iff_iff, decide_eq_true_iff, sameF_iff]
  refine ⟨fun h n _ => by unfold inW; rw [h], fun h => ?_⟩
  rw [eff_set hx, eff_set hy]
  exact set_congr h

set_option maxRecDepth 100000 in
set_option maxHeartbeats 2000000 in
theorem same_any (A B : Option Addr) (n c m d : Nat) (xs ys : List Nat) (hx : W64 xs) (hy : W64 ys) (hn : n ≤ 100000) (hm : m ≤ 100000) (w : World) (hA : RW w w.heap.size A n xs) (hB : RW w w.heap.size B m ys) :
    Calls Tryd.prog 14 #[.agg #[.slice A n c], .agg #[.slice B m d]] w fun e w' => e = .returned (.bool (sameF (inW xs) (inW ys))) ∧ Below w.heap.size w w' := by
  have HF : Hid (sameF (inW xs) (inW ys) = decide (effW xs = effW ys)) := (eff_eq hx hy).symm
  have HLX := Lib.hid (eff_len xs)
  have HLY := Lib.hid (eff_len ys)
  obtain ⟨q0, q1, hsz, hb0⟩ := two_boxes w (.slice A n c) (.slice B m d) 24 24
  have HWX := Lib.hid fun W (h : Below w.heap.size w W) => words_any A n c xs hx (by omega) W ((hA.below h).more h.size)
  have HWY := Lib.hid fun W (h : Below w.heap.size w W) => words_any B m d ys hy (by omega) W ((hB.below h).more h.size)
  clear hA hB
  go_enter Tryd.func14, Tryd.ntmps14
  go_wp2_with fail
  generalize (w.alloc (.cells #[.slice A n c] 24)).alloc (.cells #[.slice B m d] 24) = W0 at *
  have B0 : Hid (Below w.heap.size w W0.drew) := below_drew' hb0
  have HS := Lib.hid hsz
  have hp0 : w.heap.size < W0.heap.size := by omega
  have hp1 : w.heap.size + 1 < W0.heap.size := by omega
  clear hsz hb0
  go_region_held3 (fun w' => w'.cell? ⟨w.heap.size, 0, none⟩ = some (.slice A n c) ∧ w'.cell? ⟨w.heap.size + 1, 0, none⟩ = some (.slice B m d)) (first | exact ⟨q0, q1⟩ | exact ⟨r0, r1⟩ | exact ⟨s0, s1⟩ | exact ⟨y0, y1⟩ | fail) (first
    | (have _t := B2; go_at_call 36; refine (equal_u A1 A2 n1 n2 c1 c2 _ _ (by omega) (by omega) w2 R1'.out R2.out).mono ?_; rintro e w3 ⟨rfl, b3⟩; have B3 : Hid (Below w.heap.size w w3) := B2.out.trans (b3.mono B2.out.size); have y0 := cell_on b3 s0 (by have := B2.out.size; have := b2s; show w.heap.size < _; omega); have y1 := cell_on b3 s1 (by have := b2s; show w.heap.size + 1 < _; omega); clear b3)
    | (have _t := B1; go_at_call 41; refine (HWY.out w1 B1.out).mono ?_; rintro e w2 ⟨A2, n2, c2, rfl, r2, b2⟩; have B2 : Hid (Below w.heap.size w w2) := B1.out.trans (b2.mono B1.out.size); have s0 := cell_on b2 r0 (by show w.heap.size < _; omega); have s1 := cell_on b2 r1 (by show w.heap.size + 1 < _; omega); have hn2 : n2 ≤ 157 := (by have := r2.len; have := HLY.out; omega); have b2s : w.heap.size + 1 < w2.heap.size := (by have := b2.size; omega); have R2 := Lib.hid (r2.more b2.size); have R1' := Lib.hid ((R1.out.below b2).more b2.size); clear r2 b2)
    | (go_at_call 41; refine (HWX.out W0.drew B0.out).mono ?_; rintro e w1 ⟨A1, n1, c1, rfl, r1', b1⟩; have B1 : Hid (Below w.heap.size w w1) := B0.out.trans (b1.mono B0.out.size); have r0 := cell_on b1 q0 hp0; have r1 := cell_on b1 q1 hp1; have hn1 : n1 ≤ 157 := (by have := r1'.len; have := HLX.out; omega); have b1s : w.heap.size + 1 < w1.heap.size := (by have := b1.size; exact Nat.lt_of_lt_of_le hp1 this); have R1 := Lib.hid (r1'.more b1.size); clear r1' b1)
    | fail)
  go_wp2_with fail
  go_ret
  exact ⟨by rw [HF.out]; rfl, B3.out⟩

theorem three_boxes (w : World) (u v x : Value) (t t' t'' : TypeId) :
    (((w.alloc (.cells #[u] t)).alloc (.cells #[v] t')).alloc (.cells #[x] t'')).cell? ⟨w.heap.size, 0, none⟩ = some u ∧ (((w.alloc (.cells #[u] t)).alloc (.cells #[v] t')).alloc (.cells #[x] t'')).cell? ⟨w.heap.size + 1, 0, none⟩ = some v ∧
    (((w.alloc (.cells #[u] t)).alloc (.cells #[v] t')).alloc (.cells #[x] t'')).cell? ⟨w.heap.size + 1 + 1, 0, none⟩ = some x ∧ Blk (((w.alloc (.cells #[u] t)).alloc (.cells #[v] t')).alloc (.cells #[x] t'')) (w.heap.size + 1 + 1) t'' #[x] ∧
    (((w.alloc (.cells #[u] t)).alloc (.cells #[v] t')).alloc (.cells #[x] t'')).heap.size = w.heap.size + 1 + 1 + 1 ∧ Below w.heap.size w (((w.alloc (.cells #[u] t)).alloc (.cells #[v] t')).alloc (.cells #[x] t'')) := by
  have b0 := ((Blk.new w t #[u]).alloc (.cells #[v] t')).alloc (.cells #[x] t'')
  have b1 := (Blk.new (w.alloc (.cells #[u] t)) t' #[v]).alloc (.cells #[x] t'')
  have b2 := Blk.new ((w.alloc (.cells #[u] t)).alloc (.cells #[v] t')) t'' #[x]
  rw [World.size_alloc] at b1
  rw [World.size_alloc, World.size_alloc] at b2
  exact ⟨b0.cell 0, b1.cell 0, b2.cell 0, b2, by simp, (((Below.refl _ _).alloc (Nat.le_refl _) _).alloc (by simp) _).alloc (by simp; omega) _⟩

theorem OW.set_box {base n : Nat} {w : World} {A : Option Addr} {ws : List Nat} (h : OW base w A n ws) {b : Nat} {t : TypeId} {cs : Array Value} (hb : Blk w b t cs) (ht : 51 ≠ t) (u : Value) : OW base (w.setCell ⟨b, 0, none⟩ u) A n ws :=
  ⟨h.1, fun hn => by
    obtain ⟨g, ds, hA, hg, hk, hc⟩ := h.2 hn
    exact ⟨g, ds, hA, hg, hk.far (p := ⟨b, 0, none⟩) (Blk.ne_ hk hb ht) u, hc⟩⟩
theorem set_end {w w4 : World} {ws ws' : List Nat} {A : Option Addr} {n c b : Nat} {u : Array Value} (h : OW w.heap.size w4 A n ws) (hb : Blk w4 b 24 u) (hB : Below w.heap.size w w4) (hle : w.heap.size ≤ b) (hw : ws = ws') :
    SetOk ws' w (.returned (.agg #[.slice A n c])) (w4.setCell ⟨b, 0, none⟩ (.slice A n c)) := by
  subst hw
  exact ⟨A, n, c, rfl, h.set_box hb (by decide) _, hB.setCell (p := ⟨b, 0, none⟩) hle _⟩

/-- What Meet has. -/
theorem set_meet {xs ys : List Nat} (hx : W64 xs) (hy : W64 ys) (m : Nat) (hm : m = (effW ys).length) : trimW (joinW (fun x y => x &&& y) (padW (effW xs) m) (effW ys)) = setW (fun n => inW xs n && inW ys n) := by
  have h1 := eff_64 hx
  have h2 := eff_64 hy
  refine trim_set (join_64 (fun x y => and_lt x y) (pad_64 h1 m) h2) fun n => ?_
  rw [has_join (J := fun x y => x &&& y) (op := fun a b => a && b) rfl (fun x y => and_bit x y) (pad_64 h1 m) h2 (by rw [pad_length, hm]; omega), has_pad]
  show (hasW (effW xs) n && hasW (effW ys) n) = _
  rcases Nat.lt_or_ge n 10048 with h | h
  · simp [h, inW]
  · have e1 : hasW (effW xs) n = false := in_ge (ws := xs) (by omega)
    rw [e1]; simp [show ¬ n < 10048 by omega]
set_option maxRecDepth 100000 in
set_option maxHeartbeats 2000000 in
theorem meet_set (A B : Option Addr) (n c m d : Nat) (xs ys : List Nat) (hx : W64 xs) (hy : W64 ys) (hn : n ≤ 100000) (hm : m ≤ 100000) (w : World) (hA : RW w w.heap.size A n xs) (hB : RW w w.heap.size B m ys) :
    Calls Tryd.prog 32 #[.agg #[.slice A n c], .agg #[.slice B m d]] w (SetOk (setW (fun n => inW xs n && inW ys n)) w) := by
  have HLX := Lib.hid (eff_len xs)
  have HLY := Lib.hid (eff_len ys)
  have H6X := Lib.hid (eff_64 hx)
  have H6Y := Lib.hid (eff_64 hy)
  have HJ := Lib.hid fun m hm => set_meet hx hy m hm
  have HWX := Lib.hid fun W (h : Below w.heap.size w W) => words_any A n c xs hx (by omega) W ((hA.below h).more h.size)
  have HWY := Lib.hid fun W (h : Below w.heap.size w W) => words_any B m d ys hy (by omega) W ((hB.below h).more h.size)
  obtain ⟨q0, q1, q2, q3, hsz, hb0⟩ := three_boxes w (.slice A n c) (.slice B m d) (.slice none 0 0) 24 24 24
  clear hA hB
  go_enter Tryd.func32, Tryd.ntmps32
  go_wp2_with fail
  generalize ((w.alloc (.cells #[.slice A n c] 24)).alloc (.cells #[.slice B m d] 24)).alloc (.cells #[.slice none 0 0] 24) = W0 at *
  have B0 : Hid (Below w.heap.size w W0.drew) := below_drew' hb0
  have hp2 : w.heap.size + 1 + 1 < W0.heap.size := by omega
  have HQ2 := Lib.hid q2
  have HQ3 := Lib.hid q3
  clear hsz hb0 q2 q3
  go_region_held3 (fun w' => w'.cell? ⟨w.heap.size, 0, none⟩ = some (.slice A n c) ∧ w'.cell? ⟨w.heap.size + 1, 0, none⟩ = some (.slice B m d)) (first | exact ⟨q0, q1⟩ | exact ⟨r0, r1⟩ | exact ⟨s0, s1⟩ | exact ⟨y0, y1⟩ | exact ⟨z0, z1⟩ | exact ⟨(World.cell?_setCell_other _ _ _ _ (by simp)).trans z0, (World.cell?_setCell_other _ _ _ _ (by simp)).trans z1⟩ | fail) (first
    | (have _t := B3; go_at_call 48; refine (cut_any w.heap.size (some ⟨g3, 0, none⟩) N3 N3 _ (Nat.le_refl _) (by omega) w3 RO3.out).mono ?_; rintro e w4 ⟨A4, n4, c4, rfl, o4, b4⟩; have B4 : Hid (Below w.heap.size w w4) := B3.out.trans (b4.mono B3.out.size); have HB4 := Lib.hid (K3.out.below b4 b3s); have z0 := cell_on b4 y0 (by show w.heap.size < _; omega); have z1 := cell_on b4 y1 (by show w.heap.size + 1 < _; omega); have O4 := Lib.hid o4; have zc := HB4.out.cell 0; have zf := HB4.out.frozen 0; have b4s : w.heap.size + 1 + 1 < w4.heap.size := (by have := b4.size; omega); clear b4 o4 y0 y1)
    | (have _t := B2; go_at_call 52; refine (joined_and A1 A2 n1 c1 n2 c2 _ _ (by omega) (by omega) H6X.out H6Y.out w2 R1'.out R2.out).mono ?_; rintro e w3 ⟨g3, N3, rfl, hl3, hg3, hk3, b3⟩; have B3 : Hid (Below w.heap.size w w3) := B2.out.trans (b3.mono B2.out.size); have K3 := Lib.hid (K2.out.below b3 b2s); have y0 := cell_on b3 s0 (by show w.heap.size < _; omega); have y1 := cell_on b3 s1 (by show w.heap.size + 1 < _; omega); have RO3 : Hid (RO w.heap.size w3 (some ⟨g3, 0, none⟩) N3 (joinW (fun x y => x &&& y) (padW (effW xs) n2) (effW ys))) := ⟨hl3, fun _ => ⟨g3, rfl, Nat.le_trans B2.out.size hg3, hk3⟩⟩; have hN3 : N3 ≤ 1000 := (by rw [join_length, pad_length] at hl3; have := HLX.out; have := HLY.out; have := HN2.out; omega); have b3s : w.heap.size + 1 + 1 < w3.heap.size := (by have := b3.size; omega); clear b3 hk3 hg3 hl3 s0 s1)
    | (have _t := B1; go_at_call 41; refine (HWY.out w1 B1.out).mono ?_; rintro e w2 ⟨A2, n2, c2, rfl, r2, b2⟩; have B2 : Hid (Below w.heap.size w w2) := B1.out.trans (b2.mono B1.out.size); have K2 := Lib.hid (K1.out.below b2 b1s); have s0 := cell_on b2 r0 (by show w.heap.size < _; omega); have s1 := cell_on b2 r1 (by show w.heap.size + 1 < _; omega); have HN2 := Lib.hid r2.len; have hn2 : n2 ≤ 157 := (by have := r2.len; have := HLY.out; omega); have b2s : w.heap.size + 1 + 1 < w2.heap.size := (by have := b2.size; omega); have R2 := Lib.hid (r2.more b2.size); have R1' := Lib.hid ((R1.out.below b2).more b2.size); clear r2 b2 r0 r1)
    | (go_at_call 41; refine (HWX.out W0.drew B0.out).mono ?_; rintro e w1 ⟨A1, n1, c1, rfl, r1', b1⟩; have B1 : Hid (Below w.heap.size w w1) := B0.out.trans (b1.mono B0.out.size); have K1 := Lib.hid (HQ3.out.drew.below b1 hp2); have r0 := cell_on b1 q0 (by show w.heap.size < W0.heap.size; omega); have r1 := cell_on b1 q1 (by show w.heap.size + 1 < W0.heap.size; omega); have hn1 : n1 ≤ 157 := (by have := r1'.len; have := HLX.out; omega); have b1s : w.heap.size + 1 + 1 < w1.heap.size := (by have := b1.size; exact Nat.lt_of_lt_of_le hp2 this); have R1 := Lib.hid (r1'.more b1.size); clear r1' b1 q0 q1)
    | fail)
  have hz := World.cell?_setCell_same' w4 ⟨w.heap.size + 1 + 1, 0, none⟩ (.slice A4 n4 c4) (by rw [zc]; rfl)
  have HE := Lib.hid (set_end (c := c4) O4.out HB4.out B4.out (by omega) (HJ.out n2 HN2.out.symm))
  clear HJ HB4 O4 zc zf
  go_wp2_with fail
  exact bodyPost_ret (v := .agg #[.slice A4 n4 c4]) (by simp [results, Tryd.results32, go_sem, hz]) rfl HE.out

/-- What Minus has. -/
theorem set_minus {xs ys : List Nat} (hx : W64 xs) (hy : W64 ys) (m : Nat) (hm : m = (effW ys).length) : trimW (joinW (fun x y => x &&& (18446744073709551615 - y)) (padW (effW xs) m) (effW ys)) = setW (fun n => inW xs n && !inW ys n) := by
  have h1 := eff_64 hx
  have h2 := eff_64 hy
  refine trim_set (join_64 (fun x y => andnot_lt x y) (pad_64 h1 m) h2) fun n => ?_
  rw [has_join (J := fun x y => x &&& (18446744073709551615 - y)) (op := fun a b => a && !b) rfl (fun x y => andnot_bit x y) (pad_64 h1 m) h2 (by rw [pad_length, hm]; omega), has_pad]
  show (hasW (effW xs) n && !hasW (effW ys) n) = _
  rcases Nat.lt_or_ge n 10048 with h | h
  · simp [h, inW]
  · have e1 : hasW (effW xs) n = false := in_ge (ws := xs) (by omega)
    rw [e1]; simp [show ¬ n < 10048 by omega]
set_option maxRecDepth 100000 in
set_option maxHeartbeats 2000000 in
theorem minus_set (A B : Option Addr) (n c m d : Nat) (xs ys : List Nat) (hx : W64 xs) (hy : W64 ys) (hn : n ≤ 100000) (hm : m ≤ 100000) (w : World) (hA : RW w w.heap.size A n xs) (hB : RW w w.heap.size B m ys) :
    Calls Tryd.prog 33 #[.agg #[.slice A n c], .agg #[.slice B m d]] w (SetOk (setW (fun n => inW xs n && !inW ys n)) w) := by
  have HLX := Lib.hid (eff_len xs)
  have HLY := Lib.hid (eff_len ys)
  have H6X := Lib.hid (eff_64 hx)
  have H6Y := Lib.hid (eff_64 hy)
  have HJ := Lib.hid fun m hm => set_minus hx hy m hm
  have HWX := Lib.hid fun W (h : Below w.heap.size w W) => words_any A n c xs hx (by omega) W ((hA.below h).more h.size)
  have HWY := Lib.hid fun W (h : Below w.heap.size w W) => words_any B m d ys hy (by omega) W ((hB.below h).more h.size)
  obtain ⟨q0, q1, q2, q3, hsz, hb0⟩ := three_boxes w (.slice A n c) (.slice B m d) (.slice none 0 0) 24 24 24
  clear hA hB
  go_enter Tryd.func33, Tryd.ntmps33
  go_wp2_with fail
  generalize ((w.alloc (.cells #[.slice A n c] 24)).alloc (.cells #[.slice B m d] 24)).alloc (.cells #[.slice none 0 0] 24) = W0 at *
  have B0 : Hid (Below w.heap.size w W0.drew) := below_drew' hb0
  have hp2 : w.heap.size + 1 + 1 < W0.heap.size := by omega
  have HQ2 := Lib.hid q2
  have HQ3 := Lib.hid q3
  clear hsz hb0 q2 q3
  go_region_held3 (fun w' => w'.cell? ⟨w.heap.size, 0, none⟩ = some (.slice A n c) ∧ w'.cell? ⟨w.heap.size + 1, 0, none⟩ = some (.slice B m d)) (first | exact ⟨q0, q1⟩ | exact ⟨r0, r1⟩ | exact ⟨s0, s1⟩ | exact ⟨y0, y1⟩ | exact ⟨z0, z1⟩ | exact ⟨(World.cell?_setCell_other _ _ _ _ (by simp)).trans z0, (World.cell?_setCell_other _ _ _ _ (by simp)).trans z1⟩ | fail) (first
    | (have _t := B3; go_at_call 48; refine (cut_any w.heap.size (some ⟨g3, 0, none⟩) N3 N3 _ (Nat.le_refl _) (by omega) w3 RO3.out).mono ?_; rintro e w4 ⟨A4, n4, c4, rfl, o4, b4⟩; have B4 : Hid (Below w.heap.size w w4) := B3.out.trans (b4.mono B3.out.size); have HB4 := Lib.hid (K3.out.below b4 b3s); have z0 := cell_on b4 y0 (by show w.heap.size < _; omega); have z1 := cell_on b4 y1 (by show w.heap.size + 1 < _; omega); have O4 := Lib.hid o4; have zc := HB4.out.cell 0; have zf := HB4.out.frozen 0; have b4s : w.heap.size + 1 + 1 < w4.heap.size := (by have := b4.size; omega); clear b4 o4 y0 y1)
    | (have _t := B2; go_at_call 52; refine (joined_andnot A1 A2 n1 c1 n2 c2 _ _ (by omega) (by omega) H6X.out H6Y.out w2 R1'.out R2.out).mono ?_; rintro e w3 ⟨g3, N3, rfl, hl3, hg3, hk3, b3⟩; have B3 : Hid (Below w.heap.size w w3) := B2.out.trans (b3.mono B2.out.size); have K3 := Lib.hid (K2.out.below b3 b2s); have y0 := cell_on b3 s0 (by show w.heap.size < _; omega); have y1 := cell_on b3 s1 (by show w.heap.size + 1 < _; omega); have RO3 : Hid (RO w.heap.size w3 (some ⟨g3, 0, none⟩) N3 (joinW (fun x y => x &&& (18446744073709551615 - y)) (padW (effW xs) n2) (effW ys))) := ⟨hl3, fun _ => ⟨g3, rfl, Nat.le_trans B2.out.size hg3, hk3⟩⟩; have hN3 : N3 ≤ 1000 := (by rw [join_length, pad_length] at hl3; have := HLX.out; have := HLY.out; have := HN2.out; omega); have b3s : w.heap.size + 1 + 1 < w3.heap.size := (by have := b3.size; omega); clear b3 hk3 hg3 hl3 s0 s1)
    | (have _t := B1; go_at_call 41; refine (HWY.out w1 B1.out).mono ?_; rintro e w2 ⟨A2, n2, c2, rfl, r2, b2⟩; have B2 : Hid (Below w.heap.size w w2) := B1.out.trans (b2.mono B1.out.size); have K2 := Lib.hid (K1.out.below b2 b1s); have s0 := cell_on b2 r0 (by show w.heap.size < _; omega); have s1 := cell_on b2 r1 (by show w.heap.size + 1 < _; omega); have HN2 := Lib.hid r2.len; have hn2 : n2 ≤ 157 := (by have := r2.len; have := HLY.out; omega); have b2s : w.heap.size + 1 + 1 < w2.heap.size := (by have := b2.size; omega); have R2 := Lib.hid (r2.more b2.size); have R1' := Lib.hid ((R1.out.below b2).more b2.size); clear r2 b2 r0 r1)
    | (go_at_call 41; refine (HWX.out W0.drew B0.out).mono ?_; rintro e w1 ⟨A1, n1, c1, rfl, r1', b1⟩; have B1 : Hid (Below w.heap.size w w1) := B0.out.trans (b1.mono B0.out.size); have K1 := Lib.hid (HQ3.out.drew.below b1 hp2); have r0 := cell_on b1 q0 (by show w.heap.size < W0.heap.size; omega); have r1 := cell_on b1 q1 (by show w.heap.size + 1 < W0.heap.size; omega); have hn1 : n1 ≤ 157 := (by have := r1'.len; have := HLX.out; omega); have b1s : w.heap.size + 1 + 1 < w1.heap.size := (by have := b1.size; exact Nat.lt_of_lt_of_le hp2 this); have R1 := Lib.hid (r1'.more b1.size); clear r1' b1 q0 q1)
    | fail)
  have hz := World.cell?_setCell_same' w4 ⟨w.heap.size + 1 + 1, 0, none⟩ (.slice A4 n4 c4) (by rw [zc]; rfl)
  have HE := Lib.hid (set_end (c := c4) O4.out HB4.out B4.out (by omega) (HJ.out n2 HN2.out.symm))
  clear HJ HB4 O4 zc zf
  go_wp2_with fail
  exact bodyPost_ret (v := .agg #[.slice A4 n4 c4]) (by simp [results, Tryd.results33, go_sem, hz]) rfl HE.out

/-- Is all of the one in the other one? -/
def withinF (f g : Nat → Bool) : Bool := (List.range 10048).all fun n => !(f n && !g n)
theorem withinF_iff {f g : Nat → Bool} : withinF f g = true ↔ ∀ n, n < 10048 → f n = true → g n = true := by
  unfold withinF
  rw [List.all_eq_true]
  refine ⟨fun h n hn hf => ?_, fun h n hn => ?_⟩
  · have := h n (by simpa using hn)
    rw [hf] at this
    simpa using this
  · have := h n (by simpa using hn)
    cases hf : f n with
    | false => simp
    | true => rw [this hf]; rfl
theorem within_len (f g : Nat → Bool) : withinF f g = decide ((setW fun n => f n && !g n).length = 0) := by
  rw [Bool.eq_iff_iff, decide_eq_true_iff, withinF_iff]
  constructor
  · intro h
    rw [set_none (f := fun n => f n && !g n) fun n hn => ?_]; rfl
    cases hf : f n with
    | false => rfl
    | true => rw [h n hn hf]; rfl
  · intro h n hn hf
    have := set_empty (List.eq_nil_of_length_eq_zero h) hn
    rw [hf] at this
    simpa using this

set_option maxRecDepth 100000 in
set_option maxHeartbeats 2000000 in
theorem within_any (A B : Option Addr) (n c m d : Nat) (xs ys : List Nat) (hx : W64 xs) (hy : W64 ys) (hn : n ≤ 100000) (hm : m ≤ 100000) (w : World) (hA : RW w w.heap.size A n xs) (hB : RW w w.heap.size B m ys) :
    Calls Tryd.prog 35 #[.agg #[.slice A n c], .agg #[.slice B m d]] w fun e w' => e = .returned (.bool (withinF (inW xs) (inW ys))) ∧ Below w.heap.size w w' := by
  have HF := Lib.hid (within_len (inW xs) (inW ys))
  obtain ⟨q0, q1, hsz, hb0⟩ := two_boxes w (.slice A n c) (.slice B m d) 24 24
  have HM := Lib.hid fun W (h : Below w.heap.size w W) => minus_set A B n c m d xs ys hx hy hn hm W ((hA.below h).more h.size) ((hB.below h).more h.size)
  clear hA hB
  go_enter Tryd.func35, Tryd.ntmps35
  go_wp2_with fail
  refine (HM.out _ hb0).mono ?_
  rintro e w1 ⟨A1, n1, c1, rfl, o1, b1⟩
  have HL := Lib.hid o1.1
  have B1 : Hid (Below w.heap.size w w1) := hb0.trans (b1.mono hb0.size)
  have hfd : ∀ (v : Value) (w : World), (Instr.field 24 (.agg #[v]) 0).run Tryd.prog w = .ok v w := fun v w => by kernel_rfl
  clear o1 b1 hb0 hsz q0 q1 HM
  by_cases h0 : n1 = 0
  · have hq : ((n1 : Int) == 0) = true := by simp [h0]
    have H0 := Lib.hid h0
    clear h0
    go_wp2_with fail
    go_ret
    exact ⟨by rw [HF.out, HL.out, decide_eq_true H0.out]; rfl, B1.out⟩
  · have hq : ((n1 : Int) == 0) = false := by simpa using h0
    have H0 := Lib.hid h0
    clear h0
    go_wp2_with fail
    go_ret
    exact ⟨by rw [HF.out, HL.out, decide_eq_false H0.out]; rfl, B1.out⟩
end Go.Proofs.YtpkpfnilfabkaaaDoor
