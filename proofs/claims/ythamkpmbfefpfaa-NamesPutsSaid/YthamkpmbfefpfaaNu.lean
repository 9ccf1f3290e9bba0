/- NamesPuts: the walk. -/
import Derived.Test.YthamkpmbfefpfaaNv
import Derived.Deep.LoopGhost
import Derived.Deep.CutRange
import Derived.Deep.DeepCutAuto
namespace Go.Proofs.Ythamkpmbfefpfaa
open Go.RowKit Go.Shelf

/-- A table that a law can go on with. -/
def GR (r : RS) : Prop := r.n ≤ 301 ∧ r.n ≤ r.c ∧ r.c ≤ 9223372036854775807 ∧ ∀ s ∈ r.l, s.size ≤ 9223372036854775807
/-- What stands behind a Put: what it gave, in memory of its own; what the document asks, in memory made later. -/
structure PV (wP : World) (N B14 : Nat) (g v : RS) (X : World) : Prop where
  below : Below wP.heap.size wP X
  b11 : Blk X N 24 #[.slice g.A g.n g.c]
  b14 : Blk X B14 24 #[.slice v.A v.n v.c]
  got : X.ownsRow wP.heap.size 9 1 (.slice g.A g.n g.c) g.n (strs g.l)
  want : X.ownsRow N 9 1 (.slice v.A v.n v.c) v.n (strs v.l)
  gN : ∀ b, (Value.slice g.A g.n g.c).ownBlock = some b → b < N
  hN : wP.heap.size ≤ N
  h14 : N ≤ B14
theorem PV.on {wP X Y : World} {N B14 : Nat} {g v : RS} (h : PV wP N B14 g v X) (hb : Below X.heap.size X Y) : PV wP N B14 g v Y :=
  ⟨h.below.trans (hb.mono h.below.size), h.b11.below hb h.b11.lt, h.b14.below hb h.b14.lt, own_on h.got hb, own_on h.want hb, h.gN, h.hN, h.h14⟩
theorem PV.set {wP X : World} {N B14 A : Nat} {g v v' : RS} (h : PV wP N B14 g v X) (hA : N ≤ A) (ho : X.ownsRow A 9 1 (.slice v'.A v'.n v'.c) v'.n (strs v'.l)) : N ≠ B14 → PV wP N B14 g v' (X.setCell ⟨B14, 0, none⟩ (.slice v'.A v'.n v'.c)) := fun hne =>
  ⟨h.below.setCell (p := ⟨B14, 0, none⟩) (Nat.le_trans h.hN h.h14) _, h.b11.far (p := ⟨B14, 0, none⟩) hne _, h.b14.set_ 0 _, own_put h.got h.b14 (by decide) _, own_put (own_mono ho hA) h.b14 (by decide) _, h.gN, h.hN, h.h14⟩
/-- The same, when what Put gave has been written over. -/
structure QV (wP : World) (B14 B17 : Nat) (v u : RS) (X : World) : Prop where
  below : Below wP.heap.size wP X
  b14 : Blk X B14 24 #[.slice v.A v.n v.c]
  b17 : Blk X B17 24 #[.slice u.A u.n u.c]
  want : Reads X X.heap.size 1 v.A v.n (strs v.l)
  was : Reads X X.heap.size 1 u.A u.n (strs u.l)
theorem QV.on {wP X Y : World} {B14 B17 : Nat} {v u : RS} (h : QV wP B14 B17 v u X) (hb : Below X.heap.size X Y) : QV wP B14 B17 v u Y :=
  ⟨h.below.trans (hb.mono h.below.size), h.b14.below hb h.b14.lt, h.b17.below hb h.b17.lt, h.want.on_ hb, h.was.on_ hb⟩
theorem PV.far {wP X : World} {N B14 : Nat} {g v : RS} (h : PV wP N B14 g v X) {b : Nat} (hb : N ≤ b) : (Value.slice g.A g.n g.c).ownBlock ≠ some b := fun e => by have := h.gN b e; omega
theorem QV.of {wP W X : World} {N B14 B17 : Nat} {g v u : RS} (h : PV wP N B14 g v W) (hk : Keep (fun b => (Value.slice g.A g.n g.c).ownBlock ≠ some b) W X) (h17 : Blk W B17 24 #[.slice u.A u.n u.c]) (hB : N ≤ B17)
    (hu : W.ownsRow N 9 1 (.slice u.A u.n u.c) u.n (strs u.l)) : QV wP B14 B17 v u X :=
  ⟨h.below.trans (hk.below h.below.size fun k hkk e => by have := (own_in h.got e).1; omega), hk.blk h.b14 (h.far h.h14), hk.blk h17 (h.far hB),
    Reads.of_own (hk.own h.want fun b hb => h.far (own_in h.want hb).1), Reads.of_own (hk.own hu fun b hb => h.far (own_in hu hb).1)⟩
theorem put1_bad {ns : List ByteArray} {s : ByteArray} (h : goodB nameB ns = false) : put1E ns s = 201 := by unfold put1E; rw [h]; rfl
theorem put1_good {ns : List ByteArray} {s : ByteArray} (h : goodB nameB ns = true) : put1E ns s = putE nameB ns s := by unfold put1E; rw [if_pos h]
theorem move_two {a b : List ByteArray} (ha : goodB nameB a = true) (hb : goodB nameB b = true) : moveE nameB a b = if okB a b = true then 0 else 4 := by
  unfold moveE okB
  rw [if_pos ⟨ha, hb⟩]
  by_cases h : ∀ s ∈ a, s ∈ b
  · rw [if_pos h, if_pos (decide_eq_true h)]
  · rw [if_neg h, if_neg (by simp only [decide_eq_true_eq]; exact h)]

set_option maxRecDepth 100000 in
set_option maxHeartbeats 64000000 in
theorem puts_core (A : Option Addr) (n c : Nat) (xs : List ByteArray) (hnc : n ≤ c) (hcm : c ≤ 9223372036854775807) (hsx : ∀ s ∈ xs, s.size ≤ 9223372036854775807)
    (B : Option Addr) (m d : Nat) (ys : List ByteArray) (hmd : m ≤ d) (hdm : d ≤ 9223372036854775807) (hsy : ∀ s ∈ ys, s.size ≤ 9223372036854775807)
    (L : Option Addr) (nl cl : Nat) (ls : List ByteArray) (hnl : nl ≤ 9223372036854775807) (hsl : ∀ s ∈ ls, s.size ≤ 9223372036854775807)
    (w : World) (hA : Reads w w.heap.size 1 A n (strs xs)) (hB : Reads w w.heap.size 1 B m (strs ys)) (hL : Reads w w.heap.size 1 L nl (strs ls)) :
    Calls Try.prog 4 #[.agg #[.slice A n c], .agg #[.slice B m d], .slice L nl cl] w fun e w' => e = .returned (.bool true) ∧ Below w.heap.size w w' := by
  have E0 := Lib.hid (EN.two w A B n c m d xs ys ((EN.start w).addS (c := cl) hL) hA hB)
  have HA := Lib.hid fun W (h : Below w.heap.size w W) => own_r A n c xs hnc hcm W (hA.on_ h)
  have HB := Lib.hid fun W (h : Below w.heap.size w W) => own_r B m d ys hmd hdm W (hB.on_ h)
  have HSX := Lib.hid hsx
  have HSY := Lib.hid hsy
  have HSL := Lib.hid hsl
  have HLL := Lib.hid (strs_len hL)
  clear hA hB hL hsx hsy hsl
  go_enter Try.func4, Try.ntmps4
  go_upto_region 1 with fail
  generalize (w.alloc (.cells #[.slice A n c] 24)).alloc (.cells #[.slice B m d] 24) = W0 at *
  go_wp2_with fail
  refine (wakes10_any W0).mono ?_
  rintro e w1 ⟨rfl, b1⟩
  have E1 := Lib.hid (E0.out.on b1)
  clear b1 E0
  go_wp2_with fail
  refine puts_own _ w1 _ _ _ _ _ _ _ _ _ _ _ (xs.take 301) (ys.take 301) (fun W h => ⟨(E1.out.on h).c0 (.tail _ (.head _)), (E1.out.on h).c0 (.head _)⟩) (fun W h => HA.out W (E1.out.below.trans (h.mono E1.out.below.size))) (fun W h => HB.out W (E1.out.below.trans (h.mono E1.out.below.size))) ?_
  intro w2 st su g0 g1 b2 ea eb i0 i1 d01
  have E2 := Lib.hid (E1.out.boxes b2 [(g0, st), (g1, su)] fun p hp => by
    simp only [List.mem_cons, List.not_mem_nil, or_false] at hp
    rcases hp with rfl | rfl
    · exact i0
    · exact i1)
  have HST : Hid (GR st) := by
    have h1 := strs_len i0.2.1
    rw [ea, List.length_take] at h1
    exact ⟨by omega, i0.2.2.1, i0.2.2.2, fun s hs => HSX.out s (by rw [ea] at hs; exact List.mem_of_mem_take hs)⟩
  have HSU : Hid (GR su) := by
    have h1 := strs_len i1.2.1
    rw [eb, List.length_take] at h1
    exact ⟨by omega, i1.2.2.1, i1.2.2.2, fun s hs => HSY.out s (by rw [eb] at hs; exact List.mem_of_mem_take hs)⟩
  have HEB := Lib.hid eb
  have HG0 : Hid (w.heap.size ≤ g0 ∧ ∀ p ∈ [(g1, su), (w.heap.size + 1, ⟨B, m, d, ys⟩), (w.heap.size, ⟨A, n, c, xs⟩)], p.1 ≠ g0) := by
    have h1 := i0.1.1
    have h2 := (E1.out.tabs _ (.head _)).1.lt
    simp only at h2
    refine ⟨by omega, fun p hp => ?_⟩
    simp only [List.mem_cons, List.not_mem_nil, or_false] at hp
    rcases hp with rfl | rfl | rfl
    · exact fun e => d01 e.symm
    · show w.heap.size + 1 ≠ g0; omega
    · show w.heap.size ≠ g0; omega
  clear b2 ea eb i0 i1 d01 E1 HA HB HSX HSY
  go_wp2_with fail
  go_loopg [32] nl (fun gg s32 wr => ∃ (k : Nat) (r : RS), k + gg = nl ∧ s32 = .int .i64 k ∧ Hid (GR r) ∧ Hid (EN w [(g0, r), (g1, su), (w.heap.size + 1, ⟨B, m, d, ys⟩), (w.heap.size, ⟨A, n, c, xs⟩)] [⟨L, nl, cl, ls⟩] [] wr))
  case atStart => exact ⟨0, st, by omega, rfl, HST, E2⟩
  case round =>
    clear E2 HST
    obtain ⟨k, r, hkg, rfl, HR, E6⟩ := hrel
    rename World => wo
    by_cases hkn : k < nl ∧ k ≠ 8
    · obtain ⟨hkl, hk8⟩ := hkn
      have hlt : (k : Int) < (nl : Int) := by omega
      have h8b : ((k : Int) == 8) = false := by simp; omega
      obtain ⟨s, hs⟩ : ∃ s, ls[k]? = some s := ⟨ls[k]'(by rw [HLL.out]; exact hkl), List.getElem?_eq_getElem _⟩
      obtain ⟨b, o, rfl, _, gv⟩ := str_at (E6.out.rs (.head _)) hs
      have HSS := Lib.hid (HSL.out s (List.mem_of_getElem? hs))
      have HLR : Hid (r.l.length = r.n) := strs_len (E6.out.tr (.head _))
      have HPI := Lib.hid (put1_any r.A r.n r.c r.l s HSS.out (by have := HR.out.1; omega) HR.out.2.2.2 wo (E6.out.tr (.head _)))
      unfold Put1Is at HPI
      obtain ⟨q, hq⟩ : ∃ q, put1E r.l s = q := ⟨_, rfl⟩
      rw [hq] at HPI
      have HQ := Lib.hid hq
      have z0 := E6.out.cr (.head _)
      clear hs hk8 hq
      go_wp2_with fail
      refine HPI.out.mono ?_
      rintro e w5 ⟨A5, n5, c5, k5, gl, rfl, ho, hok, hno, b5⟩
      have HN5 : Hid (n5 ≤ 302 ∧ gl.length = n5) := by
        have h1 := strs_len (Reads.of_own ho)
        refine ⟨?_, h1⟩
        by_cases h : q = 0
        · rw [(hok h).1] at h1
          have h2 := add_len_le (ns := r.l) (s := s)
          have h3 := HLR.out
          have h4 := HR.out.1
          omega
        · rw [(hno h).1] at h1
          simp at h1; omega
      have HP := Lib.hid (And.intro hok hno)
      have HO5 := Lib.hid ho
      have HB5 := Lib.hid b5
      clear hok hno ho b5 HPI z0
      go_upto_region 10 with fail
      obtain ⟨ka, kb, b0, hs6⟩ := ntwo w5 #[.slice A5 n5 c5] #[.slice none 0 0] 24 24
      have V6 : Hid (PV wo w5.heap.size (w5.heap.size + 1) ⟨A5, n5, c5, gl⟩ ⟨none, 0, 0, []⟩ ((w5.alloc (.cells #[.slice A5 n5 c5] 24)).alloc (.cells #[.slice none 0 0] 24))) :=
        ⟨HB5.out.trans (b0.mono HB5.out.size), ka, kb, own_on HO5.out b0, World.ownsRow_nil _ _ _ _, fun b hb => (own_in HO5.out hb).2.1, HB5.out.size, Nat.le_succ _⟩
      have HNE : Hid (w5.heap.size ≠ w5.heap.size + 1) := by show _ ≠ _; omega
      clear ka kb b0 hs6 HO5 HB5 gv
      generalize (w5.alloc (.cells #[.slice A5 n5 c5] 24)).alloc (.cells #[.slice none 0 0] 24) = w6 at *
      generalize w5.heap.size + 1 = B14 at *
      generalize w5.heap.size = B11 at *
      have z0 := (E6.out.on V6.out.below).cr (.head _)
      go_wp2_with fail
      refine (rright_any r.A r.n r.c r.l (by have := HR.out.1; omega) HR.out.2.1 w6 ((E6.out.on V6.out.below).tr (.head _))).mono ?_
      rintro e w7 ⟨rfl, b7⟩
      have V7 := Lib.hid (V6.out.on b7)
      clear b7 V6 z0
      go_upto_if 48 with (fail)
      go_cut [15, 16] (fun s15 s16 wx => ∃ v : RS, s15 = .int .i64 k5 ∧ s16 = .int .i64 q ∧ Hid (v.l = gl) ∧ Hid (PV wo B11 B14 ⟨A5, n5, c5, gl⟩ v wx))
      case first =>
        cases hg : goodB nameB r.l
        · obtain rfl : q = 201 := HQ.out.symm.trans (put1_bad hg)
          obtain ⟨rfl, rfl⟩ := HP.out.2 (by decide)
          clear hg
          go_wp2_with fail
          go_meet
          exact ⟨⟨none, 0, 0, []⟩, rfl, rfl, rfl, V7⟩
        · have hq : putE nameB r.l s = q := (put1_good hg).symm.trans HQ.out
          have hlen : r.l.length ≤ 300 := (good_iff.1 hg).1
          have HO := own_any r.A r.n r.c r.l HR.out.2.1 HR.out.2.2.1 w7 ((E6.out.on V7.out.below).tr (.head _))
          rw [List.take_of_length_le (by omega)] at HO
          have HO := Lib.hid HO
          have hk5 : (if q = 0 then (idxN r.l s : Int) else 0) = k5 := by
            split
            · rename_i h; exact (HP.out.1 h).2.symm
            · rename_i h; exact (HP.out.2 h).2.symm
          have HPU := Lib.hid fun A8 n8 c8 h8 W hW hO => rput_any w7.heap.size A8 n8 c8 r.l s h8 W hW hO
          unfold RPutIs at HPU
          rw [hq, hk5] at HPU
          have HLN : Hid (r.l.length ≤ 300) := hlen
          have z0 := (E6.out.on V7.out.below).cr (.head _)
          clear hg hq hlen hk5
          go_wp2_with fail
          refine HO.out.mono ?_
          rintro e w8 ⟨A8, n8, c8, rfl, ho8, b8⟩
          have V8 := Lib.hid (V7.out.on b8)
          have HN8 : Hid (n8 ≤ 1000) := by have h1 := strs_len (Reads.of_own ho8); have h2 := HLN.out; show _ ≤ _; omega
          have HO8 := Lib.hid ho8
          have HB8 := Lib.hid b8.size
          clear ho8 b8 z0 HO
          go_wp2_with fail
          refine (HPU.out A8 n8 c8 HN8.out w8 HB8.out HO8.out).mono ?_
          rintro e w9 ⟨A9, n9, c9, wl, rfl, ho9, hok9, hno9, b9⟩
          have V9 := Lib.hid (V8.out.on b9)
          have HWL : Hid (wl = gl) := by
            by_cases h : q = 0
            · exact (hok9 h).trans (HP.out.1 h).1.symm
            · exact (hno9 h).trans (HP.out.2 h).1.symm
          have HO9 := Lib.hid ho9
          have c14 := V9.out.b14.cell 0
          have f14 := V9.out.b14.frozen 0
          clear ho9 hok9 hno9 b9 V8 HPU HO8 HB8
          go_wp2_with fail
          go_meet
          exact ⟨⟨A9, n9, c9, wl⟩, rfl, rfl, HWL, V9.out.set (v' := ⟨A9, n9, c9, wl⟩) (Nat.le_of_lt V7.out.b11.lt) HO9.out HNE.out⟩
      case rest =>
        clear V7
        rename World => w9
        obtain ⟨v, rfl, rfl, HVL, V9⟩ := hcut
        have HVN : Hid (v.n = n5) := by have h1 := strs_len (Reads.of_own V9.out.want); have h2 := HN5.out.2; rw [HVL.out] at h1; show _ = _; omega
        have z11 := V9.out.b11.cell 0
        have z14 := V9.out.b14.cell 0
        have HSM := Lib.hid (rsame_any A5 v.A n5 v.n c5 v.c gl v.l (by have := HN5.out.1; omega) (by have := HN5.out.1; have := HVN.out; omega) w9 (Reads.of_own V9.out.got) (Reads.of_own V9.out.want))
        rw [decide_eq_true HVL.out.symm] at HSM
        have hqq : (q != q) = false := by simp
        have hkk : (k5 != k5) = false := by simp
        go_wp2_with fail
        refine HSM.out.mono ?_
        rintro e w10 ⟨rfl, b10⟩
        have V10 := Lib.hid (V9.out.on b10)
        clear b10 V9 HSM z11 z14
        have HO := own_any r.A r.n r.c r.l HR.out.2.1 HR.out.2.2.1 w10 ((E6.out.on V10.out.below).tr (.head _))
        rw [List.take_of_length_le (by have := HLR.out; have := HR.out.1; omega)] at HO
        have HO := Lib.hid HO
        have z0 := (E6.out.on V10.out.below).cr (.head _)
        go_wp2_with fail
        refine HO.out.mono ?_
        rintro e w11 ⟨A11, n11, c11, rfl, ho11, b11⟩
        have V11 := Lib.hid (V10.out.on b11)
        have HO11 : Hid (w11.ownsRow B11 9 1 (.slice A11 n11 c11) n11 (strs r.l)) := own_mono ho11 (Nat.le_of_lt V10.out.b11.lt)
        clear ho11 b11 HO z0
        go_upto_region 15 with fail
        have V12 := Lib.hid (V11.out.on (one_more w11 (.cells #[.slice A11 n11 c11] 24)))
        have K17 : Hid (Blk (w11.alloc (.cells #[.slice A11 n11 c11] 24)) w11.heap.size 24 #[.slice A11 n11 c11]) := Blk.new _ _ _
        have HO12 := Lib.hid (own_on HO11.out (one_more w11 (.cells #[.slice A11 n11 c11] 24)))
        have H17 : Hid (B11 ≤ w11.heap.size) := Nat.le_of_lt V11.out.b11.lt
        clear V10 V11 HO11
        generalize w11.alloc (.cells #[.slice A11 n11 c11] 24) = w12 at *
        generalize w11.heap.size = B17 at *
        have z11 := V12.out.b11.cell 0
        go_wp2_with fail
        clear z11
        go_loopg [76] n5 (fun gg s76 wr => ∃ j : Nat, j + gg = n5 ∧ s76 = .int .i64 j ∧ Hid (Keep (fun b => (Value.slice A5 n5 c5).ownBlock ≠ some b) w12 wr) ∧ Hid (Holes wr A5 n5))
        case atStart => exact ⟨0, by omega, rfl, Keep.refl _ _, Holes.of_own V12.out.got⟩
        case round =>
          obtain ⟨j, hj, rfl, HK, HH⟩ := hrel
          have z11 := (HK.out.blk V12.out.b11 (V12.out.far (Nat.le_refl _))).cell 0
          cases gk with
          | succ g2 =>
            have hjlt : (j : Int) < (n5 : Int) := by omega
            obtain ⟨g, hA5, hf, u, hu⟩ := HH.out j (by omega)
            subst hA5
            have h302 := HN5.out.1
            go_wp2_with fail
            go_roundg g2
            case measure => omega
            case rel => exact ⟨j + 1, by omega, by go_num, HK.out.set (.inr (fun e => e rfl)) _ _, HH.out.set _ _⟩
          | zero =>
            have hjge : ¬ (j : Int) < (n5 : Int) := by omega
            have Q13 : Hid (QV wo B14 B17 v ⟨A11, n11, c11, r.l⟩ wr) := QV.of V12.out HK.out K17.out H17.out HO12.out
            have HW11 : Hid (v.n ≤ v.c ∧ v.c ≤ 9223372036854775807 ∧ n11 ≤ 1000) := by
              have h1 := strs_len (Reads.of_own HO12.out)
              have h2 := own_ok V12.out.want
              have h3 := HLR.out
              have h4 := HR.out.1
              exact ⟨h2.1, h2.2, by omega⟩
            clear HK HH V12 K17 HO12 H17 z11
            have z0 := (E6.out.on Q13.out.below).cr (.head _)
            have z17 := Q13.out.b17.cell 0
            have HSM := Lib.hid (rsame_any r.A A11 r.n n11 r.c c11 r.l r.l (by have := HR.out.1; omega) (by have := HW11.out.2.2; omega) wr ((E6.out.on Q13.out.below).tr (.head _)) Q13.out.was)
            rw [decide_eq_true rfl] at HSM
            go_wp2_with fail
            refine HSM.out.mono ?_
            rintro e w14 ⟨rfl, b14⟩
            have Q14 := Lib.hid (Q13.out.on b14)
            clear b14 Q13 HSM z0 z17
            by_cases hq0 : q = 0
            · subst hq0
              have z14 := Q14.out.b14.cell 0
              have HO := Lib.hid (own_any v.A v.n v.c v.l HW11.out.1 HW11.out.2.1 w14 Q14.out.want)
              go_wp2_with fail
              refine HO.out.mono ?_
              rintro e w15 ⟨A15, n15, c15, rfl, ho15, b15⟩
              have E15 := Lib.hid (E6.out.on (Q14.out.below.trans (b15.mono Q14.out.below.size)))
              have HO15 := Lib.hid ho15
              have HR15 : Hid (GR ⟨A15, n15, c15, v.l.take 301⟩) := by
                have h1 := strs_len (Reads.of_own ho15)
                rw [List.length_take] at h1
                refine ⟨by show n15 ≤ 301; omega, (own_ok ho15).1, (own_ok ho15).2, fun x hx => ?_⟩
                have hx := List.mem_of_mem_take hx
                rw [HVL.out, (HP.out.1 trivial).1] at hx
                rcases mem_add.1 hx with h | rfl
                · exact HR.out.2.2.2 x h
                · exact HSS.out
              have c0 := E15.out.cr (.head _)
              have f0 := (E15.out.tabs _ (.head _)).1.frozen 0
              clear ho15 b15 HO z14 Q14 hqq
              go_wp2_with fail
              go_roundg (nl - (k + 1))
              case measure => omega
              case rel => exact ⟨k + 1, ⟨A15, n15, c15, v.l.take 301⟩, by omega, by go_num, HR15, E15.out.put HG0.out.2 HG0.out.1 (Reads.of_own HO15.out)⟩
            · have hqn : (q == 0) = false := by simp [hq0]
              clear hqq
              go_wp2_with fail
              go_roundg (nl - (k + 1))
              case measure => omega
              case rel => exact ⟨k + 1, r, by omega, by go_num, HR, E6.out.on Q14.out.below⟩
    · have hend : (¬ (k : Int) < (nl : Int)) ∨ ((k : Int) < (nl : Int) ∧ ((k : Int) == 8) = true ∧ ∃ b o s, L = some ⟨b, o, none⟩ ∧ wo.cell? ⟨b, o + k, none⟩ = some (.string s)) := by
        rcases Nat.lt_or_ge k nl with h | h
        · have h8 : k = 8 := Decidable.byContradiction fun h8 => hkn ⟨h, h8⟩
          obtain ⟨s, hs⟩ : ∃ s, ls[k]? = some s := ⟨ls[k]'(by rw [HLL.out]; exact h), List.getElem?_eq_getElem _⟩
          obtain ⟨b, o, e, _, g0⟩ := str_at (E6.out.rs (.head _)) hs
          exact .inr ⟨by omega, by simp; omega, b, o, s, e, g0⟩
        · exact .inl (by omega)
      clear hkn HG0 HSL HLL
      have HLR : Hid (r.l.length = r.n) := strs_len (E6.out.tr (.head _))
      have HM := Lib.hid (move_any r.A r.n r.c r.l (by have := HR.out.1; omega) HR.out.2.2.2 su.A su.n su.c su.l (by have := HSU.out.1; omega) HSU.out.2.2.2 wo (E6.out.tr (.head _)) (E6.out.tr (.tail _ (.head _))))
      unfold MoveIs at HM
      obtain ⟨q, hq⟩ : ∃ q, moveE nameB r.l su.l = q := ⟨_, rfl⟩
      rw [hq] at HM
      have HQ := Lib.hid hq
      clear hq
      have z0 := E6.out.cr (.head _)
      have z1 := E6.out.cr (.tail _ (.head _))
      rcases hend with hge | ⟨hlt, h8b, b, o, s, rfl, gv⟩
      all_goals
        go_wp2_with fail
        refine HM.out.mono ?_
        rintro e w5 ⟨R5, m5, d5, zs5, rfl, ho, hok, hno, b5⟩
        have HM5 : Hid (m5 ≤ 1000) := by
          have h1 := ints_len (Reads.of_own ho)
          show _ ≤ _
          by_cases h : q = 0
          · rw [hok h, nums_len] at h1
            have h3 := HLR.out
            have h4 := HR.out.1
            omega
          · rw [hno h] at h1
            simp at h1; omega
        have HP := Lib.hid (And.intro hok hno)
        have E7 := Lib.hid ((E6.out.on b5).addI (c := d5) (Reads.of_own ho))
        clear hok hno ho b5 E6 HM z0 z1 HLR
        try clear gv
        have z0 := E7.out.cr (.head _)
        have HRR := Lib.hid (rright_any r.A r.n r.c r.l (by have := HR.out.1; omega) HR.out.2.1 w5 (E7.out.tr (.head _)))
        cases hgt : goodB nameB r.l
        · rw [hgt] at HRR
          obtain rfl : q = 201 := HQ.out.symm.trans (move_bad (.inl hgt))
          obtain rfl := HP.out.2 (by decide)
          clear hgt
          go_wp2_with fail
          refine HRR.out.mono ?_
          rintro e w7 ⟨rfl, b7⟩
          have EX := Lib.hid ((E7.out.on b7).addI (A := none) (n := 0) (c := 0) (zs := []) Reads.none_)
          have HMW : Hid (0 ≤ 1000) := by show _ ≤ _; omega
          clear b7 E7 HRR z0
          go_upto_region 34 with fail
          refine wp_region_noPanic ?_
          refine wp_region_held_drew (S := fun W => W.cell? ⟨g1, 0, none⟩ = some (.slice su.A su.n su.c) ∧ W.cell? ⟨w.heap.size + 1, 0, none⟩ = some (.slice B m d)) (by kernel_rfl) ⟨EX.out.drew.cr (.tail _ (.head _)), EX.out.drew.c0 (.tail _ (.tail _ (.head _)))⟩ (fun hHeld => ?_)
          have E0 := Lib.hid EX.out.drew
          clear EX
          refine wpAnyH_take (i := 0) (oi := { dst := some 112, op := Op.move (Operand.tmp 20), type := 29, pos := "law.go:109", after := #[], guard := none }) (v := .int .i64 201) rfl (by kernel_rfl) (by kernel_rfl) (by kernel_rfl) (fun _ _ _ h => h) (Or.inl ⟨by kernel_rfl, fun w' hSw => by (try dsimp only at hSw); go_simp⟩) (by assumption) ?_
          try simp only [Act.put, List.setIfInBounds_toArray, List.set_cons_zero, List.set_cons_succ]
          refine wpAnyH_take (i := 1) (oi := { dst := some 113, op := Op.move (Operand.tmp 22), type := 29, pos := "law.go:109", after := #[], guard := none }) (v := .int .i64 201) rfl (by kernel_rfl) (by kernel_rfl) (by kernel_rfl) (fun _ _ _ h => h) (Or.inl ⟨by kernel_rfl, fun w' hSw => by (try dsimp only at hSw); go_simp⟩) (by assumption) ?_
          try simp only [Act.put, List.setIfInBounds_toArray, List.set_cons_zero, List.set_cons_succ]
          refine wpAnyH_take (i := 2) (oi := { dst := some 114, op := Op.binOp BinOp.eql 29 (Operand.tmp 112) (Operand.tmp 113) 29, type := 4, pos := "law.go:109", after := #[{ on := 0, ground := Ground.data }, { on := 1, ground := Ground.data }], guard := none }) (v := .bool true) rfl (by kernel_rfl) (by kernel_rfl) (by kernel_rfl) (fun _ _ _ h => h) (Or.inl ⟨by kernel_rfl, fun w' hSw => by (try dsimp only at hSw); go_simp⟩) (by assumption) ?_
          try simp only [Act.put, List.setIfInBounds_toArray, List.set_cons_zero, List.set_cons_succ]
          refine wpAnyH_take (i := 3) (oi := { dst := some 115, op := Op.move (Operand.tmp 114), type := 4, pos := "law.go:109", after := #[{ on := 2, ground := Ground.data }], guard := none }) (v := .bool true) rfl (by kernel_rfl) (by kernel_rfl) (by kernel_rfl) (fun _ _ _ h => h) (Or.inl ⟨by kernel_rfl, fun w' hSw => by (try dsimp only at hSw); go_simp⟩) (by assumption) ?_
          try simp only [Act.put, List.setIfInBounds_toArray, List.set_cons_zero, List.set_cons_succ]
          refine wpAnyH_take (i := 4) (oi := { dst := some 116, op := Op.move (Operand.tmp 19), type := 25, pos := "law.go:109", after := #[{ on := 3, ground := Ground.guard }], guard := some (3, true) }) (v := .slice R5 m5 d5) rfl (by kernel_rfl) (by kernel_rfl) (by kernel_rfl) (fun _ _ _ h => h) (Or.inl ⟨by kernel_rfl, fun w' hSw => by (try dsimp only at hSw); go_simp⟩) (by assumption) ?_
          try simp only [Act.put, List.setIfInBounds_toArray, List.set_cons_zero, List.set_cons_succ]
          refine wpAnyH_take (i := 5) (oi := { dst := some 117, op := Op.move (Operand.tmp 21), type := 25, pos := "law.go:109", after := #[{ on := 3, ground := Ground.guard }], guard := some (3, true) }) (v := .slice none 0 0) rfl (by kernel_rfl) (by kernel_rfl) (by kernel_rfl) (fun _ _ _ h => h) (Or.inl ⟨by kernel_rfl, fun w' hSw => by (try dsimp only at hSw); go_simp⟩) (by assumption) ?_
          try simp only [Act.put, List.setIfInBounds_toArray, List.set_cons_zero, List.set_cons_succ]
          refine wpAnyH_ready (rs := [6]) (by kernel_rfl) (by simp) ?_
          refine AllReadyH.cons (o := { dst := some 118, op := Op.call { callee := Callee.value (Operand.func 22), args := #[Operand.tmp 116, Operand.tmp 117], argTypes := #[25, 25] }, type := 4, pos := "law.go:109", after := #[{ on := 4, ground := Ground.data }, { on := 5, ground := Ground.data }, { on := 3, ground := Ground.chain }, { on := 3, ground := Ground.guard }], guard := some (3, true) }) rfl (fun K hK => ?_) ?_
          · skip
            go_simp
            have HQE := Lib.hid (eqi_any R5 none m5 0 d5 0 [] [] (by have := HM5.out; omega) (by have := HMW.out; omega) _ (E0.out.ri (.tail _ (.head _))) (E0.out.ri (.head _)))
            rw [decide_eq_true rfl] at HQE
            refine HQE.out.mono ?_
            rintro e u1 ⟨rfl, b9⟩
            have E1 := Lib.hid (E0.out.on b9)
            clear b9 hHeld HQE E0
            refine hK.out _ _ ⟨E1.out.cr (.tail _ (.head _)), E1.out.c0 (.tail _ (.tail _ (.head _)))⟩ (fun hHeld => ?_)
            clear hK K
            try simp only [Act.put, List.setIfInBounds_toArray, List.set_cons_zero, List.set_cons_succ]
            refine wpAnyH_take (i := 7) (oi := { dst := some 119, op := Op.pick (Operand.tmp 115) (Operand.tmp 118) (Operand.const (Value.bool false)), type := 4, pos := "law.go:109", after := #[{ on := 3, ground := Ground.data }, { on := 6, ground := Ground.data }], guard := none }) (v := .bool true) rfl (by kernel_rfl) (by kernel_rfl) (by kernel_rfl) (fun _ _ _ h => h) (Or.inl ⟨by kernel_rfl, fun w' hSw => by (try dsimp only at hSw); go_simp⟩) (by assumption) ?_
            try simp only [Act.put, List.setIfInBounds_toArray, List.set_cons_zero, List.set_cons_succ]
            refine wpAnyH_take (i := 8) (oi := { dst := some 120, op := Op.move (Operand.tmp 119), type := 4, pos := "law.go:109", after := #[{ on := 7, ground := Ground.data }, { on := 6, ground := Ground.chain }], guard := none }) (v := .bool true) rfl (by kernel_rfl) (by kernel_rfl) (by kernel_rfl) (fun _ _ _ h => h) (Or.inl ⟨by kernel_rfl, fun w' hSw => by (try dsimp only at hSw); go_simp⟩) (by assumption) ?_
            try simp only [Act.put, List.setIfInBounds_toArray, List.set_cons_zero, List.set_cons_succ]
            refine wpAnyH_take (i := 9) (oi := { dst := some 121, op := Op.load 24 (Operand.tmp 8), type := 24, pos := "law.go:109", after := #[{ on := 8, ground := Ground.guard }], guard := some (8, true) }) (v := .agg #[.slice su.A su.n su.c]) rfl (by kernel_rfl) (by kernel_rfl) (by kernel_rfl) (fun _ _ _ h => h) (Or.inl ⟨by kernel_rfl, fun w' hSw => by (try dsimp only at hSw); go_simp⟩) (by assumption) ?_
            try simp only [Act.put, List.setIfInBounds_toArray, List.set_cons_zero, List.set_cons_succ]
            refine wpAnyH_take (i := 10) (oi := { dst := some 122, op := Op.load 24 (Operand.tmp 4), type := 24, pos := "law.go:109", after := #[{ on := 8, ground := Ground.guard }], guard := some (8, true) }) (v := .agg #[.slice B m d]) rfl (by kernel_rfl) (by kernel_rfl) (by kernel_rfl) (fun _ _ _ h => h) (Or.inl ⟨by kernel_rfl, fun w' hSw => by (try dsimp only at hSw); go_simp⟩) (by assumption) ?_
            try simp only [Act.put, List.setIfInBounds_toArray, List.set_cons_zero, List.set_cons_succ]
            refine wpAnyH_ready (rs := [11]) (by kernel_rfl) (by simp) ?_
            refine AllReadyH.cons (o := { dst := some 123, op := Op.call { callee := Callee.value (Operand.func 9), args := #[Operand.tmp 122], argTypes := #[24] }, type := 24, pos := "law.go:109", after := #[{ on := 10, ground := Ground.data }, { on := 8, ground := Ground.chain }, { on := 8, ground := Ground.guard }], guard := some (8, true) }) rfl (fun K hK => ?_) ?_
            · skip
              go_simp
              refine (own_any B m d ys hmd hdm _ (E1.out.tb (.tail _ (.tail _ (.head _))))).mono ?_
              rintro e u2 ⟨A9, n9, c9, rfl, ho, b9⟩
              have HN9 : Hid (n9 ≤ 301) := by have h1 := strs_len (Reads.of_own ho); rw [List.length_take] at h1; show _ ≤ _; omega
              have E2 := Lib.hid ((E1.out.on b9).addS (c := c9) (Reads.of_own ho))
              clear ho b9 hHeld E1
              refine hK.out _ _ ⟨E2.out.cr (.tail _ (.head _)), E2.out.c0 (.tail _ (.tail _ (.head _)))⟩ (fun hHeld => ?_)
              clear hK K
              try simp only [Act.put, List.setIfInBounds_toArray, List.set_cons_zero, List.set_cons_succ]
              refine wpAnyH_ready (rs := [12]) (by kernel_rfl) (by simp) ?_
              refine AllReadyH.cons (o := { dst := some 124, op := Op.call { callee := Callee.value (Operand.func 17), args := #[Operand.tmp 121, Operand.tmp 123], argTypes := #[24, 24] }, type := 4, pos := "law.go:109", after := #[{ on := 9, ground := Ground.data }, { on := 11, ground := Ground.data }, { on := 11, ground := Ground.chain }, { on := 8, ground := Ground.guard }], guard := some (8, true) }) rfl (fun K hK => ?_) ?_
              · skip
                go_simp
                have HQE := Lib.hid (rsame_any su.A A9 su.n n9 su.c c9 su.l (ys.take 301) (by have := HSU.out.1; omega) (by have := HN9.out; omega) _ (E2.out.tr (.tail _ (.head _))) (E2.out.rs (.head _)))
                rw [decide_eq_true HEB.out] at HQE
                refine HQE.out.mono ?_
                rintro e u3 ⟨rfl, b9⟩
                have E3 := Lib.hid (E2.out.on b9)
                clear b9 hHeld HQE E2
                refine hK.out _ _ ⟨E3.out.cr (.tail _ (.head _)), E3.out.c0 (.tail _ (.tail _ (.head _)))⟩ (fun hHeld => ?_)
                clear hK K
                try simp only [Act.put, List.setIfInBounds_toArray, List.set_cons_zero, List.set_cons_succ]
                refine wpAnyH_take (i := 13) (oi := { dst := some 125, op := Op.pick (Operand.tmp 120) (Operand.tmp 124) (Operand.const (Value.bool false)), type := 4, pos := "law.go:109", after := #[{ on := 8, ground := Ground.data }, { on := 12, ground := Ground.data }], guard := none }) (v := .bool true) rfl (by kernel_rfl) (by kernel_rfl) (by kernel_rfl) (fun _ _ _ h => h) (Or.inl ⟨by kernel_rfl, fun w' hSw => by (try dsimp only at hSw); go_simp⟩) (by assumption) ?_
                try simp only [Act.put, List.setIfInBounds_toArray, List.set_cons_zero, List.set_cons_succ]
                refine wpAnyH_take (i := 14) (oi := { dst := some 6, op := Op.assign (Operand.tmp 125), type := 4, pos := "law.go:109", after := #[{ on := 13, ground := Ground.data }, { on := 12, ground := Ground.chain }, { on := 0, ground := Ground.phase }, { on := 1, ground := Ground.phase }, { on := 2, ground := Ground.phase }, { on := 3, ground := Ground.phase }, { on := 4, ground := Ground.phase }, { on := 5, ground := Ground.phase }, { on := 6, ground := Ground.phase }, { on := 7, ground := Ground.phase }, { on := 8, ground := Ground.phase }, { on := 9, ground := Ground.phase }, { on := 10, ground := Ground.phase }, { on := 11, ground := Ground.phase }, { on := 12, ground := Ground.phase }, { on := 13, ground := Ground.phase }], guard := none }) (v := .bool true) rfl (by kernel_rfl) (by kernel_rfl) (by kernel_rfl) (fun _ _ _ h => h) (Or.inl ⟨by kernel_rfl, fun w' hSw => by (try dsimp only at hSw); go_simp⟩) (by assumption) ?_
                try simp only [Act.put, List.setIfInBounds_toArray, List.set_cons_zero, List.set_cons_succ]
                refine wpAnyH_done (by kernel_rfl) ?_ _
                refine NoPanic.normal ?_
                clear hHeld
                go_wp2_with fail
                go_ret
                exact ⟨rfl, E3.out.below⟩
              exact AllReadyH.nil
            exact AllReadyH.nil
          exact AllReadyH.nil
        · rw [hgt] at HRR
          have HGT := Lib.hid hgt
          clear hgt
          go_wp2_with fail
          refine HRR.out.mono ?_
          rintro e w7 ⟨rfl, b7⟩
          have E8 := Lib.hid (E7.out.on b7)
          clear b7 E7 HRR z0
          have z1 := E8.out.cr (.tail _ (.head _))
          have HRR := Lib.hid (rright_any su.A su.n su.c su.l (by have := HSU.out.1; omega) HSU.out.2.1 w7 (E8.out.tr (.tail _ (.head _))))
          cases hgu : goodB nameB su.l
          · rw [hgu] at HRR
            obtain rfl : q = 201 := HQ.out.symm.trans (move_bad (.inr hgu))
            obtain rfl := HP.out.2 (by decide)
            clear hgu
            go_wp2_with fail
            refine HRR.out.mono ?_
            rintro e w9 ⟨rfl, b9⟩
            have EX := Lib.hid ((E8.out.on b9).addI (A := none) (n := 0) (c := 0) (zs := []) Reads.none_)
            have HMW : Hid (0 ≤ 1000) := by show _ ≤ _; omega
            clear b9 E8 HRR z1
            go_upto_region 34 with fail
            refine wp_region_noPanic ?_
            refine wp_region_held_drew (S := fun W => W.cell? ⟨g1, 0, none⟩ = some (.slice su.A su.n su.c) ∧ W.cell? ⟨w.heap.size + 1, 0, none⟩ = some (.slice B m d)) (by kernel_rfl) ⟨EX.out.drew.cr (.tail _ (.head _)), EX.out.drew.c0 (.tail _ (.tail _ (.head _)))⟩ (fun hHeld => ?_)
            have E0 := Lib.hid EX.out.drew
            clear EX
            refine wpAnyH_take (i := 0) (oi := { dst := some 112, op := Op.move (Operand.tmp 20), type := 29, pos := "law.go:109", after := #[], guard := none }) (v := .int .i64 201) rfl (by kernel_rfl) (by kernel_rfl) (by kernel_rfl) (fun _ _ _ h => h) (Or.inl ⟨by kernel_rfl, fun w' hSw => by (try dsimp only at hSw); go_simp⟩) (by assumption) ?_
            try simp only [Act.put, List.setIfInBounds_toArray, List.set_cons_zero, List.set_cons_succ]
            refine wpAnyH_take (i := 1) (oi := { dst := some 113, op := Op.move (Operand.tmp 22), type := 29, pos := "law.go:109", after := #[], guard := none }) (v := .int .i64 201) rfl (by kernel_rfl) (by kernel_rfl) (by kernel_rfl) (fun _ _ _ h => h) (Or.inl ⟨by kernel_rfl, fun w' hSw => by (try dsimp only at hSw); go_simp⟩) (by assumption) ?_
            try simp only [Act.put, List.setIfInBounds_toArray, List.set_cons_zero, List.set_cons_succ]
            refine wpAnyH_take (i := 2) (oi := { dst := some 114, op := Op.binOp BinOp.eql 29 (Operand.tmp 112) (Operand.tmp 113) 29, type := 4, pos := "law.go:109", after := #[{ on := 0, ground := Ground.data }, { on := 1, ground := Ground.data }], guard := none }) (v := .bool true) rfl (by kernel_rfl) (by kernel_rfl) (by kernel_rfl) (fun _ _ _ h => h) (Or.inl ⟨by kernel_rfl, fun w' hSw => by (try dsimp only at hSw); go_simp⟩) (by assumption) ?_
            try simp only [Act.put, List.setIfInBounds_toArray, List.set_cons_zero, List.set_cons_succ]
            refine wpAnyH_take (i := 3) (oi := { dst := some 115, op := Op.move (Operand.tmp 114), type := 4, pos := "law.go:109", after := #[{ on := 2, ground := Ground.data }], guard := none }) (v := .bool true) rfl (by kernel_rfl) (by kernel_rfl) (by kernel_rfl) (fun _ _ _ h => h) (Or.inl ⟨by kernel_rfl, fun w' hSw => by (try dsimp only at hSw); go_simp⟩) (by assumption) ?_
            try simp only [Act.put, List.setIfInBounds_toArray, List.set_cons_zero, List.set_cons_succ]
            refine wpAnyH_take (i := 4) (oi := { dst := some 116, op := Op.move (Operand.tmp 19), type := 25, pos := "law.go:109", after := #[{ on := 3, ground := Ground.guard }], guard := some (3, true) }) (v := .slice R5 m5 d5) rfl (by kernel_rfl) (by kernel_rfl) (by kernel_rfl) (fun _ _ _ h => h) (Or.inl ⟨by kernel_rfl, fun w' hSw => by (try dsimp only at hSw); go_simp⟩) (by assumption) ?_
            try simp only [Act.put, List.setIfInBounds_toArray, List.set_cons_zero, List.set_cons_succ]
            refine wpAnyH_take (i := 5) (oi := { dst := some 117, op := Op.move (Operand.tmp 21), type := 25, pos := "law.go:109", after := #[{ on := 3, ground := Ground.guard }], guard := some (3, true) }) (v := .slice none 0 0) rfl (by kernel_rfl) (by kernel_rfl) (by kernel_rfl) (fun _ _ _ h => h) (Or.inl ⟨by kernel_rfl, fun w' hSw => by (try dsimp only at hSw); go_simp⟩) (by assumption) ?_
            try simp only [Act.put, List.setIfInBounds_toArray, List.set_cons_zero, List.set_cons_succ]
            refine wpAnyH_ready (rs := [6]) (by kernel_rfl) (by simp) ?_
            refine AllReadyH.cons (o := { dst := some 118, op := Op.call { callee := Callee.value (Operand.func 22), args := #[Operand.tmp 116, Operand.tmp 117], argTypes := #[25, 25] }, type := 4, pos := "law.go:109", after := #[{ on := 4, ground := Ground.data }, { on := 5, ground := Ground.data }, { on := 3, ground := Ground.chain }, { on := 3, ground := Ground.guard }], guard := some (3, true) }) rfl (fun K hK => ?_) ?_
            · skip
              go_simp
              have HQE := Lib.hid (eqi_any R5 none m5 0 d5 0 [] [] (by have := HM5.out; omega) (by have := HMW.out; omega) _ (E0.out.ri (.tail _ (.head _))) (E0.out.ri (.head _)))
              rw [decide_eq_true rfl] at HQE
              refine HQE.out.mono ?_
              rintro e u1 ⟨rfl, b9⟩
              have E1 := Lib.hid (E0.out.on b9)
              clear b9 hHeld HQE E0
              refine hK.out _ _ ⟨E1.out.cr (.tail _ (.head _)), E1.out.c0 (.tail _ (.tail _ (.head _)))⟩ (fun hHeld => ?_)
              clear hK K
              try simp only [Act.put, List.setIfInBounds_toArray, List.set_cons_zero, List.set_cons_succ]
              refine wpAnyH_take (i := 7) (oi := { dst := some 119, op := Op.pick (Operand.tmp 115) (Operand.tmp 118) (Operand.const (Value.bool false)), type := 4, pos := "law.go:109", after := #[{ on := 3, ground := Ground.data }, { on := 6, ground := Ground.data }], guard := none }) (v := .bool true) rfl (by kernel_rfl) (by kernel_rfl) (by kernel_rfl) (fun _ _ _ h => h) (Or.inl ⟨by kernel_rfl, fun w' hSw => by (try dsimp only at hSw); go_simp⟩) (by assumption) ?_
              try simp only [Act.put, List.setIfInBounds_toArray, List.set_cons_zero, List.set_cons_succ]
              refine wpAnyH_take (i := 8) (oi := { dst := some 120, op := Op.move (Operand.tmp 119), type := 4, pos := "law.go:109", after := #[{ on := 7, ground := Ground.data }, { on := 6, ground := Ground.chain }], guard := none }) (v := .bool true) rfl (by kernel_rfl) (by kernel_rfl) (by kernel_rfl) (fun _ _ _ h => h) (Or.inl ⟨by kernel_rfl, fun w' hSw => by (try dsimp only at hSw); go_simp⟩) (by assumption) ?_
              try simp only [Act.put, List.setIfInBounds_toArray, List.set_cons_zero, List.set_cons_succ]
              refine wpAnyH_take (i := 9) (oi := { dst := some 121, op := Op.load 24 (Operand.tmp 8), type := 24, pos := "law.go:109", after := #[{ on := 8, ground := Ground.guard }], guard := some (8, true) }) (v := .agg #[.slice su.A su.n su.c]) rfl (by kernel_rfl) (by kernel_rfl) (by kernel_rfl) (fun _ _ _ h => h) (Or.inl ⟨by kernel_rfl, fun w' hSw => by (try dsimp only at hSw); go_simp⟩) (by assumption) ?_
              try simp only [Act.put, List.setIfInBounds_toArray, List.set_cons_zero, List.set_cons_succ]
              refine wpAnyH_take (i := 10) (oi := { dst := some 122, op := Op.load 24 (Operand.tmp 4), type := 24, pos := "law.go:109", after := #[{ on := 8, ground := Ground.guard }], guard := some (8, true) }) (v := .agg #[.slice B m d]) rfl (by kernel_rfl) (by kernel_rfl) (by kernel_rfl) (fun _ _ _ h => h) (Or.inl ⟨by kernel_rfl, fun w' hSw => by (try dsimp only at hSw); go_simp⟩) (by assumption) ?_
              try simp only [Act.put, List.setIfInBounds_toArray, List.set_cons_zero, List.set_cons_succ]
              refine wpAnyH_ready (rs := [11]) (by kernel_rfl) (by simp) ?_
              refine AllReadyH.cons (o := { dst := some 123, op := Op.call { callee := Callee.value (Operand.func 9), args := #[Operand.tmp 122], argTypes := #[24] }, type := 24, pos := "law.go:109", after := #[{ on := 10, ground := Ground.data }, { on := 8, ground := Ground.chain }, { on := 8, ground := Ground.guard }], guard := some (8, true) }) rfl (fun K hK => ?_) ?_
              · skip
                go_simp
                refine (own_any B m d ys hmd hdm _ (E1.out.tb (.tail _ (.tail _ (.head _))))).mono ?_
                rintro e u2 ⟨A9, n9, c9, rfl, ho, b9⟩
                have HN9 : Hid (n9 ≤ 301) := by have h1 := strs_len (Reads.of_own ho); rw [List.length_take] at h1; show _ ≤ _; omega
                have E2 := Lib.hid ((E1.out.on b9).addS (c := c9) (Reads.of_own ho))
                clear ho b9 hHeld E1
                refine hK.out _ _ ⟨E2.out.cr (.tail _ (.head _)), E2.out.c0 (.tail _ (.tail _ (.head _)))⟩ (fun hHeld => ?_)
                clear hK K
                try simp only [Act.put, List.setIfInBounds_toArray, List.set_cons_zero, List.set_cons_succ]
                refine wpAnyH_ready (rs := [12]) (by kernel_rfl) (by simp) ?_
                refine AllReadyH.cons (o := { dst := some 124, op := Op.call { callee := Callee.value (Operand.func 17), args := #[Operand.tmp 121, Operand.tmp 123], argTypes := #[24, 24] }, type := 4, pos := "law.go:109", after := #[{ on := 9, ground := Ground.data }, { on := 11, ground := Ground.data }, { on := 11, ground := Ground.chain }, { on := 8, ground := Ground.guard }], guard := some (8, true) }) rfl (fun K hK => ?_) ?_
                · skip
                  go_simp
                  have HQE := Lib.hid (rsame_any su.A A9 su.n n9 su.c c9 su.l (ys.take 301) (by have := HSU.out.1; omega) (by have := HN9.out; omega) _ (E2.out.tr (.tail _ (.head _))) (E2.out.rs (.head _)))
                  rw [decide_eq_true HEB.out] at HQE
                  refine HQE.out.mono ?_
                  rintro e u3 ⟨rfl, b9⟩
                  have E3 := Lib.hid (E2.out.on b9)
                  clear b9 hHeld HQE E2
                  refine hK.out _ _ ⟨E3.out.cr (.tail _ (.head _)), E3.out.c0 (.tail _ (.tail _ (.head _)))⟩ (fun hHeld => ?_)
                  clear hK K
                  try simp only [Act.put, List.setIfInBounds_toArray, List.set_cons_zero, List.set_cons_succ]
                  refine wpAnyH_take (i := 13) (oi := { dst := some 125, op := Op.pick (Operand.tmp 120) (Operand.tmp 124) (Operand.const (Value.bool false)), type := 4, pos := "law.go:109", after := #[{ on := 8, ground := Ground.data }, { on := 12, ground := Ground.data }], guard := none }) (v := .bool true) rfl (by kernel_rfl) (by kernel_rfl) (by kernel_rfl) (fun _ _ _ h => h) (Or.inl ⟨by kernel_rfl, fun w' hSw => by (try dsimp only at hSw); go_simp⟩) (by assumption) ?_
                  try simp only [Act.put, List.setIfInBounds_toArray, List.set_cons_zero, List.set_cons_succ]
                  refine wpAnyH_take (i := 14) (oi := { dst := some 6, op := Op.assign (Operand.tmp 125), type := 4, pos := "law.go:109", after := #[{ on := 13, ground := Ground.data }, { on := 12, ground := Ground.chain }, { on := 0, ground := Ground.phase }, { on := 1, ground := Ground.phase }, { on := 2, ground := Ground.phase }, { on := 3, ground := Ground.phase }, { on := 4, ground := Ground.phase }, { on := 5, ground := Ground.phase }, { on := 6, ground := Ground.phase }, { on := 7, ground := Ground.phase }, { on := 8, ground := Ground.phase }, { on := 9, ground := Ground.phase }, { on := 10, ground := Ground.phase }, { on := 11, ground := Ground.phase }, { on := 12, ground := Ground.phase }, { on := 13, ground := Ground.phase }], guard := none }) (v := .bool true) rfl (by kernel_rfl) (by kernel_rfl) (by kernel_rfl) (fun _ _ _ h => h) (Or.inl ⟨by kernel_rfl, fun w' hSw => by (try dsimp only at hSw); go_simp⟩) (by assumption) ?_
                  try simp only [Act.put, List.setIfInBounds_toArray, List.set_cons_zero, List.set_cons_succ]
                  refine wpAnyH_done (by kernel_rfl) ?_ _
                  refine NoPanic.normal ?_
                  clear hHeld
                  go_wp2_with fail
                  go_ret
                  exact ⟨rfl, E3.out.below⟩
                exact AllReadyH.nil
              exact AllReadyH.nil
            exact AllReadyH.nil
          · rw [hgu] at HRR
            have HQ2 := Lib.hid (HQ.out.symm.trans (move_two HGT.out hgu))
            clear hgu
            go_wp2_with fail
            refine HRR.out.mono ?_
            rintro e w9 ⟨rfl, b9⟩
            have E9 := Lib.hid (E8.out.on b9)
            clear b9 E8 HRR z1
            have z0 := E9.out.cr (.head _)
            have z1 := E9.out.cr (.tail _ (.head _))
            have HRM := Lib.hid (rmove_any r.A r.n r.c r.l (by have := HR.out.1; omega) su.A su.n su.c su.l (by have := HSU.out.1; omega) w9 (E9.out.tr (.head _)) (E9.out.tr (.tail _ (.head _))))
            unfold RMoveIs at HRM
            cases hok : okB r.l su.l
            · rw [hok] at HRM HQ2
              obtain rfl : q = 4 := HQ2.out
              obtain rfl := HP.out.2 (by decide)
              clear hok
              go_wp2_with fail
              refine HRM.out.mono ?_
              rintro e w11 ⟨RW, mW, dW, zsW, rfl, ho, hz, b11⟩
              obtain rfl : zsW = [] := hz
              have EX := Lib.hid ((E9.out.on b11).addI (c := dW) (Reads.of_own ho))
              have HMW : Hid (mW ≤ 1000) := by have h1 := ints_len (EX.out.ri (.head _)); have h2 := ints_len (EX.out.ri (.tail _ (.head _))); have h3 := HM5.out; show _ ≤ _; omega
              clear ho b11 E9 HRM z0 z1
              go_upto_region 34 with fail
              refine wp_region_noPanic ?_
              refine wp_region_held_drew (S := fun W => W.cell? ⟨g1, 0, none⟩ = some (.slice su.A su.n su.c) ∧ W.cell? ⟨w.heap.size + 1, 0, none⟩ = some (.slice B m d)) (by kernel_rfl) ⟨EX.out.drew.cr (.tail _ (.head _)), EX.out.drew.c0 (.tail _ (.tail _ (.head _)))⟩ (fun hHeld => ?_)
              have E0 := Lib.hid EX.out.drew
              clear EX
              refine wpAnyH_take (i := 0) (oi := { dst := some 112, op := Op.move (Operand.tmp 20), type := 29, pos := "law.go:109", after := #[], guard := none }) (v := .int .i64 4) rfl (by kernel_rfl) (by kernel_rfl) (by kernel_rfl) (fun _ _ _ h => h) (Or.inl ⟨by kernel_rfl, fun w' hSw => by (try dsimp only at hSw); go_simp⟩) (by assumption) ?_
              try simp only [Act.put, List.setIfInBounds_toArray, List.set_cons_zero, List.set_cons_succ]
              refine wpAnyH_take (i := 1) (oi := { dst := some 113, op := Op.move (Operand.tmp 22), type := 29, pos := "law.go:109", after := #[], guard := none }) (v := .int .i64 4) rfl (by kernel_rfl) (by kernel_rfl) (by kernel_rfl) (fun _ _ _ h => h) (Or.inl ⟨by kernel_rfl, fun w' hSw => by (try dsimp only at hSw); go_simp⟩) (by assumption) ?_
              try simp only [Act.put, List.setIfInBounds_toArray, List.set_cons_zero, List.set_cons_succ]
              refine wpAnyH_take (i := 2) (oi := { dst := some 114, op := Op.binOp BinOp.eql 29 (Operand.tmp 112) (Operand.tmp 113) 29, type := 4, pos := "law.go:109", after := #[{ on := 0, ground := Ground.data }, { on := 1, ground := Ground.data }], guard := none }) (v := .bool true) rfl (by kernel_rfl) (by kernel_rfl) (by kernel_rfl) (fun _ _ _ h => h) (Or.inl ⟨by kernel_rfl, fun w' hSw => by (try dsimp only at hSw); go_simp⟩) (by assumption) ?_
              try simp only [Act.put, List.setIfInBounds_toArray, List.set_cons_zero, List.set_cons_succ]
              refine wpAnyH_take (i := 3) (oi := { dst := some 115, op := Op.move (Operand.tmp 114), type := 4, pos := "law.go:109", after := #[{ on := 2, ground := Ground.data }], guard := none }) (v := .bool true) rfl (by kernel_rfl) (by kernel_rfl) (by kernel_rfl) (fun _ _ _ h => h) (Or.inl ⟨by kernel_rfl, fun w' hSw => by (try dsimp only at hSw); go_simp⟩) (by assumption) ?_
              try simp only [Act.put, List.setIfInBounds_toArray, List.set_cons_zero, List.set_cons_succ]
              refine wpAnyH_take (i := 4) (oi := { dst := some 116, op := Op.move (Operand.tmp 19), type := 25, pos := "law.go:109", after := #[{ on := 3, ground := Ground.guard }], guard := some (3, true) }) (v := .slice R5 m5 d5) rfl (by kernel_rfl) (by kernel_rfl) (by kernel_rfl) (fun _ _ _ h => h) (Or.inl ⟨by kernel_rfl, fun w' hSw => by (try dsimp only at hSw); go_simp⟩) (by assumption) ?_
              try simp only [Act.put, List.setIfInBounds_toArray, List.set_cons_zero, List.set_cons_succ]
              refine wpAnyH_take (i := 5) (oi := { dst := some 117, op := Op.move (Operand.tmp 21), type := 25, pos := "law.go:109", after := #[{ on := 3, ground := Ground.guard }], guard := some (3, true) }) (v := .slice RW mW dW) rfl (by kernel_rfl) (by kernel_rfl) (by kernel_rfl) (fun _ _ _ h => h) (Or.inl ⟨by kernel_rfl, fun w' hSw => by (try dsimp only at hSw); go_simp⟩) (by assumption) ?_
              try simp only [Act.put, List.setIfInBounds_toArray, List.set_cons_zero, List.set_cons_succ]
              refine wpAnyH_ready (rs := [6]) (by kernel_rfl) (by simp) ?_
              refine AllReadyH.cons (o := { dst := some 118, op := Op.call { callee := Callee.value (Operand.func 22), args := #[Operand.tmp 116, Operand.tmp 117], argTypes := #[25, 25] }, type := 4, pos := "law.go:109", after := #[{ on := 4, ground := Ground.data }, { on := 5, ground := Ground.data }, { on := 3, ground := Ground.chain }, { on := 3, ground := Ground.guard }], guard := some (3, true) }) rfl (fun K hK => ?_) ?_
              · skip
                go_simp
                have HQE := Lib.hid (eqi_any R5 RW m5 mW d5 dW [] [] (by have := HM5.out; omega) (by have := HMW.out; omega) _ (E0.out.ri (.tail _ (.head _))) (E0.out.ri (.head _)))
                rw [decide_eq_true rfl] at HQE
                refine HQE.out.mono ?_
                rintro e u1 ⟨rfl, b9⟩
                have E1 := Lib.hid (E0.out.on b9)
                clear b9 hHeld HQE E0
                refine hK.out _ _ ⟨E1.out.cr (.tail _ (.head _)), E1.out.c0 (.tail _ (.tail _ (.head _)))⟩ (fun hHeld => ?_)
                clear hK K
                try simp only [Act.put, List.setIfInBounds_toArray, List.set_cons_zero, List.set_cons_succ]
                refine wpAnyH_take (i := 7) (oi := { dst := some 119, op := Op.pick (Operand.tmp 115) (Operand.tmp 118) (Operand.const (Value.bool false)), type := 4, pos := "law.go:109", after := #[{ on := 3, ground := Ground.data }, { on := 6, ground := Ground.data }], guard := none }) (v := .bool true) rfl (by kernel_rfl) (by kernel_rfl) (by kernel_rfl) (fun _ _ _ h => h) (Or.inl ⟨by kernel_rfl, fun w' hSw => by (try dsimp only at hSw); go_simp⟩) (by assumption) ?_
                try simp only [Act.put, List.setIfInBounds_toArray, List.set_cons_zero, List.set_cons_succ]
                refine wpAnyH_take (i := 8) (oi := { dst := some 120, op := Op.move (Operand.tmp 119), type := 4, pos := "law.go:109", after := #[{ on := 7, ground := Ground.data }, { on := 6, ground := Ground.chain }], guard := none }) (v := .bool true) rfl (by kernel_rfl) (by kernel_rfl) (by kernel_rfl) (fun _ _ _ h => h) (Or.inl ⟨by kernel_rfl, fun w' hSw => by (try dsimp only at hSw); go_simp⟩) (by assumption) ?_
                try simp only [Act.put, List.setIfInBounds_toArray, List.set_cons_zero, List.set_cons_succ]
                refine wpAnyH_take (i := 9) (oi := { dst := some 121, op := Op.load 24 (Operand.tmp 8), type := 24, pos := "law.go:109", after := #[{ on := 8, ground := Ground.guard }], guard := some (8, true) }) (v := .agg #[.slice su.A su.n su.c]) rfl (by kernel_rfl) (by kernel_rfl) (by kernel_rfl) (fun _ _ _ h => h) (Or.inl ⟨by kernel_rfl, fun w' hSw => by (try dsimp only at hSw); go_simp⟩) (by assumption) ?_
                try simp only [Act.put, List.setIfInBounds_toArray, List.set_cons_zero, List.set_cons_succ]
                refine wpAnyH_take (i := 10) (oi := { dst := some 122, op := Op.load 24 (Operand.tmp 4), type := 24, pos := "law.go:109", after := #[{ on := 8, ground := Ground.guard }], guard := some (8, true) }) (v := .agg #[.slice B m d]) rfl (by kernel_rfl) (by kernel_rfl) (by kernel_rfl) (fun _ _ _ h => h) (Or.inl ⟨by kernel_rfl, fun w' hSw => by (try dsimp only at hSw); go_simp⟩) (by assumption) ?_
                try simp only [Act.put, List.setIfInBounds_toArray, List.set_cons_zero, List.set_cons_succ]
                refine wpAnyH_ready (rs := [11]) (by kernel_rfl) (by simp) ?_
                refine AllReadyH.cons (o := { dst := some 123, op := Op.call { callee := Callee.value (Operand.func 9), args := #[Operand.tmp 122], argTypes := #[24] }, type := 24, pos := "law.go:109", after := #[{ on := 10, ground := Ground.data }, { on := 8, ground := Ground.chain }, { on := 8, ground := Ground.guard }], guard := some (8, true) }) rfl (fun K hK => ?_) ?_
                · skip
                  go_simp
                  refine (own_any B m d ys hmd hdm _ (E1.out.tb (.tail _ (.tail _ (.head _))))).mono ?_
                  rintro e u2 ⟨A9, n9, c9, rfl, ho, b9⟩
                  have HN9 : Hid (n9 ≤ 301) := by have h1 := strs_len (Reads.of_own ho); rw [List.length_take] at h1; show _ ≤ _; omega
                  have E2 := Lib.hid ((E1.out.on b9).addS (c := c9) (Reads.of_own ho))
                  clear ho b9 hHeld E1
                  refine hK.out _ _ ⟨E2.out.cr (.tail _ (.head _)), E2.out.c0 (.tail _ (.tail _ (.head _)))⟩ (fun hHeld => ?_)
                  clear hK K
                  try simp only [Act.put, List.setIfInBounds_toArray, List.set_cons_zero, List.set_cons_succ]
                  refine wpAnyH_ready (rs := [12]) (by kernel_rfl) (by simp) ?_
                  refine AllReadyH.cons (o := { dst := some 124, op := Op.call { callee := Callee.value (Operand.func 17), args := #[Operand.tmp 121, Operand.tmp 123], argTypes := #[24, 24] }, type := 4, pos := "law.go:109", after := #[{ on := 9, ground := Ground.data }, { on := 11, ground := Ground.data }, { on := 11, ground := Ground.chain }, { on := 8, ground := Ground.guard }], guard := some (8, true) }) rfl (fun K hK => ?_) ?_
                  · skip
                    go_simp
                    have HQE := Lib.hid (rsame_any su.A A9 su.n n9 su.c c9 su.l (ys.take 301) (by have := HSU.out.1; omega) (by have := HN9.out; omega) _ (E2.out.tr (.tail _ (.head _))) (E2.out.rs (.head _)))
                    rw [decide_eq_true HEB.out] at HQE
                    refine HQE.out.mono ?_
                    rintro e u3 ⟨rfl, b9⟩
                    have E3 := Lib.hid (E2.out.on b9)
                    clear b9 hHeld HQE E2
                    refine hK.out _ _ ⟨E3.out.cr (.tail _ (.head _)), E3.out.c0 (.tail _ (.tail _ (.head _)))⟩ (fun hHeld => ?_)
                    clear hK K
                    try simp only [Act.put, List.setIfInBounds_toArray, List.set_cons_zero, List.set_cons_succ]
                    refine wpAnyH_take (i := 13) (oi := { dst := some 125, op := Op.pick (Operand.tmp 120) (Operand.tmp 124) (Operand.const (Value.bool false)), type := 4, pos := "law.go:109", after := #[{ on := 8, ground := Ground.data }, { on := 12, ground := Ground.data }], guard := none }) (v := .bool true) rfl (by kernel_rfl) (by kernel_rfl) (by kernel_rfl) (fun _ _ _ h => h) (Or.inl ⟨by kernel_rfl, fun w' hSw => by (try dsimp only at hSw); go_simp⟩) (by assumption) ?_
                    try simp only [Act.put, List.setIfInBounds_toArray, List.set_cons_zero, List.set_cons_succ]
                    refine wpAnyH_take (i := 14) (oi := { dst := some 6, op := Op.assign (Operand.tmp 125), type := 4, pos := "law.go:109", after := #[{ on := 13, ground := Ground.data }, { on := 12, ground := Ground.chain }, { on := 0, ground := Ground.phase }, { on := 1, ground := Ground.phase }, { on := 2, ground := Ground.phase }, { on := 3, ground := Ground.phase }, { on := 4, ground := Ground.phase }, { on := 5, ground := Ground.phase }, { on := 6, ground := Ground.phase }, { on := 7, ground := Ground.phase }, { on := 8, ground := Ground.phase }, { on := 9, ground := Ground.phase }, { on := 10, ground := Ground.phase }, { on := 11, ground := Ground.phase }, { on := 12, ground := Ground.phase }, { on := 13, ground := Ground.phase }], guard := none }) (v := .bool true) rfl (by kernel_rfl) (by kernel_rfl) (by kernel_rfl) (fun _ _ _ h => h) (Or.inl ⟨by kernel_rfl, fun w' hSw => by (try dsimp only at hSw); go_simp⟩) (by assumption) ?_
                    try simp only [Act.put, List.setIfInBounds_toArray, List.set_cons_zero, List.set_cons_succ]
                    refine wpAnyH_done (by kernel_rfl) ?_ _
                    refine NoPanic.normal ?_
                    clear hHeld
                    go_wp2_with fail
                    go_ret
                    exact ⟨rfl, E3.out.below⟩
                  exact AllReadyH.nil
                exact AllReadyH.nil
              exact AllReadyH.nil
            · rw [hok] at HRM HQ2
              obtain rfl : q = 0 := HQ2.out
              obtain rfl := HP.out.1 rfl
              clear hok
              go_wp2_with fail
              refine HRM.out.mono ?_
              rintro e w11 ⟨RW, mW, dW, zsW, rfl, ho, hz, b11⟩
              obtain rfl : zsW = numsN r.l su.l := hz
              have EX := Lib.hid ((E9.out.on b11).addI (c := dW) (Reads.of_own ho))
              have HMW : Hid (mW ≤ 1000) := by have h1 := ints_len (EX.out.ri (.head _)); have h2 := ints_len (EX.out.ri (.tail _ (.head _))); have h3 := HM5.out; show _ ≤ _; omega
              clear ho b11 E9 HRM z0 z1
              go_upto_region 34 with fail
              refine wp_region_noPanic ?_
              refine wp_region_held_drew (S := fun W => W.cell? ⟨g1, 0, none⟩ = some (.slice su.A su.n su.c) ∧ W.cell? ⟨w.heap.size + 1, 0, none⟩ = some (.slice B m d)) (by kernel_rfl) ⟨EX.out.drew.cr (.tail _ (.head _)), EX.out.drew.c0 (.tail _ (.tail _ (.head _)))⟩ (fun hHeld => ?_)
              have E0 := Lib.hid EX.out.drew
              clear EX
              refine wpAnyH_take (i := 0) (oi := { dst := some 112, op := Op.move (Operand.tmp 20), type := 29, pos := "law.go:109", after := #[], guard := none }) (v := .int .i64 0) rfl (by kernel_rfl) (by kernel_rfl) (by kernel_rfl) (fun _ _ _ h => h) (Or.inl ⟨by kernel_rfl, fun w' hSw => by (try dsimp only at hSw); go_simp⟩) (by assumption) ?_
              try simp only [Act.put, List.setIfInBounds_toArray, List.set_cons_zero, List.set_cons_succ]
              refine wpAnyH_take (i := 1) (oi := { dst := some 113, op := Op.move (Operand.tmp 22), type := 29, pos := "law.go:109", after := #[], guard := none }) (v := .int .i64 0) rfl (by kernel_rfl) (by kernel_rfl) (by kernel_rfl) (fun _ _ _ h => h) (Or.inl ⟨by kernel_rfl, fun w' hSw => by (try dsimp only at hSw); go_simp⟩) (by assumption) ?_
              try simp only [Act.put, List.setIfInBounds_toArray, List.set_cons_zero, List.set_cons_succ]
              refine wpAnyH_take (i := 2) (oi := { dst := some 114, op := Op.binOp BinOp.eql 29 (Operand.tmp 112) (Operand.tmp 113) 29, type := 4, pos := "law.go:109", after := #[{ on := 0, ground := Ground.data }, { on := 1, ground := Ground.data }], guard := none }) (v := .bool true) rfl (by kernel_rfl) (by kernel_rfl) (by kernel_rfl) (fun _ _ _ h => h) (Or.inl ⟨by kernel_rfl, fun w' hSw => by (try dsimp only at hSw); go_simp⟩) (by assumption) ?_
              try simp only [Act.put, List.setIfInBounds_toArray, List.set_cons_zero, List.set_cons_succ]
              refine wpAnyH_take (i := 3) (oi := { dst := some 115, op := Op.move (Operand.tmp 114), type := 4, pos := "law.go:109", after := #[{ on := 2, ground := Ground.data }], guard := none }) (v := .bool true) rfl (by kernel_rfl) (by kernel_rfl) (by kernel_rfl) (fun _ _ _ h => h) (Or.inl ⟨by kernel_rfl, fun w' hSw => by (try dsimp only at hSw); go_simp⟩) (by assumption) ?_
              try simp only [Act.put, List.setIfInBounds_toArray, List.set_cons_zero, List.set_cons_succ]
              refine wpAnyH_take (i := 4) (oi := { dst := some 116, op := Op.move (Operand.tmp 19), type := 25, pos := "law.go:109", after := #[{ on := 3, ground := Ground.guard }], guard := some (3, true) }) (v := .slice R5 m5 d5) rfl (by kernel_rfl) (by kernel_rfl) (by kernel_rfl) (fun _ _ _ h => h) (Or.inl ⟨by kernel_rfl, fun w' hSw => by (try dsimp only at hSw); go_simp⟩) (by assumption) ?_
              try simp only [Act.put, List.setIfInBounds_toArray, List.set_cons_zero, List.set_cons_succ]
              refine wpAnyH_take (i := 5) (oi := { dst := some 117, op := Op.move (Operand.tmp 21), type := 25, pos := "law.go:109", after := #[{ on := 3, ground := Ground.guard }], guard := some (3, true) }) (v := .slice RW mW dW) rfl (by kernel_rfl) (by kernel_rfl) (by kernel_rfl) (fun _ _ _ h => h) (Or.inl ⟨by kernel_rfl, fun w' hSw => by (try dsimp only at hSw); go_simp⟩) (by assumption) ?_
              try simp only [Act.put, List.setIfInBounds_toArray, List.set_cons_zero, List.set_cons_succ]
              refine wpAnyH_ready (rs := [6]) (by kernel_rfl) (by simp) ?_
              refine AllReadyH.cons (o := { dst := some 118, op := Op.call { callee := Callee.value (Operand.func 22), args := #[Operand.tmp 116, Operand.tmp 117], argTypes := #[25, 25] }, type := 4, pos := "law.go:109", after := #[{ on := 4, ground := Ground.data }, { on := 5, ground := Ground.data }, { on := 3, ground := Ground.chain }, { on := 3, ground := Ground.guard }], guard := some (3, true) }) rfl (fun K hK => ?_) ?_
              · skip
                go_simp
                have HQE := Lib.hid (eqi_any R5 RW m5 mW d5 dW (numsN r.l su.l) (numsN r.l su.l) (by have := HM5.out; omega) (by have := HMW.out; omega) _ (E0.out.ri (.tail _ (.head _))) (E0.out.ri (.head _)))
                rw [decide_eq_true rfl] at HQE
                refine HQE.out.mono ?_
                rintro e u1 ⟨rfl, b9⟩
                have E1 := Lib.hid (E0.out.on b9)
                clear b9 hHeld HQE E0
                refine hK.out _ _ ⟨E1.out.cr (.tail _ (.head _)), E1.out.c0 (.tail _ (.tail _ (.head _)))⟩ (fun hHeld => ?_)
                clear hK K
                try simp only [Act.put, List.setIfInBounds_toArray, List.set_cons_zero, List.set_cons_succ]
                refine wpAnyH_take (i := 7) (oi := { dst := some 119, op := Op.pick (Operand.tmp 115) (Operand.tmp 118) (Operand.const (Value.bool false)), type := 4, pos := "law.go:109", after := #[{ on := 3, ground := Ground.data }, { on := 6, ground := Ground.data }], guard := none }) (v := .bool true) rfl (by kernel_rfl) (by kernel_rfl) (by kernel_rfl) (fun _ _ _ h => h) (Or.inl ⟨by kernel_rfl, fun w' hSw => by (try dsimp only at hSw); go_simp⟩) (by assumption) ?_
                try simp only [Act.put, List.setIfInBounds_toArray, List.set_cons_zero, List.set_cons_succ]
                refine wpAnyH_take (i := 8) (oi := { dst := some 120, op := Op.move (Operand.tmp 119), type := 4, pos := "law.go:109", after := #[{ on := 7, ground := Ground.data }, { on := 6, ground := Ground.chain }], guard := none }) (v := .bool true) rfl (by kernel_rfl) (by kernel_rfl) (by kernel_rfl) (fun _ _ _ h => h) (Or.inl ⟨by kernel_rfl, fun w' hSw => by (try dsimp only at hSw); go_simp⟩) (by assumption) ?_
                try simp only [Act.put, List.setIfInBounds_toArray, List.set_cons_zero, List.set_cons_succ]
                refine wpAnyH_take (i := 9) (oi := { dst := some 121, op := Op.load 24 (Operand.tmp 8), type := 24, pos := "law.go:109", after := #[{ on := 8, ground := Ground.guard }], guard := some (8, true) }) (v := .agg #[.slice su.A su.n su.c]) rfl (by kernel_rfl) (by kernel_rfl) (by kernel_rfl) (fun _ _ _ h => h) (Or.inl ⟨by kernel_rfl, fun w' hSw => by (try dsimp only at hSw); go_simp⟩) (by assumption) ?_
                try simp only [Act.put, List.setIfInBounds_toArray, List.set_cons_zero, List.set_cons_succ]
                refine wpAnyH_take (i := 10) (oi := { dst := some 122, op := Op.load 24 (Operand.tmp 4), type := 24, pos := "law.go:109", after := #[{ on := 8, ground := Ground.guard }], guard := some (8, true) }) (v := .agg #[.slice B m d]) rfl (by kernel_rfl) (by kernel_rfl) (by kernel_rfl) (fun _ _ _ h => h) (Or.inl ⟨by kernel_rfl, fun w' hSw => by (try dsimp only at hSw); go_simp⟩) (by assumption) ?_
                try simp only [Act.put, List.setIfInBounds_toArray, List.set_cons_zero, List.set_cons_succ]
                refine wpAnyH_ready (rs := [11]) (by kernel_rfl) (by simp) ?_
                refine AllReadyH.cons (o := { dst := some 123, op := Op.call { callee := Callee.value (Operand.func 9), args := #[Operand.tmp 122], argTypes := #[24] }, type := 24, pos := "law.go:109", after := #[{ on := 10, ground := Ground.data }, { on := 8, ground := Ground.chain }, { on := 8, ground := Ground.guard }], guard := some (8, true) }) rfl (fun K hK => ?_) ?_
                · skip
                  go_simp
                  refine (own_any B m d ys hmd hdm _ (E1.out.tb (.tail _ (.tail _ (.head _))))).mono ?_
                  rintro e u2 ⟨A9, n9, c9, rfl, ho, b9⟩
                  have HN9 : Hid (n9 ≤ 301) := by have h1 := strs_len (Reads.of_own ho); rw [List.length_take] at h1; show _ ≤ _; omega
                  have E2 := Lib.hid ((E1.out.on b9).addS (c := c9) (Reads.of_own ho))
                  clear ho b9 hHeld E1
                  refine hK.out _ _ ⟨E2.out.cr (.tail _ (.head _)), E2.out.c0 (.tail _ (.tail _ (.head _)))⟩ (fun hHeld => ?_)
                  clear hK K
                  try simp only [Act.put, List.setIfInBounds_toArray, List.set_cons_zero, List.set_cons_succ]
                  refine wpAnyH_ready (rs := [12]) (by kernel_rfl) (by simp) ?_
                  refine AllReadyH.cons (o := { dst := some 124, op := Op.call { callee := Callee.value (Operand.func 17), args := #[Operand.tmp 121, Operand.tmp 123], argTypes := #[24, 24] }, type := 4, pos := "law.go:109", after := #[{ on := 9, ground := Ground.data }, { on := 11, ground := Ground.data }, { on := 11, ground := Ground.chain }, { on := 8, ground := Ground.guard }], guard := some (8, true) }) rfl (fun K hK => ?_) ?_
                  · skip
                    go_simp
                    have HQE := Lib.hid (rsame_any su.A A9 su.n n9 su.c c9 su.l (ys.take 301) (by have := HSU.out.1; omega) (by have := HN9.out; omega) _ (E2.out.tr (.tail _ (.head _))) (E2.out.rs (.head _)))
                    rw [decide_eq_true HEB.out] at HQE
                    refine HQE.out.mono ?_
                    rintro e u3 ⟨rfl, b9⟩
                    have E3 := Lib.hid (E2.out.on b9)
                    clear b9 hHeld HQE E2
                    refine hK.out _ _ ⟨E3.out.cr (.tail _ (.head _)), E3.out.c0 (.tail _ (.tail _ (.head _)))⟩ (fun hHeld => ?_)
                    clear hK K
                    try simp only [Act.put, List.setIfInBounds_toArray, List.set_cons_zero, List.set_cons_succ]
                    refine wpAnyH_take (i := 13) (oi := { dst := some 125, op := Op.pick (Operand.tmp 120) (Operand.tmp 124) (Operand.const (Value.bool false)), type := 4, pos := "law.go:109", after := #[{ on := 8, ground := Ground.data }, { on := 12, ground := Ground.data }], guard := none }) (v := .bool true) rfl (by kernel_rfl) (by kernel_rfl) (by kernel_rfl) (fun _ _ _ h => h) (Or.inl ⟨by kernel_rfl, fun w' hSw => by (try dsimp only at hSw); go_simp⟩) (by assumption) ?_
                    try simp only [Act.put, List.setIfInBounds_toArray, List.set_cons_zero, List.set_cons_succ]
                    refine wpAnyH_take (i := 14) (oi := { dst := some 6, op := Op.assign (Operand.tmp 125), type := 4, pos := "law.go:109", after := #[{ on := 13, ground := Ground.data }, { on := 12, ground := Ground.chain }, { on := 0, ground := Ground.phase }, { on := 1, ground := Ground.phase }, { on := 2, ground := Ground.phase }, { on := 3, ground := Ground.phase }, { on := 4, ground := Ground.phase }, { on := 5, ground := Ground.phase }, { on := 6, ground := Ground.phase }, { on := 7, ground := Ground.phase }, { on := 8, ground := Ground.phase }, { on := 9, ground := Ground.phase }, { on := 10, ground := Ground.phase }, { on := 11, ground := Ground.phase }, { on := 12, ground := Ground.phase }, { on := 13, ground := Ground.phase }], guard := none }) (v := .bool true) rfl (by kernel_rfl) (by kernel_rfl) (by kernel_rfl) (fun _ _ _ h => h) (Or.inl ⟨by kernel_rfl, fun w' hSw => by (try dsimp only at hSw); go_simp⟩) (by assumption) ?_
                    try simp only [Act.put, List.setIfInBounds_toArray, List.set_cons_zero, List.set_cons_succ]
                    refine wpAnyH_done (by kernel_rfl) ?_ _
                    refine NoPanic.normal ?_
                    clear hHeld
                    go_wp2_with fail
                    go_ret
                    exact ⟨rfl, E3.out.below⟩
                  exact AllReadyH.nil
                exact AllReadyH.nil
              exact AllReadyH.nil
end Go.Proofs.Ythamkpmbfefpfaa
