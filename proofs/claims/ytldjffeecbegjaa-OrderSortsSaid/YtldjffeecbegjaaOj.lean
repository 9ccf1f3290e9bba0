/- Law OrderSorts: its walk. -/
import Derived.Test.YtldjffeecbegjaaOh
import Derived.Test.YtldjffeecbegjaaOi
namespace Go.Proofs.Ytldjffeecbegjaa
open Go.RowKit

theorem cellsP_set1 (v : Int) : ∀ (ps : List Pr) (k : Nat) (p : Pr), ps[k]? = some p → (cellsP ps).set (k * 2) (.int .i64 v) = cellsP (ps.set k (v, p.2))
  | [], k, p, h => by simp at h
  | q :: ps, 0, p, h => by
    simp at h
    subst h
    rfl
  | q :: ps, k + 1, p, h => by
    simp only [List.getElem?_cons_succ] at h
    rw [List.set_cons_succ, cellsP_cons, cellsP_cons, ← cellsP_set1 v ps k p h, Nat.succ_mul, show k * 2 + 2 = k * 2 + 1 + 1 from rfl]
    rfl
/-- The keys of a row turned, the first k of them. -/
structure Bumped (w : World) (h n : Nat) (wr : World) : Prop where
  row : ∃ ds : List Pr, ds.length = n ∧ Blk wr h 27 (cellsP ds).toArray
  grown : w.grownBy wr (some h)
theorem Bumped.cell {w wr : World} {h n k : Nat} (b : Bumped w h n wr) (hk : k < n) : ∃ v, wr.cell? ⟨h, k * 2, none⟩ = some (.int .i64 v) ∧ wr.frozen? ⟨h, k * 2, none⟩ = false ∧
    ∀ v', Bumped w h n (wr.setCell ⟨h, k * 2, none⟩ (.int .i64 v')) := by
  obtain ⟨ds, hl, hb⟩ := b.row
  obtain ⟨p, hp⟩ : ∃ p, ds[k]? = some p := ⟨ds[k]'(by omega), List.getElem?_eq_getElem _⟩
  refine ⟨p.1, by rw [hb.cell, List.getElem?_toArray]; exact (cellsP_at hp).1, hb.frozen _, fun v' => ⟨⟨ds.set k (v', p.2), by rw [List.length_set]; exact hl, ?_⟩, setCell_only (p := ⟨h, k * 2, none⟩) b.grown (.inl rfl) _⟩⟩
  have := hb.set_ (k * 2) (.int .i64 v')
  rw [List.setIfInBounds_toArray, cellsP_set1 v' ds k p hp] at this
  exact this
theorem reads_later {w w' : World} {B size n : Nat} {A : Option Addr} {xs : List Value} (h : Reads w B size A n xs) {B2 : Nat} (hb : Below B2 w w') (hB : B ≤ B2) : Reads w' B size A n xs :=
  h.keep fun _ hp => hb.cell (Nat.lt_of_lt_of_le hp hB)

/-- Eight cells that a comparison reads. -/
def Six (w : World) (S ba oa bx ox : Nat) (s : Pr) : Prop :=
  w.cell? ⟨S, 0, none⟩ = some (.int .i64 s.1) ∧ w.cell? ⟨S, 1, none⟩ = some (.int .i64 s.2) ∧ w.cell? ⟨ba, oa, none⟩ = some (.int .i64 s.1) ∧ w.cell? ⟨ba, oa + 1, none⟩ = some (.int .i64 s.2) ∧
  w.cell? ⟨bx, ox, none⟩ = some (.int .i64 s.1) ∧ w.cell? ⟨bx, ox + 1, none⟩ = some (.int .i64 s.2)
theorem hBI_cells {wo wr : World} {S ba oa bx ox : Nat} {s : Pr} {t : TypeId} (hb : Below wo.heap.size wo wr) (hS : Blk wo S t #[.int .i64 s.1, .int .i64 s.2]) (hSl : S < wo.heap.size)
    (hc : wo.cell? ⟨ba, oa, none⟩ = some (.int .i64 s.1) ∧ wo.cell? ⟨ba, oa + 1, none⟩ = some (.int .i64 s.2) ∧ wo.cell? ⟨bx, ox, none⟩ = some (.int .i64 s.1) ∧ wo.cell? ⟨bx, ox + 1, none⟩ = some (.int .i64 s.2))
    (ha : ba < wo.heap.size) (hx : bx < wo.heap.size) : Six wr S ba oa bx ox s :=
  ⟨(hb.cell (p := ⟨S, 0, none⟩) hSl).trans (hS.cell 0), (hb.cell (p := ⟨S, 1, none⟩) hSl).trans (hS.cell 1), (hb.cell (p := ⟨ba, oa, none⟩) ha).trans hc.1, (hb.cell (p := ⟨ba, oa + 1, none⟩) ha).trans hc.2.1,
    (hb.cell (p := ⟨bx, ox, none⟩) hx).trans hc.2.2.1, (hb.cell (p := ⟨bx, ox + 1, none⟩) hx).trans hc.2.2.2⟩
theorem cells_alloc {w : World} {o : Obj} {S ba oa bx ox : Nat} {s : Pr} (h : Six w S ba oa bx ox s) (hS : S < w.heap.size) (ha : ba < w.heap.size) (hx : bx < w.heap.size) : Six (w.alloc o) S ba oa bx ox s :=
  ⟨(World.cell?_alloc_lt w o ⟨S, 0, none⟩ hS).trans h.1, (World.cell?_alloc_lt w o ⟨S, 1, none⟩ hS).trans h.2.1, (World.cell?_alloc_lt w o ⟨ba, oa, none⟩ ha).trans h.2.2.1, (World.cell?_alloc_lt w o ⟨ba, oa + 1, none⟩ ha).trans h.2.2.2.1,
    (World.cell?_alloc_lt w o ⟨bx, ox, none⟩ hx).trans h.2.2.2.2.1, (World.cell?_alloc_lt w o ⟨bx, ox + 1, none⟩ hx).trans h.2.2.2.2.2⟩
theorem six_below {w w' : World} {S ba oa bx ox : Nat} {s : Pr} (h : Six w S ba oa bx ox s) (hb : Below w.heap.size w w') (hS : S < w.heap.size) (ha : ba < w.heap.size) (hx : bx < w.heap.size) : Six w' S ba oa bx ox s :=
  ⟨(hb.cell (p := ⟨S, 0, none⟩) hS).trans h.1, (hb.cell (p := ⟨S, 1, none⟩) hS).trans h.2.1, (hb.cell (p := ⟨ba, oa, none⟩) ha).trans h.2.2.1, (hb.cell (p := ⟨ba, oa + 1, none⟩) ha).trans h.2.2.2.1,
    (hb.cell (p := ⟨bx, ox, none⟩) hx).trans h.2.2.2.2.1, (hb.cell (p := ⟨bx, ox + 1, none⟩) hx).trans h.2.2.2.2.2⟩

set_option maxRecDepth 100000 in
set_option maxHeartbeats 8000000 in
theorem sorts_core (A : Option Addr) (n c : Nat) (xs : List Pr) (B : Option Addr) (m d : Nat) (ys : List Pr) (hc : A = none → c = 0) (hnc : n ≤ c) (hcm : c ≤ 9223372036854775807) (hd : B = none → d = 0) (hmd : m ≤ d) (hdm : d ≤ 9223372036854775807) (w : World)
    (hR : Reads w w.heap.size 2 A n (cellsP xs)) (hS : Reads w w.heap.size 2 B m (cellsP ys)) :
    Calls Try.prog 3 #[.slice A n c, .slice B m d] w fun e w' => e = .returned (.bool true) ∧ Below w.heap.size w w' := by
  obtain ⟨na, hna⟩ : ∃ na, min n 60 = na := ⟨_, rfl⟩
  obtain ⟨nb, hnb⟩ : ∃ nb, min m 60 = nb := ⟨_, rfl⟩
  obtain ⟨xa, hxa⟩ : ∃ xa, xs.take 60 = xa := ⟨_, rfl⟩
  obtain ⟨yb, hyb⟩ : ∃ yb, ys.take 60 = yb := ⟨_, rfl⟩
  have ha60 : na ≤ 60 := by omega
  have hb60 : nb ≤ 60 := by omega
  have hnan : na ≤ n := by omega
  have HF := Lib.hid fun (W : World) (b : Below w.heap.size w W) => few_any A n c xs hc hnc hcm W ((hR.below b).more b.size)
  have HG := Lib.hid fun (W : World) (b : Below w.heap.size w W) => few_any B m d ys hd hmd hdm W ((hS.below b).more b.size)
  rw [hna, hxa] at HF
  rw [hnb, hyb] at HG
  have HXA := Lib.hid hxa
  have HRX := Lib.hid hR
  clear hna hnb hxa hyb hR hS hc hd hcm hdm hnc hmd
  go_enter Try.func3, Try.ntmps3
  go_wp2_with fail
  refine (wakes_order _).mono ?_
  rintro e w1 ⟨rfl, b1⟩
  have B1 := Lib.hid b1
  clear b1
  go_wp2_with fail
  refine (HF.out _ B1.out).mono ?_
  rintro e w2 ⟨A2, c2, rfl, o2, k2, k3, b2⟩
  have B2 : Hid (Below w.heap.size w w2) := B1.out.trans (b2.mono B1.out.size)
  have R2 := Lib.hid (reads_own o2)
  clear o2 b2 B1
  go_wp2_with fail
  refine (HG.out _ B2.out).mono ?_
  rintro e w3 ⟨A3, c3, rfl, o3, k4, k5, b3⟩
  have B3 : Hid (Below w.heap.size w w3) := B2.out.trans (b3.mono B2.out.size)
  have RB := Lib.hid (reads_own o3)
  have RA := Lib.hid ((R2.out.below b3).more b3.size)
  clear o3 b3 R2 B2
  have hla := reads_len RA.out
  have hlb := reads_len RB.out
  have HLA := Lib.hid hla
  have HLB := Lib.hid hlb
  clear hla hlb
  go_wp2_with fail
  refine (sort_any A2 na c2 xa (by omega) w3 RA.out).mono ?_
  rintro e w4 ⟨h3, rfl, o4, b4⟩
  have B4 := Lib.hid b4
  have O4 := Lib.hid o4
  clear b4 o4
  go_wp2_with fail
  refine (sort_any A3 nb c3 yb (by omega) w4 ((RB.out.below B4.out).more B4.out.size)).mono ?_
  rintro e w5 ⟨h4, rfl, o5, b5⟩
  have B5 : Hid (Below w3.heap.size w3 w5) := B4.out.trans (b5.mono B4.out.size)
  have P5 := Lib.hid (O4.out.later b5)
  have Q5 := Lib.hid (o5.low B4.out.size)
  have B45 := Lib.hid (b5.size)
  clear b5 o5 B4 O4
  have BW5 : Hid (Below w.heap.size w w5) := B3.out.trans (B5.out.mono B3.out.size)
  go_wp2_with fail
  refine (HF.out _ BW5.out).mono ?_
  rintro e w6 ⟨A6, c6, rfl, o6, _, _, b6⟩
  have C6 := Lib.hid b6
  have R6 := Lib.hid (reads_own o6)
  clear o6 b6
  go_wp2_with fail
  refine (rsort_any A6 na c6 xa (by omega) w6 R6.out).mono ?_
  rintro e w7 ⟨A7, c7, rfl, o7, _, _, b7⟩
  have C7 : Hid (Below w5.heap.size w5 w7) := C6.out.trans (b7.mono C6.out.size)
  have R7 := Lib.hid (reads_own o7)
  clear o7 b7 C6 R6
  go_wp2_with fail
  refine (equalP_same (some ⟨h3, 0, none⟩) A7 na na c7 _ (by omega) w7 (P5.out.later C7.out).reads R7.out).mono ?_
  rintro e w8 ⟨rfl, b8⟩
  have C8 : Hid (Below w5.heap.size w5 w8) := C7.out.trans (b8.mono C7.out.size)
  clear b8 R7 C7
  go_wp2_with fail
  refine (HG.out _ (BW5.out.trans (C8.out.mono BW5.out.size))).mono ?_
  rintro e w9 ⟨A9, c9, rfl, o9, _, _, b9⟩
  have C9 : Hid (Below w5.heap.size w5 w9) := C8.out.trans (b9.mono C8.out.size)
  have R9 := Lib.hid (reads_own o9)
  clear o9 b9 C8
  go_wp2_with fail
  refine (rsort_any A9 nb c9 yb (by omega) w9 R9.out).mono ?_
  rintro e w10 ⟨A10, c10, rfl, o10, _, _, b10⟩
  have C10 : Hid (Below w5.heap.size w5 w10) := C9.out.trans (b10.mono C9.out.size)
  have R10 := Lib.hid (reads_own o10)
  clear o10 b10 C9 R9
  go_wp2_with fail
  refine (equalP_same (some ⟨h4, 0, none⟩) A10 nb nb c10 _ (by omega) w10 (Q5.out.later C10.out).reads R10.out).mono ?_
  rintro e w11 ⟨rfl, b11⟩
  have C11 : Hid (Below w5.heap.size w5 w11) := C10.out.trans (b11.mono C10.out.size)
  clear b11 R10 C10
  have P11 := Lib.hid (P5.out.later C11.out)
  have Q11 := Lib.hid (Q5.out.later C11.out)
  go_wp2_with fail
  refine (merge2_any (some ⟨h3, 0, none⟩) (some ⟨h4, 0, none⟩) na nb na nb _ _ (Nat.le_refl _) (Nat.le_refl _) (by omega) (by omega) (by omega) w11 P11.out.reads Q11.out.reads).mono ?_
  rintro e w12 ⟨h12, rfl, o12, b12⟩
  have C12 : Hid (Below w5.heap.size w5 w12) := C11.out.trans (b12.mono C11.out.size)
  rw [mrg_srt ltP_ahead (srt_order ltP_ahead _) (srt_order ltP_ahead _)] at o12
  have O12 := Lib.hid o12
  have P12 := Lib.hid (P11.out.later b12)
  have Q12 := Lib.hid (Q11.out.later b12)
  clear b12 o12 P11 Q11 C11
  go_wp2_with fail
  refine (rmerge_any (some ⟨h3, 0, none⟩) (some ⟨h4, 0, none⟩) na nb na nb _ _ (by omega) w12 P12.out.reads Q12.out.reads).mono ?_
  rintro e w13 ⟨A13, c13, rfl, o13, _, _, b13⟩
  have C13 : Hid (Below w5.heap.size w5 w13) := C12.out.trans (b13.mono C12.out.size)
  have R13 := Lib.hid (reads_own o13)
  have O13 := Lib.hid (O12.out.later b13)
  clear o13 b13 C12 O12 P12 Q12
  go_wp2_with fail
  refine (equalP_same (some ⟨h12, 0, none⟩) A13 (na + nb) (na + nb) c13 _ (by omega) w13 O13.out.reads R13.out).mono ?_
  rintro e w14 ⟨rfl, b14⟩
  have C14 : Hid (Below w5.heap.size w5 w14) := C13.out.trans (b14.mono C13.out.size)
  clear b14 R13 O13 C13
  have HP0 : Hid (Bumped w14 h3 na w14) := ⟨⟨_, (P5.out.later C14.out).2.1, (P5.out.later C14.out).2.2⟩, World.grownBy.refl _ _⟩
  go_wp2_with fail
  go_loopg [51] na (fun gg s51 wr => ∃ i : Nat, i + gg = na ∧ s51 = .int .i64 i ∧ Hid (Bumped w14 h3 na wr))
  case atStart => exact ⟨0, by omega, rfl, HP0⟩
  case round =>
    obtain ⟨i, hig, rfl, HP⟩ := hrel
    cases gk with
    | succ g2 =>
      have hlt : (i : Int) < (na : Int) := by omega
      have hi0 : (0 : Int) ≤ (i : Int) := by omega
      obtain ⟨v, g0, z0, hst⟩ := HP.out.cell (show i < na by omega)
      have HS := Lib.hid hst
      have HIG := Lib.hid hig
      clear hst hig
      go_wp2_with fail
      go_roundg g2
      case measure => omega
      case rel => exact ⟨i + 1, by have := HIG.out; omega, by go_num, HS.out _⟩
    | zero =>
      have hge : ¬ (i : Int) < (na : Int) := by omega
      have hs3 : w3.heap.size ≤ h3 := P5.out.1
      have hsz := B3.out.size
      have hs35 := B5.out.size
      have hs5 := C14.out.size
      have BK : Hid (Below w.heap.size w wr) := (BW5.out.trans (C14.out.mono (Nat.le_trans B3.out.size B5.out.size))).grown HP.out.grown (by omega) (fun k hk => by injection hk with hk; omega)
      have RX : Hid (Reads wr wr.heap.size 2 A n (cellsP xs)) := ((HRX.out.below BK.out).more BK.out.size)
      have B14 : Below w3.heap.size w3 w14 := B5.out.trans (C14.out.mono B5.out.size)
      have B15 : Below w3.heap.size w3 wr := B14.grown HP.out.grown B14.size (fun k hk => by injection hk with hk; omega)
      have KA : Hid (Reads wr wr.heap.size 2 A2 na (cellsP xa)) := (RA.out.below B15).more B15.size
      have KB : Hid (Reads wr wr.heap.size 2 A3 nb (cellsP yb)) := (RB.out.below B15).more B15.size
      clear hs3 hsz hs35 hs5 B14 B15 HP HP0 RA RB P5 Q5 C14 BW5 B45 B5 B3 hig HRX
      go_wp2_with fail
      obtain ⟨wk, rfl⟩ : ∃ wk : World, wk = wr := ⟨_, rfl⟩
      go_loopg [65] na (fun gg s65 wr => ∃ i : Nat, i + gg = na ∧ s65 = .int .i64 i ∧ Hid (Below wk.heap.size wk wr))
      case atStart => exact ⟨0, by omega, rfl, Below.refl _ _⟩
      case round =>
        obtain ⟨i, hig, rfl, HB⟩ := hrel
        cases gk with
        | zero =>
          have hge : ¬ (i : Int) < (na : Int) := by omega
          clear hig
          go_wp2_with fail
          refine (HF.out _ (BK.out.trans (HB.out.mono BK.out.size))).mono ?_
          rintro e w16 ⟨A16, c16, rfl, o16, _, _, b16⟩
          have C16 : Hid (Below wk.heap.size wk w16) := HB.out.trans (b16.mono HB.out.size)
          have R16 := Lib.hid (reads_own o16)
          clear o16 b16
          go_wp2_with fail
          refine (equalP_same A2 A16 na c2 c16 _ (by omega) w16 ((KA.out.below C16.out).more C16.out.size) R16.out).mono ?_
          rintro e w17 ⟨rfl, b17⟩
          have C17 : Hid (Below wk.heap.size wk w17) := C16.out.trans (b17.mono C16.out.size)
          clear b17 R16 C16
          go_wp2_with fail
          refine (HG.out _ (BK.out.trans (C17.out.mono BK.out.size))).mono ?_
          rintro e w18 ⟨A18, c18, rfl, o18, _, _, b18⟩
          have C18 : Hid (Below wk.heap.size wk w18) := C17.out.trans (b18.mono C17.out.size)
          have R18 := Lib.hid (reads_own o18)
          clear o18 b18
          go_wp2_with fail
          refine (equalP_same A3 A18 nb c3 c18 _ (by omega) w18 ((KB.out.below C18.out).more C18.out.size) R18.out).mono ?_
          rintro e w19 ⟨rfl, b19⟩
          have C19 : Hid (Below w.heap.size w w19) := BK.out.trans ((C18.out.trans (b19.mono C18.out.size)).mono BK.out.size)
          clear b19 R18 C18
          go_wp2_with fail
          go_ret
          exact ⟨rfl, C19.out⟩
        | succ g2 =>
          have hlt : (i : Int) < (na : Int) := by omega
          have hi0 : (0 : Int) ≤ (i : Int) := by omega
          have hin : (i : Int) < (n : Int) := by omega
          obtain ⟨s, hs⟩ : ∃ s, xa[i]? = some s := ⟨xa[i]'(by rw [HLA.out]; omega), List.getElem?_eq_getElem _⟩
          have hs2 : xs[i]? = some s := by
            rw [← HXA.out, List.getElem?_take] at hs
            split at hs
            · exact hs
            · cases hs
          obtain ⟨ba, oa, rfl, hba, a0, a1⟩ := pr_at (KA.out.below HB.out) hs
          obtain ⟨bx, ox, rfl, hbx, x0, x1⟩ := pr_at (RX.out.below HB.out) hs2
          have hzz := HB.out.size
          obtain ⟨S, hS⟩ : ∃ S, wr.heap.size = S := ⟨_, rfl⟩
          have HSX := Lib.hid hS
          have HIG := Lib.hid hig
          have bs := Blk.new wr 27 #[.int .i64 s.1, .int .i64 s.2]
          rw [hS] at bs
          have HBS := Lib.hid bs
          have HB1 : Hid (Below wk.heap.size wk (wr.alloc (.cells #[.int .i64 s.1, .int .i64 s.2] 27))) := HB.out.alloc hzz _
          have a0' := (World.cell?_alloc_lt wr (.cells #[.int .i64 s.1, .int .i64 s.2] 27) ⟨ba, oa + i * 2, none⟩ (Nat.lt_of_lt_of_le hba hzz)).trans a0
          have a1' := (World.cell?_alloc_lt wr (.cells #[.int .i64 s.1, .int .i64 s.2] 27) ⟨ba, oa + i * 2 + 1, none⟩ (Nat.lt_of_lt_of_le hba hzz)).trans a1
          have x0' := (World.cell?_alloc_lt wr (.cells #[.int .i64 s.1, .int .i64 s.2] 27) ⟨bx, ox + i * 2, none⟩ (Nat.lt_of_lt_of_le hbx hzz)).trans x0
          have x1' := (World.cell?_alloc_lt wr (.cells #[.int .i64 s.1, .int .i64 s.2] 27) ⟨bx, ox + i * 2 + 1, none⟩ (Nat.lt_of_lt_of_le hbx hzz)).trans x1
          have HCX := Lib.hid (And.intro a0' (And.intro a1' (And.intro x0' x1')))
          clear hs hs2 hig bs a0' a1' x0' x1'
          go_wp2_with fail
          clear a0 a1 x0 x1
          have hbaX : ba < S := by have := HSX.out; omega
          have hbxX : bx < S := by have := HSX.out; omega
          clear hS HSX HB hzz
          generalize wr.alloc (.cells #[.int .i64 s.1, .int .i64 s.2] 27) = wo at *
          go_loopg [72] nb (fun gg s72 wr => ∃ j : Nat, j + gg = nb ∧ s72 = .int .i64 j ∧ Hid (Below wo.heap.size wo wr))
          case atStart => exact ⟨0, by omega, rfl, Below.refl _ _⟩
          case round =>
            obtain ⟨j, hjg, rfl, HBI⟩ := hrel
            cases gk with
            | zero =>
              have hge : ¬ (j : Int) < (nb : Int) := by omega
              have HBF : Hid (Below wk.heap.size wk wr) := HB1.out.trans (HBI.out.mono HB1.out.size)
              clear hjg
              go_wp2_with fail
              go_roundg g2
              case measure => omega
              case rel => exact ⟨i + 1, by have := HIG.out; omega, by go_num, HBF⟩
            | succ g3 =>
              have hjl : (j : Int) < (nb : Int) := by omega
              obtain ⟨t, ht⟩ : ∃ t, yb[j]? = some t := ⟨yb[j]'(by rw [HLB.out]; omega), List.getElem?_eq_getElem _⟩
              obtain ⟨bb, ob, rfl, hbb, y0, y1⟩ := pr_at (KB.out.below (HB1.out.trans (HBI.out.mono HB1.out.size))) ht
              have hz2 := HBI.out.size
              have hz1 := HB1.out.size
              have HJG := Lib.hid hjg
              have hSl : S < wo.heap.size := HBS.out.lt
              obtain ⟨T, hT⟩ : ∃ T, wr.heap.size = T := ⟨_, rfl⟩
              have hTS : S < T := by omega
              have hTa : ba < T := by omega
              have hTx : bx < T := by omega
              have hc1 := hBI_cells HBI.out HBS.out hSl HCX.out (by have := hbaX; omega) (by have := hbxX; omega)
              have hc2 := cells_alloc (o := .cells #[.int .i64 t.1, .int .i64 t.2] 27) hc1 (by omega) (by omega) (by omega)
              have bt := Blk.new wr 27 #[.int .i64 t.1, .int .i64 t.2]
              rw [hT] at bt
              have HC2 := Lib.hid hc2
              have HBT := Lib.hid bt
              have HB2 : Hid (Below wo.heap.size wo (wr.alloc (.cells #[.int .i64 t.1, .int .i64 t.2] 27))) := HBI.out.alloc hz2 _
              clear hc1 hc2 bt ht hjg
              have e0 := HC2.out.1
              have e1 := HC2.out.2.1
              have f0 : (wr.alloc (.cells #[.int .i64 t.1, .int .i64 t.2] 27)).cell? ⟨T, 0, none⟩ = some (.int .i64 t.1) := HBT.out.cell 0
              have f1 : (wr.alloc (.cells #[.int .i64 t.1, .int .i64 t.2] 27)).cell? ⟨T, 1, none⟩ = some (.int .i64 t.2) := HBT.out.cell 1
              go_upto_if 80 with fail
              clear y0 y1 hT
              generalize wr.alloc (.cells #[.int .i64 t.1, .int .i64 t.2] 27) = wz at *
              clear hSl hTa hTx HBS HCX HB1 HBI
              go_cut [14] (fun s14 wx => s14 = .int .i64 (cmpN s.1 t.1) ∧ wz = wx)
              case first =>
                rcases Int.lt_trichotomy s.1 t.1 with h | h | h
                · have hv : Hid (cmpN s.1 t.1 = -1) := by unfold cmpN; rw [if_pos h]; exact rfl
                  generalize cmpN s.1 t.1 = v at *
                  go_wp2_with fail
                  go_meet
                  exact ⟨by rw [hv.out], rfl⟩
                · have hv : Hid (cmpN s.1 t.1 = 0) := by unfold cmpN; rw [if_neg (by omega), if_neg (by omega)]; exact rfl
                  have h1 : ¬ s.1 < t.1 := by omega
                  have h2 : ¬ t.1 < s.1 := by omega
                  clear h
                  generalize cmpN s.1 t.1 = v at *
                  go_wp2_with fail
                  go_meet
                  exact ⟨by rw [hv.out], rfl⟩
                · have hv : Hid (cmpN s.1 t.1 = 1) := by unfold cmpN; rw [if_neg (by omega), if_pos h]; exact rfl
                  have h1 : ¬ s.1 < t.1 := by omega
                  generalize cmpN s.1 t.1 = v at *
                  go_wp2_with fail
                  go_meet
                  exact ⟨by rw [hv.out], rfl⟩
              case rest =>
                obtain ⟨rfl, rfl⟩ := hcut
                have HKY := Lib.hid fun W => keys_any s t W
                generalize cmpN s.1 t.1 = v at *
                have e2 := HC2.out.2.2.1
                have e3 := HC2.out.2.2.2.1
                have e4 := HC2.out.2.2.2.2.1
                have e5 := HC2.out.2.2.2.2.2
                have tok1 : True := trivial
                have hXT : T < wz.drew.heap.size := HBT.out.lt
                have hXS : S < wz.drew.heap.size := by omega
                have hXa : ba < wz.drew.heap.size := by omega
                have hXx : bx < wz.drew.heap.size := by omega
                go_wp2_with fail
                go_region_held3 (fun w' => w'.cell? ⟨S, 0, none⟩ = some (.int .i64 s.1) ∧ w'.cell? ⟨S, 1, none⟩ = some (.int .i64 s.2) ∧ w'.cell? ⟨ba, oa + i * 2, none⟩ = some (.int .i64 s.1) ∧ w'.cell? ⟨ba, oa + i * 2 + 1, none⟩ = some (.int .i64 s.2) ∧ w'.cell? ⟨bx, ox + i * 2, none⟩ = some (.int .i64 s.1) ∧ w'.cell? ⟨bx, ox + i * 2 + 1, none⟩ = some (.int .i64 s.2) ∧ w'.cell? ⟨T, 0, none⟩ = some (.int .i64 t.1) ∧ w'.cell? ⟨T, 1, none⟩ = some (.int .i64 t.2)) (first | exact ⟨e0, e1, e2, e3, e4, e5, f0, f1⟩ | exact ⟨q0.out.1, q0.out.2.1, q0.out.2.2.1, q0.out.2.2.2.1, q0.out.2.2.2.2.1, q0.out.2.2.2.2.2, q1, q2⟩ | fail) (first
                  | (have _t := tok1; go_at_call 11; refine (HKY.out wz.drew).mono ?_; rintro e w20 ⟨rfl, b20⟩; clear tok1; have HB20 : Hid (Below wo.heap.size wo w20) := HB2.out.drew.trans (b20.mono HB2.out.drew.size); have q0 := Lib.hid (six_below (w := wz.drew) HC2.out b20 hXS hXa hXx); have q1 := (b20.cell (p := ⟨T, 0, none⟩) hXT).trans f0; have q2 := (b20.cell (p := ⟨T, 1, none⟩) hXT).trans f1; clear b20)
                  | fail)
                go_wp2_with fail
                go_roundg g3
                case measure => omega
                case rel => exact ⟨j + 1, by have := HJG.out; omega, by go_num, HB20⟩
end Go.Proofs.Ytldjffeecbegjaa
