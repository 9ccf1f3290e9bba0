/- NamesMoves: the walk. -/
import Derived.Test.YthamkpmbfefpfaaNv
namespace Go.Proofs.Ythamkpmbfefpfaa
open Go.RowKit Go.Shelf

theorem nums_at {a b : List ByteArray} {k : Nat} {x : ByteArray} (hx : a[k]? = some x) : (numsN a b)[k]? = some (idxN b x : Int) := by unfold numsN; rw [List.getElem?_map, hx]; rfl
theorem move_zero {a b : List ByteArray} (h : moveE nameB a b = 0) : goodB nameB a = true ∧ goodB nameB b = true ∧ ∀ s ∈ a, s ∈ b := by
  unfold moveE at h
  split at h
  · rename_i hg
    split at h
    · rename_i hs
      exact ⟨hg.1, hg.2, hs⟩
    · cases h
  · cases h

set_option maxRecDepth 100000 in
set_option maxHeartbeats 32000000 in
theorem moves_core (A : Option Addr) (n c : Nat) (xs : List ByteArray) (hnc : n ≤ c) (hcm : c ≤ 9223372036854775807) (hsx : ∀ s ∈ xs, s.size ≤ 9223372036854775807)
    (B : Option Addr) (m d : Nat) (ys : List ByteArray) (hmd : m ≤ d) (hdm : d ≤ 9223372036854775807) (hsy : ∀ s ∈ ys, s.size ≤ 9223372036854775807)
    (C : Option Addr) (k0 f : Nat) (zs : List ByteArray) (hkf : k0 ≤ f) (hfm : f ≤ 9223372036854775807) (hsz : ∀ s ∈ zs, s.size ≤ 9223372036854775807)
    (w : World) (hA : Reads w w.heap.size 1 A n (strs xs)) (hB : Reads w w.heap.size 1 B m (strs ys)) (hC : Reads w w.heap.size 1 C k0 (strs zs)) :
    Calls Try.prog 7 #[.agg #[.slice A n c], .agg #[.slice B m d], .agg #[.slice C k0 f]] w fun e w' => e = .returned (.bool true) ∧ Below w.heap.size w w' := by
  have E0 := Lib.hid (EN.three w A B C n c m d k0 f xs ys zs hA hB hC)
  have HA := Lib.hid fun W (h : Below w.heap.size w W) => own_r A n c xs hnc hcm W (hA.on_ h)
  have HB := Lib.hid fun W (h : Below w.heap.size w W) => own_r B m d ys hmd hdm W (hB.on_ h)
  have HC := Lib.hid fun W (h : Below w.heap.size w W) => own_r C k0 f zs hkf hfm W (hC.on_ h)
  have HSX := Lib.hid hsx
  have HSY := Lib.hid hsy
  have HSZ := Lib.hid hsz
  clear hA hB hC hsx hsy hsz
  go_enter Try.func7, Try.ntmps7
  go_upto_region 1 with fail
  generalize ((w.alloc (.cells #[.slice A n c] 24)).alloc (.cells #[.slice B m d] 24)).alloc (.cells #[.slice C k0 f] 24) = W0 at *
  go_wp2_with fail
  refine (wakes10_any W0).mono ?_
  rintro e w1 ⟨rfl, b1⟩
  have E1 := Lib.hid (E0.out.on b1)
  clear b1 E0
  go_wp2_with fail
  refine moves_own _ w1 _ _ _ _ _ _ _ _ _ _ _ _ _ _ _ (xs.take 301) (ys.take 301) (zs.take 301) (fun W h => ⟨(E1.out.on h).c0 (.tail _ (.tail _ (.head _))), (E1.out.on h).c0 (.tail _ (.head _)), (E1.out.on h).c0 (.head _)⟩) (fun W h => HA.out W (E1.out.below.trans (h.mono E1.out.below.size))) (fun W h => HB.out W (E1.out.below.trans (h.mono E1.out.below.size))) (fun W h => HC.out W (E1.out.below.trans (h.mono E1.out.below.size))) ?_
  intro w2 sa sb sc g0 g1 g2 b2 ea eb ec i0 i1 i2 _ _ _
  have E2 := Lib.hid (E1.out.boxes b2 [(g0, sa), (g1, sb), (g2, sc)] fun p hp => by
    simp only [List.mem_cons, List.not_mem_nil, or_false] at hp
    rcases hp with rfl | rfl | rfl
    · exact i0
    · exact i1
    · exact i2)
  have HSA : Hid (sa.n ≤ 1000 ∧ ∀ s ∈ sa.l, s.size ≤ 9223372036854775807) := by
    have h1 := strs_len i0.2.1
    rw [ea, List.length_take] at h1
    exact ⟨by omega, fun s hs => HSX.out s (by rw [ea] at hs; exact List.mem_of_mem_take hs)⟩
  have HSB : Hid (sb.n ≤ 1000 ∧ ∀ s ∈ sb.l, s.size ≤ 9223372036854775807) := by
    have h1 := strs_len i1.2.1
    rw [eb, List.length_take] at h1
    exact ⟨by omega, fun s hs => HSY.out s (by rw [eb] at hs; exact List.mem_of_mem_take hs)⟩
  have HSC : Hid (sc.n ≤ 1000 ∧ ∀ s ∈ sc.l, s.size ≤ 9223372036854775807) := by
    have h1 := strs_len i2.2.1
    rw [ec, List.length_take] at h1
    exact ⟨by omega, fun s hs => HSZ.out s (by rw [ec] at hs; exact List.mem_of_mem_take hs)⟩
  clear b2 ea eb ec i0 i1 i2 E1 HA HB HC HSX HSY HSZ
  have z0 := E2.out.cr (.head _)
  have HM := Lib.hid (move_any sa.A sa.n sa.c sa.l HSA.out.1 HSA.out.2 sa.A sa.n sa.c sa.l HSA.out.1 HSA.out.2 w2 (E2.out.tr (.head _)) (E2.out.tr (.head _)))
  unfold MoveIs at HM
  cases hg : goodB nameB sa.l
  · rw [move_bad (.inl hg)] at HM
    have HF := Lib.hid fun W hR => fine_any sa.A sa.n sa.c sa.l HSA.out.1 HSA.out.2 W hR
    rw [fine_no hg] at HF
    clear hg
    go_wp2_with fail
    refine HM.out.mono ?_
    rintro e w3 ⟨R1, m1, d1, ps, rfl, ho, _, hno, b3⟩
    rw [hno (by decide)] at ho
    obtain rfl : m1 = 0 := by have := ints_len (Reads.of_own ho); simp at this; omega
    have E3 := Lib.hid (E2.out.on b3)
    clear ho hno b3 E2 HM z0
    have z0 := E3.out.cr (.head _)
    go_wp2_with fail
    refine (HF.out w3 (E3.out.tr (.head _))).mono ?_
    rintro e w4 ⟨rfl, b4⟩
    have E4 := Lib.hid (E3.out.on b4)
    clear b4 E3 HF z0
    go_wp2_with fail
    go_ret
    exact ⟨rfl, E4.out.below⟩
  · rw [move_ok hg hg (fun s h => h)] at HM
    have HG := Lib.hid hg
    clear hg
    go_wp2_with fail
    refine HM.out.mono ?_
    rintro e w3 ⟨R0, m0, d0, ps, rfl, ho, hok, _, b3⟩
    rw [hok trivial] at ho
    have HLA : Hid (sa.l.length = sa.n) := strs_len (E2.out.tr (.head _))
    obtain rfl : m0 = sa.n := by have h1 := ints_len (Reads.of_own ho); have h2 := HLA.out; rw [nums_len] at h1; omega
    have E3 := Lib.hid ((E2.out.on b3).addI (c := d0) (Reads.of_own ho))
    clear ho hok b3 E2 HM z0
    go_wp2_with fail
    go_loopw [48] (fun i wr => ∃ k : Nat, k ≤ sa.n ∧ i = .int .i64 k ∧ Hid (EN w [(g0, sa), (g1, sb), (g2, sc), (w.heap.size + 1 + 1, ⟨C, k0, f, zs⟩), (w.heap.size + 1, ⟨B, m, d, ys⟩), (w.heap.size, ⟨A, n, c, xs⟩)] [] [⟨R0, sa.n, d0, numsN sa.l sa.l⟩] wr)) (fun i _ => sa.n - (intOf i).toNat)
    case atStart => exact ⟨0, Nat.zero_le _, rfl, E3⟩
    case round =>
      clear E3
      obtain ⟨k, hk, rfl, E4⟩ := hrel
      by_cases hkn : k < sa.n
      · have h1000 := HSA.out.1
        have hlt : (k : Int) < (sa.n : Int) := by omega
        have hkt : k < sa.l.length := by have := HLA.out; omega
        obtain ⟨x, hx⟩ : ∃ x, sa.l[k]? = some x := ⟨sa.l[k], List.getElem?_eq_getElem hkt⟩
        have hz := nums_at (b := sa.l) hx
        rw [idx_at (good_iff.1 HG.out).2.1 hx] at hz
        obtain ⟨b, o, hR0, _, gv⟩ := int_at (E4.out.ri (.head _)) hz
        subst hR0
        have hne : ((k : Int) != (k : Int)) = false := by simp
        clear hkt hx hz
        go_wp2_with fail
        go_roundw
        case rel => exact ⟨k + 1, by omega, by go_num, E4⟩
        case measure => simp [intOf]; omega
      · have hge : ¬ (k : Int) < (sa.n : Int) := by omega
        clear hkn
        have z0 := E4.out.cr (.head _)
        have z1 := E4.out.cr (.tail _ (.head _))
        have HM := Lib.hid (move_any sa.A sa.n sa.c sa.l HSA.out.1 HSA.out.2 sb.A sb.n sb.c sb.l HSB.out.1 HSB.out.2 wr (E4.out.tr (.head _)) (E4.out.tr (.tail _ (.head _))))
        unfold MoveIs at HM
        obtain ⟨e1, he1⟩ : ∃ e1, moveE nameB sa.l sb.l = e1 := ⟨_, rfl⟩
        obtain ⟨e2, he2⟩ : ∃ e2, moveE nameB sb.l sc.l = e2 := ⟨_, rfl⟩
        rw [he1] at HM
        have HE1 := Lib.hid he1
        have HE2 := Lib.hid he2
        clear he1 he2
        go_wp2_with fail
        refine HM.out.mono ?_
        rintro e w5 ⟨R1, m1, d1, ps, rfl, ho, hok, hno, b5⟩
        have HP := Lib.hid (And.intro hok hno)
        have E5 := Lib.hid ((E4.out.on b5).addI (c := d1) (Reads.of_own ho))
        clear ho hok hno b5 E4 HM z0 z1
        have z1 := E5.out.cr (.tail _ (.head _))
        have z2 := E5.out.cr (.tail _ (.tail _ (.head _)))
        have HM := Lib.hid (move_any sb.A sb.n sb.c sb.l HSB.out.1 HSB.out.2 sc.A sc.n sc.c sc.l HSC.out.1 HSC.out.2 w5 (E5.out.tr (.tail _ (.head _))) (E5.out.tr (.tail _ (.tail _ (.head _)))))
        unfold MoveIs at HM
        rw [HE2.out] at HM
        go_wp2_with fail
        refine HM.out.mono ?_
        rintro e w6 ⟨R2, m2, d2, qs, rfl, ho, hok, hno, b6⟩
        have HQ := Lib.hid hok
        have E6 := Lib.hid ((E5.out.on b6).addI (c := d2) (Reads.of_own ho))
        clear ho hok hno b6 E5 HM z1 z2
        have z0 := E6.out.cr (.head _)
        have z2 := E6.out.cr (.tail _ (.tail _ (.head _)))
        have HM := Lib.hid (move_any sa.A sa.n sa.c sa.l HSA.out.1 HSA.out.2 sc.A sc.n sc.c sc.l HSC.out.1 HSC.out.2 w6 (E6.out.tr (.head _)) (E6.out.tr (.tail _ (.tail _ (.head _)))))
        unfold MoveIs at HM
        by_cases hx1 : e1 = 0
        · subst hx1
          by_cases hx2 : e2 = 0
          · subst hx2
            obtain ⟨hga, hgb, hab⟩ := move_zero HE1.out
            obtain ⟨_, hgc, hbc⟩ := move_zero HE2.out
            rw [move_ok hga hgc (fun s h => hbc s (hab s h))] at HM
            have HAB := Lib.hid hab
            clear hga hgb hab hgc hbc
            go_wp2_with fail
            refine HM.out.mono ?_
            rintro e w7 ⟨R3, m3, d3, rs, rfl, ho, hok, _, b7⟩
            rw [hok trivial] at ho
            have E7 := Lib.hid ((E6.out.on b7).addI (c := d3) (Reads.of_own ho))
            rw [HP.out.1 trivial, HQ.out trivial] at E7
            clear ho hok b7 E6 HM z0 z2 HP HQ
            obtain rfl : m3 = sa.n := by have h1 := ints_len (E7.out.ri (.head _)); have h2 := HLA.out; rw [nums_len] at h1; omega
            obtain rfl : m1 = sa.n := by have h1 := ints_len (E7.out.ri (.tail _ (.tail _ (.head _)))); have h2 := HLA.out; rw [nums_len] at h1; omega
            have HM2 : Hid (m2 = sb.l.length) := by have h1 := ints_len (E7.out.ri (.tail _ (.head _))); rw [nums_len] at h1; exact h1.symm
            have hmm : ((sa.n : Int) != (sa.n : Int)) = false := by simp
            go_wp2_with fail
            go_loopw [99] (fun i wr => ∃ k : Nat, k ≤ sa.n ∧ i = .int .i64 k ∧ Hid (EN w [(g0, sa), (g1, sb), (g2, sc), (w.heap.size + 1 + 1, ⟨C, k0, f, zs⟩), (w.heap.size + 1, ⟨B, m, d, ys⟩), (w.heap.size, ⟨A, n, c, xs⟩)] [] [⟨R3, sa.n, d3, numsN sa.l sc.l⟩, ⟨R2, m2, d2, numsN sb.l sc.l⟩, ⟨R1, sa.n, d1, numsN sa.l sb.l⟩, ⟨R0, sa.n, d0, numsN sa.l sa.l⟩] wr)) (fun i _ => sa.n - (intOf i).toNat)
            case atStart => exact ⟨0, Nat.zero_le _, rfl, E7⟩
            case round =>
              clear E7
              obtain ⟨k, hk, rfl, E9⟩ := hrel
              by_cases hkn : k < sa.n
              · have h1000 := HSA.out.1
                have hlt : (k : Int) < (sa.n : Int) := by omega
                have hkt : k < sa.l.length := by have := HLA.out; omega
                obtain ⟨x, hx⟩ : ∃ x, sa.l[k]? = some x := ⟨sa.l[k], List.getElem?_eq_getElem hkt⟩
                have hxb := HAB.out x (List.mem_of_getElem? hx)
                obtain ⟨b1, o1, hR1, _, g1v⟩ := int_at (E9.out.ri (.tail _ (.tail _ (.head _)))) (nums_at (b := sb.l) hx)
                subst hR1
                obtain ⟨b3, o3, hR3, _, g3⟩ := int_at (E9.out.ri (.head _)) (nums_at (b := sc.l) hx)
                subst hR3
                obtain ⟨b2, o2, hR2, _, g2v⟩ := int_at (E9.out.ri (.tail _ (.head _))) (nums_at (b := sc.l) (idx_in hxb))
                subst hR2
                have hj : (idxN sb.l x : Int) < (m2 : Int) := by have := idx_lt hxb; have := HM2.out; omega
                have hj0 : (0 : Int) ≤ (idxN sb.l x : Int) := by omega
                have hne : ((idxN sc.l x : Int) != (idxN sc.l x : Int)) = false := by simp
                clear hkt hx hxb
                go_upto_region 23 with fail
                clear g1v
                refine wp_region_noPanic ?_
                refine wp_region_held_drew (S := fun W => W.cell? ⟨b3, o3 + k, none⟩ = some (.int .i64 (idxN sc.l x : Int)) ∧ W.cell? ⟨b2, o2 + idxN sb.l x, none⟩ = some (.int .i64 (idxN sc.l x : Int))) (by kernel_rfl) ⟨g3, g2v⟩ (fun hHeld => ?_)
                have E10 := Lib.hid E9.out.drew
                clear E9
                refine wpAnyH_take (i := 0) (oi := { dst := some 104, op := Op.move (Operand.tmp 17), type := 25, pos := "outright.go:65", after := #[], guard := none }) (v := .slice (some ⟨b3, o3, none⟩) sa.n d3) rfl (by kernel_rfl) (by kernel_rfl) (by kernel_rfl) (fun _ _ _ h => h) (Or.inl ⟨by kernel_rfl, fun w' hSw => by (try dsimp only at hSw); go_simp⟩) (by assumption) ?_
                try simp only [Act.put, List.setIfInBounds_toArray, List.set_cons_zero, List.set_cons_succ]
                refine wpAnyH_take (i := 1) (oi := { dst := some 105, op := Op.move (Operand.tmp 19), type := 3, pos := "outright.go:65", after := #[], guard := none }) (v := .int .i64 (k : Int)) rfl (by kernel_rfl) (by kernel_rfl) (by kernel_rfl) (fun _ _ _ h => h) (Or.inl ⟨by kernel_rfl, fun w' hSw => by (try dsimp only at hSw); go_simp⟩) (by assumption) ?_
                try simp only [Act.put, List.setIfInBounds_toArray, List.set_cons_zero, List.set_cons_succ]
                refine wpAnyH_take (i := 2) (oi := { dst := some 106, op := Op.indexAddr 25 (Operand.tmp 104) (Operand.tmp 105), type := 0, pos := "outright.go:65", after := #[{ on := 0, ground := Ground.data }, { on := 1, ground := Ground.data }], guard := none }) (v := .pointer (some ⟨b3, o3 + k, none⟩)) rfl (by kernel_rfl) (by kernel_rfl) (by kernel_rfl) (fun _ _ _ h => h) (Or.inl ⟨by kernel_rfl, fun w' hSw => by (try dsimp only at hSw); go_simp⟩) (by assumption) ?_
                try simp only [Act.put, List.setIfInBounds_toArray, List.set_cons_zero, List.set_cons_succ]
                refine wpAnyH_take (i := 3) (oi := { dst := some 107, op := Op.load 3 (Operand.tmp 106), type := 3, pos := "outright.go:65", after := #[{ on := 2, ground := Ground.data }], guard := none }) (v := .int .i64 (idxN sc.l x : Int)) rfl (by kernel_rfl) (by kernel_rfl) (by kernel_rfl) (fun _ _ _ h => h) (Or.inl ⟨by kernel_rfl, fun w' hSw => by (try dsimp only at hSw); go_simp⟩) (by assumption) ?_
                try simp only [Act.put, List.setIfInBounds_toArray, List.set_cons_zero, List.set_cons_succ]
                refine wpAnyH_take (i := 4) (oi := { dst := some 108, op := Op.move (Operand.tmp 15), type := 25, pos := "outright.go:65", after := #[], guard := none }) (v := .slice (some ⟨b2, o2, none⟩) m2 d2) rfl (by kernel_rfl) (by kernel_rfl) (by kernel_rfl) (fun _ _ _ h => h) (Or.inl ⟨by kernel_rfl, fun w' hSw => by (try dsimp only at hSw); go_simp⟩) (by assumption) ?_
                try simp only [Act.put, List.setIfInBounds_toArray, List.set_cons_zero, List.set_cons_succ]
                refine wpAnyH_take (i := 5) (oi := { dst := some 109, op := Op.move (Operand.tmp 20), type := 3, pos := "outright.go:65", after := #[], guard := none }) (v := .int .i64 (idxN sb.l x : Int)) rfl (by kernel_rfl) (by kernel_rfl) (by kernel_rfl) (fun _ _ _ h => h) (Or.inl ⟨by kernel_rfl, fun w' hSw => by (try dsimp only at hSw); go_simp⟩) (by assumption) ?_
                try simp only [Act.put, List.setIfInBounds_toArray, List.set_cons_zero, List.set_cons_succ]
                refine wpAnyH_take (i := 6) (oi := { dst := some 110, op := Op.indexAddr 25 (Operand.tmp 108) (Operand.tmp 109), type := 0, pos := "outright.go:65", after := #[{ on := 4, ground := Ground.data }, { on := 5, ground := Ground.data }], guard := none }) (v := .pointer (some ⟨b2, o2 + idxN sb.l x, none⟩)) rfl (by kernel_rfl) (by kernel_rfl) (by kernel_rfl) (fun _ _ _ h => h) (Or.inl ⟨by kernel_rfl, fun w' hSw => by (try dsimp only at hSw); go_simp⟩) (by assumption) ?_
                try simp only [Act.put, List.setIfInBounds_toArray, List.set_cons_zero, List.set_cons_succ]
                refine wpAnyH_take (i := 7) (oi := { dst := some 111, op := Op.load 3 (Operand.tmp 110), type := 3, pos := "outright.go:65", after := #[{ on := 6, ground := Ground.data }], guard := none }) (v := .int .i64 (idxN sc.l x : Int)) rfl (by kernel_rfl) (by kernel_rfl) (by kernel_rfl) (fun _ _ _ h => h) (Or.inl ⟨by kernel_rfl, fun w' hSw => by (try dsimp only at hSw); go_simp⟩) (by assumption) ?_
                try simp only [Act.put, List.setIfInBounds_toArray, List.set_cons_zero, List.set_cons_succ]
                refine wpAnyH_take (i := 8) (oi := { dst := some 112, op := Op.binOp BinOp.neq 3 (Operand.tmp 107) (Operand.tmp 111) 3, type := 4, pos := "outright.go:65", after := #[{ on := 3, ground := Ground.data }, { on := 7, ground := Ground.data }], guard := none }) (v := .bool false) rfl (by kernel_rfl) (by kernel_rfl) (by kernel_rfl) (fun _ _ _ h => h) (Or.inl ⟨by kernel_rfl, fun w' hSw => by (try dsimp only at hSw); go_simp⟩) (by assumption) ?_
                try simp only [Act.put, List.setIfInBounds_toArray, List.set_cons_zero, List.set_cons_succ]
                refine wpAnyH_done (by kernel_rfl) ?_ _
                refine NoPanic.normal ?_
                clear hHeld g2v g3
                go_wp2_with fail
                go_roundw
                case rel => exact ⟨k + 1, by omega, by go_num, E10⟩
                case measure => simp [intOf]; omega
              · have hge : ¬ (k : Int) < (sa.n : Int) := by omega
                clear hkn
                go_wp2_with fail
                go_ret
                exact ⟨rfl, E9.out.below⟩
          · have hy1 : (e2 != 0) = true := by simp [hx2]
            generalize moveE nameB sa.l sc.l = e3 at *
            go_wp2_with fail
            refine HM.out.mono ?_
            rintro e w7 ⟨R3, m3, d3, rs, rfl, _, _, _, b7⟩
            have HB7 : Hid (Below w.heap.size w w7) := E6.out.below.trans (b7.mono E6.out.below.size)
            clear b7 E6 HM z0 z2 HP HQ
            go_wp2_with fail
            go_ret
            exact ⟨rfl, HB7.out⟩
        · have hy1 : (e1 != 0) = true := by simp [hx1]
          have hy2 : (e1 == 0) = false := by simp [hx1]
          obtain rfl : m1 = 0 := by
            have h1 := ints_len (E6.out.ri (.tail _ (.head _)))
            rw [HP.out.2 hx1] at h1
            simp at h1; omega
          generalize moveE nameB sa.l sc.l = e3 at *
          go_wp2_with fail
          refine HM.out.mono ?_
          rintro e w7 ⟨R3, m3, d3, rs, rfl, _, _, _, b7⟩
          have HB7 : Hid (Below w.heap.size w w7) := E6.out.below.trans (b7.mono E6.out.below.size)
          clear b7 E6 HM z0 z2 HP HQ
          go_wp2_with fail
          go_ret
          exact ⟨rfl, HB7.out⟩
end Go.Proofs.Ythamkpmbfefpfaa
