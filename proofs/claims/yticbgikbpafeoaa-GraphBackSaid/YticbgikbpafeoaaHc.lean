/- GraphBack: the walk. -/
import Derived.Test.YticbgikbpafeoaaHb
namespace Go.Proofs.Yticbgikbpafeoaa
open Go.RowKit

set_option maxRecDepth 100000 in
set_option maxHeartbeats 8000000 in
theorem back_core (nodes : Int) (A : Option Addr) (n c : Nat) (zs : List Ed) (hc : A = none → c = 0) (hnc : n ≤ c) (hcm : c ≤ 9223372036854775807) (w : World) (hR : Reads w w.heap.size 3 A n (cellsE zs)) :
    Calls Try.prog 6 #[.agg #[.int .i64 nodes, .slice A n c]] w fun e w' => e = .returned (.bool true) ∧ Below w.heap.size w w' := by
  have E0 := Lib.hid ((Env.start w).add (g := ⟨nodes, A, n, c, zs⟩) ⟨hR, hnc, hcm, hc⟩)
  obtain ⟨gx, hgx⟩ : ∃ gx : GV, (⟨nodes, A, n, c, zs⟩ : GV) = gx := ⟨_, rfl⟩
  have hz : nodes = gx.z := by rw [← hgx]
  have hA : A = gx.A := by rw [← hgx]
  have hn : n = gx.n := by rw [← hgx]
  have hcc : c = gx.c := by rw [← hgx]
  rw [hgx] at E0
  subst hz; subst hA; subst hn; subst hcc
  clear hR hc hnc hcm hgx
  go_enter Try.func6, Try.ntmps6
  go_wp2_with fail
  generalize w.alloc (.cells #[.int .i64 gx.z, .slice gx.A gx.n gx.c] 24) = W0 at *
  refine (wakes_any _).mono ?_
  rintro e w1 ⟨rfl, b⟩
  have E1 := Lib.hid (E0.out.on b)
  clear b E0
  have z0 := E1.out.c0 (.head _)
  have z1 := E1.out.c1 (.head _)
  go_wp2_with fail
  have ok1 := E1.out.ok (.head _)
  refine (fair_any gx.z gx.A gx.n gx.c gx.es ok1.2.2.2 ok1.2.1 ok1.2.2.1 w1 ok1.1).mono ?_
  clear ok1
  rintro e w2 hx
  obtain ⟨g, rfl, hz, he, okg, b⟩ := gis_gv hx
  have E2 := Lib.hid ((E1.out.on b).add okg)
  have HG := Lib.hid (And.intro hz he)
  clear hx hz he okg b E1 z0 z1
  have z0 := E2.out.c0 (.head _)
  have z1 := E2.out.c1 (.head _)
  have hgn : g.n ≤ 80 := by
    have := (E2.out.ok (.head _)).len
    have h2 := take_len gx.es
    rw [← HG.out.2] at h2
    omega
  go_wp2_with fail
  generalize w2.alloc (.cells #[.int .i64 g.z, .slice g.A g.n g.c] 24) = w3 at *
  generalize w2.heap.size = b3 at *
  cases hr : rightG g.z g.es
  · have HC := Lib.hid fun W h => check_any g.z g.A g.n g.c g.es (by omega) W h
    rw [check_no hr] at HC
    refine (rev_no g.z g.A g.n g.c g.es hr (by omega) w3 (E2.out.ok (.head _)).1).mono ?_
    clear hr
    rintro e w4 hx
    obtain ⟨g4, rfl, hz, he, ok4, b⟩ := gerr_gv hx
    have E4 := Lib.hid ((E2.out.on b).add ok4)
    clear hx hz he ok4 b E2 z0 z1
    have z0 := E4.out.c0 (.tail _ (.head _))
    have z1 := E4.out.c1 (.tail _ (.head _))
    go_wp2_with fail
    refine (HC.out _ (E4.out.ok (.tail _ (.head _))).1).mono ?_
    rintro e w5 ⟨rfl, b⟩
    have E5 := Lib.hid (E4.out.on b)
    clear b E4 z0 z1 HC
    go_wp2_with fail
    go_ret
    exact ⟨rfl, E5.out.below⟩
  · have hg := rightG_iff.1 hr
    have HIG := Lib.hid hg
    refine (rev_ok g.z g.A g.n g.c g.es hg (by omega) w3 (E2.out.ok (.head _)).1).mono ?_
    clear hr hg
    rintro e w4 hx
    obtain ⟨g4, rfl, hz4, he4, ok4, b⟩ := gerr_gv hx
    have E4 := Lib.hid ((E2.out.on b).add ok4)
    have HG4 := Lib.hid (And.intro hz4 he4)
    have HIG4 : Hid (IsG g4.z g4.es) := by show IsG _ _; rw [hz4, he4]; exact HIG.out.back
    have hn4 : g4.n ≤ 80 := by
      have h1 := ok4.len
      have h2 := back_len HIG.out
      have h3 := (E2.out.ok (.head _)).len
      rw [he4] at h1
      omega
    clear hx hz4 he4 ok4 b E2 z0 z1
    have z0 := E4.out.c0 (.head _)
    have z1 := E4.out.c1 (.head _)
    go_wp2_with fail
    generalize w4.alloc (.cells #[.int .i64 g4.z, .slice g4.A g4.n g4.c] 24) = w5 at *
    generalize w4.heap.size = b4 at *
    refine (rev_ok g4.z g4.A g4.n g4.c g4.es HIG4.out (by omega) w5 (E4.out.ok (.head _)).1).mono ?_
    rintro e w6 hx
    obtain ⟨g6, rfl, hz6, he6, ok6, b⟩ := gerr_gv hx
    have E6 := Lib.hid ((E4.out.on b).add ok6)
    have HG6 : Hid (g6.z = g.z ∧ g6.es = g.es) := ⟨hz6.trans HG4.out.1, by rw [he6, HG4.out.2]; exact back_back HIG.out⟩
    have hn6 : g6.n ≤ 80 := by
      have h1 := ok6.len
      have h3 := (E4.out.ok (.tail _ (.head _))).len
      rw [HG6.out.2] at h1
      omega
    have HSM := Lib.hid fun W h h2 => same_any g6.z g.z g6.A g.A g6.n g6.c g.n g.c g6.es g.es (by omega) W h h2
    rw [decide_eq_true (show g6.z = g.z ∧ g6.es = g.es from HG6.out)] at HSM
    have HCK := Lib.hid fun W h => check_any g4.z g4.A g4.n g4.c g4.es (by omega) W h
    rw [check_yes (rightG_iff.2 HIG4.out)] at HCK
    clear hx hz6 he6 ok6 b E4 z0 z1
    have z0 := E6.out.c0 (.head _)
    have z1 := E6.out.c1 (.head _)
    have z2 := E6.out.c0 (.tail _ (.tail _ (.head _)))
    have z3 := E6.out.c1 (.tail _ (.tail _ (.head _)))
    go_wp2_with fail
    generalize w6.alloc (.cells #[.int .i64 g6.z, .slice g6.A g6.n g6.c] 24) = w7 at *
    generalize w6.heap.size = b6 at *
    refine (HSM.out w7 (E6.out.ok (.head _)).1 (E6.out.ok (.tail _ (.tail _ (.head _)))).1).mono ?_
    rintro e w8 ⟨rfl, b⟩
    have E8 := Lib.hid (E6.out.on b)
    clear b E6 z0 z1 z2 z3 HSM
    have z0 := E8.out.c0 (.tail _ (.head _))
    have z1 := E8.out.c1 (.tail _ (.head _))
    go_wp2_with fail
    refine (HCK.out w8 (E8.out.ok (.tail _ (.head _))).1).mono ?_
    rintro e w9 ⟨rfl, b⟩
    have E9 := Lib.hid (E8.out.on b)
    clear b E8 z0 z1 HCK
    have z0 := E9.out.c0 (.tail _ (.tail _ (.head _)))
    have z1 := E9.out.c1 (.tail _ (.tail _ (.head _)))
    have hnd := HIG.out.nodes
    obtain ⟨m, hm⟩ : ∃ m : Nat, (m : Int) = min g.z 12 := ⟨(min g.z 12).toNat, by omega⟩
    have hmx : min g.z 12 = (m : Int) := hm.symm
    have hm1 : m ≤ 12 := by omega
    have hm2 : (m : Int) ≤ g.z := by omega
    clear hm hnd
    go_wp2_with fail
    clear z0 z1 hmx
    go_loopg [49] m (fun gg s49 wr => ∃ i : Nat, i + gg = m ∧ s49 = .int .i64 i ∧ Hid (Env w [(b6, g6), (b4, g4), (b3, g), (w.heap.size, gx)] wr))
    case atStart => exact ⟨0, by omega, rfl, E9⟩
    case round =>
      clear E9
      obtain ⟨i, hig, rfl, E9⟩ := hrel
      cases gk with
      | zero =>
        have hge : ¬ (i : Int) < (m : Int) := by omega
        clear hig
        go_wp2_with fail
        go_ret
        exact ⟨rfl, E9.out.below⟩
      | succ g2 =>
        have hlt : (i : Int) < (m : Int) := by omega
        have hv : (0 : Int) ≤ (i : Int) ∧ (i : Int) < g.z := by omega
        have hv4 : (0 : Int) ≤ (i : Int) ∧ (i : Int) < g4.z := by rw [HG4.out.1]; exact hv
        have HIGG := Lib.hid hig
        have z0 := E9.out.c0 (.tail _ (.tail _ (.head _)))
        have z1 := E9.out.c1 (.tail _ (.tail _ (.head _)))
        have okg := E9.out.ok (.tail _ (.tail _ (.head _)))
        have HO := Lib.hid (out_ok g.z i g.A g.n g.c g.es HIG.out hv (by omega) okg.2.1 wr okg.1)
        have HI := Lib.hid fun W h => in_ok g4.z i g4.A g4.n g4.c g4.es HIG4.out hv4 (by omega) W h
        have hin : inE g4.es i = (outE g.es i).map flipE := by rw [HG4.out.2]; exact out_in HIG.out i
        rw [hin] at HI
        have HVS : Hid (∀ p ∈ outE g.es i, p.1 = (i : Int)) := fun p hp => of_decide_eq_true (List.mem_filter.1 hp).2
        have HQ : Hid ((outE g.es i).length ≤ 80) := by
          have h1 := List.length_filter_le (fun p : Ed => decide (p.1 = (i : Int))) g.es
          have h2 := okg.len
          show (outE g.es i).length ≤ 80
          unfold outE; omega
        have HQ2 : Hid (((outE g.es i).map flipE).length = (outE g.es i).length) := List.length_map _
        generalize outE g.es i = os at *
        clear okg hin hv hv4 hig
        go_wp2_with fail
        refine HO.out.mono ?_
        rintro e u1 ⟨A8, c8, rfl, h1, h2, h3, h4⟩
        have E10 := Lib.hid (E9.out.on h4)
        have R8 := Lib.hid (reads_own h1)
        clear h1 h2 h3 h4 z0 z1 E9 HO
        have z0 := E10.out.c0 (.tail _ (.head _))
        have z1 := E10.out.c1 (.tail _ (.head _))
        go_wp2_with fail
        refine (HI.out u1 (E10.out.ok (.tail _ (.head _))).1).mono ?_
        rintro e u2 ⟨A10, c10, rfl, h1, h2, h3, h4⟩
        have E11 := Lib.hid (E10.out.on h4)
        have R10 := Lib.hid (reads_own h1)
        have R9 : Hid (Reads u2 u2.heap.size 3 A8 os.length (cellsE os)) := (R8.out.below h4).more h4.size
        rw [HQ2.out] at R10 ⊢
        clear h1 h2 h3 h4 z0 z1 E10 HI R8
        obtain ⟨q, hq⟩ : ∃ q, os.length = q := ⟨_, rfl⟩
        rw [hq] at R9 R10 HQ ⊢
        have HLQ := Lib.hid hq
        clear hq HQ2
        have hq80 := HQ.out
        rename World => wq
        go_wp2_with fail
        go_loopg [79] q (fun gg s79 wr => ∃ j : Nat, j + gg = q ∧ s79 = .int .i64 j ∧ Hid (Env w [(b6, g6), (b4, g4), (b3, g), (w.heap.size, gx)] wr) ∧ Hid (Reads wr wr.heap.size 3 A8 q (cellsE os)) ∧ Hid (Reads wr wr.heap.size 3 A10 q (cellsE (os.map flipE))))
        case atStart => exact ⟨0, by omega, rfl, E11, R9, R10⟩
        case round =>
          clear E11 R9 R10
          obtain ⟨j, hjg, rfl, E11, R9, R10⟩ := hrel
          cases gk with
          | zero =>
            have hge2 : ¬ (j : Int) < (q : Int) := by omega
            clear hjg
            go_wp2_with fail
            go_roundg g2
            case measure => omega
            case rel => exact ⟨i + 1, by have := HIGG.out; omega, by go_num, E11⟩
          | succ g3 =>
            have hlt2 : (j : Int) < (q : Int) := by omega
            have hj0 : (0 : Int) ≤ (j : Int) := by omega
            obtain ⟨p, hp⟩ : ∃ p, os[j]? = some p := ⟨os[j]'(by rw [HLQ.out]; omega), List.getElem?_eq_getElem _⟩
            have hp2 : (os.map flipE)[j]? = some (flipE p) := by rw [List.getElem?_map, hp]; rfl
            have hpv := HVS.out p (List.mem_of_getElem? hp)
            obtain ⟨b, o, rfl, hb, g0, g1, g2'⟩ := ed_at R9.out hp
            obtain ⟨b', o', rfl, hb', x0, x1, x2⟩ := ed_at R10.out hp2
            have x0' : wr.cell? ⟨b', o' + j * 3, none⟩ = some (.int .i64 p.2.1) := x0
            have x1' : wr.cell? ⟨b', o' + j * 3 + 1, none⟩ = some (.int .i64 (i : Int)) := by rw [← hpv]; exact x1
            have x2' : wr.cell? ⟨b', o' + j * 3 + 2, none⟩ = some (.int .i64 p.2.2) := x2
            have HJ := Lib.hid hjg
            clear hp hp2 hpv x0 x1 x2 hjg
            go_wp2_with fail
            go_quiet (fail)
            go_wp2_with fail
            go_roundg g3
            case measure => omega
            case rel => exact ⟨j + 1, by have := HJ.out; omega, by go_num, E11.out.drewN _, R9.out, R10.out⟩
end Go.Proofs.Yticbgikbpafeoaa
