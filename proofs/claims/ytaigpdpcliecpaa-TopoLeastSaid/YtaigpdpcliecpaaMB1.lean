/- TopoLeast: the walk. -/
import Derived.Test.YtaigpdpcliecpaaM18
-- holds: YtaigpdpcliecpaaTla
namespace Go.Proofs.Ytaigpdpcliecpaa
open Go.RowKit Go.Shelf
open Go.Maps (Keyed IsMap int_keyed keyOf_int_mk)

set_option maxRecDepth 100000 in
set_option maxHeartbeats 16000000 in
theorem tleast_core (nodes : Int) (A : Option Addr) (n c : Nat) (zs : List Ed) (Al : Option Addr) (nl cl : Nat) (ls : List Int) (hc : A = none → c = 0) (hnc : n ≤ c) (hcm : c ≤ 9223372036854775807) (w : World) (hR : Reads w w.heap.size 3 A n (cellsE zs)) (hlc : nl ≤ cl) (hlm : cl ≤ 9223372036854775807) (hLL : Reads w w.heap.size 1 Al nl (ints ls)) :
    Calls Try.prog 5 #[.agg #[.int .i64 nodes, .slice A n c], .slice Al nl cl] w fun e w' => e = .returned (.bool true) ∧ Below w.heap.size w w' := by
  have E0 := Lib.hid ((Env.start w).add (g := ⟨nodes, A, n, c, zs⟩) ⟨hR, hnc, hcm, hc⟩)
  obtain ⟨gx, hgx⟩ : ∃ gx : GV, (⟨nodes, A, n, c, zs⟩ : GV) = gx := ⟨_, rfl⟩
  have hz : nodes = gx.z := by rw [← hgx]
  have hA : A = gx.A := by rw [← hgx]
  have hn : n = gx.n := by rw [← hgx]
  have hcc : c = gx.c := by rw [← hgx]
  rw [hgx] at E0
  subst hz; subst hA; subst hn; subst hcc
  have HLL := Lib.hid hLL
  have HLC := Lib.hid hlc
  have HLM := Lib.hid hlm
  clear hLL hlc hlm
  clear hR hc hnc hcm hgx
  go_enter Try.func5, Try.ntmps5
  go_wp2_with fail
  generalize w.alloc (.cells #[.int .i64 gx.z, .slice gx.A gx.n gx.c] 24) = W0 at *
  refine (wakes7_any _).mono ?_
  rintro e w1 ⟨rfl, b⟩
  have E1 := Lib.hid (E0.out.on b)
  clear b E0
  have z0 := E1.out.c0 (.head _)
  have z1 := E1.out.c1 (.head _)
  go_wp2_with fail
  have ok1 := E1.out.ok (.head _)
  refine (fair7_any gx.z gx.A gx.n gx.c gx.es ok1.2.2.2 ok1.2.1 ok1.2.2.1 w1 ok1.1).mono ?_
  clear ok1
  rintro e w2 hx
  obtain ⟨g, rfl, hz, he, okg, b⟩ := gis_gv hx
  have E3 := Lib.hid ((E1.out.on b).add okg)
  have HN : Hid (g.n ≤ 1000) := by
    show _ ≤ _
    have h1 := okg.len
    rw [he, List.length_take] at h1
    omega
  have HL : Hid (g.es.length = g.n) := okg.len
  clear hx hz he okg b E1 z0 z1
  have z0 := E3.out.c0 (.head _)
  have z1 := E3.out.c1 (.head _)
  have x0 := E3.out.c0 (.tail _ (.head _))
  have x1 := E3.out.c1 (.tail _ (.head _))
  go_wp2_with fail
  generalize w2.alloc (.cells #[.int .i64 g.z, .slice g.A g.n g.c] 24) = w3 at *
  generalize w2.heap.size = b3 at *
  cases hr : rightG g.z g.es
  · skip
    clear HL
    have HRF := Lib.hid hr
    clear hr
    refine (order7_no g.z g.A g.n g.c g.es HRF.out HN.out _ (E3.out.ok (.head _)).1).mono ?_
    rintro e w4 ⟨rfl, b⟩
    have E4 := Lib.hid (E3.out.on b)
    clear b E3 z0 z1 x0 x1
    have z0 := E4.out.c0 (.head _)
    have z1 := E4.out.c1 (.head _)
    have x0 := E4.out.c0 (.tail _ (.head _))
    have x1 := E4.out.c1 (.tail _ (.head _))
    go_wp2_with fail
    refine (right7_no g.z g.A g.n g.c g.es HRF.out Al nl cl HN.out _ (E4.out.ok (.head _)).1).mono ?_
    rintro e w5 ⟨rfl, b⟩
    have E5 := Lib.hid (E4.out.on b)
    clear b E4 z0 z1 x0 x1
    go_wp2_with fail
    go_ret
    exact ⟨rfl, E5.out.below⟩
  · skip
    have HRT := Lib.hid hr
    clear hr
    refine (order7_at g _ HN.out HRT.out (E3.out.ok (.head _))).mono ?_
    rintro e w4 ⟨l, hk, b, hor⟩
    have E4 := Lib.hid (E3.out.on b)
    have HK := Lib.hid hk
    have hmin : min (nl : Int) 310 = ((min nl 310 : Nat) : Int) := by omega
    have hq : min nl 310 ≤ nl ∧ min nl 310 ≤ 310 := by omega
    have hsl := fun W => t_slice_h Al nl cl (min nl 310) (by have := HLC.out; omega) W
    generalize min nl 310 = q at *
    have RQ := Lib.hid (reads_cut ((HLL.out.below E4.out.below).more E4.out.below.size) hq.1)
    have HQ := Lib.hid hq.2
    obtain ⟨o, ho⟩ : ∃ o, ls.take q = o := ⟨_, rfl⟩
    rw [ho] at RQ
    have HOL : Hid (o.length ≤ 310) := by
      show _ ≤ _
      rw [← ho, List.length_take]
      have := HQ.out
      omega
    clear ho hk hq HLL b E3 z0 z1 x0 x1
    rcases hor with ⟨hlt, rfl⟩ | ⟨heq, Ao, co, rfl, hol, _, _⟩
    · skip
      have HM := Lib.hid hlt
      clear hlt
      have z0 := E4.out.c0 (.head _)
      have z1 := E4.out.c1 (.head _)
      have x0 := E4.out.c0 (.tail _ (.head _))
      have x1 := E4.out.c1 (.tail _ (.head _))
      go_wp2_with fail
      refine (clone7_any Al q cl o (by have := HQ.out; omega) _ RQ.out).mono ?_
      rintro e w5 ⟨Ap, cp, rfl, hrp, b⟩
      have E5 := Lib.hid (E4.out.on b)
      have RP := Lib.hid hrp
      clear hrp b E4 RQ hmin hsl z0 z1 x0 x1
      have z0 := E5.out.c0 (.head _)
      have z1 := E5.out.c1 (.head _)
      have x0 := E5.out.c0 (.tail _ (.head _))
      have x1 := E5.out.c1 (.tail _ (.head _))
      go_wp2_with fail
      refine (right7_at g _ HN.out HRT.out (E5.out.ok (.head _)) Ap o.length cp o RP.out).mono ?_
      rintro e w6 ⟨b1, rfl, hb1, b⟩
      have E6 := Lib.hid (E5.out.on b)
      have hb : b1 = false := by
        cases b1
        · rfl
        · have h1 := (hb1.1 rfl).full HK.out
          have h2 := HM.out
          omega
      subst hb
      clear hb1 b E5 RP z0 z1 x0 x1
      go_wp2_with fail
      go_ret
      exact ⟨rfl, E6.out.below⟩
    · skip
      have HM := Lib.hid heq
      have RO := Lib.hid (Reads.of_own hol)
      clear heq hol
      have z0 := E4.out.c0 (.head _)
      have z1 := E4.out.c1 (.head _)
      have x0 := E4.out.c0 (.tail _ (.head _))
      have x1 := E4.out.c1 (.tail _ (.head _))
      go_wp2_with fail
      refine (clone7_any Al q cl o (by have := HQ.out; omega) _ RQ.out).mono ?_
      rintro e w5 ⟨Ap, cp, rfl, hrp, b⟩
      have E5 := Lib.hid (E4.out.on b)
      have RP := Lib.hid hrp
      have RO' := Lib.hid ((RO.out.below b).more b.size)
      clear RO
      have RO := RO'
      clear RO'
      clear hrp b E4 RQ hmin hsl z0 z1 x0 x1
      have z0 := E5.out.c0 (.head _)
      have z1 := E5.out.c1 (.head _)
      have x0 := E5.out.c0 (.tail _ (.head _))
      have x1 := E5.out.c1 (.tail _ (.head _))
      go_wp2_with fail
      refine (right7_at g _ HN.out HRT.out (E5.out.ok (.head _)) Ao l.length co l RO.out).mono ?_
      rintro e w6 ⟨b1, rfl, hb1, b⟩
      have hb : b1 = true := hb1.2 (HK.out.right HM.out)
      subst hb
      have E6 := Lib.hid (E5.out.on b)
      have RO' := Lib.hid ((RO.out.below b).more b.size)
      clear RO
      have RO := RO'
      clear RO'
      have RP' := Lib.hid ((RP.out.below b).more b.size)
      clear RP
      have RP := RP'
      clear RP'
      clear hb1 b E5 z0 z1 x0 x1
      have z0 := E6.out.c0 (.head _)
      have z1 := E6.out.c1 (.head _)
      have x0 := E6.out.c0 (.tail _ (.head _))
      have x1 := E6.out.c1 (.tail _ (.head _))
      go_wp2_with fail
      refine (right7_at g _ HN.out HRT.out (E6.out.ok (.head _)) Ap o.length cp o RP.out).mono ?_
      rintro e w7 ⟨b2, rfl, hb2, b⟩
      have E7 := Lib.hid (E6.out.on b)
      have RO' := Lib.hid ((RO.out.below b).more b.size)
      clear RO
      have RO := RO'
      clear RO'
      have RP' := Lib.hid ((RP.out.below b).more b.size)
      clear RP
      have RP := RP'
      clear RP'
      have HB2 := Lib.hid hb2
      clear hb2 b E6 z0 z1 x0 x1
      cases b2
      · clear HB2
        go_wp2_with fail
        go_ret
        exact ⟨rfl, E7.out.below⟩
      · have HOR := Lib.hid (HB2.out.1 rfl)
        have hlen : o.length = l.length := by have h1 := HOR.out.many; have h2 := HM.out; omega
        have hll : l.length ≤ 1000000 := by have h1 := HOL.out; omega
        have HC := Lib.hid fun W h1 h2 => compare7_two Ao Ap l.length o.length co cp l o hlen.symm hll (fun i x y he hx hy => HOR.out.least HK.out he hx hy) W h1 h2
        clear hlen hll HB2
        go_wp2_with fail
        refine (HC.out _ RO.out RP.out).mono ?_
        rintro e w8 ⟨r, rfl, hr, b⟩
        have E8 := Lib.hid (E7.out.on b)
        clear b E7
        go_wp2_with fail
        go_ret
        exact ⟨rfl, E8.out.below⟩
end Go.Proofs.Ytaigpdpcliecpaa
