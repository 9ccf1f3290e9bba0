/- TopoLeft: the walk. -/
import Derived.Test.YtaigpdpcliecpaaM18
import Derived.Test.YtaigpdpcliecpaaM8
-- holds: YtaigpdpcliecpaaTlb
namespace Go.Proofs.Ytaigpdpcliecpaa
open Go.RowKit Go.Shelf
open Go.Maps (Keyed IsMap int_keyed keyOf_int_mk)

set_option maxRecDepth 100000 in
set_option maxHeartbeats 2400000 in
theorem tleft_core (nodes : Int) (A : Option Addr) (n c : Nat) (zs : List Ed) (hc : A = none → c = 0) (hnc : n ≤ c) (hcm : c ≤ 9223372036854775807) (w : World) (hR : Reads w w.heap.size 3 A n (cellsE zs)) :
    Calls Try.prog 6 #[.agg #[.int .i64 nodes, .slice A n c]] w fun e w' => e = .returned (.bool true) ∧ Below w.heap.size w w' := by
  have E0 := Lib.hid ((Env.start w).add (g := ⟨nodes, A, n, c, zs⟩) ⟨hR, hnc, hcm, hc⟩)
  obtain ⟨gx, hgx⟩ : ∃ gx : GV, (⟨nodes, A, n, c, zs⟩ : GV) = gx := ⟨_, rfl⟩
  have hz : nodes = gx.z := by rw [← hgx]
  have hA : A = gx.A := by rw [← hgx]
  have hn : n = gx.n := by rw [← hgx]
  have hcc : c = gx.c := by rw [← hgx]
  rw [hgx] at E0
  subst hz; subst hA; subst hn; subst hcc
  clear hR hc hnc hcm hgx
  go_enter Try.func6, Try.ntmps6
  go_wp2_with fail
  generalize w.alloc (.cells #[.int .i64 gx.z, .slice gx.A gx.n gx.c] 24) = W0 at *
  refine (wakes7_any _).mono ?_
  rintro e w1 ⟨rfl, b⟩
  have E1 := Lib.hid (E0.out.on b)
  clear b E0
  have z0 := E1.out.c0 (.head _)
  have z1 := E1.out.c1 (.head _)
  go_wp2_with fail
  have ok1 := E1.out.ok (.head _)
  refine (fair7_any gx.z gx.A gx.n gx.c gx.es ok1.2.2.2 ok1.2.1 ok1.2.2.1 w1 ok1.1).mono ?_
  clear ok1
  rintro e w2 hx
  obtain ⟨g, rfl, hz, he, okg, b⟩ := gis_gv hx
  have E3 := Lib.hid ((E1.out.on b).add okg)
  have HN : Hid (g.n ≤ 1000) := by
    show _ ≤ _
    have h1 := okg.len
    rw [he, List.length_take] at h1
    omega
  have HL : Hid (g.es.length = g.n) := okg.len
  clear hx hz he okg b E1 z0 z1
  have z0 := E3.out.c0 (.head _)
  have z1 := E3.out.c1 (.head _)
  have x0 := E3.out.c0 (.tail _ (.head _))
  have x1 := E3.out.c1 (.tail _ (.head _))
  go_wp2_with fail
  generalize w2.alloc (.cells #[.int .i64 g.z, .slice g.A g.n g.c] 24) = w3 at *
  generalize w2.heap.size = b3 at *
  cases hr : rightG g.z g.es
  · skip
    clear HL
    have HRF := Lib.hid hr
    clear hr
    refine (left7_no g.z g.A g.n g.c g.es HRF.out HN.out _ (E3.out.ok (.head _)).1).mono ?_
    rintro e w4 ⟨rfl, b⟩
    have E4 := Lib.hid (E3.out.on b)
    clear b E3 z0 z1 x0 x1
    have z0 := E4.out.c0 (.head _)
    have z1 := E4.out.c1 (.head _)
    have x0 := E4.out.c0 (.tail _ (.head _))
    have x1 := E4.out.c1 (.tail _ (.head _))
    go_wp2_with fail
    refine (order7_no g.z g.A g.n g.c g.es HRF.out HN.out _ (E4.out.ok (.head _)).1).mono ?_
    rintro e w5 ⟨rfl, b⟩
    have E5 := Lib.hid (E4.out.on b)
    clear b E4 z0 z1 x0 x1
    have z0 := E5.out.c0 (.head _)
    have z1 := E5.out.c1 (.head _)
    have x0 := E5.out.c0 (.tail _ (.head _))
    have x1 := E5.out.c1 (.tail _ (.head _))
    go_wp2_with fail
    have HC := check_any g.z g.A g.n g.c g.es HN.out w5 (E5.out.ok (.head _)).1
    rw [check_no HRF.out] at HC
    refine HC.mono ?_
    clear HC
    rintro e w6 ⟨rfl, b⟩
    have E6 := Lib.hid (E5.out.on b)
    clear b E5 z0 z1 x0 x1
    go_wp2_with fail
    go_ret
    exact ⟨rfl, E6.out.below⟩
  · skip
    have HRT := Lib.hid hr
    clear hr
    refine (left7_at g _ HN.out HRT.out (E3.out.ok (.head _))).mono ?_
    rintro e w4 ⟨l, Al, cl, hk, rfl, hol, _, _, b⟩
    have E4 := Lib.hid (E3.out.on b)
    have RL := Lib.hid (Reads.of_own hol)
    have HK := Lib.hid hk
    obtain ⟨ls, hls⟩ : ∃ ls, leftE g.z.toNat l = ls := ⟨_, rfl⟩
    rw [hls] at RL ⊢
    have HLS := Lib.hid hls
    have HLN : Hid (ls.length ≤ 300) := by
      show _ ≤ _
      have h1 := left_len g.z.toNat l
      have h2 := (GV.nat HRT.out).2.1
      rw [HLS.out] at h1
      omega
    clear hk hol hls b E3 z0 z1 x0 x1
    have z0 := E4.out.c0 (.head _)
    have z1 := E4.out.c1 (.head _)
    have x0 := E4.out.c0 (.tail _ (.head _))
    have x1 := E4.out.c1 (.tail _ (.head _))
    go_wp2_with fail
    refine (order7_at g _ HN.out HRT.out (E4.out.ok (.head _))).mono ?_
    rintro e w5 ⟨l2, hk2, b, hor⟩
    have hll : l2 = l := hk2.unique HK.out
    subst l2
    have E5 := Lib.hid (E4.out.on b)
    have RL' := Lib.hid ((RL.out.below b).more b.size)
    clear RL
    have RL := RL'
    clear RL'
    obtain ⟨Ao, no, co, ok, rfl, hok⟩ : ∃ (Ao : Option Addr) (no co : Nat) (ok : Bool), e = .returned (.tuple #[.slice Ao no co, .bool ok, .int .i64 0]) ∧ ((ls.length : Int) == 0) = ok := by
      have h1 := left_empty HK.out.way
      rw [HLS.out] at h1
      rcases hor with ⟨hlt, rfl⟩ | ⟨heq, Ao, co, rfl, _, _, _⟩
      · exact ⟨none, 0, 0, false, rfl, by rw [h1]; exact decide_eq_false (by omega)⟩
      · exact ⟨Ao, _, co, true, rfl, by rw [h1]; exact decide_eq_true heq⟩
    have HOK := Lib.hid hok
    clear hk2 hor hok b E4 z0 z1 x0 x1
    obtain ⟨n9, hn9⟩ : ∃ n9, ls.length = n9 := ⟨_, rfl⟩
    have HN9 := Lib.hid hn9
    rw [hn9] at RL ⊢
    clear hn9
    have hmm := @run_makeMap Try.prog
    go_upto_region 8 with fail
    have hM0 : (w5.alloc (.map #[] 0)).ownsMap (H := Unit) Try.prog 3 (plainElem Try.prog 4) w5.heap.size 0 (.map []) := World.ownsMap_made _ _ _ _
    have bb : Below w5.heap.size w5 (w5.alloc (.map #[] 0)) := (Below.refl _ _).alloc (Nat.le_refl _) _
    have bb2 : Below (w5.alloc (.map #[] 0)).heap.size (w5.alloc (.map #[] 0)) ((w5.alloc (.map #[] 0)).alloc (.cells #[.map (some w5.heap.size)] 45)) := (Below.refl _ _).alloc (Nat.le_refl _) _
    have M0 : Hid (((w5.alloc (.map #[] 0)).alloc (.cells #[.map (some w5.heap.size)] 45)).ownsMap (H := Unit) Try.prog 3 (plainElem Try.prog 4) w5.heap.size 0 (.map [])) := hM0.kept (below_only bb2 none) (by simp)
    have KB0 := Lib.hid (Blk.new (w5.alloc (.map #[] 0)) 45 #[.map (some w5.heap.size)])
    have J0 : Hid (Below w5.heap.size w5 ((w5.alloc (.map #[] 0)).alloc (.cells #[.map (some w5.heap.size)] 45))) := bb.trans (bb2.mono bb.size)
    rw [World.size_alloc] at KB0
    clear hM0 bb bb2
    go_upto_region 9 with fail
    clear hmm
    generalize (w5.alloc (.map #[] 0)).alloc (.cells #[.map (some w5.heap.size)] 45) = w6 at *
    obtain ⟨B, hB⟩ : ∃ B, w5.heap.size = B := ⟨_, rfl⟩
    have HB := Lib.hid hB
    rw [hB] at M0 KB0 ⊢
    clear hB
    go_wp2_with fail
    go_loopg [55] n9 (fun gg s55 wr => ∃ (i : Nat) (D : DataW Unit) (q : Nat), s55 = .int .i64 i ∧ i + gg = n9 ∧ Hid (wr.ownsMap (H := Unit) Try.prog 3 (plainElem Try.prog 4) B q D ∧ q ≤ i ∧ SeenT D (fun u => decide (u ∈ ls.take i))) ∧ Hid (Blk wr (B + 1) 45 #[.map (some B)]) ∧ Hid (Below w5.heap.size w5 wr))
    case atStart => exact ⟨0, _, 0, rfl, by omega, ⟨M0.out, Nat.le_refl _, seenT_zero ls⟩, KB0, J0⟩
    case round =>
      clear M0 KB0 J0
      obtain ⟨i, D, q, rfl, hig, M0, KB0, J0⟩ := hrel
      rename World => wr
      cases gk with
      | succ g2 =>
        have hlt : (i : Int) < (n9 : Int) := by omega
        have hi3 : i ≤ 300 := by have := HLN.out; have := HN9.out; omega
        obtain ⟨v, hv⟩ : ∃ v, ls[i]? = some v := ⟨ls[i]'(by have := HN9.out; omega), List.getElem?_eq_getElem _⟩
        obtain ⟨ab, ao, rfl, _, g0⟩ := int_at ((RL.out.below J0.out).more J0.out.size) hv
        have HI : Hid (i + 1 + g2 = n9) := by show _ = _; omega
        have HSN := Lib.hid (seenT_next hv)
        have hvm : v ∈ leftE g.z.toNat l := by rw [HLS.out]; exact List.mem_of_getElem? hv
        have hv2 := (mem_left.1 hvm).1
        have hz3 := (GV.nat HRT.out).2.1
        have HK2 : Hid (keyOf Try.prog 3 (.int .i64 v) = some (.int .i64 v)) := keyOf_int_mk Try.underlying3 (WalkArith.wf_i64 (by omega))
        have k0 := KB0.out.cell 0
        have HQ : Hid (q ≤ 300) := by have := M0.out.2.1; show _ ≤ _; omega
        clear hig hv hvm hv2 hz3
        go_wp2_with (at_mapUpdate; refine wpList_mapUpdate_own _ rfl _ _ _ 45 rfl 3 4 (int_keyed Try.underlying3) Try.underlying45 _ B q D rfl M0.out.1 (by have := HQ.out; unfold maxLen; omega) _ _ (.int .i64 v) rfl rfl HK2.out (.lit (.bool true)) [] (plainElem_bool Try.underlying4 true) ?_; intro w7 hown7 hgrow7)
        have M7 : Hid (w7.ownsMap (H := Unit) Try.prog 3 (plainElem Try.prog 4) B (q + 1) (D.put (.int .i64 v) (.lit (.bool true))) ∧ q + 1 ≤ i + 1 ∧ SeenT (D.put (.int .i64 v) (.lit (.bool true))) (fun u => decide (u ∈ ls.take (i + 1)))) := ⟨hown7, by have := M0.out.2.1; omega, by rw [← HSN.out]; exact M0.out.2.2.put M0.out.1.isMap v⟩
        have KB7 := Lib.hid (KB0.out.grown hgrow7 (by intro e; injection e with e; omega))
        have J7 : Hid (Below w5.heap.size w5 w7) := J0.out.grown hgrow7 J0.out.size (fun k hk => by injection hk with hk; have := HB.out; omega)
        clear hown7 hgrow7 M0 KB0 J0 HSN g0 k0
        go_wp2_with fail
        go_roundg g2
        case measure => omega
        case rel => exact ⟨i + 1, _, q + 1, by go_num, by have := HI.out; omega, M7, KB7, J7⟩
      | zero =>
        have hge : ¬ (i : Int) < (n9 : Int) := by omega
        have hin : i = n9 := by omega
        have MS : Hid (SeenT D (fun u => decide (u ∈ ls))) := by
          have h := M0.out.2.2
          rwa [hin, List.take_of_length_le (by rw [HN9.out]; exact Nat.le_refl _)] at h
        have M1 := Lib.hid M0.out.1
        have E6 := Lib.hid (E5.out.on J0.out)
        have RL6 := Lib.hid ((RL.out.below J0.out).more J0.out.size)
        clear hig hin M0 RL
        go_wp2_with fail
        rename World => wm
        go_loopg [64] n9 (fun gg s64 wr => ∃ (i : Nat), s64 = .int .i64 i ∧ i + gg = n9 ∧ Hid (Below wm.heap.size wm wr))
        case atStart => exact ⟨0, rfl, by omega, Below.refl _ _⟩
        case round =>
          obtain ⟨i, rfl, hig, J⟩ := hrel
          rename World => wr
          cases gk with
          | succ g2 =>
            have hlt : (i : Int) < (n9 : Int) := by omega
            have hi3 : i ≤ 300 := by have := HLN.out; have := HN9.out; omega
            obtain ⟨v, hv⟩ : ∃ v, ls[i]? = some v := ⟨ls[i]'(by have := HN9.out; omega), List.getElem?_eq_getElem _⟩
            obtain ⟨ab, ao, rfl, _, g0⟩ := int_at ((RL6.out.below J.out).more J.out.size) hv
            have HI : Hid (i + 1 + g2 = n9) := by show _ = _; omega
            have hvm : v ∈ leftE g.z.toNat l := by rw [HLS.out]; exact List.mem_of_getElem? hv
            have hv2 := (mem_left.1 hvm).1
            have hz3 := GV.nat HRT.out
            have HIN := Lib.hid fun W h => in_ok g.z v g.A g.n g.c g.es (rightG_iff.1 HRT.out) (by omega) HN.out W h
            have hany := left_any HK.out hz3.2.2.all hvm
            rw [HLS.out] at hany
            have HCF : Hid (∀ (A2 : Option Addr) (k c2 : Nat) (W : World), Below wm.heap.size wm W → k = (inE g.es v).length → Reads W W.heap.size 3 A2 k (cellsE (inE g.es v)) → Calls Try.prog 24 #[.slice A2 k c2, .func (.func 25) #[] #[.pointer (some ⟨B + 1, 0, none⟩)]] W fun e w' => e = .returned (.bool true) ∧ Below W.heap.size W w') := fun A2 k c2 W hW hk hR => by
              have h1 := in_len7 g.es v
              have h2 := HL.out
              have h3 := HN.out
              have := contains7l_any (B + 1) (fun p => decide (p.1 ∈ ls)) A2 k c2 (inE g.es v) (by omega) W hR (fun p hp W2 hW2 => by
                have hr := of_decide_eq_true (hz3.2.2.all p (in_mem.1 hp).1)
                have hb2 := hW.trans (hW2.mono hW.size)
                exact left1_any p (by omega) (fun u => decide (u ∈ ls)) D (B + 1) B q W2 (KB0.out.below hb2 KB0.out.lt) (M1.out.kept (below_only hb2 none) (by simp)) MS.out)
              rwa [hany] at this
            have E7 := Lib.hid (E6.out.on J.out)
            clear hig hv hvm hv2 hz3 hany
            have z0 := E7.out.c0 (.head _)
            have z1 := E7.out.c1 (.head _)
            have x0 := E7.out.c0 (.tail _ (.head _))
            have x1 := E7.out.c1 (.tail _ (.head _))
            go_wp2_with fail
            refine (HIN.out _ (E7.out.ok (.head _)).1).mono ?_
            rintro e w8 ⟨A2, c2, rfl, ho, _, _, b⟩
            have J8 : Hid (Below wm.heap.size wm w8) := J.out.trans (b.mono J.out.size)
            have R8 := Lib.hid (reads_own ho)
            obtain ⟨k8, hk8⟩ : ∃ k8, (inE g.es v).length = k8 := ⟨_, rfl⟩
            rw [hk8] at R8 ⊢
            have HK8 := Lib.hid hk8.symm
            clear ho b hk8 HIN J E7 g0 z0 z1 x0 x1
            go_wp2_with fail
            refine (HCF.out A2 k8 c2 w8 J8.out HK8.out R8.out).mono ?_
            rintro e w9 ⟨rfl, b⟩
            have J9 : Hid (Below wm.heap.size wm w9) := J8.out.trans (b.mono J8.out.size)
            clear b J8 R8 HCF
            go_wp2_with fail
            go_roundg g2
            case measure => omega
            case rel => exact ⟨i + 1, by go_num, by have := HI.out; omega, J9⟩
          | zero =>
            have hge : ¬ (i : Int) < (n9 : Int) := by omega
            have E7 := Lib.hid (E6.out.on J.out)
            have R7 := Lib.hid ((RL6.out.below J.out).more J.out.size)
            have hq := HOK.out
            rw [HN9.out] at hq
            have hqq : (ok == ok) = true := by simp
            have HS := Lib.hid fun W h => sorted_int6 Al n9 cl ls (by have := HLN.out; have := HN9.out; omega) (by rw [← HLS.out]; exact left_up _ _) W h
            clear hig J RL6 E6
            go_wp2_with fail
            refine (HS.out _ R7.out).mono ?_
            rintro e w8 ⟨rfl, b⟩
            have E8 := Lib.hid (E7.out.on b)
            clear b E7 R7 HS
            go_wp2_with fail
            go_ret
            exact ⟨rfl, E8.out.below⟩
end Go.Proofs.Ytaigpdpcliecpaa
