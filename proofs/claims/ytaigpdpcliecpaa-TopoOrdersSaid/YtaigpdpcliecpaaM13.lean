/- Layer topo: the function that tells the nodes that are taken: its contract. -/
import Derived.Sort.CutIn
import Derived.Test.YtaigpdpcliecpaaM12
-- holds: YtaigpdpcliecpaaTk
namespace Go.Proofs.Ytaigpdpcliecpaa
open Go.RowKit Go.Shelf
attribute [local go_sem] Oper.semAt_some

theorem run_store_func7 {P : Program} {w : World} {a : Addr} {m : Mode} (fn : Fn) (first captured : Array Value) : (store a (.func fn first captured) m).run P w = stored P w a (.func fn first captured) m := run_store P w a _ m rfl
attribute [local go_sem] run_store_func7
theorem arr88 (T : Array Value) (hs : T.size = 88) : ∃ u : Nat → Value, T = #[u 0, u 1, u 2, u 3, u 4, u 5, u 6, u 7, u 8, u 9, u 10, u 11, u 12, u 13, u 14, u 15, u 16, u 17, u 18, u 19, u 20, u 21, u 22, u 23, u 24, u 25, u 26, u 27, u 28, u 29, u 30, u 31, u 32, u 33, u 34, u 35, u 36, u 37, u 38, u 39, u 40, u 41, u 42, u 43, u 44, u 45, u 46, u 47, u 48, u 49, u 50, u 51, u 52, u 53, u 54, u 55, u 56, u 57, u 58, u 59, u 60, u 61, u 62, u 63, u 64, u 65, u 66, u 67, u 68, u 69, u 70, u 71, u 72, u 73, u 74, u 75, u 76, u 77, u 78, u 79, u 80, u 81, u 82, u 83, u 84, u 85, u 86, u 87] := by
  refine ⟨fun k => T.getD k undef, ?_⟩
  have e : (#[T.getD 0 undef, T.getD 1 undef, T.getD 2 undef, T.getD 3 undef, T.getD 4 undef, T.getD 5 undef, T.getD 6 undef, T.getD 7 undef, T.getD 8 undef, T.getD 9 undef, T.getD 10 undef, T.getD 11 undef, T.getD 12 undef, T.getD 13 undef, T.getD 14 undef, T.getD 15 undef, T.getD 16 undef, T.getD 17 undef, T.getD 18 undef, T.getD 19 undef, T.getD 20 undef, T.getD 21 undef, T.getD 22 undef, T.getD 23 undef, T.getD 24 undef, T.getD 25 undef, T.getD 26 undef, T.getD 27 undef, T.getD 28 undef, T.getD 29 undef, T.getD 30 undef, T.getD 31 undef, T.getD 32 undef, T.getD 33 undef, T.getD 34 undef, T.getD 35 undef, T.getD 36 undef, T.getD 37 undef, T.getD 38 undef, T.getD 39 undef, T.getD 40 undef, T.getD 41 undef, T.getD 42 undef, T.getD 43 undef, T.getD 44 undef, T.getD 45 undef, T.getD 46 undef, T.getD 47 undef, T.getD 48 undef, T.getD 49 undef, T.getD 50 undef, T.getD 51 undef, T.getD 52 undef, T.getD 53 undef, T.getD 54 undef, T.getD 55 undef, T.getD 56 undef, T.getD 57 undef, T.getD 58 undef, T.getD 59 undef, T.getD 60 undef, T.getD 61 undef, T.getD 62 undef, T.getD 63 undef, T.getD 64 undef, T.getD 65 undef, T.getD 66 undef, T.getD 67 undef, T.getD 68 undef, T.getD 69 undef, T.getD 70 undef, T.getD 71 undef, T.getD 72 undef, T.getD 73 undef, T.getD 74 undef, T.getD 75 undef, T.getD 76 undef, T.getD 77 undef, T.getD 78 undef, T.getD 79 undef, T.getD 80 undef, T.getD 81 undef, T.getD 82 undef, T.getD 83 undef, T.getD 84 undef, T.getD 85 undef, T.getD 86 undef, T.getD 87 undef] : Array Value) = ((List.range 88).map fun k => T.getD k undef).toArray := rfl
  refine Array.ext (by simp [hs]) fun i h1 h2 => ?_
  simp only [e]
  simp [Array.getD, h1]
theorem packA {T : Array Value} {ds : List Deferred} {Ds : List Nat} {R : Prop} {v0 v1 v2 v4 v5 v6 v21 v22 : Value} (hR : R) (hs : T.size = 88) (h0 : T[0]? = some v0) (h1 : T[1]? = some v1) (h2 : T[2]? = some v2) (h4 : T[4]? = some v4) (h5 : T[5]? = some v5) (h6 : T[6]? = some v6) (h21 : T[21]? = some v21) (h22 : T[22]? = some v22) (hd : ds = Ds.map mkMark) :
    ∃ u : Nat → Value, R ∧ ({ tmps := T, defers := ds } : Act) = { tmps := #[v0, v1, v2, u 3, v4, v5, v6, u 7, u 8, u 9, u 10, u 11, u 12, u 13, u 14, u 15, u 16, u 17, u 18, u 19, u 20, v21, v22, u 23, u 24, u 25, u 26, u 27, u 28, u 29, u 30, u 31, u 32, u 33, u 34, u 35, u 36, u 37, u 38, u 39, u 40, u 41, u 42, u 43, u 44, u 45, u 46, u 47, u 48, u 49, u 50, u 51, u 52, u 53, u 54, u 55, u 56, u 57, u 58, u 59, u 60, u 61, u 62, u 63, u 64, u 65, u 66, u 67, u 68, u 69, u 70, u 71, u 72, u 73, u 74, u 75, u 76, u 77, u 78, u 79, u 80, u 81, u 82, u 83, u 84, u 85, u 86, u 87], defers := Ds.map mkMark } := by
  obtain ⟨u, hu⟩ := arr88 T hs
  have e0 : u 0 = v0 := by rw [hu] at h0; exact Option.some.inj h0
  have e1 : u 1 = v1 := by rw [hu] at h1; exact Option.some.inj h1
  have e2 : u 2 = v2 := by rw [hu] at h2; exact Option.some.inj h2
  have e4 : u 4 = v4 := by rw [hu] at h4; exact Option.some.inj h4
  have e5 : u 5 = v5 := by rw [hu] at h5; exact Option.some.inj h5
  have e6 : u 6 = v6 := by rw [hu] at h6; exact Option.some.inj h6
  have e21 : u 21 = v21 := by rw [hu] at h21; exact Option.some.inj h21
  have e22 : u 22 = v22 := by rw [hu] at h22; exact Option.some.inj h22
  exact ⟨u, hR, by rw [hu, hd, e0, e1, e2, e4, e5, e6, e21, e22]⟩
theorem packB {T : Array Value} {ds : List Deferred} {Ds : List Nat} {R : Prop} {v0 v1 v2 v4 v5 v6 v10 v11 : Value} (hR : R) (hs : T.size = 88) (h0 : T[0]? = some v0) (h1 : T[1]? = some v1) (h2 : T[2]? = some v2) (h4 : T[4]? = some v4) (h5 : T[5]? = some v5) (h6 : T[6]? = some v6) (h10 : T[10]? = some v10) (h11 : T[11]? = some v11) (hd : ds = Ds.map mkMark) :
    ∃ u : Nat → Value, R ∧ ({ tmps := T, defers := ds } : Act) = { tmps := #[v0, v1, v2, u 3, v4, v5, v6, u 7, u 8, u 9, v10, v11, u 12, u 13, u 14, u 15, u 16, u 17, u 18, u 19, u 20, u 21, u 22, u 23, u 24, u 25, u 26, u 27, u 28, u 29, u 30, u 31, u 32, u 33, u 34, u 35, u 36, u 37, u 38, u 39, u 40, u 41, u 42, u 43, u 44, u 45, u 46, u 47, u 48, u 49, u 50, u 51, u 52, u 53, u 54, u 55, u 56, u 57, u 58, u 59, u 60, u 61, u 62, u 63, u 64, u 65, u 66, u 67, u 68, u 69, u 70, u 71, u 72, u 73, u 74, u 75, u 76, u 77, u 78, u 79, u 80, u 81, u 82, u 83, u 84, u 85, u 86, u 87], defers := Ds.map mkMark } := by
  obtain ⟨u, hu⟩ := arr88 T hs
  have e0 : u 0 = v0 := by rw [hu] at h0; exact Option.some.inj h0
  have e1 : u 1 = v1 := by rw [hu] at h1; exact Option.some.inj h1
  have e2 : u 2 = v2 := by rw [hu] at h2; exact Option.some.inj h2
  have e4 : u 4 = v4 := by rw [hu] at h4; exact Option.some.inj h4
  have e5 : u 5 = v5 := by rw [hu] at h5; exact Option.some.inj h5
  have e6 : u 6 = v6 := by rw [hu] at h6; exact Option.some.inj h6
  have e10 : u 10 = v10 := by rw [hu] at h10; exact Option.some.inj h10
  have e11 : u 11 = v11 := by rw [hu] at h11; exact Option.some.inj h11
  exact ⟨u, hR, by rw [hu, hd, e0, e1, e2, e4, e5, e6, e10, e11]⟩
def cellsE1 (p : Ed) : Array Value := #[.int .i64 p.1, .int .i64 p.2.1, .int .i64 p.2.2]

set_option maxRecDepth 100000 in
set_option maxHeartbeats 8000000 in
theorem taken_seq (d : Nat) (hd : 1 ≤ d) (Bg Bo Lg Ls : Nat) (A0 : Option Addr) (n0 c0 : Nat) (A : Option Addr) (n c : Nat) (Sa : Option Addr) (sc m : Nat) (zs : List Ed) (w1 : World) (hg : IsG (m : Int) zs) (hn : n ≤ 1000) (hL : LvAt w1.heap.size Lg Ls A n c Sa sc m zs w1)
    (hG : Blk w1 Bg 24 #[.int .i64 (m : Int), .slice A0 n0 c0]) (hO : Blk w1 Bo 63 #[.func (.func 56) #[] #[.pointer (some ⟨Lg, 0, none⟩), .pointer (some ⟨Ls, 0, none⟩)]]) :
    OneSeq d Try.prog 52 #[.pointer (some ⟨Bg, 0, none⟩), .pointer (some ⟨Bo, 0, none⟩)] (Value.int .i64) (fun vs => Kahn zs m vs) (fun vs => KahnAll zs m vs) (fun k => k < w1.heap.size) w1 := by
  intro l J Jx C0 W hW0 hC0 hJ hJx hY h0
  have hm := hg.nodes
  have hW : Below w1.heap.size w1 W := hW0.below (Nat.le_refl _) fun k hk => hk
  have HGC : Hid (∀ X, Below w1.heap.size w1 X → X.cell? ⟨Bg, 0, none⟩ = some (.int .i64 (m : Int))) := fun X h => (hG.below h hG.lt).cell 0
  have HOC : Hid (∀ X, Below w1.heap.size w1 X → X.cell? ⟨Bo, 0, none⟩ = some (.func (.func 56) #[] #[.pointer (some ⟨Lg, 0, none⟩), .pointer (some ⟨Ls, 0, none⟩)])) := fun X h => (hO.below h hO.lt).cell 0
  have HO1 := Lib.hid fun (v : Nat) (hv : v < m) (X : World) (h : Below w1.heap.size w1 X) => out1_any w1.heap.size Lg Ls A n c Sa sc m zs v hg.row (by omega) hv X (hL.on h) h.size
  have HG := Lib.hid hg
  have HM : Hid (m ≤ 300) := by show _ ≤ _; omega
  have HJ := Lib.hid hJ
  have HJX := Lib.hid hJx
  have HY := Lib.hid hY
  have HZ : Hid (zs.length ≤ 1000) := by have := reads_len hL.es; show _ ≤ _; omega
  have KH := Lib.hid (Blk.new W 95 #[.slice none 0 0])
  have hb1 : Below W.heap.size W (W.alloc (.cells #[.slice none 0 0] 95)) := (Below.refl _ _).alloc (Nat.le_refl _) _
  have HB1 := Lib.hid hb1
  have HWW := Lib.hid hW
  have HC0 := Lib.hid hC0
  have HJ0 := Lib.hid (hJ _ _ _ _ h0 (Keep.of_all _ hb1))
  clear hW0 hY hL hG hO hJ h0 hC0 hW hb1 hJx hg hn
  refine callsIn_of_wp_marks Try.func52 rfl trivial ?_ rfl
  simp only [Try.ntmps52, List.size_toArray, List.length_cons, List.length_nil, Nat.reduceAdd, Nat.reduceSub, Array.replicate_succ, Array.replicate_zero, List.push_toArray, List.append_toArray, List.nil_append, List.cons_append]
  gi_wp2_with fail
  refine ⟨trivial, (callsIn_wide.2 (ready_any _)).mono ?_⟩
  rintro e wa ⟨rfl, rfl⟩
  have hmk : ∀ X, (Instr.makeSlice 27 (.int .i64 (m : Int)) (.int .i64 (m : Int))).run Try.prog X = .ok (.slice (some ⟨X.heap.size, 0, none⟩) m m) (X.alloc (.cells (ints (List.replicate m 0)).toArray 3)) := fun X => int_make m (m : Int) rfl (by omega) X
  generalize W.alloc (.cells #[.slice none 0 0] 95) = Wa at *
  gi_upto_region 1 with fail
  have KP := Lib.hid (Blk.new Wa 84 #[.func (.func 65) #[.pointer (some ⟨W.heap.size, 0, none⟩)] #[]])
  have hb2 : Below Wa.heap.size Wa (Wa.alloc (.cells #[.func (.func 65) #[.pointer (some ⟨W.heap.size, 0, none⟩)] #[]] 84)) := (Below.refl _ _).alloc (Nat.le_refl _) _
  have HB2 : Hid (Below W.heap.size W (Wa.alloc (.cells #[.func (.func 65) #[.pointer (some ⟨W.heap.size, 0, none⟩)] #[]] 84))) := HB1.out.trans (hb2.mono HB1.out.size)
  have KH2 := Lib.hid (KH.out.below hb2 KH.out.lt)
  have HJ2 := Lib.hid (HJ.out _ _ _ _ HJ0.out (Keep.of_all _ hb2))
  have g0 := HGC.out _ (HWW.out.trans (HB2.out.mono HWW.out.size))
  have HLO : Hid (W.heap.size ≤ Wa.heap.size) := HB1.out.size
  clear hb2 KH HJ0 HB1
  generalize Wa.alloc (.cells #[.func (.func 65) #[.pointer (some ⟨W.heap.size, 0, none⟩)] #[]] 84) = Wb at *
  gi_upto_region 2 with fail
  have hbm1 : Below Wb.heap.size Wb (Wb.alloc (.cells (ints (List.replicate m 0)).toArray 3)) := (Below.refl _ _).alloc (Nat.le_refl _) _
  have hbm2 : Below Wb.heap.size Wb ((Wb.alloc (.cells (ints (List.replicate m 0)).toArray 3)).alloc (.cells #[.slice (some ⟨Wb.heap.size, 0, none⟩) m m] 27)) := hbm1.alloc hbm1.size _
  have kw := (Blk.new Wb 3 (ints (List.replicate m 0)).toArray).alloc (.cells #[.slice (some ⟨Wb.heap.size, 0, none⟩) m m] 27)
  have kb := Blk.new (Wb.alloc (.cells (ints (List.replicate m 0)).toArray 3)) 27 #[.slice (some ⟨Wb.heap.size, 0, none⟩) m m]
  rw [World.size_alloc] at kb
  have hbt := HWW.out.trans ((HB2.out.trans (hbm2.mono HB2.out.size)).mono HWW.out.size)
  have hn : ∀ k, W.heap.size ≤ k → ¬ C0 k := fun k hk hC => by have := (HC0.out k hC).2; omega
  have T0 : Hid (TkAt w1.heap.size W.heap.size W.heap.size Wb.heap.size (Wb.heap.size + 1) Wa.heap.size m none 0 0 [] (List.replicate m 0) C0 [] w1 ((Wb.alloc (.cells (ints (List.replicate m 0)).toArray 3)).alloc (.cells #[.slice (some ⟨Wb.heap.size, 0, none⟩) m m] 27))) := by
    have hs := HLO.out
    have hs2 := HB2.out.size
    have hs3 := HWW.out.size
    have hs4 := hbm2.size
    exact ⟨⟨KH2.out.below hbm2 KH2.out.lt, World.ownsRow_nil _ _ _ _⟩, kw, kb, KP.out.below hbm2 KP.out.lt, ⟨by omega, by omega, by omega, by omega⟩, (fun e => by cases e), ⟨hn _ (by omega), hn _ (by omega), hn _ (by omega), hn _ (by omega), fun g hg => by cases hg⟩,
      MarksAt.nil _ _ _, hbt, ⟨hs3, by omega⟩, fun k hk => ⟨Nat.not_lt.1 (HC0.out k hk).1, by have := (HC0.out k hk).2; omega⟩⟩
  have HJ3 := Lib.hid (HJ.out _ _ _ _ HJ2.out (Keep.of_all _ hbm2))
  have g0 := HGC.out _ hbt
  clear hbm1 hbm2 kw kb hbt hn KH2 KP HJ2 HB2 HLO hmk
  obtain ⟨H, hH⟩ : ∃ H, H = W.heap.size := ⟨_, rfl⟩
  have T0 : Hid (TkAt w1.heap.size W.heap.size H Wb.heap.size (Wb.heap.size + 1) Wa.heap.size m none 0 0 [] (List.replicate m 0) C0 [] w1 ((Wb.alloc (.cells (ints (List.replicate m 0)).toArray 3)).alloc (.cells #[.slice (some ⟨Wb.heap.size, 0, none⟩) m m] 27))) := by rw [hH]; exact T0
  rw [← hH]
  clear hH
  generalize (Wb.alloc (.cells (ints (List.replicate m 0)).toArray 3)).alloc (.cells #[.slice (some ⟨Wb.heap.size, 0, none⟩) m m] 27) = W2 at *
  generalize Wb.heap.size + 1 = BW at *
  generalize Wb.heap.size = P at *
  generalize Wa.heap.size = BP at *
  gi_wp2_with fail
  have HW0 : Hid (WtsIs m (cntE (belE zs ((0 : Nat) : Int))) (List.replicate m 0)) := (WtsIs.zero m).congr fun u _ => by rw [show ((0 : Nat) : Int) = 0 from rfl, bel_none HG.out.all]; rfl
  clear g0
  refine wpIn_loop_ghost_k (fun gg a w => ∃ (Ds : List Nat) (v : Nat) (ws : List Int) (u : Nat → Value), (v + gg = m ∧ Hid (WtsIs m (cntE (belE zs v)) ws) ∧ Hid (TkAt w1.heap.size W.heap.size H P BW BP m none 0 0 [] ws C0 Ds w1 w) ∧ Hid (J [] C0 w)) ∧ a = { tmps := #[Value.func (.yield l) #[] #[], .pointer (some ⟨Bg, 0, none⟩), .pointer (some ⟨Bo, 0, none⟩), u 3, .pointer (some ⟨BP, 0, none⟩), .func (.func 66) #[.pointer (some ⟨H, 0, none⟩)] #[], .pointer (some ⟨BW, 0, none⟩), u 7, u 8, u 9, u 10, u 11, u 12, u 13, u 14, u 15, u 16, u 17, u 18, u 19, u 20, .int .i64 (m : Int), .int .i64 (v : Int), u 23, u 24, u 25, u 26, u 27, u 28, u 29, u 30, u 31, u 32, u 33, u 34, u 35, u 36, u 37, u 38, u 39, u 40, u 41, u 42, u 43, u 44, u 45, u 46, u 47, u 48, u 49, u 50, u 51, u 52, u 53, u 54, u 55, u 56, u 57, u 58, u 59, u 60, u 61, u 62, u 63, u 64, u 65, u 66, u 67, u 68, u 69, u 70, u 71, u 72, u 73, u 74, u 75, u 76, u 77, u 78, u 79, u 80, u 81, u 82, u 83, u 84, u 85, u 86, u 87], defers := Ds.map mkMark }) m ?start1 ?round1
  case start1 =>
    exact ⟨[], 0, List.replicate m 0, packA ⟨by omega, HW0, T0, HJ3⟩ rfl rfl rfl rfl rfl rfl rfl rfl rfl rfl⟩
  case round1 =>
    clear HW0 T0 HJ3
    intro gk _ wr hinv
    obtain ⟨Ds, v, ws, u, ⟨hvg, HW, T, HJ1⟩, ha⟩ := hinv
    subst ha
    intro _ _ _ _
    cases gk with
    | zero =>
      have hge : ¬ (v : Int) < (m : Int) := by omega
      obtain rfl : v = m := by omega
      have HWM : Hid (WtsIs v (cntE zs) ws) := by have := HW.out; rwa [bel_all HG.out.all] at this
      have g0 := HGC.out _ T.out.below
      clear hvg HW
      gi_wp2_with fail
      clear hge
      gi_loopg [39] v (fun gg s39 wy => ∃ (k : Nat) (xs : List Int) (A2 : Option Addr) (n2 c2 : Nat), s39 = .int .i64 k ∧ k + gg = v ∧ Hid (ReadyE k [] (cntE zs) xs) ∧ Hid (HeapOk xs) ∧ Hid (TkAt w1.heap.size W.heap.size H P BW BP v A2 n2 c2 xs ws C0 Ds w1 wy) ∧ Hid (J [] C0 wy))
      case atStart => exact ⟨0, [], none, 0, 0, rfl, by omega, ReadyE.start _ _, HeapOk.nil, T, HJ1⟩
      case round =>
        clear T HJ1 g0
        obtain ⟨k, xs, A2, n2, c2, rfl, hkg, HR, HK, T, HJ1⟩ := hrel
        cases gk with
        | succ g2 =>
          have hlt : (k : Int) < (v : Int) := by omega
          have hkv : k < v := by omega
          have HKV := Lib.hid hkv
          have HI : Hid (k + 1 + g2 = v) := by show _ = _; omega
          have hwk := HWM.out.2 k hkv
          have y0 := T.out.bw.cell 0
          have y1 := T.out.cell hwk
          have hn2 : n2 ≤ 300 := by
            have h1 := HR.out.few
            have h2 := T.out.heap.len
            have h3 := HM.out
            omega
          by_cases hc : cntE zs (k : Int) = 0
          · rw [hc] at y1
            have b0 := T.out.bp.cell 0
            have HP := Lib.hid (put_any H W.heap.size A2 n2 c2 xs (k : Int) wr T.out.heap HK.out (by omega) T.out.size.2)
            have HC := Lib.hid hc
            clear hkg hkv hwk hc
            gi_wp2_with fail
            refine ⟨trivial, (callsIn_wide.2 HP.out).mono ?_⟩
            rintro e wz ⟨⟨u, rfl⟩, A3, c3, ys, hp, hok, hh, hkp, hob⟩
            have T3 := Lib.hid (T.out.heapTo hh hkp hob)
            have HR3 : Hid (ReadyE (k + 1) [] (cntE zs) ys) := HR.out.put (by simp) HC.out hp
            have HK3 := Lib.hid hok
            have HJ3 := Lib.hid (HJ.out _ _ _ _ HJ1.out (hkp.mono fun j _ hj => by
              rcases hj with hj | hj
              · exact ⟨fun e => by have := T.out.lo.1; omega, fun e => by have := (T.out.own_lo e).1; omega⟩
              · exact ⟨fun e => T.out.notC.1 (e ▸ hj), fun e => T.out.notC.2.2.2.2 j e hj⟩))
            clear hp hok hh hkp hob T HR HK HJ1 HP y0 y1 b0
            gi_wp2_with fail
            gi_roundg g2
            case measure => omega
            case rel => exact ⟨k + 1, ys, A3, n2 + 1, c3, by go_num, HI.out, HR3, HK3, T3, HJ3⟩
          · have hc2 : (((cntE zs (k : Int) : Nat) : Int) == 0) = false := by simp; omega
            have HR3 : Hid (ReadyE (k + 1) [] (cntE zs) xs) := HR.out.skip hc
            have hc3 : ¬ ((cntE zs (k : Int) : Nat) : Int) = 0 := by omega
            clear hkg hkv hwk HR
            gi_wp2_with fail
            gi_roundg g2
            case measure => omega
            case rel => exact ⟨k + 1, xs, A2, n2, c2, by go_num, HI.out, HR3, HK, T, HJ1⟩
        | zero =>
          have hge : ¬ (k : Int) < (v : Int) := by omega
          obtain rfl : k = v := by omega
          have HR3 : Hid (ReadyE k [] (cntE (restE zs [])) xs) := by rw [rest_nil]; exact HR.out
          have HW3 : Hid (WtsIs k (cntE (restE zs [])) ws) := by rw [rest_nil]; exact HWM.out
          have HN := Lib.hid (next_any7 T.out HM.out HR3.out HK.out)
          clear hkg HR HWM
          gi_wp2_with fail
          refine ⟨trivial, (callsIn_wide.2 HN.out).mono ?_⟩
          rintro e wz ⟨x, b, A3, n3, c3, ys, rfl, hT, hok, hyes, hno, hkp⟩
          have T3 := Lib.hid hT
          have HK3 := Lib.hid hok
          have HYES := Lib.hid hyes
          have HNO := Lib.hid hno
          have HJ3 := Lib.hid (HJ.out _ _ _ _ HJ1.out hkp)
          have HK0 : Hid (Kahn zs k []) := Kahn.nil _ _
          clear hT hok hyes hno hkp T HK HJ1 HN HR3 hge
          gi_wp2_with fail
          skip
          refine wpIn_loop_ghost_k (fun gg a w => ∃ (Ds : List Nat) (l2 : List Int) (x : Int) (b : Bool) (A2 : Option Addr) (n2 c2 : Nat) (ys ws : List Int) (C : Nat → Prop) (u : Nat → Value), (l2.length + gg = k ∧ Hid (Kahn zs k l2) ∧ Hid (WtsIs k (cntE (restE zs l2)) ws) ∧ Hid (TkAt w1.heap.size W.heap.size H P BW BP k A2 n2 c2 ys ws C Ds w1 w) ∧ Hid (HeapOk ys) ∧ Hid (b = true → NextT zs k l2 x ∧ ReadyE k (l2 ++ [x]) (cntE (restE zs l2)) ys) ∧ Hid (b = false → NoneT zs k l2) ∧ Hid (J l2 C w)) ∧ a = { tmps := #[Value.func (.yield l) #[] #[], .pointer (some ⟨Bg, 0, none⟩), .pointer (some ⟨Bo, 0, none⟩), u 3, .pointer (some ⟨BP, 0, none⟩), .func (.func 66) #[.pointer (some ⟨H, 0, none⟩)] #[], .pointer (some ⟨BW, 0, none⟩), u 7, u 8, u 9, .int .i64 x, .bool b, u 12, u 13, u 14, u 15, u 16, u 17, u 18, u 19, u 20, u 21, u 22, u 23, u 24, u 25, u 26, u 27, u 28, u 29, u 30, u 31, u 32, u 33, u 34, u 35, u 36, u 37, u 38, u 39, u 40, u 41, u 42, u 43, u 44, u 45, u 46, u 47, u 48, u 49, u 50, u 51, u 52, u 53, u 54, u 55, u 56, u 57, u 58, u 59, u 60, u 61, u 62, u 63, u 64, u 65, u 66, u 67, u 68, u 69, u 70, u 71, u 72, u 73, u 74, u 75, u 76, u 77, u 78, u 79, u 80, u 81, u 82, u 83, u 84, u 85, u 86, u 87], defers := Ds.map mkMark }) k ?start3 ?round3
          case start3 =>
            exact ⟨Ds, [], x, b, A3, n3, c3, ys, ws, C0, packB ⟨by simp, HK0, HW3, T3, HK3, HYES, HNO, HJ3⟩ rfl rfl rfl rfl rfl rfl rfl rfl rfl rfl⟩
          case round3 =>
            clear HW3 T3 HK3 HYES HNO HJ3 HK0
            rename List Nat => Dold
            clear x b ys A3 n3 c3
            intro gk _ wr hinv
            obtain ⟨Ds, l2, x, b, A2, n2, c2, ys, ws2, C, u, ⟨hlg, HKN, HW, T, HK, HYES, HNO, HJ1⟩, ha⟩ := hinv
            subst ha
            intro _ _ _ _
            cases b with
            | false =>
              have HE : Hid (KahnAll zs k l2) := ⟨HKN.out, HNO.out rfl⟩
              clear hlg HYES HNO HKN HW
              gi_wp2_with fail
              refine ⟨fun f h => (by cases h), ?_⟩
              gi_wp2_with fail
              refine leaves_marks Ds wr T.out.marks fun w' hk => ?_
              refine ⟨_, results_none rfl _ _ _, ⟨_, rfl⟩, .inl ⟨l2, C, HE.out, HJ.out _ _ _ _ HJ1.out (hk.mono fun j _ hj hD => ?_)⟩⟩
              have := T.out.marks.all j hD
              rcases hj with hj | hj
              · omega
              · exact this.2.1 hj
            | true =>
              skip
              obtain ⟨hnx, hry⟩ := HYES.out rfl
              have hll := hnx.less HKN.out
              obtain ⟨g2, hg2⟩ : ∃ g2, gk = g2 + 1 := ⟨gk - 1, by omega⟩
              subst hg2
              have HI : Hid ((l2 ++ [x]).length + g2 = k) := by show _ = _; simp; omega
              obtain ⟨t, rfl⟩ : ∃ t : Nat, x = (t : Int) := ⟨x.toNat, by have := hnx.1; omega⟩
              have htk : t < k := by have := hnx.1.2; omega
              have hnot : (t : Int) ∉ l2 := (freeB_iff.1 hnx.2.1).1
              have HKN2 := Lib.hid (HKN.out.more hnx)
              have HRY := Lib.hid hry
              have HNT := Lib.hid hnot
              have HTK := Lib.hid htk
              obtain ⟨fn, tmps, assign, body, hy, hRR⟩ := HY.out l2 (t : Int) C wr HJ1.out HKN2.out (fun j hj => ⟨Nat.not_lt.2 (T.out.cIn j hj).1, (T.out.cIn j hj).2⟩) T.out.size.2
              have HRR := Lib.hid hRR
              clear hnx hry hll hlg hnot htk hRR HYES HNO
              gi_wp2_with fail
              first
                | refine ⟨(fun h => by cases h), (RoundIn.deep rfl HRR.out).mono ?_⟩
                | refine (RoundIn.deep rfl HRR.out).mono ?_
              rintro e W3 (⟨C', hC', hk3, rfl, hJ3⟩ | ⟨rfl, hk3, hJ3⟩)
              rotate_left
              · have HX := Lib.hid hJ3
                have HMK : Hid (MarksAt W.heap.size C Ds W3) := T.out.marks.keep hk3 fun D hD => ⟨(T.out.marks.all D hD).1, (T.out.marks.all D hD).2.1⟩
                clear hJ3 HRR hy hk3
                gi_wp2_with fail
                refine leaves_marks Ds W3 HMK.out fun w' hk => ?_
                refine ⟨_, results_none rfl _ _ _, ⟨_, rfl⟩, .inr (HJX.out _ _ HX.out (hk.mono fun j _ hj hD => ?_))⟩
                have := (HMK.out.all j hD).1
                omega
              · have T3 := Lib.hid (T.out.asked hk3 hC')
                have HJ3 := Lib.hid hJ3
                have o0 := HOC.out _ T3.out.below
                have HO := Lib.hid (HO1.out t HTK.out W3 T3.out.below)
                clear hJ3 hk3 hC' HRR hy T HJ1
                gi_wp2_with fail
                refine ⟨trivial, (callsIn_wide.2 HO.out).mono ?_⟩
                rintro e wx ⟨Bx, Av, cv, rfl, hbx, hxl, hrv, hbw⟩
                have TX := Lib.hid (T3.out.on hbw)
                have HJX1 := Lib.hid (HJ.out _ _ _ _ HJ3.out (Keep.of_all _ hbw))
                have hs1 : w1.heap.size ≤ wx.heap.size := TX.out.below.size
                have HSEQ := Lib.hid (values_ones (d - 1) w1.heap.size Bx (outE zs (t : Int)).length cv Av (outE zs (t : Int)) (by have := HZ.out; unfold outE; have := List.length_filter_le (fun p : Ed => decide (p.1 = (t : Int))) zs; omega) wx hbx hrv hs1)
                have HBX : Hid (Bx < wx.heap.size ∧ W3.heap.size ≤ Bx ∧ w1.heap.size ≤ wx.heap.size) := ⟨hbx.lt, hxl, hs1⟩
                have HPL : Hid (∀ j, (j = P ∨ j = H ∨ (Value.slice A2 n2 c2).ownBlock = some j) → ¬ (j = Bx ∨ j < w1.heap.size) ∧ j < wx.heap.size) := by
                  intro j hj
                  have h2 := T3.out.lo
                  have h3 := T3.out.size
                  have h5 := hbw.size
                  rcases hj with rfl | rfl | hj
                  · have h1 := T3.out.wts.lt
                    omega
                  · have h1 := T3.out.heap.blk.lt
                    omega
                  · have h1 := T3.out.own_lo hj
                    omega
                clear T3 HJ3 HO hbx hxl hrv hbw hs1 o0
                gi_wp2_with fail
                refine range_box none hd (gf := 61) (lb := #[.pointer (some ⟨Bx, 0, none⟩)]) rfl eg_values7 HSEQ.out (Keep.refl _ _) (fun k hk => by have := HBX.out; rcases hk with rfl | hk <;> omega) cellsE1 50 70 12 rfl
                  (fun vs Cc X => ∃ (A4 : Option Addr) (n4 c4 : Nat) (zs4 ws4 : List Int), Cc = (fun j => j = P ∨ j = H ∨ (Value.slice A4 n4 c4).ownBlock = some j) ∧ vs <+: outE zs (t : Int) ∧ ReadyE k (l2 ++ [(t : Int)]) (leftF zs l2 vs) zs4 ∧ HeapOk zs4 ∧ WtsIs k (leftF zs l2 vs) ws4 ∧ TkAt w1.heap.size W.heap.size H P BW BP k A4 n4 c4 zs4 ws4 C' Ds w1 X ∧ J (l2 ++ [(t : Int)]) C' X)
                  (fun _ => False) (fun j => j = P ∨ j = H ∨ (Value.slice A2 n2 c2).ownBlock = some j) HPL.out ?h0 ?hI (fun _ _ h _ => h) ?assign ?body ?done ?stop
                case h0 => exact ⟨A2, n2, c2, ys, ws2, rfl, List.nil_prefix, HRY.out.congr fun u _ _ => left_start zs l2 u, HK.out, HW.out.congr fun u _ => left_start zs l2 (u : Int), TX.out, HJX1.out⟩
                case hI =>
                  rintro vs Cc X Y ⟨A4, n4, c4, zs4, ws4, rfl, h1, h2, h3, h4, h5, h6⟩ hk
                  refine ⟨A4, n4, c4, zs4, ws4, rfl, h1, h2, h3, h4, h5.keep hk fun j _ hj => ?_, HJ.out _ _ _ _ h6 (hk.mono fun j _ hj => ?_)⟩
                  · rcases hj with hj | hj | hj | hj | hj | hj | hj
                    · exact .inl (Nat.lt_of_lt_of_le hj HBX.out.2.2)
                    · exact .inr (.inr (.inl hj))
                    · exact .inr (.inl hj)
                    · exact .inl (hj ▸ TX.out.bw.lt)
                    · exact .inl (hj ▸ TX.out.bp.lt)
                    · exact .inr (.inr (.inr hj))
                    · exact .inl (TX.out.marks.lt hj)
                  · rcases hj with hj | hj
                    · exact .inl (Nat.lt_of_lt_of_le hj TX.out.size.2)
                    · exact .inl (TX.out.cIn j hj).2
                case assign =>
                  intro l3 p Y K hK
                  simp only [List.setIfInBounds_toArray, List.set_cons_zero, List.set_cons_succ] at hK ⊢
                  unfold valE at hK ⊢
                  unfold cellsE1 at hK
                  gi_wp2_with fail
                  exact hK
                case body =>
                  rintro l3 vs p Cc Bp X ⟨A4, n4, c4, zs4, ws4, rfl, _, hre, hok, hws, hT, hj⟩ hpre hCc hsz hBp hbp
                  have hpz : p ∈ outE zs (t : Int) := List.IsPrefix.subset hpre (by simp)
                  have htg := Kahn.target HG.out.all HKN.out HNT.out hpz
                  obtain ⟨s, hs⟩ : ∃ s : Nat, p.2.1 = (s : Int) := ⟨p.2.1.toNat, by have := htg.2.1; omega⟩
                  have hst := left_step HNT.out hpre
                  rw [hs] at htg hst
                  have hsk : s < k := by have := htg.2.1; omega
                  obtain ⟨f, hf⟩ : ∃ f : Nat, leftF zs l2 (vs ++ [p]) (s : Int) = f := ⟨_, rfl⟩
                  rw [hf] at hst
                  have hwt := hws.2 s hsk
                  rw [hst.1] at hwt
                  have hfl : f ≤ 3000 := by
                    rw [← hf]
                    unfold leftF
                    have h1 := cntE_le (restE zs l2) (s : Int)
                    have h4 : (restE zs l2).length ≤ zs.length := List.length_filter_le _ _
                    have h6 := HZ.out
                    omega
                  have hwr : IntKind.i64.wrap (((f + 1 : Nat) : Int) - 1) = (f : Int) := by rw [IntKind.wrap_i64]; omega
                  have hw64 : wrap64 (f : Int) = (f : Int) := by unfold wrap64; omega
                  have HWN : Hid (WtsIs k (leftF zs l2 (vs ++ [p])) (ws4.set s (f : Int))) := by
                    have := hws.set (g := leftF zs l2 (vs ++ [p])) hsk fun u hu hne => hst.2 (u : Int) (by omega)
                    rwa [hf] at this
                  have y0 := hT.bw.cell 0
                  have y1 := hT.cell hwt
                  have y2 := hT.wts.frozen s
                  have e1 : X.cell? ⟨Bp, 1, none⟩ = some (.int .i64 (s : Int)) := by rw [← hs]; exact hbp.cell 1
                  have hsl : (s : Int) < (k : Int) := by omega
                  have HT2 := Lib.hid (hT.set s (f : Int))
                  have HJN := Lib.hid (HJ.out _ _ _ _ hj ((Keep.refl (fun j => j < W.heap.size ∨ C' j) X).set (g := P) (.inr fun h => h.elim (fun h => by have := hT.lo.2.1; omega) hT.notC.2.1) s (.int .i64 (f : Int))))
                  have HBP : Hid (Blk (X.setCell ⟨P, s, none⟩ (.int .i64 (f : Int))) Bp 50 (cellsE1 p)) := hbp.far (p := ⟨P, s, none⟩) (Blk.ne_ hbp hT.wts (by decide)) _
                  have HKX : Hid (Keep (fun j => ¬ (j = P ∨ j = H ∨ (Value.slice A4 n4 c4).ownBlock = some j)) X (X.setCell ⟨P, s, none⟩ (.int .i64 (f : Int)))) := (Keep.refl _ X).set (.inr fun h => h (.inl rfl)) _ _
                  have HRE := Lib.hid hre
                  have HOK := Lib.hid hok
                  have HTG := Lib.hid htg
                  have HST := Lib.hid hst
                  have HPRE := Lib.hid hpre
                  have HPS := Lib.hid hs
                  have HFF := Lib.hid hf
                  have hn4 : n4 ≤ 300 := by
                    have h1 := hre.few
                    have h2 := hT.heap.len
                    have h3 := HM.out
                    omega
                  have hws2 : (ws4.set s (f : Int))[s]? = some (f : Int) := by rw [get_set_t (by have := hws.1; omega), if_pos rfl]
                  have HLT := Lib.hid fun j (h : j = P ∨ j = H ∨ (Value.slice A4 n4 c4).ownBlock = some j) => (hCc j h).2
                  clear hpz htg hst hwt hfl hws hT hj hbp hpre hsz hBp hre hok hs hf hCc
                  simp only [List.setIfInBounds_toArray, List.set_cons_zero, List.set_cons_succ]
                  unfold valE
                  gi_upto_region 21 with fail
                  clear y0 y1 y2 e1 hwr hw64
                  generalize X.setCell ⟨P, s, none⟩ (.int .i64 (f : Int)) = X2 at *
                  have y0 := HT2.out.bw.cell 0
                  have y1 := HT2.out.cell hws2
                  have e1 : X2.cell? ⟨Bp, 1, none⟩ = some (.int .i64 (s : Int)) := by rw [← HPS.out]; exact HBP.out.cell 1
                  have hsz2 := HKX.out.size
                  by_cases hf0 : f = 0
                  · subst hf0
                    have b0 := HT2.out.bp.cell 0
                    have HP := Lib.hid (put_any H W.heap.size A4 n4 c4 zs4 (s : Int) X2 HT2.out.heap HOK.out (by omega) HT2.out.size.2)
                    clear hws2
                    gi_wp2_with fail
                    refine ⟨trivial, (fun h => by cases h), ((callsIn_wide.2 HP.out).inRound l3).mono ?_⟩
                    rintro e X3 ⟨⟨u, rfl⟩, A5, c5, zs5, hp5, hok5, hh5, hk5, hob5⟩
                    have T5 := HT2.out.heapTo hh5 hk5 hob5
                    have hre5 : ReadyE k (l2 ++ [(s : Int)] ++ []) (fun _ => 0) [] ∨ True := .inr trivial
                    clear hre5
                    have HR5 : Hid (ReadyE k (l2 ++ [(t : Int)]) (leftF zs l2 (vs ++ [p])) zs5) := HRE.out.low HTG.out.2.1 HTG.out.2.2 (by rw [HST.out.1]; omega) (fun u hu => HST.out.2 u hu) (.inl ⟨HFF.out, hp5⟩)
                    have HJ5 := Lib.hid (HJ.out _ _ _ _ HJN.out (hk5.mono fun j _ hj => by
                      rcases hj with hj | hj
                      · exact ⟨fun e => by have := HT2.out.lo.1; omega, fun e => by have := (HT2.out.own_lo e).1; omega⟩
                      · exact ⟨fun e => HT2.out.notC.1 (e ▸ hj), fun e => HT2.out.notC.2.2.2.2 j e hj⟩))
                    have T5 := Lib.hid T5
                    have HK5 := Lib.hid hok5
                    have HKK : Hid (Keep (fun j => ¬ (j = P ∨ j = H ∨ (Value.slice A4 n4 c4).ownBlock = some j)) X X3) := HKX.out.trans (hk5.mono fun j _ h => ⟨fun e => h (.inr (.inl e)), fun e => h (.inr (.inr e))⟩)
                    have HOB := Lib.hid hob5
                    have HSZ5 : Hid (X.heap.size ≤ X2.heap.size ∧ X2.heap.size ≤ X3.heap.size) := ⟨hsz2, hk5.size⟩
                    clear hp5 hok5 hh5 hk5 hob5 HP y0 y1 e1 b0
                    gi_wp2_with fail
                    refine .inl ⟨fun j => j = P ∨ j = H ∨ (Value.slice A5 (n4 + 1) c5).ownBlock = some j, ?_, HKK.out, rfl, A5, n4 + 1, c5, zs5, _, rfl, HPRE.out, HR5.out, HK5.out, HWN.out, T5.out, HJ5.out⟩
                    intro j hj
                    have h1 := HSZ5.out
                    rcases hj with rfl | rfl | hj
                    · exact ⟨T5.out.wts.lt, .inl (.inl rfl)⟩
                    · exact ⟨T5.out.heap.blk.lt, .inl (.inr (.inl rfl))⟩
                    · refine ⟨(T5.out.own_lo hj).2, ?_⟩
                      rcases HOB.out with ho | ⟨N, ho, hN⟩
                      · exact .inl (.inr (.inr (ho.symm.trans hj)))
                      · have := ho.symm.trans hj
                        injection this with this
                        exact .inr (by omega)
                  · have hf2 : ¬ (f : Int) = 0 := by omega
                    have HR5 : Hid (ReadyE k (l2 ++ [(t : Int)]) (leftF zs l2 (vs ++ [p])) zs4) := HRE.out.low HTG.out.2.1 HTG.out.2.2 (by rw [HST.out.1]; omega) (fun u hu => HST.out.2 u hu) (.inr ⟨by rw [HFF.out]; exact hf0, rfl⟩)
                    clear hws2
                    gi_wp2_with fail
                    refine .inl ⟨fun j => j = P ∨ j = H ∨ (Value.slice A4 n4 c4).ownBlock = some j, ?_, HKX.out, rfl, A4, n4, c4, zs4, _, rfl, HPRE.out, HR5.out, HOK.out, HWN.out, HT2.out, HJN.out⟩
                    intro j hj
                    have := HLT.out j hj
                    exact ⟨by omega, .inl hj⟩
                case done =>
                  rintro vs Cc D X hD rfl ⟨A4, n4, c4, zs4, ws4, rfl, _, hre, hok, hws, hT, hj⟩ hdef
                  have HR5 : Hid (ReadyE k (l2 ++ [(t : Int)]) (cntE (restE zs (l2 ++ [(t : Int)]))) zs4) := hre.congr fun u _ _ => (left_end HNT.out u).symm
                  have HW5 : Hid (WtsIs k (cntE (restE zs (l2 ++ [(t : Int)]))) ws4) := hws.congr fun u _ => (left_end HNT.out (u : Int)).symm
                  have HT2 := Lib.hid (hT.mark (D := D) (fun j hj => Nat.lt_of_lt_of_le (TX.out.cIn j hj).2 hD) (fun j hj => Nat.lt_of_lt_of_le (TX.out.marks.lt hj) hD) (Nat.le_trans TX.out.size.2 hD) hdef)
                  have HN := Lib.hid (next_any7 HT2.out HM.out HR5.out hok)
                  have HJN := Lib.hid hj
                  clear hre hws hT hj hdef hD hok
                  gi_wp2_with fail
                  refine ⟨trivial, (callsIn_wide.2 HN.out).mono ?_⟩
                  rintro e wz ⟨x5, b5, A5, n5, c5, zs5, rfl, hT5, hok5, hyes5, hno5, hkp5⟩
                  have T5 := Lib.hid hT5
                  have HK5 := Lib.hid hok5
                  have HYES5 := Lib.hid hyes5
                  have HNO5 := Lib.hid hno5
                  have HJ5 := Lib.hid (HJ.out _ _ _ _ HJN.out hkp5)
                  clear hT5 hok5 hyes5 hno5 hkp5 HT2 HN HJN HR5
                  gi_wp2_with fail
                  refine Handed.intro g2 ?measure ?_
                  rotate_left
                  first | gi_step | go_step
                  exact ⟨D :: Ds, l2 ++ [(t : Int)], x5, b5, A5, n5, c5, zs5, ws4, C', packB ⟨HI.out, HKN2, HW5, T5, HK5, HYES5, HNO5, HJ5⟩ rfl rfl rfl rfl rfl rfl rfl rfl rfl rfl⟩
                  case measure => omega
                case stop =>
                  intro D X hD h
                  exact h.elim



    | succ g2 =>
      have hlt : (v : Int) < (m : Int) := by omega
      have hvm : v < m := by omega
      have HVM := Lib.hid hvm
      have HI : Hid (v + 1 + g2 = m) := by show _ = _; omega
      have o0 := HOC.out _ T.out.below
      have HO := Lib.hid (HO1.out v hvm wr T.out.below)
      clear hvg hvm
      gi_wp2_with fail
      refine ⟨trivial, (callsIn_wide.2 HO.out).mono ?_⟩
      rintro e wx ⟨Bx, Av, cv, rfl, hbx, hxl, hrv, hbw⟩
      have TX := Lib.hid (T.out.on hbw)
      have HJX1 := Lib.hid (HJ.out _ _ _ _ HJ1.out (Keep.of_all _ hbw))
      have hs1 : w1.heap.size ≤ wx.heap.size := TX.out.below.size
      have HSEQ := Lib.hid (values_ones (d - 1) w1.heap.size Bx (outE zs (v : Int)).length cv Av (outE zs (v : Int)) (by have := HZ.out; unfold outE; have := List.length_filter_le (fun p : Ed => decide (p.1 = (v : Int))) zs; omega) wx hbx hrv hs1)
      have HBX : Hid (Bx < wx.heap.size ∧ wr.heap.size ≤ Bx ∧ w1.heap.size ≤ wx.heap.size) := ⟨hbx.lt, hxl, hs1⟩
      have HPL : Hid (P ≠ Bx ∧ ¬ P < w1.heap.size) := by
        have h1 := T.out.wts.lt
        have h2 := T.out.lo
        have h3 := T.out.size
        show _ ∧ _
        omega
      clear T HJ1 HO hbx hxl hrv hbw hs1 o0
      gi_wp2_with fail
      refine range_box none hd (gf := 61) (lb := #[.pointer (some ⟨Bx, 0, none⟩)]) rfl eg_values7 HSEQ.out (Keep.refl _ _) (fun k hk => by have := HBX.out; rcases hk with rfl | hk <;> omega) cellsE1 50 28 8 rfl
        (fun vs C X => C = (fun k => k = P) ∧ ∃ ws, WtsIs m (fun u => cntE (belE zs v) u + cntE vs u) ws ∧ TkAt w1.heap.size W.heap.size H P BW BP m none 0 0 [] ws C0 Ds w1 X ∧ J [] C0 X) (fun _ => False) (fun k => k = P) ?hC0 ?h0 ?hI (fun _ _ h _ => h) ?assign ?body ?done ?stop
      case hC0 =>
        rintro k rfl
        exact ⟨fun h => h.elim HPL.out.1 HPL.out.2, TX.out.wts.lt⟩
      case h0 => exact ⟨rfl, ws, HW.out.congr fun u _ => by simp [cntE], TX.out, HJX1.out⟩
      case hI =>
        rintro vs C X Y ⟨rfl, ws, h1, h2, h3⟩ hk
        exact ⟨rfl, ws, h1, h2.keep hk fun k _ hk => .inl (TX.out.all_lt hk), HJ.out _ _ _ _ h3 (hk.mono fun k _ hk => by
          rcases hk with hk | hk
          · exact .inl (Nat.lt_of_lt_of_le hk TX.out.size.2)
          · exact .inl (TX.out.cIn k hk).2)⟩
      case assign =>
        intro l2 p Y K hK
        simp only [List.setIfInBounds_toArray, List.set_cons_zero, List.set_cons_succ] at hK ⊢
        unfold valE at hK ⊢
        unfold cellsE1 at hK
        gi_wp2_with fail
        exact hK
      case body =>
        rintro l2 vs p C Bp X ⟨rfl, ws2, hws, hT, hj⟩ hpre _ hsz hBp hbp
        have hpz : p ∈ outE zs (v : Int) := List.IsPrefix.subset hpre (by simp)
        obtain ⟨hpz2, hpv⟩ := List.mem_filter.1 hpz
        have hr := of_decide_eq_true (HG.out.all p hpz2)
        obtain ⟨t, ht⟩ : ∃ t : Nat, p.2.1 = (t : Int) := ⟨p.2.1.toNat, by omega⟩
        have htm : t < m := by omega
        obtain ⟨f, hf⟩ : ∃ f : Nat, cntE (belE zs (v : Int)) (t : Int) + cntE vs (t : Int) = f := ⟨_, rfl⟩
        have hwt := hws.2 t htm
        rw [show (fun u => cntE (belE zs (v : Int)) u + cntE vs u) (t : Int) = f from hf] at hwt
        have hfl : f ≤ 3000 := by
          have h1 := cntE_le (belE zs (v : Int)) (t : Int)
          have h2 := cntE_prefix hpre (t : Int)
          rw [cntE_append] at h2
          have h3 := cntE_le (outE zs (v : Int)) (t : Int)
          have h4 : (belE zs (v : Int)).length ≤ zs.length := List.length_filter_le _ _
          have h5 : (outE zs (v : Int)).length ≤ zs.length := List.length_filter_le _ _
          have h6 := HZ.out
          omega
        have hwr : IntKind.i64.wrap ((f : Int) + 1) = ((f + 1 : Nat) : Int) := by rw [IntKind.wrap_i64]; omega
        have HWN : Hid (WtsIs m (fun u => cntE (belE zs (v : Int)) u + cntE (vs ++ [p]) u) (ws2.set t ((f + 1 : Nat) : Int))) := by
          have := hws.set (g := fun u => cntE (belE zs (v : Int)) u + cntE (vs ++ [p]) u) htm fun u hu hne => by
            rw [cntE_append, cntE_one, if_neg (by omega), Nat.add_zero]
          rwa [show cntE (belE zs (v : Int)) (t : Int) + cntE (vs ++ [p]) (t : Int) = f + 1 from by rw [cntE_append, cntE_one, if_pos ht.symm]; omega] at this
        have y0 := hT.bw.cell 0
        have y1 := hT.cell hwt
        have y2 := hT.wts.frozen t
        have e1 : X.cell? ⟨Bp, 1, none⟩ = some (.int .i64 (t : Int)) := by rw [← ht]; exact hbp.cell 1
        have htl : (t : Int) < (m : Int) := by omega
        have HT2 := Lib.hid (hT.set t ((f + 1 : Nat) : Int))
        have HJN := Lib.hid (HJ.out _ _ _ _ hj ((Keep.refl (fun k => k < W.heap.size ∨ C0 k) X).set (g := P) (.inr fun h => h.elim (fun h => by have := hT.lo.2.1; omega) hT.notC.2.1) t (.int .i64 ((f + 1 : Nat) : Int))))
        have HPX : Hid (P < X.heap.size) := hT.wts.lt
        clear hpz hpz2 hpv hr hws hT hj hbp hpre hsz hBp hf hfl hwt
        simp only [List.setIfInBounds_toArray, List.set_cons_zero, List.set_cons_succ]
        unfold valE
        gi_wp2_with fail
        refine .inl ⟨fun k => k = P, ?_, (Keep.refl _ X).set (.inr fun h => h rfl) _ _, rfl, rfl, _, HWN.out, HT2.out, HJN.out⟩
        rintro k rfl
        exact ⟨by rw [World.size_setCell]; exact HPX.out, .inl rfl⟩
      case done =>
        rintro vs C D X hD rfl ⟨rfl, ws2, hws, hT, hj⟩ hdef
        have HWN : Hid (WtsIs m (cntE (belE zs ((v + 1 : Nat) : Int))) ws2) := hws.congr fun u _ => by rw [show ((v + 1 : Nat) : Int) = (v : Int) + 1 by omega]; exact bel_next zs (v : Int) u
        have HT2 := Lib.hid (hT.mark (D := D) (fun k hk => Nat.lt_of_lt_of_le (TX.out.cIn k hk).2 hD) (fun k hk => Nat.lt_of_lt_of_le (TX.out.marks.lt hk) hD) (Nat.le_trans TX.out.size.2 hD) hdef)
        have HJN := Lib.hid hj
        clear hws hT hj hdef hD
        gi_wp2_with fail
        refine Handed.intro g2 ?measure ?_
        rotate_left
        first | gi_step | go_step
        exact ⟨D :: Ds, v + 1, ws2, packA ⟨HI.out, HWN, HT2, HJN⟩ rfl rfl rfl rfl rfl rfl rfl rfl rfl rfl⟩
        case measure => omega
      case stop =>
        intro D X hD h
        exact h.elim
end Go.Proofs.Ytaigpdpcliecpaa
