/- The document's answer for layer graph: Of, Reverse: contracts. -/
import Derived.Test.YticbgikbpafeoaaGs
namespace Go.Proofs.Yticbgikbpafeoaa
open Go.RowKit

theorem with_len (l : List Ed) (e : Ed) : (withE l e).length ≤ l.length + 1 := by
  obtain ⟨pre, post, h1, _, _, h4⟩ := w_not e l []
  have hw : withE l e = pre ++ [e] ++ post.filter (fun x => decide (x ≠ e)) := by unfold withE; rw [h4]; simp
  rw [hw, h1]
  have := List.length_filter_le (fun x => decide (x ≠ e)) post
  simp only [List.length_append, List.length_singleton]
  omega
theorem of_step (l : List Ed) (k : Nat) {x : Ed} (h : l[k]? = some x) : ofE (l.take (k + 1)) = withE (ofE (l.take k)) x := by
  unfold ofE
  rw [List.take_add_one, h, List.foldl_append]
  rfl
theorem gis_end {nodes : Int} {ps : List Ed} {w W : World} {A : Option Addr} {c X : Nat} {a b : Value} {base : Nat} (hbase : w.heap.size ≤ base) (ho : W.ownsRow base 35 3 (.slice A ps.length c) ps.length (cellsE ps)) (h1 : ps.length ≤ c) (h2 : c ≤ 9223372036854775807) (hb : Below w.heap.size w W) (hX : w.heap.size ≤ X) (hx : Blk W X 24 #[a, b]) :
    GIs nodes ps w (.returned (.agg #[.int .i64 nodes, .slice A ps.length c])) ((W.setCell ⟨X, 0, none⟩ (.int .i64 nodes)).setCell ⟨X, 1, none⟩ (.slice A ps.length c)) :=
  ⟨A, c, rfl, own_store2 (own_base ho hbase) hx (by decide) _ _, h1, h2, below_store2 hb hX _ _⟩

set_option maxRecDepth 100000 in
set_option maxHeartbeats 4000000 in
theorem rof_any (nodes : Int) (A : Option Addr) (n c : Nat) (zs : List Ed) (hn : n ≤ 500) (w : World) (hR : Reads w w.heap.size 3 A n (cellsE zs)) :
    Calls Try.prog 16 #[.int .i64 nodes, .slice A n c] w (GIs nodes (ofE zs) w) := by
  obtain ⟨k0, k1, b0⟩ := two_new w #[.int .i64 0, .slice none 0 0] #[.int .i64 nodes, .slice none 0 0] 24 24
  have HL := Lib.hid (reads_len hR)
  have HR := Lib.hid fun W (h : Below w.heap.size w W) => (hR.below h)
  have K0 := Lib.hid k0
  have K1 := Lib.hid k1
  have B0 := Lib.hid b0
  clear hR b0 k0 k1
  go_enter Try.func16, Try.ntmps16
  go_wp2_with fail
  generalize (w.alloc (.cells #[.int .i64 0, .slice none 0 0] 24)).alloc (.cells #[.int .i64 nodes, .slice none 0 0] 24) = W0 at *
  go_loopg [12] n (fun gg s12 wr => ∃ (i u : Nat) (A' : Option Addr) (c' : Nat), i + gg = n ∧ u ≤ i ∧ s12 = .int .i64 i ∧ Hid ((ofE (zs.take i)).length = u) ∧
    Hid (wr.ownsRow w.heap.size 35 3 (.slice A' u c') u (cellsE (ofE (zs.take i)))) ∧ Hid (u ≤ c' ∧ c' ≤ 9223372036854775807) ∧ Hid (Blk wr w.heap.size 24 #[.int .i64 0, .slice none 0 0]) ∧ Hid (Blk wr (w.heap.size + 1) 24 #[.int .i64 nodes, .slice A' u c']) ∧ Hid (Below w.heap.size w wr))
  case atStart => exact ⟨0, 0, none, 0, by omega, by omega, rfl, rfl, World.ownsRow_nil _ _ _ _, ⟨Nat.le_refl _, by decide⟩, K0, K1, B0⟩
  case round =>
    clear K0 K1 B0
    obtain ⟨i, u, A', c', hig, hui, rfl, HU, HO, HC, K0, K1, HB⟩ := hrel
    cases gk with
    | zero =>
      have hge : ¬ (i : Int) < (n : Int) := by omega
      have hin : i = n := by omega
      have HT : Hid (zs.take i = zs) := List.take_of_length_le (by rw [HL.out]; omega)
      rw [HT.out] at HU HO
      have HUU := HU.out
      subst HUU
      have HE := Lib.hid (gis_end (nodes := nodes) (Nat.le_refl _) HO.out HC.out.1 HC.out.2 HB.out (Nat.le_refl _) K0.out)
      have y0 := K1.out.cell 0
      have y1 := K1.out.cell 1
      have x0 := K0.out.cell 0
      have x1 := K0.out.cell 1
      have f0 := K0.out.frozen 0
      have f1 := K0.out.frozen 1
      have q0 := (store2 K0.out (.int .i64 nodes) (.slice A' (ofE zs).length c')).cell 0
      have q1 := (store2 K0.out (.int .i64 nodes) (.slice A' (ofE zs).length c')).cell 1
      clear hig hin HU
      go_wp2_with fail
      exact bodyPost_ret (v := .agg #[.int .i64 nodes, .slice A' (ofE zs).length c']) (by simp [results, Try.results16, go_sem, q0, q1]) rfl HE.out
    | succ g2 =>
      have hlt : (i : Int) < (n : Int) := by omega
      have hin : i < n := by omega
      obtain ⟨p, hp⟩ : ∃ p, zs[i]? = some p := ⟨zs[i]'(by rw [HL.out]; omega), List.getElem?_eq_getElem _⟩
      obtain ⟨b, o, rfl, hb, g0, g1, gk2⟩ := ed_at (HR.out _ HB.out) hp
      have HIG := Lib.hid hig
      have HST := Lib.hid (of_step zs i hp)
      have hsz := HB.out.size
      have HO1 := Lib.hid (HO.out.alloc (.cells #[.int .i64 p.1, .int .i64 p.2.1, .int .i64 p.2.2] 35))
      have HB1 := Lib.hid (HB.out.alloc hsz (.cells #[.int .i64 p.1, .int .i64 p.2.1, .int .i64 p.2.2] 35))
      have K01 := Lib.hid (K0.out.alloc (.cells #[.int .i64 p.1, .int .i64 p.2.1, .int .i64 p.2.2] 35))
      have K11 := Lib.hid (K1.out.alloc (.cells #[.int .i64 p.1, .int .i64 p.2.1, .int .i64 p.2.2] 35))
      have HX := Lib.hid (Blk.new wr 35 #[.int .i64 p.1, .int .i64 p.2.1, .int .i64 p.2.2])
      obtain ⟨X, hX⟩ : ∃ X, wr.heap.size = X := ⟨_, rfl⟩
      rw [hX] at HX
      clear hig hp
      go_upto_region 5 with fail
      clear g0 g1 gk2 hX HB HO K0 K1
      generalize wr.alloc (.cells #[.int .i64 p.1, .int .i64 p.2.1, .int .i64 p.2.2] 35) = wx at *
      have z0 := HX.out.cell 0
      have z1 := HX.out.cell 1
      have z2 := HX.out.cell 2
      have y0 := K11.out.cell 0
      have y1 := K11.out.cell 1
      have HW := Lib.hid (with_any p A' u c' (ofE (zs.take i)) (by omega) wx (reads_own HO1.out))
      have hk0 := K01.out.lt
      have hk1 := K11.out.lt
      go_wp2_with fail
      refine HW.out.mono ?_
      rintro e w2 hx
      obtain ⟨A2, c2, rfl, h1, h2, h3, h4⟩ := rows_row hx
      rw [← HST.out] at h1 h2
      have HLE : Hid ((ofE (zs.take (i + 1))).length ≤ i + 1) := by
        have := with_len (ofE (zs.take i)) p
        have h5 := HU.out
        show _ ≤ _
        rw [HST.out]; omega
      have HW2 : Hid ((withE (ofE (zs.take i)) p).length = (ofE (zs.take (i + 1))).length) := by rw [HST.out]; exact rfl
      have HB2 : Hid (Below w.heap.size w w2) := HB1.out.trans (h4.mono HB1.out.size)
      have K02 := Lib.hid (K01.out.below h4 hk0)
      have K12 := Lib.hid (K11.out.below h4 hk1)
      have HO2 := Lib.hid (own_base h1 HB1.out.size)
      have HC2 := Lib.hid (And.intro h2 h3)
      rw [HW2.out]
      generalize hu2 : (ofE (zs.take (i + 1))).length = u2 at *
      have q0 := K12.out.cell 0
      have q1 := K12.out.cell 1
      have f1 := K12.out.frozen 1
      have HO3 := Lib.hid (own_store (k := 1) HO2.out K12.out (by decide) (.slice A2 u2 c2))
      have HB3 := Lib.hid (HB2.out.setCell (p := ⟨w.heap.size + 1, 1, none⟩) (Nat.le_succ _) (.slice A2 u2 c2))
      have K03 := Lib.hid (K02.out.far (p := ⟨w.heap.size + 1, 1, none⟩) (by simp) (.slice A2 u2 c2))
      have K13 : Hid (Blk (w2.setCell ⟨w.heap.size + 1, 1, none⟩ (.slice A2 u2 c2)) (w.heap.size + 1) 24 #[.int .i64 nodes, .slice A2 u2 c2]) := by
        show Blk _ _ _ _
        have := K12.out.set_ 1 (.slice A2 u2 c2)
        simpa using this
      have HU2 := Lib.hid hu2
      have hle := HLE.out
      clear h1 h2 h3 h4 hx HB2 K02 K12 HO2 HW z0 z1 z2 y0 y1 HO1 HB1 K01 K11 HX hu2 HW2 HST HLE
      go_wp2_with fail
      go_roundg g2
      case measure => omega
      case rel => exact ⟨i + 1, u2, A2, c2, by have := HIG.out; omega, hle, by go_num, HU2, HO3, HC2, K03, K13, HB3⟩

def flips (l : List Ed) (k : Nat) : List Ed := (l.take k).map flipE
theorem flips_next {l : List Ed} {k : Nat} {x : Ed} (h : l[k]? = some x) : flips l (k + 1) = flips l k ++ [flipE x] := by
  unfold flips; rw [List.take_add_one, h, List.map_append]; rfl
theorem flips_len {l : List Ed} {k : Nat} (h : k ≤ l.length) : (flips l k).length = k := by unfold flips; rw [List.length_map, List.length_take]; omega

set_option maxRecDepth 100000 in
set_option maxHeartbeats 4000000 in
theorem rrev_any (nodes : Int) (A : Option Addr) (n c : Nat) (zs : List Ed) (hn : n ≤ 500) (w : World) (hR : Reads w w.heap.size 3 A n (cellsE zs)) :
    Calls Try.prog 32 #[.agg #[.int .i64 nodes, .slice A n c]] w (GIs nodes (ofE (zs.map flipE)) w) := by
  obtain ⟨k0, k1, b0⟩ := two_new w #[.int .i64 nodes, .slice A n c] #[.int .i64 0, .slice none 0 0] 24 24
  have HL := Lib.hid (reads_len hR)
  have HR := Lib.hid fun W (h : Below w.heap.size w W) => (hR.below h)
  obtain ⟨i0, hi, hz0, hz1, hz2⟩ := info_parts pair_info
  have K0 := Lib.hid k0
  have K1 := Lib.hid k1
  have B0 := Lib.hid b0
  have z0 := k0.cell 0
  have z1 := k0.cell 1
  clear hR b0 k0 k1
  go_enter Try.func32, Try.ntmps32
  go_wp2_with fail
  generalize (w.alloc (.cells #[.int .i64 nodes, .slice A n c] 24)).alloc (.cells #[.int .i64 0, .slice none 0 0] 24) = W0 at *
  clear z0 z1
  have hk0 := K0.out.lt
  have hk1 := K1.out.lt
  go_loopg [3, 9] n (fun gg s3 s9 wr => ∃ (i : Nat) (A' : Option Addr) (c' : Nat), i + gg = n ∧ s9 = .int .i64 i ∧ s3 = .slice A' i c' ∧ i ≤ c' ∧ c' ≤ 9223372036854775807 ∧
    Hid (wr.ownsRow W0.heap.size 35 3 (.slice A' i c') i (cellsE (flips zs i))) ∧ Hid (Below W0.heap.size W0 wr))
  case atStart => exact ⟨0, none, 0, by omega, rfl, rfl, Nat.le_refl _, by decide, World.ownsRow_nil _ _ _ _, Below.refl _ _⟩
  case round =>
    obtain ⟨i, A', c', hig, rfl, rfl, huc, hcm, HO, HB⟩ := hrel
    cases gk with
    | zero =>
      have hge : ¬ (i : Int) < (n : Int) := by omega
      have hin : i = n := by omega
      have HF : Hid (flips zs i = zs.map flipE) := by show _ = _; unfold flips; rw [List.take_of_length_le (by rw [HL.out]; omega)]
      rw [HF.out] at HO
      have HOF := Lib.hid (rof_any nodes A' i c' (zs.map flipE) (by omega) wr (reads_own HO.out))
      have K02 := Lib.hid (K0.out.below HB.out hk0)
      have K12 := Lib.hid (K1.out.below HB.out hk1)
      have HB2 : Hid (Below w.heap.size w wr) := B0.out.trans (HB.out.mono B0.out.size)
      have z0 := K02.out.cell 0
      have z1 := K02.out.cell 1
      have hk2 := K12.out.lt
      clear hig hin HO HB HF
      generalize ofE (zs.map flipE) = rs at *
      go_wp2_with fail
      refine HOF.out.mono ?_
      rintro e w2 ⟨A2, c2, rfl, h1, h2, h3, h4⟩
      have K13 := Lib.hid (K12.out.below h4 hk2)
      have HB3 : Hid (Below w.heap.size w w2) := HB2.out.trans (h4.mono HB2.out.size)
      have HE := Lib.hid (gis_end (nodes := nodes) HB2.out.size h1 h2 h3 HB3.out (Nat.le_succ _) K13.out)
      have x0 := K13.out.cell 0
      have x1 := K13.out.cell 1
      have f0 := K13.out.frozen 0
      have f1 := K13.out.frozen 1
      have q0 := (store2 K13.out (.int .i64 nodes) (.slice A2 rs.length c2)).cell 0
      have q1 := (store2 K13.out (.int .i64 nodes) (.slice A2 rs.length c2)).cell 1
      clear h1 h2 h3 h4 HOF K02 K12 HB2 z0 z1
      go_wp2_with fail
      exact bodyPost_ret (v := .agg #[.int .i64 nodes, .slice A2 rs.length c2]) (by simp [results, Try.results32, go_sem, q0, q1]) rfl HE.out
    | succ g2 =>
      have hlt : (i : Int) < (n : Int) := by omega
      have hin : i < n := by omega
      obtain ⟨p, hp⟩ : ∃ p, zs[i]? = some p := ⟨zs[i]'(by rw [HL.out]; omega), List.getElem?_eq_getElem _⟩
      obtain ⟨b, o, rfl, hb, g0, g1, gk2⟩ := ed_at (HR.out _ (B0.out.trans (HB.out.mono B0.out.size))) hp
      have HIG := Lib.hid hig
      have HNX := Lib.hid (flips_next hp)
      have hsz := HB.out.size
      have HX := Lib.hid (Blk.new wr 35 #[.int .i64 p.1, .int .i64 p.2.1, .int .i64 p.2.2])
      have HO1 := Lib.hid (HO.out.alloc (.cells #[.int .i64 p.1, .int .i64 p.2.1, .int .i64 p.2.2] 35))
      have HB1 := Lib.hid (HB.out.alloc hsz (.cells #[.int .i64 p.1, .int .i64 p.2.1, .int .i64 p.2.2] 35))
      obtain ⟨X, hX⟩ : ∃ X, wr.heap.size = X := ⟨_, rfl⟩
      rw [hX] at HX
      clear hig hp
      go_upto_region 5 with fail
      clear g0 g1 gk2 hX HB HO
      generalize wr.alloc (.cells #[.int .i64 p.1, .int .i64 p.2.1, .int .i64 p.2.2] 35) = wx at *
      have z0 := HX.out.cell 0
      have z1 := HX.out.cell 1
      have z2 := HX.out.cell 2
      have hsz2 := HB1.out.size
      go_wp2_with (at_builtin; refine wpList_append_any _ rfl (.tmp 13) (.tmp 21) 22 rfl W0.heap.size 35 i0 _ 3 24 Try.underlying22 hi hz0 hz1 hz2 rfl (by decide) (.slice A' i c') i _ rfl (HO1.out.alloc _) (wx.heap.size + 1) (some ⟨wx.heap.size, 0, none⟩) 1 _ (cellsE [(flipE p)]) rfl (pair_one wx (flipE p)) (cellsE_one _) (by unfold maxLen; omega) (by omega) (by simp; omega) ?_; intro v5 w5 hown5 hgrow5 _; have HB5 : Hid (Below W0.heap.size W0 w5) := (HB1.out.alloc hsz2 _).grown hgrow5 (by simp; omega) (fun k hk => (HO1.out.lt k hk).1); obtain ⟨A5, c5, rfl, h51, h52⟩ := own_form2 hown5; rw [← cellsE_append, ← HNX.out] at hown5; have HO5 := Lib.hid hown5; clear hown5 hgrow5)
      go_roundg g2
      case measure => omega
      case rel => exact ⟨i + 1, A5, c5, by have := HIG.out; omega, by go_num, rfl, h51, h52, HO5, HB5⟩
end Go.Proofs.Yticbgikbpafeoaa
