/- The document's answer for layer graph: Out, In, Kinds, Starts: contracts. -/
import Derived.Test.YticbgikbpafeoaaGq
namespace Go.Proofs.Yticbgikbpafeoaa
open Go.RowKit

theorem ints_append (a b : List Int) : ints (a ++ b) = ints a ++ ints b := by unfold ints; rw [List.map_append]
theorem ints_one (l : List Int) : ∀ u ∈ ints l, u.oneCell' = true := by
  intro u hu
  unfold ints at hu
  obtain ⟨z, _, rfl⟩ := List.mem_map.1 hu
  rfl
theorem int_one (w : World) (z : Int) : Reads (w.alloc (.cells #[.int .i64 z] 3)) (w.heap.size + 1) 1 (some ⟨w.heap.size, 0, none⟩) 1 (ints [z]) :=
  ⟨rfl, fun _ => ⟨_, rfl, Nat.lt_succ_self _, fun j u hu => by
    rw [Go.WideShapes.add_plain, Nat.zero_add, (Blk.new w 3 #[.int .i64 z]).cell]
    rw [← hu, ← List.getElem?_toArray]
    rfl⟩⟩
/-- What stands among the first k and is asked for. -/
def fil {α : Type} (q : α → Bool) (l : List α) (k : Nat) : List α := (l.take k).filter q
theorem fil_keep {α : Type} {q : α → Bool} {l : List α} {k : Nat} {x : α} (h : l[k]? = some x) (hq : q x = true) : fil q l (k + 1) = fil q l k ++ [x] := by
  unfold fil; rw [List.take_add_one, h, List.filter_append]; simp [hq]
theorem fil_skip {α : Type} {q : α → Bool} {l : List α} {k : Nat} {x : α} (h : l[k]? = some x) (hq : q x = false) : fil q l (k + 1) = fil q l k := by
  unfold fil; rw [List.take_add_one, h, List.filter_append]; simp [hq]
theorem fil_all {α : Type} {q : α → Bool} {l : List α} {k : Nat} (h : l.length ≤ k) : fil q l k = l.filter q := by unfold fil; rw [List.take_of_length_le h]
theorem row_end {ps : List Ed} {w W0 w' : World} {A : Option Addr} {u c : Nat} (hb : Below w.heap.size w W0) (hl : ps.length = u) (ho : w'.ownsRow W0.heap.size 35 3 (.slice A u c) u (cellsE ps)) (h1 : u ≤ c) (h2 : c ≤ 9223372036854775807) (h3 : Below W0.heap.size W0 w') :
    RowIs ps w (.returned (.slice A u c)) w' := by
  subst hl
  exact ⟨A, c, rfl, own_base ho hb.size, h1, h2, hb.trans (h3.mono hb.size)⟩
/-- Numbers. -/
def IntsIs (vs : List Int) (w : World) (e : Ending) (w' : World) : Prop :=
  ∃ (A : Option Addr) (c : Nat), e = .returned (.slice A vs.length c) ∧ Reads w' w'.heap.size 1 A vs.length (ints vs) ∧ vs.length ≤ c ∧ c ≤ 9223372036854775807 ∧ Below w.heap.size w w'
theorem ints_end {vs : List Int} {w W0 w' : World} {A : Option Addr} {u c : Nat} (hb : Below w.heap.size w W0) (hl : vs.length = u) (ho : w'.ownsRow W0.heap.size 3 1 (.slice A u c) u (ints vs)) (h1 : u ≤ c) (h2 : c ≤ 9223372036854775807) (h3 : Below W0.heap.size W0 w') :
    IntsIs vs w (.returned (.slice A u c)) w' := by
  subst hl
  exact ⟨A, c, rfl, Reads.of_own ho, h1, h2, hb.trans (h3.mono hb.size)⟩

set_option maxRecDepth 100000 in
set_option maxHeartbeats 4000000 in
theorem rout_any (nodes v : Int) (A : Option Addr) (n c : Nat) (zs : List Ed) (hn : n ≤ 1000) (w : World) (hR : Reads w w.heap.size 3 A n (cellsE zs)) :
    Calls Try.prog 25 #[.agg #[.int .i64 nodes, .slice A n c], .int .i64 v] w (RowIs (outE zs v) w) := by
  obtain ⟨bx, b0⟩ := box_new w #[.int .i64 nodes, .slice A n c] 24
  have HL := Lib.hid (reads_len hR)
  have HR := Lib.hid fun W (h : Below w.heap.size w W) => (hR.below h)
  obtain ⟨i0, hi, hz0, hz1, hz2⟩ := info_parts pair_info
  have z0 := bx.cell 0
  have z1 := bx.cell 1
  have B0 := Lib.hid b0
  clear hR bx b0
  go_enter Try.func25, Try.ntmps25
  go_wp2_with fail
  generalize w.alloc (.cells #[.int .i64 nodes, .slice A n c] 24) = W0 at *
  clear z0 z1
  go_loopg [5, 11] n (fun gg s5 s11 wr => ∃ (i u : Nat) (A' : Option Addr) (c' : Nat), i + gg = n ∧ u ≤ i ∧ s11 = .int .i64 i ∧ s5 = .slice A' u c' ∧ u ≤ c' ∧ c' ≤ 9223372036854775807 ∧ Hid ((fil (fun p : Ed => decide (p.1 = v)) zs i).length = u) ∧
    Hid (wr.ownsRow W0.heap.size 35 3 (.slice A' u c') u (cellsE (fil (fun p : Ed => decide (p.1 = v)) zs i))) ∧ Hid (Below W0.heap.size W0 wr))
  case atStart => exact ⟨0, 0, none, 0, by omega, Nat.le_refl _, rfl, rfl, Nat.le_refl _, by decide, rfl, World.ownsRow_nil _ _ _ _, Below.refl _ _⟩
  case round =>
    obtain ⟨i, u, A', c', hig, hui, rfl, rfl, huc, hcm, HU, HO, HB⟩ := hrel
    cases gk with
    | zero =>
      have hge : ¬ (i : Int) < (n : Int) := by omega
      have HE := Lib.hid (row_end B0.out HU.out HO.out huc hcm HB.out)
      rw [fil_all (by rw [HL.out]; omega)] at HE
      clear hig
      go_wp2_with fail
      go_ret
      exact HE.out
    | succ g2 =>
      have hlt : (i : Int) < (n : Int) := by omega
      have hin : i < n := by omega
      obtain ⟨p, hp⟩ : ∃ p, zs[i]? = some p := ⟨zs[i]'(by rw [HL.out]; omega), List.getElem?_eq_getElem _⟩
      obtain ⟨b, o, rfl, hb, g0, g1, gk2⟩ := ed_at (HR.out _ (B0.out.trans (HB.out.mono B0.out.size))) hp
      have HIG := Lib.hid hig
      have hsz := HB.out.size
      have HX := Lib.hid (Blk.new wr 35 #[.int .i64 p.1, .int .i64 p.2.1, .int .i64 p.2.2])
      have HO1 := Lib.hid (HO.out.alloc (.cells #[.int .i64 p.1, .int .i64 p.2.1, .int .i64 p.2.2] 35))
      have HB1 := Lib.hid (HB.out.alloc hsz (.cells #[.int .i64 p.1, .int .i64 p.2.1, .int .i64 p.2.2] 35))
      obtain ⟨X, hX⟩ : ∃ X, wr.heap.size = X := ⟨_, rfl⟩
      rw [hX] at HX
      clear hig
      go_upto_region 5 with fail
      clear g0 g1 gk2 hX HB HO
      generalize wr.alloc (.cells #[.int .i64 p.1, .int .i64 p.2.1, .int .i64 p.2.2] 35) = wx at *
      have z0 : wx.cell? ⟨X, 0, none⟩ = some (.int .i64 p.1) := HX.out.cell 0
      have z1 : wx.cell? ⟨X, 1, none⟩ = some (.int .i64 p.2.1) := HX.out.cell 1
      have z2 : wx.cell? ⟨X, 2, none⟩ = some (.int .i64 p.2.2) := HX.out.cell 2
      have hsz2 := HB1.out.size
      cases ht : p.1 == v
      · have HNX := Lib.hid (fil_skip (q := fun p : Ed => decide (p.1 = v)) hp (by simpa using ht))
        clear hp
        go_wp2_with fail
        go_roundg g2
        case measure => omega
        case rel => exact ⟨i + 1, u, A', c', by have := HIG.out; omega, by omega, by go_num, rfl, huc, hcm, by rw [HNX.out]; exact HU, by rw [HNX.out]; exact HO1, HB1⟩
      · have HNX := Lib.hid (fil_keep (q := fun p : Ed => decide (p.1 = v)) hp (by simpa using ht))
        clear hp
        go_wp2_with (at_builtin; refine wpList_append_any _ rfl (.tmp 19) (.tmp 21) 22 rfl W0.heap.size 35 i0 _ 3 24 Try.underlying22 hi hz0 hz1 hz2 rfl (by decide) (.slice A' u c') u _ rfl (HO1.out.alloc _) (wx.heap.size + 1) (some ⟨wx.heap.size, 0, none⟩) 1 _ (cellsE [p]) rfl (pair_one wx p) (cellsE_one _) (by unfold maxLen; omega) (by omega) (by simp; omega) ?_; intro v5 w5 hown5 hgrow5 _; have HB5 : Hid (Below W0.heap.size W0 w5) := (HB1.out.alloc hsz2 _).grown hgrow5 (by simp; omega) (fun k hk => (HO1.out.lt k hk).1); obtain ⟨A5, c5, rfl, h51, h52⟩ := own_form2 hown5; rw [← cellsE_append, ← HNX.out] at hown5; have HO5 := Lib.hid hown5; clear hown5 hgrow5)
        go_roundg g2
        case measure => omega
        case rel => exact ⟨i + 1, u + 1, A5, c5, by have := HIG.out; omega, by omega, by go_num, rfl, h51, h52, by rw [HNX.out, List.length_append, HU.out]; rfl, HO5, HB5⟩

set_option maxRecDepth 100000 in
set_option maxHeartbeats 4000000 in
theorem rin_any (nodes v : Int) (A : Option Addr) (n c : Nat) (zs : List Ed) (hn : n ≤ 1000) (w : World) (hR : Reads w w.heap.size 3 A n (cellsE zs)) :
    Calls Try.prog 26 #[.agg #[.int .i64 nodes, .slice A n c], .int .i64 v] w (RowIs (inE zs v) w) := by
  obtain ⟨bx, b0⟩ := box_new w #[.int .i64 nodes, .slice A n c] 24
  have HL := Lib.hid (reads_len hR)
  have HR := Lib.hid fun W (h : Below w.heap.size w W) => (hR.below h)
  obtain ⟨i0, hi, hz0, hz1, hz2⟩ := info_parts pair_info
  have z0 := bx.cell 0
  have z1 := bx.cell 1
  have B0 := Lib.hid b0
  clear hR bx b0
  go_enter Try.func26, Try.ntmps26
  go_wp2_with fail
  generalize w.alloc (.cells #[.int .i64 nodes, .slice A n c] 24) = W0 at *
  clear z0 z1
  go_loopg [5, 11] n (fun gg s5 s11 wr => ∃ (i u : Nat) (A' : Option Addr) (c' : Nat), i + gg = n ∧ u ≤ i ∧ s11 = .int .i64 i ∧ s5 = .slice A' u c' ∧ u ≤ c' ∧ c' ≤ 9223372036854775807 ∧ Hid ((fil (fun p : Ed => decide (p.2.1 = v)) zs i).length = u) ∧
    Hid (wr.ownsRow W0.heap.size 35 3 (.slice A' u c') u (cellsE (fil (fun p : Ed => decide (p.2.1 = v)) zs i))) ∧ Hid (Below W0.heap.size W0 wr))
  case atStart => exact ⟨0, 0, none, 0, by omega, Nat.le_refl _, rfl, rfl, Nat.le_refl _, by decide, rfl, World.ownsRow_nil _ _ _ _, Below.refl _ _⟩
  case round =>
    obtain ⟨i, u, A', c', hig, hui, rfl, rfl, huc, hcm, HU, HO, HB⟩ := hrel
    cases gk with
    | zero =>
      have hge : ¬ (i : Int) < (n : Int) := by omega
      have HE := Lib.hid (row_end B0.out HU.out HO.out huc hcm HB.out)
      rw [fil_all (by rw [HL.out]; omega)] at HE
      clear hig
      go_wp2_with fail
      go_ret
      exact HE.out
    | succ g2 =>
      have hlt : (i : Int) < (n : Int) := by omega
      have hin : i < n := by omega
      obtain ⟨p, hp⟩ : ∃ p, zs[i]? = some p := ⟨zs[i]'(by rw [HL.out]; omega), List.getElem?_eq_getElem _⟩
      obtain ⟨b, o, rfl, hb, g0, g1, gk2⟩ := ed_at (HR.out _ (B0.out.trans (HB.out.mono B0.out.size))) hp
      have HIG := Lib.hid hig
      have hsz := HB.out.size
      have HX := Lib.hid (Blk.new wr 35 #[.int .i64 p.1, .int .i64 p.2.1, .int .i64 p.2.2])
      have HO1 := Lib.hid (HO.out.alloc (.cells #[.int .i64 p.1, .int .i64 p.2.1, .int .i64 p.2.2] 35))
      have HB1 := Lib.hid (HB.out.alloc hsz (.cells #[.int .i64 p.1, .int .i64 p.2.1, .int .i64 p.2.2] 35))
      obtain ⟨X, hX⟩ : ∃ X, wr.heap.size = X := ⟨_, rfl⟩
      rw [hX] at HX
      clear hig
      go_upto_region 5 with fail
      clear g0 g1 gk2 hX HB HO
      generalize wr.alloc (.cells #[.int .i64 p.1, .int .i64 p.2.1, .int .i64 p.2.2] 35) = wx at *
      have z0 : wx.cell? ⟨X, 0, none⟩ = some (.int .i64 p.1) := HX.out.cell 0
      have z1 : wx.cell? ⟨X, 1, none⟩ = some (.int .i64 p.2.1) := HX.out.cell 1
      have z2 : wx.cell? ⟨X, 2, none⟩ = some (.int .i64 p.2.2) := HX.out.cell 2
      have hsz2 := HB1.out.size
      cases ht : p.2.1 == v
      · have HNX := Lib.hid (fil_skip (q := fun p : Ed => decide (p.2.1 = v)) hp (by simpa using ht))
        clear hp
        go_wp2_with fail
        go_roundg g2
        case measure => omega
        case rel => exact ⟨i + 1, u, A', c', by have := HIG.out; omega, by omega, by go_num, rfl, huc, hcm, by rw [HNX.out]; exact HU, by rw [HNX.out]; exact HO1, HB1⟩
      · have HNX := Lib.hid (fil_keep (q := fun p : Ed => decide (p.2.1 = v)) hp (by simpa using ht))
        clear hp
        go_wp2_with (at_builtin; refine wpList_append_any _ rfl (.tmp 19) (.tmp 21) 22 rfl W0.heap.size 35 i0 _ 3 24 Try.underlying22 hi hz0 hz1 hz2 rfl (by decide) (.slice A' u c') u _ rfl (HO1.out.alloc _) (wx.heap.size + 1) (some ⟨wx.heap.size, 0, none⟩) 1 _ (cellsE [p]) rfl (pair_one wx p) (cellsE_one _) (by unfold maxLen; omega) (by omega) (by simp; omega) ?_; intro v5 w5 hown5 hgrow5 _; have HB5 : Hid (Below W0.heap.size W0 w5) := (HB1.out.alloc hsz2 _).grown hgrow5 (by simp; omega) (fun k hk => (HO1.out.lt k hk).1); obtain ⟨A5, c5, rfl, h51, h52⟩ := own_form2 hown5; rw [← cellsE_append, ← HNX.out] at hown5; have HO5 := Lib.hid hown5; clear hown5 hgrow5)
        go_roundg g2
        case measure => omega
        case rel => exact ⟨i + 1, u + 1, A5, c5, by have := HIG.out; omega, by omega, by go_num, rfl, h51, h52, by rw [HNX.out, List.length_append, HU.out]; rfl, HO5, HB5⟩

set_option maxRecDepth 100000 in
set_option maxHeartbeats 4000000 in
theorem rkinds_any (nodes v x : Int) (A : Option Addr) (n c : Nat) (zs : List Ed) (hn : n ≤ 1000) (w : World) (hR : Reads w w.heap.size 3 A n (cellsE zs)) :
    Calls Try.prog 28 #[.agg #[.int .i64 nodes, .slice A n c], .int .i64 v, .int .i64 x] w (IntsIs (kindsE zs v x) w) := by
  have HKE : Hid (kindsE zs v x = (zs.filter (fun p => decide (p.1 = v) && decide (p.2.1 = x))).map fun p => p.2.2) := by
    show _ = _
    unfold kindsE outE
    rw [List.filter_filter]
    congr 1
    refine List.filter_congr fun p _ => ?_
    rw [Bool.and_comm]
  obtain ⟨bx, b0⟩ := box_new w #[.int .i64 nodes, .slice A n c] 24
  have HL := Lib.hid (reads_len hR)
  have HR := Lib.hid fun W (h : Below w.heap.size w W) => (hR.below h)
  obtain ⟨i1, hi1, hy0, hy1, hy2⟩ := info_parts int_info
  have z0 := bx.cell 0
  have z1 := bx.cell 1
  have B0 := Lib.hid b0
  clear hR bx b0
  go_enter Try.func28, Try.ntmps28
  go_wp2_with fail
  generalize w.alloc (.cells #[.int .i64 nodes, .slice A n c] 24) = W0 at *
  clear z0 z1
  go_loopg [7, 13] n (fun gg s5 s11 wr => ∃ (i u : Nat) (A' : Option Addr) (c' : Nat), i + gg = n ∧ u ≤ i ∧ s11 = .int .i64 i ∧ s5 = .slice A' u c' ∧ u ≤ c' ∧ c' ≤ 9223372036854775807 ∧ Hid (((fil (fun p : Ed => decide (p.1 = v) && decide (p.2.1 = x)) zs i).map fun p => p.2.2).length = u) ∧
    Hid (wr.ownsRow W0.heap.size 3 1 (.slice A' u c') u (ints ((fil (fun p : Ed => decide (p.1 = v) && decide (p.2.1 = x)) zs i).map fun p => p.2.2))) ∧ Hid (Below W0.heap.size W0 wr))
  case atStart => exact ⟨0, 0, none, 0, by omega, Nat.le_refl _, rfl, rfl, Nat.le_refl _, by decide, rfl, World.ownsRow_nil _ _ _ _, Below.refl _ _⟩
  case round =>
    obtain ⟨i, u, A', c', hig, hui, rfl, rfl, huc, hcm, HU, HO, HB⟩ := hrel
    cases gk with
    | zero =>
      have hge : ¬ (i : Int) < (n : Int) := by omega
      have HE := Lib.hid (ints_end B0.out HU.out HO.out huc hcm HB.out)
      rw [fil_all (by rw [HL.out]; omega), ← HKE.out] at HE
      clear hig
      go_wp2_with fail
      go_ret
      exact HE.out
    | succ g2 =>
      have hlt : (i : Int) < (n : Int) := by omega
      have hin : i < n := by omega
      obtain ⟨p, hp⟩ : ∃ p, zs[i]? = some p := ⟨zs[i]'(by rw [HL.out]; omega), List.getElem?_eq_getElem _⟩
      obtain ⟨b, o, rfl, hb, g0, g1, gk2⟩ := ed_at (HR.out _ (B0.out.trans (HB.out.mono B0.out.size))) hp
      have HIG := Lib.hid hig
      have hsz := HB.out.size
      have HX := Lib.hid (Blk.new wr 35 #[.int .i64 p.1, .int .i64 p.2.1, .int .i64 p.2.2])
      have HO1 := Lib.hid (HO.out.alloc (.cells #[.int .i64 p.1, .int .i64 p.2.1, .int .i64 p.2.2] 35))
      have HB1 := Lib.hid (HB.out.alloc hsz (.cells #[.int .i64 p.1, .int .i64 p.2.1, .int .i64 p.2.2] 35))
      obtain ⟨X, hX⟩ : ∃ X, wr.heap.size = X := ⟨_, rfl⟩
      rw [hX] at HX
      clear hig
      go_upto_region 5 with fail
      clear g0 g1 gk2 hX HB HO
      generalize wr.alloc (.cells #[.int .i64 p.1, .int .i64 p.2.1, .int .i64 p.2.2] 35) = wx at *
      have z0 : wx.cell? ⟨X, 0, none⟩ = some (.int .i64 p.1) := HX.out.cell 0
      have z1 : wx.cell? ⟨X, 1, none⟩ = some (.int .i64 p.2.1) := HX.out.cell 1
      have z2 : wx.cell? ⟨X, 2, none⟩ = some (.int .i64 p.2.2) := HX.out.cell 2
      have hsz2 := HB1.out.size
      cases ht : p.1 == v
      · have HNX := Lib.hid (fil_skip (q := fun p : Ed => decide (p.1 = v) && decide (p.2.1 = x)) hp (by have : ¬ p.1 = v := by simpa using ht
                                                                                                         simp [this]))
        clear hp
        go_wp2_with fail
        go_roundg g2
        case measure => omega
        case rel => exact ⟨i + 1, u, A', c', by have := HIG.out; omega, by omega, by go_num, rfl, huc, hcm, by rw [HNX.out]; exact HU, by rw [HNX.out]; exact HO1, HB1⟩
      · cases ht2 : p.2.1 == x
        · have HNX := Lib.hid (fil_skip (q := fun p : Ed => decide (p.1 = v) && decide (p.2.1 = x)) hp (by have : ¬ p.2.1 = x := by simpa using ht2
                                                                                                           simp [this]))
          clear hp
          go_wp2_with fail
          go_roundg g2
          case measure => omega
          case rel => exact ⟨i + 1, u, A', c', by have := HIG.out; omega, by omega, by go_num, rfl, huc, hcm, by rw [HNX.out]; exact HU, by rw [HNX.out]; exact HO1, HB1⟩
        · have HNF := Lib.hid (fil_keep (q := fun p : Ed => decide (p.1 = v) && decide (p.2.1 = x)) hp (by have h1 : p.1 = v := by simpa using ht
                                                                                                           have h2 : p.2.1 = x := by simpa using ht2
                                                                                                           simp [h1, h2]))
          have HNX : Hid ((fil (fun p : Ed => decide (p.1 = v) && decide (p.2.1 = x)) zs (i + 1)).map (fun p => p.2.2) = (fil (fun p : Ed => decide (p.1 = v) && decide (p.2.1 = x)) zs i).map (fun p => p.2.2) ++ [p.2.2]) := by
            show _ = _
            rw [HNF.out, List.map_append]
            rfl
          clear hp
          go_wp2_with (at_builtin; refine wpList_append_any _ rfl (.tmp 27) (.tmp 30) 41 rfl W0.heap.size 3 i1 _ 1 8 Try.underlying41 hi1 hy0 hy1 hy2 rfl (by decide) (.slice A' u c') u _ rfl (HO1.out.alloc _) (wx.heap.size + 1) (some ⟨wx.heap.size, 0, none⟩) 1 _ (ints [p.2.2]) rfl (int_one wx (p.2.2)) (ints_one _) (by unfold maxLen; omega) (by omega) (by simp; omega) ?_; intro v5 w5 hown5 hgrow5 _; have HB5 : Hid (Below W0.heap.size W0 w5) := (HB1.out.alloc hsz2 _).grown hgrow5 (by simp; omega) (fun k hk => (HO1.out.lt k hk).1); obtain ⟨A5, c5, rfl, h51, h52⟩ := own_form2 hown5; rw [← ints_append, ← HNX.out] at hown5; have HO5 := Lib.hid hown5; clear hown5 hgrow5)
          go_roundg g2
          case measure => omega
          case rel => exact ⟨i + 1, u + 1, A5, c5, by have := HIG.out; omega, by omega, by go_num, rfl, h51, h52, by rw [HNX.out, List.length_append, HU.out]; rfl, HO5, HB5⟩

end Go.Proofs.Yticbgikbpafeoaa
