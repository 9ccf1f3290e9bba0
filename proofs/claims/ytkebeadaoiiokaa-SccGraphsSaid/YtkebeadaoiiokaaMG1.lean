/- SccGraphs: the walk. -/
import Derived.Test.YtkebeadaoiiokaaM11
import Derived.Test.YtkebeadaoiiokaaM10
import Derived.Test.YtkebeadaoiiokaaM16
-- holds: YtkebeadaoiiokaaCga
namespace Go.Proofs.Ytkebeadaoiiokaa
open Go.RowKit Go.Shelf

theorem gerr_own {nodes k : Int} {ps : List Ed} {w w' : World} {e : Ending} (h : GErr nodes ps k w e w') :
    ∃ g : GV, e = .returned (.tuple #[.agg #[.int .i64 g.z, .slice g.A g.n g.c], .int .i64 k]) ∧ g.z = nodes ∧ g.es = ps ∧ g.ok w' ∧ Below w.heap.size w w' ∧ w'.ownsRow w.heap.size 34 3 (.slice g.A g.n g.c) g.n (cellsE g.es) := by
  obtain ⟨A, c, he, ho, h1, h2, hb⟩ := h
  exact ⟨⟨nodes, A, ps.length, c, ps⟩, he, rfl, rfl, ⟨reads_own ho, h1, h2, own_nil ho⟩, hb, ho⟩
/-- A row of edges in memory between two bounds, whose first numbers can be written. -/
def GoneF (W : World) (lo hi : Nat) (A : Option Addr) (n : Nat) : Prop :=
  n = 0 ∨ ∃ (g o : Nat) (cur : Array Value), A = some ⟨g, o, none⟩ ∧ lo ≤ g ∧ g < hi ∧ Blk W g 34 cur ∧ ∀ j, j < n → ∃ x : Int, cur[o + j * 3]? = some (.int .i64 x)
theorem GoneF.on {W W' : World} {lo hi n : Nat} {A : Option Addr} (h : GoneF W lo hi A n) (hb : Below W.heap.size W W') : GoneF W' lo hi A n := by
  rcases h with h | ⟨g, o, cur, h1, h2, h3, h4, h5⟩
  · exact .inl h
  · exact .inr ⟨g, o, cur, h1, h2, h3, h4.below hb h4.lt, h5⟩
theorem own_goneF {W : World} {base n c : Nat} {A : Option Addr} {es : List Ed} (h : W.ownsRow base 34 3 (.slice A n c) n (cellsE es)) : GoneF W base W.heap.size A n := by
  rcases Nat.eq_zero_or_pos n with h0 | h0
  · exact .inl h0
  · have hl := reads_len (reads_own h)
    rcases h.2 with ⟨e, _⟩ | ⟨g, cap, cur, e, hb, hk, _⟩
    · exfalso
      injection e with _ e2 _
      omega
    · injection e with e1 e2 e3
      subst e1
      refine .inr ⟨g, 0, cur, rfl, hb, (show Blk W g _ cur from hk).lt, hk, fun j hj => ?_⟩
      obtain ⟨p, hp⟩ : ∃ p, es[j]? = some p := ⟨es[j]'(by omega), List.getElem?_eq_getElem _⟩
      obtain ⟨b', o', e, _, h0, _, _⟩ := ed_at (reads_own h) hp
      injection e with e
      injection e with e1 e2
      subst e1; subst e2
      rw [Blk.cell hk] at h0
      exact ⟨_, h0⟩
theorem GoneF.set {W : World} {lo hi n g o j : Nat} {cur : Array Value} (h1 : lo ≤ g) (h2 : g < hi) (hk : Blk W g 34 cur) (hx : ∀ j, j < n → ∃ x : Int, cur[o + j * 3]? = some (.int .i64 x)) (y : Int) :
    GoneF (W.setCell ⟨g, o + j * 3, none⟩ (.int .i64 y)) lo hi (some ⟨g, o, none⟩) n := by
  refine .inr ⟨g, o, _, rfl, h1, h2, hk.set_ _ _, fun i hi => ?_⟩
  rw [Array.getElem?_setIfInBounds]
  split
  · rename_i he
    split
    · exact ⟨y, rfl⟩
    · exfalso
      obtain ⟨x, hx⟩ := hx i hi
      rw [← he] at hx
      have := (Array.getElem?_eq_some_iff.1 hx).1
      omega
  · exact hx i hi
theorem GoneF.far {W : World} {lo hi n : Nat} {A : Option Addr} (h : GoneF W lo hi A n) {p : Addr} (hp : p.block < lo ∨ hi ≤ p.block) (u : Value) : GoneF (W.setCell p u) lo hi A n := by
  rcases h with h | ⟨g, o, cur, h1, h2, h3, h4, h5⟩
  · exact .inl h
  · exact .inr ⟨g, o, cur, h1, h2, h3, h4.far (by omega) u, h5⟩
theorem g2at0 (z u : Int) (A B : Option Addr) (n c m d : Nat) (W : World) : (Instr.index 32 (.agg #[.int .i64 z, .slice A n c, .int .i64 u, .slice B m d]) (.int .i64 0)).run Try.prog W = .ok (.agg #[.int .i64 z, .slice A n c]) W := by kernel_rfl
theorem g2at1 (z u : Int) (A B : Option Addr) (n c m d : Nat) (W : World) : (Instr.index 32 (.agg #[.int .i64 z, .slice A n c, .int .i64 u, .slice B m d]) (.int .i64 1)).run Try.prog W = .ok (.agg #[.int .i64 u, .slice B m d]) W := by kernel_rfl
/-- The graph at a place of two. -/
theorem g2_at (p q : GV) (i : Nat) (hi : i < 2) : ∃ h : GV, (∀ W, (Instr.index 32 (.agg #[.int .i64 p.z, .slice p.A p.n p.c, .int .i64 q.z, .slice q.A q.n q.c]) (.int .i64 (i : Int))).run Try.prog W = .ok (.agg #[.int .i64 h.z, .slice h.A h.n h.c]) W) ∧ ((i = 0 ∧ h = p) ∨ (i = 1 ∧ h = q)) := by
  match i, hi with
  | 0, _ => exact ⟨p, fun W => g2at0 p.z q.z p.A q.A p.n p.c q.n q.c W, .inl ⟨rfl, rfl⟩⟩
  | 1, _ => exact ⟨q, fun W => g2at1 p.z q.z p.A q.A p.n p.c q.n q.c W, .inr ⟨rfl, rfl⟩⟩

set_option maxRecDepth 100000 in
set_option maxHeartbeats 4000000 in
theorem graphs6_core (S : Scc) (nodes : Int) (A : Option Addr) (n c : Nat) (zs : List Ed) (hc : A = none → c = 0) (hnc : n ≤ c) (hcm : c ≤ 9223372036854775807) (w : World) (hR : Reads w w.heap.size 3 A n (cellsE zs)) :
    Calls Try.prog 3 #[.agg #[.int .i64 nodes, .slice A n c]] w fun e w' => e = .returned (.bool true) ∧ Below w.heap.size w w' := by
  have E0 := Lib.hid ((Env.start w).add (g := ⟨nodes, A, n, c, zs⟩) ⟨hR, hnc, hcm, hc⟩)
  obtain ⟨gx, hgx⟩ : ∃ gx : GV, (⟨nodes, A, n, c, zs⟩ : GV) = gx := ⟨_, rfl⟩
  have hz : nodes = gx.z := by rw [← hgx]
  have hA : A = gx.A := by rw [← hgx]
  have hn : n = gx.n := by rw [← hgx]
  have hcc : c = gx.c := by rw [← hgx]
  rw [hgx] at E0
  subst hz; subst hA; subst hn; subst hcc
  have HS := Lib.hid S
  clear hR hc hnc hcm hgx S
  go_enter Try.func3, Try.ntmps3
  go_wp2_with fail
  generalize w.alloc (.cells #[.int .i64 gx.z, .slice gx.A gx.n gx.c] 24) = W0 at *
  refine (wakes6_any HS.out _).mono ?_
  rintro e w1 ⟨rfl, b⟩
  have E1 := Lib.hid (E0.out.on b)
  clear b E0
  have z0 := E1.out.c0 (.head _)
  have z1 := E1.out.c1 (.head _)
  go_wp2_with fail
  have ok1 := E1.out.ok (.head _)
  refine (own6_any gx.z gx.A gx.n gx.c gx.es ok1.2.2.2 ok1.2.1 ok1.2.2.1 w1 ok1.1).mono ?_
  clear ok1
  rintro e w2 hx
  obtain ⟨g, rfl, hz, he, okg, b⟩ := gis_gv hx
  have E2 := Lib.hid ((E1.out.on b).add okg)
  have hgn : g.n ≤ 600 := by
    have := okg.len
    have h2 : (gx.es.take 600).length ≤ 600 := by rw [List.length_take]; omega
    rw [← he] at h2
    omega
  have HGE := Lib.hid (And.intro hz he)
  clear hx hz he okg b E1 z0 z1
  have z0 := E2.out.c0 (.head _)
  have z1 := E2.out.c1 (.head _)
  go_wp2_with fail
  generalize w2.alloc (.cells #[.int .i64 g.z, .slice g.A g.n g.c] 24) = w3 at *
  generalize w2.heap.size = b3 at *
  refine (HS.out.inner g w3 (by omega) (E2.out.ok (.head _))).mono ?_
  rintro e w4 ⟨gz, ges, k1, hx, hr1, hw1⟩
  obtain ⟨gi, rfl, hz1, he1, ok1, b, ho1⟩ := gerr_own hx
  have E4 := Lib.hid ((E2.out.on b).add ok1)
  have G4 : Hid (GoneF (w4.alloc (.cells #[.int .i64 gi.z, .slice gi.A gi.n gi.c] 24)) w3.heap.size w4.heap.size gi.A gi.n) := (own_goneF ho1).on ((Below.refl _ _).alloc (Nat.le_refl _) _)
  have J4 : Hid (Below w3.heap.size w3 (w4.alloc (.cells #[.int .i64 gi.z, .slice gi.A gi.n gi.c] 24))) := b.alloc b.size _
  have HSZ : Hid (w4.heap.size ≤ (w4.alloc (.cells #[.int .i64 gi.z, .slice gi.A gi.n gi.c] 24)).heap.size) := by unfold Hid; simp
  have HI := Lib.hid (And.intro hz1 he1)
  have HLI : Hid (gi.n ≤ 600) := by
    have h1 := ok1.len
    cases hr : rightG g.z g.es
    · rw [he1, (hw1 hr).2.2] at h1
      show _ ≤ _
      simp at h1
      omega
    · obtain ⟨_, _, ls, os, _, h5⟩ := hr1 hr
      rw [he1, h5] at h1
      have h2 := List.length_filter_le (sameOf os) g.es
      have h3 := (E2.out.ok (.head _)).len
      show _ ≤ _
      omega
  have HR1 := Lib.hid hr1
  have HW1 := Lib.hid hw1
  have E3 := E2
  clear hx hz1 he1 ok1 b ho1 hr1 hw1 E2 z0 z1
  have z0 := E4.out.c0 (.tail _ (.head _))
  have z1 := E4.out.c1 (.tail _ (.head _))
  go_wp2_with fail
  generalize w4.alloc (.cells #[.int .i64 gi.z, .slice gi.A gi.n gi.c] 24) = w5 at *
  generalize w4.heap.size = b4 at *
  refine (HS.out.fold g w5 (by omega) (E4.out.ok (.tail _ (.head _)))).mono ?_
  rintro e w6 ⟨fz, fes, k2, hx, hr2, hw2⟩
  obtain ⟨gf, rfl, hz2, he2, ok2, b, ho2⟩ := gerr_own hx
  have E6 := Lib.hid ((E4.out.on b).add ok2)
  have hb7 : Below w5.heap.size w5 (w6.alloc (.cells #[.int .i64 gf.z, .slice gf.A gf.n gf.c] 24)) := b.alloc b.size _
  have G6 : Hid (GoneF (w6.alloc (.cells #[.int .i64 gf.z, .slice gf.A gf.n gf.c] 24)) w5.heap.size w6.heap.size gf.A gf.n) := (own_goneF ho2).on ((Below.refl _ _).alloc (Nat.le_refl _) _)
  have GI6 := Lib.hid (G4.out.on hb7)
  have J6 : Hid (Below w3.heap.size w3 (w6.alloc (.cells #[.int .i64 gf.z, .slice gf.A gf.n gf.c] 24))) := J4.out.trans (hb7.mono J4.out.size)
  have HLF : Hid (gf.n ≤ 600) := by
    have h1 := ok2.len
    cases hr : rightG g.z g.es
    · rw [he2, (hw2 hr).2.2] at h1
      show _ ≤ _
      simp at h1
      omega
    · obtain ⟨_, ls, os, _, _, h5⟩ := hr2 hr
      rw [he2, h5] at h1
      have h2 := sorE_len (foldL os g.es)
      have h4 : (foldL os g.es).length ≤ g.es.length := by unfold foldL; rw [List.length_map]; exact List.length_filter_le _ _
      have h3 := (E4.out.ok (.tail _ (.head _))).len
      show _ ≤ _
      omega
  have HFF := Lib.hid (And.intro hz2 he2)
  have HR2 := Lib.hid hr2
  have HW2 := Lib.hid hw2
  have HSZ2 : Hid (w3.heap.size ≤ w5.heap.size ∧ w5.heap.size ≤ w6.heap.size) := ⟨J4.out.size, b.size⟩
  clear hx hz2 he2 ok2 b ho2 hr2 hw2 hb7 E4 G4 J4 z0 z1
  go_upto_region 6 with fail
  have HT7s : Hid (w6.heap.size ≤ (w6.alloc (.cells #[.int .i64 gf.z, .slice gf.A gf.n gf.c] 24)).heap.size) := by unfold Hid; simp
  generalize w6.alloc (.cells #[.int .i64 gf.z, .slice gf.A gf.n gf.c] 24) = w7 at *
  generalize w6.heap.size = b6 at *
  have ZA := Zer.new E6.out
  have E7 := E6.out.alloc (.cells #[.int .i64 0, .slice none 0 0] 24)
  have ZB := Zer.new E7
  have hs8 : (w7.alloc (.cells #[.int .i64 0, .slice none 0 0] 24)).heap.size = w7.heap.size + 1 := by simp
  rw [hs8] at ZB
  have hb8 : Below w7.heap.size w7 ((w7.alloc (.cells #[.int .i64 0, .slice none 0 0] 24)).alloc (.cells #[.int .i64 0, .slice none 0 0] 24)) := ((Below.refl _ _).alloc (Nat.le_refl _) _).alloc (by simp) _
  have ZA8 := Lib.hid (ZA.on (W' := (w7.alloc (.cells #[.int .i64 0, .slice none 0 0] 24)).alloc (.cells #[.int .i64 0, .slice none 0 0] 24)) ((Below.refl _ _).alloc (Nat.le_refl _) _))
  have ZB8 := Lib.hid ZB
  have E8 := Lib.hid (E6.out.on hb8)
  have GI8 := Lib.hid (GI6.out.on hb8)
  have G8 := Lib.hid (G6.out.on hb8)
  have J8 : Hid (Below w3.heap.size w3 ((w7.alloc (.cells #[.int .i64 0, .slice none 0 0] 24)).alloc (.cells #[.int .i64 0, .slice none 0 0] 24))) := J6.out.trans (hb8.mono J6.out.size)
  have HXL : Hid (w3.heap.size ≤ w7.heap.size) := J6.out.size
  have HBB : Hid (b4 ≤ w7.heap.size ∧ b6 ≤ w7.heap.size) := by have h1 := HSZ.out; have h2 := HSZ2.out; have h3 := HT7s.out; show _ ∧ _; omega
  clear ZA ZB E7 hs8 hb8 E6 GI6 G6 J6
  go_upto_region 8 with fail
  generalize (w7.alloc (.cells #[.int .i64 0, .slice none 0 0] 24)).alloc (.cells #[.int .i64 0, .slice none 0 0] 24) = w8 at *
  generalize w7.heap.size = b8 at *
  have z0 := E8.out.c0 (.tail _ (.tail _ (.head _)))
  have z1 := E8.out.c1 (.tail _ (.tail _ (.head _)))
  have HRT := Lib.hid (right_any g.z g.A g.n g.c g.es (by omega) w8 (E8.out.ok (.tail _ (.tail _ (.head _)))).1)
  go_wp2_with fail
  refine HRT.out.mono ?_
  rintro e w9 ⟨rfl, b⟩
  have E9 := Lib.hid (E8.out.on b)
  have ZA9 := Lib.hid (ZA8.out.on b)
  have ZB9 := Lib.hid (ZB8.out.on b)
  have GI9 := Lib.hid (GI8.out.on b)
  have G9 := Lib.hid (G8.out.on b)
  have J9 : Hid (Below w3.heap.size w3 w9) := J8.out.trans (b.mono J8.out.size)
  clear b E8 ZA8 ZB8 GI8 G8 J8 HRT z0 z1
  go_upto_if 29 with fail
  go_cut [10] from 29 (fun s10 wy => ∃ (no : Int) (ga gb : GV), s10 = .int .i64 no ∧ k1 = no ∧ k2 = no ∧ (gi.z = ga.z ∧ gi.es = ga.es) ∧ (gf.z = gb.z ∧ gf.es = gb.es) ∧
    Hid (Env w [(b8 + 1, gb), (b8, ga), (b6, gf), (b4, gi), (b3, g), (w.heap.size, gx)] wy) ∧ Hid (GoneF wy w3.heap.size b4 gi.A gi.n) ∧ Hid (GoneF wy w5.heap.size b6 gf.A gf.n) ∧ Hid (Below w3.heap.size w3 wy))
  case first =>
    cases hr : rightG g.z g.es
    · obtain ⟨hk1, hz1, he1⟩ := HW1.out hr
      obtain ⟨hk2, hz2, he2⟩ := HW2.out hr
      have EA : Hid (Env w [(b8 + 1, ⟨0, none, 0, 0, []⟩), (b8, ⟨0, none, 0, 0, []⟩), (b6, gf), (b4, gi), (b3, g), (w.heap.size, gx)] w9) := ⟨E9.out.below, fun p hp => by
        rcases List.mem_cons.1 hp with rfl | hp
        · exact ⟨ZB9.out.1, ⟨Reads.none_, Nat.le_refl _, Nat.zero_le _, fun _ => rfl⟩⟩
        · rcases List.mem_cons.1 hp with rfl | hp
          · exact ⟨ZA9.out.1, ⟨Reads.none_, Nat.le_refl _, Nat.zero_le _, fun _ => rfl⟩⟩
          · exact E9.out.all p hp⟩
      have HX := Lib.hid (And.intro hk1 (And.intro hk2 (And.intro (And.intro (HI.out.1.trans hz1) (HI.out.2.trans he1)) (And.intro (HFF.out.1.trans hz2) (HFF.out.2.trans he2)))))
      clear hk1 hz1 he1 hk2 hz2 he2 hr
      go_wp2_with fail
      go_meet
      case rel => exact ⟨150, ⟨0, none, 0, 0, []⟩, ⟨0, none, 0, 0, []⟩, rfl, HX.out.1, HX.out.2.1, HX.out.2.2.1, HX.out.2.2.2, EA, GI9, G9, J9⟩
    · obtain ⟨hk1, hz1, ls1, os1, hc1, he1⟩ := HR1.out hr
      obtain ⟨hk2, ls2, os2, hc2, hz2, he2⟩ := HR2.out hr
      have hgg := rightG_iff.1 hr
      have HK := Lib.hid (And.intro hk1 hk2)
      have HP1 := Lib.hid (And.intro hz1 he1)
      have HP2 := Lib.hid (And.intro hz2 he2)
      have HC1 := Lib.hid hc1
      have HC2 := Lib.hid hc2
      have HIN := Lib.hid fun W (h : g.ok W) => rinner_any g.z g.A g.n g.c g.es hgg (by omega) W h.1
      have HFO := Lib.hid fun W (h : g.ok W) => rfold_any g.z g.A g.n g.c g.es hgg (by omega) W h.1
      obtain ⟨m, hm⟩ : ∃ m : Nat, g.z = (m : Int) := ⟨g.z.toNat, by have := hgg.nodes; omega⟩
      have HGM : Hid (IsG (m : Int) g.es) := by rw [← hm]; exact hgg
      have HCM2 : Hid (Comps g.es m ls2 os2) := by rw [show m = g.z.toNat by omega]; exact hc2
      clear hk1 hz1 hc1 he1 hk2 hc2 hz2 he2 hgg hr hm
      go_upto_region 9 with fail
      have K0 := Lib.hid E9.out.drew
      have KA0 : Hid (Zer w [(b6, gf), (b4, gi), (b3, g), (w.heap.size, gx)] b8 w9.drew) := ZA9.out.on (Below.refl _ _).drew
      have KB0 : Hid (Zer w [(b6, gf), (b4, gi), (b3, g), (w.heap.size, gx)] (b8 + 1) w9.drew) := ZB9.out.on (Below.refl _ _).drew
      have GA0 : Hid (GoneF w9.drew w3.heap.size b4 gi.A gi.n) := GI9.out.on (Below.refl _ _).drew
      have GB0 : Hid (GoneF w9.drew w5.heap.size b6 gf.A gf.n) := G9.out.on (Below.refl _ _).drew
      have L0 : Hid (Below w3.heap.size w3 w9.drew) := J9.out.drew
      clear E9 ZA9 ZB9 GI9 G9 J9
      refine wp_region_noPanic ?_
      refine wp_region_held_drew (S := fun w' => w'.cell? ⟨b3, 0, none⟩ = some (.int .i64 g.z) ∧ w'.cell? ⟨b3, 1, none⟩ = some (.slice g.A g.n g.c)) (by kernel_rfl) ⟨K0.out.c0 (.tail _ (.tail _ (.head _))), K0.out.c1 (.tail _ (.tail _ (.head _)))⟩ (fun hHeld => ?_)
      refine wpAnyH_take (i := 0) (oi := { dst := some 30, op := Op.load 24 (Operand.tmp 3), type := 24, pos := "law.go:70", after := #[], guard := none }) (v := .agg #[.int .i64 g.z, .slice g.A g.n g.c]) rfl (by kernel_rfl) (by kernel_rfl) (by kernel_rfl) (fun _ _ _ h => h) (Or.inl ⟨by kernel_rfl, fun w' hSw => by (try dsimp only at hSw); go_simp⟩) (by assumption) ?_
      try simp only [Act.put, List.setIfInBounds_toArray, List.set_cons_zero, List.set_cons_succ]
      refine wpAnyH_take (i := 2) (oi := { dst := some 32, op := Op.load 24 (Operand.tmp 3), type := 24, pos := "law.go:70", after := #[], guard := none }) (v := .agg #[.int .i64 g.z, .slice g.A g.n g.c]) rfl (by kernel_rfl) (by kernel_rfl) (by kernel_rfl) (fun _ _ _ h => h) (Or.inl ⟨by kernel_rfl, fun w' hSw => by (try dsimp only at hSw); go_simp⟩) (by assumption) ?_
      try simp only [Act.put, List.setIfInBounds_toArray, List.set_cons_zero, List.set_cons_succ]
      refine wpAnyH_ready (rs := [1]) (by kernel_rfl) (by simp) ?_
      refine AllReadyH.cons (o := { dst := some 31, op := Op.call { callee := Callee.value (Operand.func 12), args := #[Operand.tmp 30], argTypes := #[24] }, type := 24, pos := "law.go:70", after := #[{ on := 0, ground := Ground.data }], guard := none }) rfl (fun K hK => ?_) AllReadyH.nil
      go_simp
      refine (HIN.out _ (K0.out.ok (.tail _ (.tail _ (.head _))))).mono ?_
      rintro e v1 ⟨ls, os, hcs, hx⟩
      obtain ⟨ga, rfl, hz, he, okg, b⟩ := gis_gv hx
      have K1 := Lib.hid (K0.out.on b)
      have KA1 := Lib.hid (KA0.out.on b)
      have KB1 := Lib.hid (KB0.out.on b)
      have GA1 := Lib.hid (GA0.out.on b)
      have GB1 := Lib.hid (GB0.out.on b)
      have L1 : Hid (Below w3.heap.size w3 v1) := L0.out.trans (b.mono L0.out.size)
      have OA1 := Lib.hid okg
      have HAE : Hid (gi.z = ga.z ∧ gi.es = ga.es) := ⟨HI.out.1.trans (HP1.out.1.trans hz.symm), HI.out.2.trans (HP1.out.2.trans (by rw [he, (hcs.unique HC1.out).2]))⟩
      clear hcs hx hz he okg b hHeld K0 KA0 KB0 GA0 GB0 L0
      refine hK.out _ _ ⟨K1.out.c0 (.tail _ (.tail _ (.head _))), K1.out.c1 (.tail _ (.tail _ (.head _)))⟩ (fun hHeld => ?_)
      clear hK K
      try simp only [Act.put, List.setIfInBounds_toArray, List.set_cons_zero, List.set_cons_succ]
      refine wpAnyH_ready (rs := [3]) (by kernel_rfl) (by simp) ?_
      refine AllReadyH.cons (o := { dst := some 33, op := Op.call { callee := Callee.value (Operand.func 13), args := #[Operand.tmp 32], argTypes := #[24] }, type := 24, pos := "law.go:70", after := #[{ on := 2, ground := Ground.data }, { on := 1, ground := Ground.chain }], guard := none }) rfl (fun K hK => ?_) AllReadyH.nil
      go_simp
      refine (HFO.out _ (K1.out.ok (.tail _ (.tail _ (.head _))))).mono ?_
      rintro e v2 ⟨ls, os, hcs, hx⟩
      obtain ⟨gb, rfl, hz, he, okg, b⟩ := gis_gv hx
      have K2 := Lib.hid (K1.out.on b)
      have KA2 := Lib.hid (KA1.out.on b)
      have KB2 := Lib.hid (KB1.out.on b)
      have GA2 := Lib.hid (GA1.out.on b)
      have GB2 := Lib.hid (GB1.out.on b)
      have L2 : Hid (Below w3.heap.size w3 v2) := L1.out.trans (b.mono L1.out.size)
      have OA2 := Lib.hid (OA1.out.on b)
      have OB2 := Lib.hid okg
      have HBE : Hid (gf.z = gb.z ∧ gf.es = gb.es) := ⟨HFF.out.1.trans (HP2.out.1.trans (by rw [hz, (hcs.unique HC2.out).1])), HFF.out.2.trans (HP2.out.2.trans (by rw [he, (hcs.unique HC2.out).2, ofE_eq fun p hp => rightE_ok (fold_isG HGM.out HCM2.out).1.may (fold_right HGM.out.all HCM2.out p hp)]))⟩
      clear hcs hx hz he okg b hHeld OA1 K1 KA1 KB1 GA1 GB1 L1
      have q0 := KA2.out.1.cell 0
      have q1 := KA2.out.1.cell 1
      have q2 := KA2.out.1.frozen 0
      have q3 := KA2.out.1.frozen 1
      refine hK.out _ _ ⟨K2.out.c0 (.tail _ (.tail _ (.head _))), K2.out.c1 (.tail _ (.tail _ (.head _)))⟩ (fun hHeld => ?_)
      clear hK K
      try simp only [Act.put, List.setIfInBounds_toArray, List.set_cons_zero, List.set_cons_succ]
      refine wpAnyH_ready (rs := [4]) (by kernel_rfl) (by simp) ?_
      refine AllReadyH.cons (o := { dst := none, op := Op.store 24 (Operand.tmp 8) (Operand.tmp 31), type := 0, pos := "law.go:70", after := #[{ on := 1, ground := Ground.data }, { on := 3, ground := Ground.chain }, { on := 0, ground := Ground.phase }, { on := 1, ground := Ground.phase }, { on := 2, ground := Ground.textOnly Departure.lateStores }, { on := 3, ground := Ground.textOnly Departure.lateStoresUnsure }], guard := none }) rfl (fun K hK => ?_) AllReadyH.nil
      go_simp
      have K3 := Lib.hid (K2.out.put KA2.out OA2.out)
      have KB3 : Hid (Zer w [(b8, ga), (b6, gf), (b4, gi), (b3, g), (w.heap.size, gx)] (b8 + 1) ((v2.setCell ⟨b8, 0, none⟩ (.int .i64 ga.z)).setCell ⟨b8, 1, none⟩ (.slice ga.A ga.n ga.c))) := ⟨(KB2.out.1.far (p := ⟨b8, 0, none⟩) (by simp) _).far (p := ⟨b8, 1, none⟩) (by simp) _, KB2.out.2.1, fun p hp => (List.mem_cons.1 hp).elim (fun e => by rw [e]; exact Nat.ne_of_lt (Nat.lt_succ_self _)) (fun hp => KB2.out.2.2 p hp)⟩
      have OB3 := Lib.hid (OB2.out.put KA2.out.1 (.int .i64 ga.z) (.slice ga.A ga.n ga.c))
      have hfar : b4 ≤ b8 ∧ b6 ≤ b8 := HBB.out
      have GA3 : Hid (GoneF ((v2.setCell ⟨b8, 0, none⟩ (.int .i64 ga.z)).setCell ⟨b8, 1, none⟩ (.slice ga.A ga.n ga.c)) w3.heap.size b4 gi.A gi.n) := (GA2.out.far (p := ⟨b8, 0, none⟩) (.inr hfar.1) _).far (p := ⟨b8, 1, none⟩) (.inr hfar.1) _
      have GB3 : Hid (GoneF ((v2.setCell ⟨b8, 0, none⟩ (.int .i64 ga.z)).setCell ⟨b8, 1, none⟩ (.slice ga.A ga.n ga.c)) w5.heap.size b6 gf.A gf.n) := (GB2.out.far (p := ⟨b8, 0, none⟩) (.inr hfar.2) _).far (p := ⟨b8, 1, none⟩) (.inr hfar.2) _
      have L3 : Hid (Below w3.heap.size w3 ((v2.setCell ⟨b8, 0, none⟩ (.int .i64 ga.z)).setCell ⟨b8, 1, none⟩ (.slice ga.A ga.n ga.c))) := (L2.out.setCell (p := ⟨b8, 0, none⟩) HXL.out _).setCell (p := ⟨b8, 1, none⟩) HXL.out _
      clear hfar hHeld q0 q1 q2 q3 K2 KA2 KB2 OA2 OB2 GA2 GB2 L2
      have q0 := KB3.out.1.cell 0
      have q1 := KB3.out.1.cell 1
      have q2 := KB3.out.1.frozen 0
      have q3 := KB3.out.1.frozen 1
      refine hK.out _ _ ⟨K3.out.c0 (.tail _ (.tail _ (.tail _ (.head _)))), K3.out.c1 (.tail _ (.tail _ (.tail _ (.head _))))⟩ (fun hHeld => ?_)
      clear hK K
      try simp only [Act.put, List.setIfInBounds_toArray, List.set_cons_zero, List.set_cons_succ]
      refine wpAnyH_ready (rs := [5]) (by kernel_rfl) (by simp) ?_
      refine AllReadyH.cons (o := { dst := none, op := Op.store 24 (Operand.tmp 9) (Operand.tmp 33), type := 0, pos := "law.go:70", after := #[{ on := 3, ground := Ground.data }, { on := 4, ground := Ground.chain }, { on := 0, ground := Ground.phase }, { on := 1, ground := Ground.phase }, { on := 2, ground := Ground.phase }, { on := 3, ground := Ground.phase }, { on := 4, ground := Ground.phase }], guard := none }) rfl (fun K hK => ?_) AllReadyH.nil
      go_simp
      have K4 := Lib.hid (K3.out.put KB3.out OB3.out)
      have hfar : b4 ≤ b8 + 1 ∧ b6 ≤ b8 + 1 := ⟨Nat.le_succ_of_le HBB.out.1, Nat.le_succ_of_le HBB.out.2⟩
      have GA4 : Hid (GoneF ((((v2.setCell ⟨b8, 0, none⟩ (.int .i64 ga.z)).setCell ⟨b8, 1, none⟩ (.slice ga.A ga.n ga.c)).setCell ⟨b8 + 1, 0, none⟩ (.int .i64 gb.z)).setCell ⟨b8 + 1, 1, none⟩ (.slice gb.A gb.n gb.c)) w3.heap.size b4 gi.A gi.n) := (GA3.out.far (p := ⟨b8 + 1, 0, none⟩) (.inr hfar.1) _).far (p := ⟨b8 + 1, 1, none⟩) (.inr hfar.1) _
      have GB4 : Hid (GoneF ((((v2.setCell ⟨b8, 0, none⟩ (.int .i64 ga.z)).setCell ⟨b8, 1, none⟩ (.slice ga.A ga.n ga.c)).setCell ⟨b8 + 1, 0, none⟩ (.int .i64 gb.z)).setCell ⟨b8 + 1, 1, none⟩ (.slice gb.A gb.n gb.c)) w5.heap.size b6 gf.A gf.n) := (GB3.out.far (p := ⟨b8 + 1, 0, none⟩) (.inr hfar.2) _).far (p := ⟨b8 + 1, 1, none⟩) (.inr hfar.2) _
      have L4 : Hid (Below w3.heap.size w3 ((((v2.setCell ⟨b8, 0, none⟩ (.int .i64 ga.z)).setCell ⟨b8, 1, none⟩ (.slice ga.A ga.n ga.c)).setCell ⟨b8 + 1, 0, none⟩ (.int .i64 gb.z)).setCell ⟨b8 + 1, 1, none⟩ (.slice gb.A gb.n gb.c))) := (L3.out.setCell (p := ⟨b8 + 1, 0, none⟩) (Nat.le_succ_of_le HXL.out) _).setCell (p := ⟨b8 + 1, 1, none⟩) (Nat.le_succ_of_le HXL.out) _
      clear hfar hHeld q0 q1 q2 q3 K3 KB3 OB3 GA3 GB3 L3
      refine hK.out _ _ ⟨K4.out.c0 (.tail _ (.tail _ (.tail _ (.tail _ (.head _))))), K4.out.c1 (.tail _ (.tail _ (.tail _ (.tail _ (.head _)))))⟩ (fun hHeld => ?_)
      clear hK K
      try simp only [Act.put, List.setIfInBounds_toArray, List.set_cons_zero, List.set_cons_succ]
      refine wpAnyH_take (i := 6) (oi := { dst := some 10, op := Op.assign (Operand.const (Value.int IntKind.i64 0)), type := 27, pos := "law.go:70", after := #[{ on := 5, ground := Ground.chain }, { on := 0, ground := Ground.phase }, { on := 1, ground := Ground.phase }, { on := 2, ground := Ground.phase }, { on := 3, ground := Ground.phase }, { on := 4, ground := Ground.phase }, { on := 5, ground := Ground.phase }], guard := none }) (v := .int .i64 0) rfl (by kernel_rfl) (by kernel_rfl) (by kernel_rfl) (fun _ _ _ h => h) (Or.inl ⟨by kernel_rfl, fun w' hSw => by (try dsimp only at hSw); go_simp⟩) (by assumption) ?_
      try simp only [Act.put, List.setIfInBounds_toArray, List.set_cons_zero, List.set_cons_succ]
      refine wpAnyH_done (by kernel_rfl) ?_ _
      refine NoPanic.normal ?_
      go_wp2_with fail
      go_meet
      case rel => exact ⟨0, ga, gb, rfl, HK.out.1, HK.out.2, HAE.out, HBE.out, K4, GA4, GB4, L4⟩
  case rest =>
    clear HR1 HW1 HR2 HW2 E9 ZA9 ZB9 GI9 G9 J9 HI HFF
    obtain ⟨no, ga, gb, rfl, h1, h2, h3, h4, EC, GI, GF, JC⟩ := hcut
    subst h1; subst h2
    have H3 := Lib.hid h3
    have H4 := Lib.hid h4
    clear h3 h4
    have hk : (k2 != k2) = false := by simp
    have y0 := EC.out.c0 (.tail _ (.tail _ (.tail _ (.head _))))
    have y1 := EC.out.c1 (.tail _ (.tail _ (.tail _ (.head _))))
    have x0 := EC.out.c0 (.tail _ (.head _))
    have x1 := EC.out.c1 (.tail _ (.head _))
    have HSM := rsame_any gi.z ga.z gi.A ga.A gi.n gi.c ga.n ga.c gi.es ga.es (by have := HLI.out; omega) wc (EC.out.ok (.tail _ (.tail _ (.tail _ (.head _))))).1 (EC.out.ok (.tail _ (.head _))).1
    rw [decide_eq_true H3.out] at HSM
    have HS1 := Lib.hid HSM
    clear HSM
    go_wp2_with fail
    refine HS1.out.mono ?_
    rintro e u1 ⟨rfl, b⟩
    have EC1 := Lib.hid (EC.out.on b)
    have GI1 := Lib.hid (GI.out.on b)
    have GF1 := Lib.hid (GF.out.on b)
    have JC1 : Hid (Below w3.heap.size w3 u1) := JC.out.trans (b.mono JC.out.size)
    clear b EC GI GF JC y0 y1 x0 x1 HS1
    have y0 := EC1.out.c0 (.tail _ (.tail _ (.head _)))
    have y1 := EC1.out.c1 (.tail _ (.tail _ (.head _)))
    have x0 := EC1.out.c0 (.head _)
    have x1 := EC1.out.c1 (.head _)
    have HSM := rsame_any gf.z gb.z gf.A gb.A gf.n gf.c gb.n gb.c gf.es gb.es (by have := HLF.out; omega) u1 (EC1.out.ok (.tail _ (.tail _ (.head _)))).1 (EC1.out.ok (.head _)).1
    rw [decide_eq_true H4.out] at HSM
    have HS1 := Lib.hid HSM
    clear HSM
    go_wp2_with fail
    refine HS1.out.mono ?_
    rintro e u2 ⟨rfl, b⟩
    have EC2 := Lib.hid (EC1.out.on b)
    have GI2 := Lib.hid (GI1.out.on b)
    have GF2 := Lib.hid (GF1.out.on b)
    have JC2 : Hid (Below w3.heap.size w3 u2) := JC1.out.trans (b.mono JC1.out.size)
    clear b EC1 GI1 GF1 JC1 y0 y1 x0 x1 HS1
    have y0 := EC2.out.c0 (.tail _ (.tail _ (.tail _ (.head _))))
    have y1 := EC2.out.c1 (.tail _ (.tail _ (.tail _ (.head _))))
    have x0 := EC2.out.c0 (.tail _ (.tail _ (.head _)))
    have x1 := EC2.out.c1 (.tail _ (.tail _ (.head _)))
    go_wp2_with fail
    clear y0 y1 x0 x1 EC2
    have HAP : Hid (w3.heap.size ≤ w5.heap.size ∧ b4 ≤ w5.heap.size) := ⟨HSZ2.out.1, HSZ.out⟩
    go_loopg [57] 2 (fun gg s57 wr => ∃ i : Nat, s57 = .int .i64 i ∧ i + gg = 2 ∧ Hid (Below w3.heap.size w3 wr) ∧ Hid (GoneF wr w3.heap.size b4 gi.A gi.n) ∧ Hid (GoneF wr w5.heap.size b6 gf.A gf.n))
    case atStart => exact ⟨0, rfl, by omega, JC2, GI2, GF2⟩
    case round =>
      clear JC2 GI2 GF2
      obtain ⟨i, rfl, hi, JC, GI, GF⟩ := hrel
      cases gk with
      | zero =>
        have hge : ¬ (i : Int) < 2 := by omega
        have E9 := Lib.hid (E3.out.on JC.out)
        have HSF : Hid (∀ (f : GV) W, f.z = gx.z → f.es = gx.es.take 600 → g.ok W → f.ok W → Calls Try.prog 14 #[.agg #[.int .i64 g.z, .slice g.A g.n g.c], .agg #[.int .i64 f.z, .slice f.A f.n f.c]] W fun e w' => e = .returned (.bool true) ∧ Below W.heap.size W w') := by
          intro f W h1 h2 h3 h4
          have := rsame_any g.z f.z g.A f.A g.n g.c f.n f.c g.es f.es (by omega) W h3.1 h4.1
          rwa [decide_eq_true ⟨HGE.out.1.trans h1.symm, HGE.out.2.trans h2.symm⟩] at this
        clear hi JC GI GF
        go_wp2_with fail
        have K0 := Lib.hid E9.out.drew
        clear E9
        refine wp_region_noPanic ?_
        refine wp_region_held_drew (S := fun w' => w'.cell? ⟨b3, 0, none⟩ = some (.int .i64 g.z) ∧ w'.cell? ⟨b3, 1, none⟩ = some (.slice g.A g.n g.c) ∧ w'.cell? ⟨w.heap.size, 0, none⟩ = some (.int .i64 gx.z) ∧ w'.cell? ⟨w.heap.size, 1, none⟩ = some (.slice gx.A gx.n gx.c)) (by kernel_rfl) ⟨K0.out.c0 (.head _), K0.out.c1 (.head _), K0.out.c0 (.tail _ (.head _)), K0.out.c1 (.tail _ (.head _))⟩ (fun hHeld => ?_)
        refine wpAnyH_take (i := 0) (oi := { dst := some 77, op := Op.load 24 (Operand.tmp 3), type := 24, pos := "law.go:80", after := #[], guard := none }) (v := .agg #[.int .i64 g.z, .slice g.A g.n g.c]) rfl (by kernel_rfl) (by kernel_rfl) (by kernel_rfl) (fun _ _ _ h => h) (Or.inl ⟨by kernel_rfl, fun w' hSw => by (try dsimp only at hSw); go_simp⟩) (by assumption) ?_
        try simp only [Act.put, List.setIfInBounds_toArray, List.set_cons_zero, List.set_cons_succ]
        refine wpAnyH_take (i := 1) (oi := { dst := some 78, op := Op.load 24 (Operand.tmp 1), type := 24, pos := "law.go:80", after := #[], guard := none }) (v := .agg #[.int .i64 gx.z, .slice gx.A gx.n gx.c]) rfl (by kernel_rfl) (by kernel_rfl) (by kernel_rfl) (fun _ _ _ h => h) (Or.inl ⟨by kernel_rfl, fun w' hSw => by (try dsimp only at hSw); go_simp⟩) (by assumption) ?_
        try simp only [Act.put, List.setIfInBounds_toArray, List.set_cons_zero, List.set_cons_succ]
        refine wpAnyH_ready (rs := [2]) (by kernel_rfl) (by simp) ?_
        refine AllReadyH.cons (o := { dst := some 79, op := Op.call { callee := Callee.value (Operand.func 8), args := #[Operand.tmp 78], argTypes := #[24] }, type := 24, pos := "law.go:80", after := #[{ on := 1, ground := Ground.data }], guard := none }) rfl (fun K hK => ?_) AllReadyH.nil
        go_simp
        refine (own6_any gx.z gx.A gx.n gx.c gx.es (K0.out.ok (.tail _ (.head _))).2.2.2 (K0.out.ok (.tail _ (.head _))).2.1 (K0.out.ok (.tail _ (.head _))).2.2.1 _ (K0.out.ok (.tail _ (.head _))).1).mono ?_
        rintro e v1 hx
        obtain ⟨f, rfl, hz, he, okf, b⟩ := gis_gv hx
        have K1 := Lib.hid (K0.out.on b)
        have HF := Lib.hid okf
        have HFE := Lib.hid (And.intro hz he)
        clear hx hz he okf b K0 hHeld
        refine hK.out _ _ ⟨K1.out.c0 (.head _), K1.out.c1 (.head _), K1.out.c0 (.tail _ (.head _)), K1.out.c1 (.tail _ (.head _))⟩ (fun hHeld => ?_)
        clear hK K
        try simp only [Act.put, List.setIfInBounds_toArray, List.set_cons_zero, List.set_cons_succ]
        refine wpAnyH_ready (rs := [3]) (by kernel_rfl) (by simp) ?_
        refine AllReadyH.cons (o := { dst := some 80, op := Op.call { callee := Callee.value (Operand.func 14), args := #[Operand.tmp 77, Operand.tmp 79], argTypes := #[24, 24] }, type := 4, pos := "law.go:80", after := #[{ on := 0, ground := Ground.data }, { on := 2, ground := Ground.data }, { on := 2, ground := Ground.chain }], guard := none }) rfl (fun K hK => ?_) AllReadyH.nil
        go_simp
        refine (HSF.out f _ HFE.out.1 HFE.out.2 (K1.out.ok (.head _)) HF.out).mono ?_
        rintro e v2 ⟨rfl, b⟩
        have K2 := Lib.hid (K1.out.on b)
        clear b K1 HF hHeld
        refine hK.out _ _ ⟨K2.out.c0 (.head _), K2.out.c1 (.head _), K2.out.c0 (.tail _ (.head _)), K2.out.c1 (.tail _ (.head _))⟩ (fun hHeld => ?_)
        clear hK K
        try simp only [Act.put, List.setIfInBounds_toArray, List.set_cons_zero, List.set_cons_succ]
        refine wpAnyH_take (i := 4) (oi := { dst := some 2, op := Op.assign (Operand.tmp 80), type := 4, pos := "law.go:80", after := #[{ on := 3, ground := Ground.data }, { on := 3, ground := Ground.chain }, { on := 0, ground := Ground.phase }, { on := 1, ground := Ground.phase }, { on := 2, ground := Ground.phase }, { on := 3, ground := Ground.phase }], guard := none }) (v := .bool true) rfl (by kernel_rfl) (by kernel_rfl) (by kernel_rfl) (fun _ _ _ h => h) (Or.inl ⟨by kernel_rfl, fun w' hSw => by (try dsimp only at hSw); go_simp⟩) (by assumption) ?_
        try simp only [Act.put, List.setIfInBounds_toArray, List.set_cons_zero, List.set_cons_succ]
        refine wpAnyH_done (by kernel_rfl) ?_ _
        refine NoPanic.normal ?_
        go_wp2_with fail
        go_ret
        exact ⟨rfl, K2.out.below⟩
      | succ g2 =>
        have hlt : (i : Int) < 2 := by omega
        have HIG := Lib.hid hi
        obtain ⟨gh, hix, hor⟩ := g2_at gi gf i (by omega)
        -- the row at hand, and the other one
        obtain ⟨lo, hi2, lo', hi', go_, HG1⟩ : ∃ (lo hi lo' hi' : Nat) (go_ : GV), Hid (GoneF wr lo hi gh.A gh.n ∧ GoneF wr lo' hi' go_.A go_.n ∧ w3.heap.size ≤ lo ∧ (hi ≤ lo' ∨ hi' ≤ lo) ∧ gh.n ≤ 600 ∧
            ∀ W, GoneF W lo hi gh.A gh.n → GoneF W lo' hi' go_.A go_.n → GoneF W w3.heap.size b4 gi.A gi.n ∧ GoneF W w5.heap.size b6 gf.A gf.n) := by
          rcases hor with ⟨_, rfl⟩ | ⟨_, rfl⟩
          · exact ⟨_, _, _, _, gf, GI.out, GF.out, Nat.le_refl _, .inl HAP.out.2, HLI.out, fun W a b => ⟨a, b⟩⟩
          · exact ⟨_, _, _, _, gi, GF.out, GI.out, HAP.out.1, .inr HAP.out.2, HLF.out, fun W a b => ⟨b, a⟩⟩
        clear hor hi GI GF
        obtain ⟨hg1, hg2, hlo, hap, hn6, hback⟩ := HG1.out
        have hb1 : Below wr.heap.size wr (wr.alloc (.cells #[.int .i64 gh.z, .slice gh.A gh.n gh.c] 24)) := (Below.refl _ _).alloc (Nat.le_refl _) _
        have HY := Lib.hid (Blk.new wr 24 #[.int .i64 gh.z, .slice gh.A gh.n gh.c])
        have R1 := Lib.hid (hg1.on hb1)
        have R2 := Lib.hid (hg2.on hb1)
        have J1 : Hid (Below w3.heap.size w3 (wr.alloc (.cells #[.int .i64 gh.z, .slice gh.A gh.n gh.c] 24))) := JC.out.alloc JC.out.size _
        have HLO := Lib.hid (And.intro hlo (And.intro hap hn6))
        have HBK := Lib.hid hback
        have e1 := HY.out.cell 1
        clear hg1 hg2 hlo hap hn6 hback hb1 HG1 JC
        go_wp2_with fail
        clear e1
        generalize wr.alloc (.cells #[.int .i64 gh.z, .slice gh.A gh.n gh.c] 24) = wa at *
        generalize wr.heap.size = Y at *
        go_loopg [63] gh.n (fun gg s63 wx => ∃ j : Nat, s63 = .int .i64 j ∧ j + gg = gh.n ∧ Hid (Blk wx Y 24 #[.int .i64 gh.z, .slice gh.A gh.n gh.c]) ∧ Hid (GoneF wx lo hi2 gh.A gh.n) ∧ Hid (GoneF wx lo' hi' go_.A go_.n) ∧ Hid (Below w3.heap.size w3 wx))
        case atStart => exact ⟨0, rfl, by omega, HY, R1, R2, J1⟩
        case round =>
          clear HY R1 R2 J1
          obtain ⟨j, rfl, hj, HY, R1, R2, J1⟩ := hrel
          rename World => wi
          cases gk with
          | zero =>
            have hge : ¬ (j : Int) < (gh.n : Int) := by omega
            have hw1 : IntKind.i64.wrap ((i : Int) + 1) = ((i + 1 : Nat) : Int) := by rw [IntKind.wrap_i64]; omega
            obtain ⟨r1, r2⟩ := HBK.out _ R1.out R2.out
            have Q1 := Lib.hid r1
            have Q2 := Lib.hid r2
            clear r1 r2 hj
            go_wp2_with fail
            go_roundg g2
            case measure => omega
            case rel => exact ⟨i + 1, by go_num, by have := HIG.out; omega, J1, Q1, Q2⟩
          | succ g3 =>
            have hltj : (j : Int) < (gh.n : Int) := by omega
            obtain ⟨gb2, og, cur, hAo, hl1, hl2, hk2, hx⟩ := R1.out.resolve_left (by omega)
            obtain ⟨x, hx1⟩ := hx j (by omega)
            have y0 : wi.cell? ⟨gb2, og + j * 3, none⟩ = some (.int .i64 x) := by rw [hk2.cell, hx1]
            have f0 : wi.frozen? ⟨gb2, og + j * 3, none⟩ = false := hk2.frozen _
            obtain ⟨y, hy⟩ : ∃ y, IntKind.i64.wrap (x + 1) = y := ⟨_, rfl⟩
            have HGO := Lib.hid (GoneF.set hl1 hl2 hk2 hx y (j := j))
            have HG2 : Hid (GoneF (wi.setCell ⟨gb2, og + j * 3, none⟩ (.int .i64 y)) lo' hi' go_.A go_.n) := R2.out.far (p := ⟨gb2, og + j * 3, none⟩) (by have := HLO.out.2.1; show gb2 < lo' ∨ hi' ≤ gb2; omega) _
            have HJ : Hid (Below w3.heap.size w3 (wi.setCell ⟨gb2, og + j * 3, none⟩ (.int .i64 y))) := J1.out.setCell (Nat.le_trans HLO.out.1 hl1) _
            have HY2 : Hid (Blk (wi.setCell ⟨gb2, og + j * 3, none⟩ (.int .i64 y)) Y 24 #[.int .i64 gh.z, .slice gh.A gh.n gh.c]) := HY.out.far (p := ⟨gb2, og + j * 3, none⟩) (Blk.ne_ HY.out hk2 (by decide)) _
            have e1 := HY.out.cell 1
            obtain ⟨j1, hj1⟩ : ∃ j1 : Nat, j1 = j + 1 := ⟨_, rfl⟩
            have hwj : IntKind.i64.wrap ((j : Int) + 1) = (j1 : Int) := by have := HLO.out.2.2; rw [IntKind.wrap_i64]; omega
            have HJG : Hid (j1 + g3 = gh.n) := by show _ = _; omega
            have HGO2 : Hid (GoneF (wi.setCell ⟨gb2, og + j * 3, none⟩ (.int .i64 y)) lo hi2 gh.A gh.n) := by rw [hAo]; exact HGO.out
            rw [hAo] at e1
            clear hj1 hk2 hx hx1 hl1 hl2 R1 R2 J1 hj HY HGO hAo
            go_wp2_with fail
            go_roundg g3
            case measure => omega
            case rel => exact ⟨j1, rfl, HJG.out, HY2, HGO2, HG2, HJ⟩
end Go.Proofs.Ytkebeadaoiiokaa
