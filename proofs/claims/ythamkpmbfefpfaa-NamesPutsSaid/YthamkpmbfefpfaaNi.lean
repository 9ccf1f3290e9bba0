/- Layer names: Put and All: contracts. -/
import Derived.Test.YthamkpmbfefpfaaNh
namespace Go.Proofs.Ythamkpmbfefpfaa
open Go.RowKit Go.Shelf Go.Maps

/-- A row of one's own lies as it lay, where a variable of another kind is written. -/
theorem own_put {W : World} {base size n B : Nat} {e t : TypeId} {v : Value} {xs : List Value} {cs : Array Value} (h : W.ownsRow base e size v n xs) (hb : Blk W B t cs) (ht : e ≠ t) (u : Value) : (W.setCell ⟨B, 0, none⟩ u).ownsRow base e size v n xs :=
  ((Keep.refl (fun k => k ≠ B) W).set (.inr fun e => e rfl) 0 u).own h fun g hg e => own_blk_ne h hb ht (by rw [hg, e])

/-- What Put gives. -/
def put1E (ns : List ByteArray) (s : ByteArray) : Int := if goodB nameB ns = true then putE nameB ns s else 201
theorem puts_one (ns : List ByteArray) (s : ByteArray) : putsE ns [s] = put1E ns s := by
  unfold putsE put1E allE
  split
  · split
    · rename_i h; rw [h]; rfl
    · rfl
  · rfl
def Put1Is (ns : List ByteArray) (s : ByteArray) (w : World) (e : Ending) (w' : World) : Prop :=
  ∃ (A : Option Addr) (n c : Nat) (k : Int) (ns' : List ByteArray), e = .returned (.tuple #[.agg #[.slice A n c], .int .i64 k, .int .i64 (put1E ns s)]) ∧ w'.ownsRow w.heap.size 9 1 (.slice A n c) n (strs ns') ∧
    (put1E ns s = 0 → ns' = addN ns s ∧ k = idxN ns s) ∧ (put1E ns s ≠ 0 → ns' = [] ∧ k = 0) ∧ Below w.heap.size w w'

set_option maxRecDepth 100000 in
set_option maxHeartbeats 4000000 in
theorem put1_any (A : Option Addr) (n c : Nat) (ns : List ByteArray) (s : ByteArray) (hs : s.size ≤ 9223372036854775807) (hn : n ≤ 1000) (hss : ∀ s ∈ ns, s.size ≤ 9223372036854775807) (w : World) (hR : Reads w w.heap.size 1 A n (strs ns)) :
    Calls Try.prog 18 #[.agg #[.slice A n c], .string s] w (Put1Is ns s w) := by
  obtain ⟨ka, kr, b0, hs0⟩ := ntwo w #[.slice A n c] #[.slice none 0 0] 24 24
  have KA := Lib.hid ka
  have KR := Lib.hid kr
  have B0 := Lib.hid b0
  have HR := Lib.hid (hR.on_ b0)
  have HSS := Lib.hid hss
  have HS := Lib.hid hs
  have HS0 := Lib.hid hs0
  have z0 := ka.cell 0
  clear ka kr b0 hs0 hR hss hs
  go_enter Try.func18, Try.ntmps18
  go_upto_region 1 with fail
  generalize (w.alloc (.cells #[.slice A n c] 24)).alloc (.cells #[.slice none 0 0] 24) = W0 at *
  obtain ⟨kb, bb, -⟩ := nbox W0 #[.string s] 9
  have HL : Hid (Reads (W0.alloc (.cells #[.string s] 9)) (W0.alloc (.cells #[.string s] 9)).heap.size 1 (some ⟨W0.heap.size, 0, none⟩) 1 (strs [s])) := str_lit W0 [s] _ _ rfl
  have HP := Lib.hid (put_any A n c ns hn HSS.out (some ⟨W0.heap.size, 0, none⟩) 1 1 [s] (by omega) (fun t ht => by rw [List.mem_singleton] at ht; subst ht; exact HS.out) _ (HR.out.on_ bb) HL.out)
  have B1 := Lib.hid (B0.out.trans (bb.mono B0.out.size))
  have KR1 := Lib.hid (KR.out.below bb KR.out.lt)
  clear kb bb HL
  unfold PutIs at HP
  rw [puts_one] at HP
  go_wp2_with fail
  refine HP.out.mono ?_
  rintro e w1 ⟨A1, n1, c1, R, m, d, ns', zs, rfl, ho1, ho2, hok, hno, b1⟩
  have B2 := Lib.hid (B1.out.trans (b1.mono B1.out.size))
  have KR2 := Lib.hid (KR1.out.below b1 KR1.out.lt)
  have H1 := Lib.hid (own_mono ho1 B1.out.size)
  have H2 := Lib.hid ho2
  have HOK := Lib.hid hok
  have HNO := Lib.hid hno
  clear z0 ho1 ho2 hok hno b1 B1 KR1 HP HR HSS B0 KA KR
  by_cases he : put1E ns s = 0
  · have HE := Lib.hid he
    obtain ⟨hns, hzs⟩ := HOK.out he
    have hlz := ints_len (Reads.of_own H2.out)
    rw [hzs] at hlz
    obtain rfl : m = 1 := hlz.symm
    have hz0 : zs[0]? = some (idxN ns s : Int) := by rw [hzs]; rfl
    obtain ⟨g, rfl, hgb, hgl, _, u, hu, g0⟩ := own_at H2.out (show 0 < 1 by omega)
    have hgw : w.heap.size + 1 ≠ g := by have := HS0.out; simp at hgb; omega
    have hu2 : u = .int .i64 (idxN ns s : Int) := by
      unfold ints at hu
      rw [List.getElem?_map, hz0] at hu
      simpa using hu.symm
    subst hu2
    have HNS := Lib.hid hns
    rw [he]
    obtain ⟨k7, b7, -⟩ := nbox w1 #[.slice A1 n1 c1] 24
    have m7 := k7.cell 0
    have g1 : (w1.alloc (.cells #[.slice A1 n1 c1] 24)).cell? ⟨g, 0, none⟩ = some (.int .i64 (idxN ns s : Int)) := (b7.cell (p := ⟨g, 0, none⟩) hgl).trans g0
    have KR3 := Lib.hid (KR2.out.below b7 KR2.out.lt)
    have B3 := Lib.hid (B2.out.trans (b7.mono B2.out.size))
    have H3 := Lib.hid (own_on H1.out b7)
    have y0 := KR3.out.cell 0
    have f0 := KR3.out.frozen 0
    have g2 := (World.cell?_setCell_far (w1.alloc (.cells #[.slice A1 n1 c1] 24)) ⟨w.heap.size + 1, 0, none⟩ ⟨g, 0, none⟩ (.slice A1 n1 c1) hgw).trans g1
    clear he hns hzs hlz hz0 HOK HNO H2 k7 b7 g0 hgb hgl hu B2 KR2 H1
    go_upto_region 4 with fail
    generalize w1.alloc (.cells #[.slice A1 n1 c1] 24) = W3 at *
    go_region
    all_goals go_wp2_with fail
    have kf : Blk (W3.setCell ⟨w.heap.size + 1, 0, none⟩ (.slice A1 n1 c1)) (w.heap.size + 1) 24 #[.slice A1 n1 c1] := by
      have := KR3.out.set_ 0 (.slice A1 n1 c1)
      simpa using this
    have r1 := kf.drew.cell 0
    refine bodyPost_ret (v := .tuple #[.agg #[.slice A1 n1 c1], .int .i64 (idxN ns s : Int), .int .i64 0]) (by simp [results, Try.results18, go_sem, r1]) rfl ?_
    exact ⟨A1, n1, c1, _, ns', by rw [HE.out], own_put H3.out KR3.out (by decide) _, fun _ => ⟨HNS.out, rfl⟩, fun h => absurd HE.out h, (B3.out.setCell (p := ⟨w.heap.size + 1, 0, none⟩) (Nat.le_succ _) _).drew⟩
  · have hne : (put1E ns s != 0) = true := by simpa using he
    have HE := Lib.hid he
    obtain ⟨rfl, rfl⟩ := HNO.out he
    clear he HOK HNO
    have KR3 := Lib.hid (KR2.out.alloc (.cells #[.slice A1 n1 c1] 24))
    have B3 := Lib.hid (B2.out.alloc B2.out.size (.cells #[.slice A1 n1 c1] 24))
    have y0 := KR3.out.cell 0
    have f0 := KR3.out.frozen 0
    go_upto_region 2 with fail
    generalize w1.alloc (.cells #[.slice A1 n1 c1] 24) = W3 at *
    obtain ⟨k, hk⟩ : ∃ k, put1E ns s = k := ⟨_, rfl⟩
    rw [hk] at hne ⊢
    have HK := Lib.hid hk
    clear hk
    go_wp2_with fail
    have kf : Blk (W3.setCell ⟨w.heap.size + 1, 0, none⟩ (.slice none 0 0)) (w.heap.size + 1) 24 #[.slice none 0 0] := by
      have := KR3.out.set_ 0 (.slice none 0 0)
      simpa using this
    have r1 := kf.cell 0
    refine bodyPost_ret (v := .tuple #[.agg #[.slice none 0 0], .int .i64 0, .int .i64 k]) (by simp [results, Try.results18, go_sem, r1]) rfl ?_
    exact ⟨none, 0, 0, 0, [], by rw [HK.out], World.ownsRow_nil _ _ _ _, fun h => absurd h HE.out, fun _ => ⟨rfl, rfl⟩, B3.out.setCell (p := ⟨w.heap.size + 1, 0, none⟩) (Nat.le_succ _) _⟩

theorem good_nil : goodB nameB [] = true := good_iff.2 ⟨by simp, List.nodup_nil, fun s h => by simp at h⟩
theorem putsE_nil (l : List ByteArray) : putsE [] l = allE nameB [] l := by unfold putsE; rw [if_pos good_nil]
set_option maxRecDepth 100000 in
set_option maxHeartbeats 4000000 in
theorem all_any (L : Option Addr) (nl cl : Nat) (ls : List ByteArray) (hnl : nl ≤ 1000) (hsl : ∀ s ∈ ls, s.size ≤ 9223372036854775807) (w : World) (hRL : Reads w w.heap.size 1 L nl (strs ls)) :
    Calls Try.prog 24 #[.slice L nl cl] w (PutIs [] ls w) := by
  obtain ⟨kr, b0, hs0⟩ := nbox w #[.slice none 0 0] 24
  have HP := Lib.hid (put_any none 0 0 [] (by omega) (fun s h => by simp at h) L nl cl ls hnl hsl _ Reads.none_ (hRL.on_ b0))
  have KR := Lib.hid kr
  have B0 := Lib.hid b0
  clear kr b0 hs0 hRL hsl
  go_enter Try.func24, Try.ntmps24
  go_wp2_with fail
  refine HP.out.mono ?_
  rintro e w1 ⟨A1, n1, c1, R, m, d, ns', zs, rfl, ho1, ho2, hok, hno, b1⟩
  have B2 := Lib.hid (B0.out.trans (b1.mono B0.out.size))
  have KR2 := Lib.hid (KR.out.below b1 KR.out.lt)
  have H1 := Lib.hid (own_mono ho1 B0.out.size)
  have H2 := Lib.hid (own_mono ho2 B0.out.size)
  have HOK := Lib.hid hok
  have HNO := Lib.hid hno
  have y0 := KR2.out.cell 0
  have f0 := KR2.out.frozen 0
  obtain ⟨k, hk⟩ : ∃ k, putsE [] ls = k := ⟨_, rfl⟩
  rw [hk]
  have HK := Lib.hid hk
  clear ho1 ho2 hok hno b1 KR HP B0 hk
  go_wp2_with fail
  have kf : Blk (w1.setCell ⟨w.heap.size, 0, none⟩ (.slice A1 n1 c1)) w.heap.size 24 #[.slice A1 n1 c1] := by
    have := KR2.out.set_ 0 (.slice A1 n1 c1)
    simpa using this
  have r1 := kf.cell 0
  refine bodyPost_ret (v := .tuple #[.agg #[.slice A1 n1 c1], .slice R m d, .int .i64 k]) (by simp [results, Try.results24, go_sem, r1]) rfl ?_
  exact ⟨A1, n1, c1, R, m, d, ns', zs, by rw [HK.out], own_put H1.out KR2.out (by decide) _, own_put H2.out KR2.out (by decide) _, HOK.out, HNO.out, B2.out.setCell (p := ⟨w.heap.size, 0, none⟩) (Nat.le_refl _) _⟩
end Go.Proofs.Ythamkpmbfefpfaa
