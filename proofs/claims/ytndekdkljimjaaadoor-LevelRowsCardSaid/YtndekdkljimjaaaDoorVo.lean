/- The laws of layer level: wakes. -/
import Derived.Test.YtndekdkljimjaaaDoorVj
import Derived.Test.YtndekdkljimjaaaDoorVk
namespace Go.Proofs.YtndekdkljimjaaaDoor
open Go.RowKit Go.Shelf

theorem two_reads (w : World) (cs ds : Array Value) (a b c d : Int) (hc : cs = #[.int .i64 a, .int .i64 b]) (hd : ds = #[.int .i64 c, .int .i64 d]) :
    Reads ((w.alloc (.cells cs 3)).alloc (.cells ds 3)) ((w.alloc (.cells cs 3)).alloc (.cells ds 3)).heap.size 1 (some ⟨w.heap.size, 0, none⟩) 2 (ints [a, b]) ∧
    Reads ((w.alloc (.cells cs 3)).alloc (.cells ds 3)) ((w.alloc (.cells cs 3)).alloc (.cells ds 3)).heap.size 1 (some ⟨w.heap.size + 1, 0, none⟩) 2 (ints [c, d]) ∧
    Below w.heap.size w ((w.alloc (.cells cs 3)).alloc (.cells ds 3)) := by
  have h1 := int_lit w [a, b] 3 cs (by rw [hc]; rfl)
  have h2 := int_lit (w.alloc (.cells cs 3)) [c, d] 3 ds (by rw [hd]; rfl)
  have hs : (w.alloc (.cells cs 3)).heap.size = w.heap.size + 1 := by simp
  rw [hs] at h2
  exact ⟨(h1.alloc (Nat.le_refl _) _).more (by simp), h2, ((Below.refl _ _).alloc (Nat.le_refl _) _).alloc (by simp) _⟩

set_option maxRecDepth 100000 in
set_option maxHeartbeats 4000000 in
theorem wakes9_any (w : World) (hT : Tabs w) : Calls Tryd.prog 8 #[] w fun e w' => e = .returned (.bool true) ∧ Below w.heap.size w w' := by
  have HT := Lib.hid hT
  have HR : Hid (Calls Tryd.prog 15 #[.string ⟨#[50, 46, 57, 57]⟩] w fun e w' => e = .returned (.tuple #[.int .i64 3, .int .i64 0]) ∧ w = w') := by
    have h := read_any ⟨#[50, 46, 57, 57]⟩ w hT
    unfold ReadIs at h
    rw [show readI ⟨#[50, 46, 57, 57]⟩ = 3 by decide, show readE ⟨#[50, 46, 57, 57]⟩ = 0 by decide] at h
    exact h
  have HG : Hid (Calls Tryd.prog 16 #[.string ⟨#[109, 114, 32, 109, 119]⟩] w fun e w' => e = .returned (.tuple #[.int .i64 6, .int .i64 0]) ∧ Below w.heap.size w w') := by
    have h := guar_any ⟨#[109, 114, 32, 109, 119]⟩ w hT
    unfold GuarIs guarI guarE at h
    rw [guarO_at (g := 6) (by decide) (by decide +kernel)] at h
    exact h
  clear hT
  go_enter Tryd.func8, Tryd.ntmps8
  go_wp2_with fail
  refine HR.out.mono ?_
  rintro e w1 ⟨rfl, rfl⟩
  go_wp2_with fail
  refine HG.out.mono ?_
  rintro e w1 ⟨rfl, b1⟩
  have HB1 := Lib.hid b1
  obtain ⟨r1, r2, b2⟩ := two_reads w1 #[.int .i64 1, .int .i64 3] #[.int .i64 2, .int .i64 2] 1 3 2 2 rfl rfl
  have HJ := Lib.hid (join_ok _ _ 2 2 2 [1, 3] [2, 2] (by decide) (by decide) _ r1 r2)
  have HB2 := Lib.hid (HB1.out.trans (b2.mono HB1.out.size))
  clear b1 r1 r2 b2 HR HG
  go_wp2_with fail
  refine HJ.out.mono ?_
  rintro e w2 ⟨A2, n2, c2, rfl, h2⟩
  have h22 := h2.len
  obtain rfl : n2 = 2 := by simpa using h22.symm
  have HB3 := Lib.hid (HB2.out.trans (h2.below.mono HB2.out.size))
  have HR2 : Hid (Reads w2 w2.heap.size 1 A2 2 (ints [2, 3])) := h2.reads
  obtain ⟨r1, r2, b2⟩ := two_reads w2 #[.int .i64 1, .int .i64 2] #[.int .i64 2, .int .i64 2] 1 2 2 2 rfl rfl
  have HW := Lib.hid (below9_ok _ _ 2 2 2 [1, 2] [2, 2] (by decide) (by decide) _ r1 r2)
  rw [show belowB [1, 2] [2, 2] = true by decide] at HW
  have HB4 := Lib.hid (HB3.out.trans (b2.mono HB3.out.size))
  have HR3 := Lib.hid ((HR2.out.below b2).more b2.size)
  clear h2 h22 HJ r1 r2 b2 HB2 HB1 HR2
  go_wp2_with fail
  refine HW.out.mono ?_
  rintro e w3 ⟨rfl, b3⟩
  have HB5 := Lib.hid (HB4.out.trans (b3.mono HB4.out.size))
  have HR4 := Lib.hid ((HR3.out.below b3).more b3.size)
  clear b3 HR3 HW HB4 HB3
  go_wp2_with fail
  have hl := int_lit w3 [2, 3] 3 #[.int .i64 2, .int .i64 3] rfl
  have ba : Below w3.heap.size w3 (w3.alloc (.cells #[.int .i64 2, .int .i64 3] 3)) := (Below.refl _ _).alloc (Nat.le_refl _) _
  refine (eqi_any A2 _ 2 2 c2 2 [2, 3] [2, 3] (by decide) (by decide) _ ((HR4.out.below ba).more ba.size) hl).mono ?_
  rintro e w4 ⟨rfl, b4⟩
  have HB6 := Lib.hid (HB5.out.trans ((ba.trans (b4.mono ba.size)).mono HB5.out.size))
  clear b4 hl ba HB5 HR4
  go_wp2_with fail
  go_ret
  exact ⟨by simp, HB6.out⟩
end Go.Proofs.YtndekdkljimjaaaDoor
