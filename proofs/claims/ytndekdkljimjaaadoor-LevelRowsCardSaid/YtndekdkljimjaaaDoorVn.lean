/- Layer level: Uniform: contract. -/
import Derived.Test.YtndekdkljimjaaaDoorVm
namespace Go.Proofs.YtndekdkljimjaaaDoor
open Go.RowKit Go.Shelf

/-- What is wrong with what Uniform is asked. -/
def uniE (n l : Int) : Int := if 0 ≤ n ∧ n ≤ 1000 then levE l else 2
def uniL (n l : Int) : List Int := if uniE n l = 0 then List.replicate n.toNat l else []
set_option maxRecDepth 100000 in
set_option maxHeartbeats 1000000 in
theorem uni_any (n l : Int) (w : World) : Calls Tryd.prog 20 #[.int .i64 n, .int .i64 l] w (RowE (uniL n l) (uniE n l) w) := by
  have HC := Lib.hid fun w => check_any l w
  by_cases hn : 0 ≤ n ∧ n ≤ 1000
  · obtain ⟨p, rfl⟩ : ∃ p : Nat, n = p := ⟨n.toNat, by omega⟩
    have h0 : ¬ (p : Int) < 0 := by omega
    have h1 : ¬ (p : Int) > 1000 := by omega
    cases hlv : levB l
    · have HE : Hid (uniE (p : Int) l = 190) := by show _ = _; unfold uniE; rw [if_pos hn, levE_no hlv]
      have HR : Hid (uniL (p : Int) l = []) := by show _ = _; unfold uniL; rw [HE.out]; rfl
      rw [levE_no hlv] at HC
      clear hlv hn
      go_enter Tryd.func20, Tryd.ntmps20
      go_wp2_with fail
      refine (HC.out _).mono ?_
      rintro e w1 ⟨rfl, rfl⟩
      go_wp2_with fail
      go_ret2
      rw [HE.out, HR.out]
      exact rowE_nil (Below.refl _ _)
    · have HE : Hid (uniE (p : Int) l = 0) := by show _ = _; unfold uniE; rw [if_pos hn, levE_ok hlv]
      have HR : Hid (uniL (p : Int) l = List.replicate p l) := by show _ = _; unfold uniL; rw [HE.out]; rfl
      rw [levE_ok hlv] at HC
      have hb : Below w.heap.size w (w.alloc (.cells #[.int .i64 l] 3)) := (Below.refl _ _).alloc (Nat.le_refl _) _
      have HB := Lib.hid hb
      have HP := Lib.hid (repeat_any w.heap.size p l (by omega) (w.alloc (.cells #[.int .i64 l] 3)) ((Blk.new w 3 #[.int .i64 l]).cell 0) (by simp))
      clear hlv hn hb
      go_enter Tryd.func20, Tryd.ntmps20
      go_wp2_with fail
      refine (HC.out _).mono ?_
      rintro e w1 ⟨rfl, rfl⟩
      go_wp2_with fail
      refine HP.out.mono ?_
      rintro e w2 ⟨A2, n2, c2, rfl, h2⟩
      have HN := Lib.hid (h2.base HB.out)
      clear h2 HP
      go_wp2_with fail
      go_ret2
      rw [HE.out, HR.out]
      exact ⟨_, _, _, rfl, HN.out⟩
  · have HE : Hid (uniE n l = 2) := by show _ = _; unfold uniE; rw [if_neg hn]
    have HR : Hid (uniL n l = []) := by show _ = _; unfold uniL; rw [HE.out]; rfl
    by_cases h0 : n < 0
    · clear hn
      go_enter Tryd.func20, Tryd.ntmps20
      go_wp2_with fail
      go_ret2
      rw [HE.out, HR.out]
      exact rowE_nil (Below.refl _ _)
    · have h1 : n > 1000 := by omega
      clear hn
      go_enter Tryd.func20, Tryd.ntmps20
      go_wp2_with fail
      go_ret2
      rw [HE.out, HR.out]
      exact rowE_nil (Below.refl _ _)
end Go.Proofs.YtndekdkljimjaaaDoor
