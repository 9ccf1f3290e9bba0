/- Law LexNexts: its walk. -/
import Derived.Test.YthccgpjbchlocaaLaf
import Derived.Test.YthccgpjbchlocaaLl
import Derived.Test.YthccgpjbchlocaaMk
import Derived.Laws.StructEq
namespace Go.Proofs.Ythccgpjbchlocaa
open Go.RowKit

theorem at_int64 {w : World} {B n k : Nat} {A : Option Addr} {zs : List Int} (h : Reads w B 1 A n (ints zs)) (hk : k < n) (h64 : all64 zs) :
    ∃ b off z, A = some ⟨b, off, none⟩ ∧ b < B ∧ (-9223372036854775808 ≤ z ∧ z ≤ 9223372036854775807) ∧ w.cell? ⟨b, off + k, none⟩ = some (.int .i64 z) := by
  obtain ⟨b, off, z, h1, h2, h3, h4⟩ := at_int h hk
  exact ⟨b, off, z, h1, h2, h64 z h3, h4⟩

set_option maxRecDepth 100000 in
set_option maxHeartbeats 4000000 in
theorem nexts_core (s : ByteArray) (hs : s.size ≤ 9223372036854775807) (A : Option Addr) (n c : Nat) (zs : List Int) (h64 : all64 zs) (w : World) (hr : Reads w w.heap.size 1 A n (ints zs)) (hn : n ≤ 9223372036854775807) :
    Calls Try.prog 4 #[.string s, .slice A n c] w fun e w' => e = .returned (.bool true) ∧ Below w.heap.size w w' := by
  have H0 := Lib.hid (wakes_lex w)
  have hca := cutS_size s
  have HC := Lib.hid fun w => cut_any2 s hs w
  generalize cutS s = t at *
  have HS := Lib.hid hr
  have H64 := Lib.hid h64
  clear hr h64
  go_enter Try.func4, Try.ntmps4
  go_wp2_with fail
  refine H0.out.mono ?_
  rintro e w1 ⟨rfl, b1⟩
  go_wp2_with fail
  refine (HC.out _).mono ?_
  rintro e wx ⟨rfl, rfl⟩
  go_wp2_with fail
  go_loopw [19] (fun i wr => ∃ k : Nat, k ≤ n ∧ i = .int .i64 k ∧ Below w.heap.size w wr) (fun i wr => n - (intOf i).toNat)
  case atStart => exact ⟨0, Nat.zero_le _, rfl, b1⟩
  case round =>
    obtain ⟨k, hk, rfl, b2⟩ := hrel
    by_cases hlt : k < n
    · obtain ⟨b, off, z, rfl, hb, hz, hc0⟩ := at_int64 HS.out hlt H64.out
      have hcell : wr.cell? ⟨b, off + k, none⟩ = some (.int .i64 z) := (b2.cell (p := ⟨b, off + k, none⟩) hb).trans hc0
      have hz0 := hz.1
      have hz1 := hz.2
      clear hc0 hz
      by_cases h12 : k = 12
      · have h12b : ((k : Int) == 12) = true := by simp; omega
        clear h12
        go_wp2_with fail
        go_ret
        exact ⟨rfl, b2⟩
      · have h12b : ((k : Int) == 12) = false := by simp; omega
        clear h12
        by_cases hin : 0 ≤ z ∧ z ≤ (t.size : Int)
        · obtain ⟨p, rfl⟩ : ∃ p : Nat, z = p := ⟨z.toNat, by omega⟩
          have hp : p ≤ t.size := by omega
          have HN := Lib.hid fun w => next_any t p hp (by omega) w
          have HRN := Lib.hid fun w => rnext_any t p hp (by omega) w
          unfold ansV at HN HRN
          generalize (nextL t.data.toList p).ans = x at *
          obtain ⟨xk, xa, xt, xg, xp, xe⟩ := x
          simp only at HN HRN
          have tlo : (0 : Int) ≤ (p : Int) := by omega
          have thi : (p : Int) ≤ (t.size : Int) := by omega
          have bk1 : decide ((p : Int) ≤ (t.size : Int)) = true := by simpa using thi
          have bk2 : decide (p ≤ t.size) = true := by simpa using hp
          clear hin
          go_wp2_with fail
          refine (HN.out _).mono ?_
          rintro e w3 ⟨rfl, c3⟩
          have b3 := b2.trans (c3.mono b2.size)
          clear c3 b2
          go_wp2_with fail
          refine (HRN.out _).mono ?_
          rintro e w4 ⟨rfl, c4⟩
          have q4 := Lib.hid (carry_block ((carry_new (block_new w3 (.cells #[.int .i64 xk, .int .i64 xa, .string ⟨xt.toArray⟩, .bool xg] 29)))) c4)
          have r4 := Lib.hid (carry_block (block_new (w3.alloc (.cells #[.int .i64 xk, .int .i64 xa, .string ⟨xt.toArray⟩, .bool xg] 29)) (.cells #[.int .i64 0, .int .i64 0, .string ⟨#[]⟩, .bool false] 29)) c4)
          have b4 := Lib.hid (((b3.alloc b3.size _).alloc (by have := b3.size; simp; omega) _).trans (c4.mono (by have := b3.size; simp; omega)))
          have hs3 := b3.size
          clear c4 b3
          simp only [World.size_alloc] at r4
          obtain ⟨⟨g0, g1, g2, g3⟩, f0, f1, f2, f3⟩ := four_cells q4.out
          obtain ⟨⟨k0, k1, k2, k3⟩, j0, j1, j2, j3⟩ := four_cells r4.out
          go_wp2_with fail
          go_roundw
          case rel => exact ⟨k + 1, by omega, by go_num, below_set4 b4.out (by omega) _ _ _ _⟩
          case measure => simp [intOf]; omega
        · have hout : z < 0 ∨ (t.size : Int) < z := by omega
          have HN := Lib.hid fun w => next_arg t z hout w
          clear hin
          by_cases hneg : z < 0
          · have hge : ¬ 0 ≤ z := by omega
            clear hout
            go_wp2_with fail
            refine (HN.out _).mono ?_
            rintro e w3 ⟨rfl, c3⟩
            have b3 := Lib.hid (b2.trans (c3.mono b2.size))
            have hs3 := b3.out.size
            clear c3 b2
            go_wp2_with fail
            go_roundw
            case rel => exact ⟨k + 1, by omega, by go_num, (b3.out.alloc hs3 _).alloc (by simp; omega) _⟩
            case measure => simp [intOf]; omega
          · have hge : 0 ≤ z := by omega
            have hgt : (t.size : Int) < z := by omega
            have hle : ¬ z ≤ (t.size : Int) := by omega
            clear hout
            go_wp2_with fail
            refine (HN.out _).mono ?_
            rintro e w3 ⟨rfl, c3⟩
            have b3 := Lib.hid (b2.trans (c3.mono b2.size))
            have hs3 := b3.out.size
            clear c3 b2
            go_wp2_with fail
            go_roundw
            case rel => exact ⟨k + 1, by omega, by go_num, (b3.out.alloc hs3 _).alloc (by simp; omega) _⟩
            case measure => simp [intOf]; omega
    · have hge : ¬ (k : Int) < (n : Int) := by omega
      go_wp2_with fail
      go_ret
      exact ⟨rfl, b2⟩
end Go.Proofs.Ythccgpjbchlocaa
