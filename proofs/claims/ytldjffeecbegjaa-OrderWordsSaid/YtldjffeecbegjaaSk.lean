/- Layer order: same and Unique of texts: contracts. -/
import Derived.Test.YtldjffeecbegjaaSf
import Derived.Recover
import Derived.Defers
import Derived.Test.YtldjffeecbegjaaOn
namespace Go.Proofs.Ytldjffeecbegjaa.Str
open Go.RowKit

theorem idle_pair (w : World) : CallsD Try.prog 50 #[] .returning w fun e u' w' => e = .returned (.tuple #[]) ∧ u' = .returning ∧ w' = w := by
  refine callsD_of_wpS Try.func50 rfl fun c₀ cs hu => ?_
  apply wpS_region
  simp [wpOpsS, go_sem, recoverD, hu, Try.ntmps50, bodyPostS, results, Try.results50]
  cases c₀
  simp_all

theorem same_end {w w' : World} {a : Act} {b : Bool} (hr : a.tmps.getD 4 undef = .bool b) (hd : a.defers = [{ target := Target.fn (Fn.func 50) #[], args := #[] }]) (hb : Below w.heap.size w w') :
    bodyPostD Try.prog Try.f45 (fun e w' => e = .returned (.bool b) ∧ Below w.heap.size w w') Exit.ret a w' := by
  obtain ⟨t, d⟩ := a
  simp only at hd hr
  subst hd
  refine leaves_cons (f := 50) (args := #[]) (by simp) (by simp [go_sem]) ?_
  refine (idle_pair _).mono ?_
  rintro e u' w'' ⟨rfl, rfl, rfl⟩
  exact ⟨_, results_tmp rfl _ _ _, by rw [← hr], hb⟩

theorem bytes_beq (p q : Tx) : (p.toList == q.toList) = decide (p = q) := by
  by_cases h : p = q
  · subst h; simp
  · have : p.toList ≠ q.toList := fun e => h (by
      rw [ByteArray.toList_eq, ByteArray.toList_eq] at e
      cases p; cases q
      congr 1
      exact Array.toList_inj.1 e)
    simp [h, this]

set_option maxHeartbeats 1000000 in
theorem same_yes (p : Tx) (w : World) : Calls Try.prog 45 #[.string p, .string p] w fun e w' => e = .returned (.bool true) ∧ Below w.heap.size w w' := by
  have h1 : (p.toList == p.toList) = true := by simp
  go_enter_defers Try.func45, Try.ntmps45
  go_wp2
  exact same_end rfl rfl (Below.refl _ _)
set_option maxHeartbeats 1000000 in
theorem same_no (p q : Tx) (h : p ≠ q) (w : World) : Calls Try.prog 45 #[.string p, .string q] w fun e w' => e = .returned (.bool false) ∧ Below w.heap.size w w' := by
  have h1 : (p.toList == q.toList) = false := by rw [bytes_beq]; simpa using h
  clear h
  go_enter_defers Try.func45, Try.ntmps45
  go_wp2
  exact same_end rfl rfl (Below.refl _ _)

theorem str_one (w : World) (p : Tx) : Reads (w.alloc (.cells #[.string p] 9)) (w.heap.size + 1) 1 (some ⟨w.heap.size, 0, none⟩) 1 (strs [p]) :=
  ⟨rfl, fun _ => ⟨_, rfl, Nat.lt_succ_self _, fun j u hu => by
    rw [Go.WideShapes.add_plain, Nat.zero_add, (Blk.new w 9 #[.string p]).cell]
    rw [← hu, ← List.getElem?_toArray]
    rfl⟩⟩

set_option maxRecDepth 100000 in
set_option maxHeartbeats 4000000 in
theorem uniq_any (A : Option Addr) (n c : Nat) (xs : List Tx) (hn : n ≤ 100000) (w : World) (hR : Reads w w.heap.size 1 A n (strs xs)) :
    Calls Try.prog 27 #[.slice A n c] w (RowIs (uniqK xs n) w) := by
  have HR := Lib.hid hR
  have HL := Lib.hid (reads_len hR)
  obtain ⟨i0, hi, hz0, hz1, hz2⟩ := info_parts pair_info
  clear hR
  go_enter Try.func27, Try.ntmps27
  go_wp2_with fail
  go_loopg [3, 8] n (fun gg s3 s8 wr => ∃ (i u : Nat) (A' : Option Addr) (c' : Nat), i + gg = n ∧ u ≤ i ∧ s8 = .int .i64 i ∧ s3 = .slice A' u c' ∧ u ≤ c' ∧ c' ≤ 9223372036854775807 ∧ Hid ((uniqK xs i).length = u) ∧
    Hid (wr.ownsRow w.heap.size 9 1 (.slice A' u c') u (strs (uniqK xs i))) ∧ Hid (Below w.heap.size w wr))
  case atStart => exact ⟨0, 0, none, 0, by omega, Nat.le_refl _, rfl, rfl, Nat.le_refl _, by decide, rfl, World.ownsRow_nil _ _ _ _, Below.refl _ _⟩
  case round =>
    obtain ⟨i, u, A', c', hig, hui, rfl, rfl, huc, hcm, HU, HO, HB⟩ := hrel
    cases gk with
    | zero =>
      have hge : ¬ (i : Int) < (n : Int) := by omega
      have hin : i = n := by omega
      subst hin
      clear hig
      go_wp2_with fail
      go_ret
      have hl := HU.out
      unfold RowIs
      rw [hl]
      exact ⟨A', c', rfl, HO.out, huc, hcm, HB.out⟩
    | succ g2 =>
      have hlt : (i : Int) < (n : Int) := by omega
      have hi0 : (0 : Int) ≤ (i : Int) := by omega
      obtain ⟨p, hp⟩ : ∃ p, xs[i]? = some p := ⟨xs[i]'(by rw [HL.out]; omega), List.getElem?_eq_getElem _⟩
      obtain ⟨b, o, rfl, hb, g0⟩ := pr_at (HR.out.below HB.out) hp
      have HIG := Lib.hid hig
      have hsz := HB.out.size
      have hin : i < n := by omega
      clear hig
      by_cases hi00 : i = 0
      · subst hi00
        rw [Nat.add_zero] at g0
        have HNX := Lib.hid (uniqK_keep hp (fun h => absurd h.1 (by omega)))
        clear hp
        have HO2 := HO
        have HB2 := HB
        clear HO HB
        generalize wr = wz at *
        have hsz2 := HB2.out.size
        go_wp2_with (at_builtin; refine wpList_append_any _ rfl (.tmp 25) (.tmp 27) 45 rfl w.heap.size 9 i0 _ 1 16 Try.underlying45 hi hz0 hz1 hz2 rfl (by decide) (.slice A' u c') u _ rfl (HO2.out.alloc _) (wz.heap.size + 1) (some ⟨wz.heap.size, 0, none⟩) 1 _ (strs [p]) rfl (str_one wz p) (strs_one _) (by unfold maxLen; omega) (by omega) (by simp; omega) ?_; intro v5 w5 hown5 hgrow5 _; have HB5 : Hid (Below w.heap.size w w5) := (HB2.out.alloc hsz2 _).grown hgrow5 (by simp; omega) (fun k hk => (HO2.out.lt k hk).1); obtain ⟨A5, c5, rfl, h51, h52⟩ := own_form2 hown5; rw [← strs_append, ← HNX.out] at hown5; have HO5 := Lib.hid hown5; clear hown5 hgrow5)
        go_roundg g2
        case measure => omega
        case rel => exact ⟨0 + 1, u + 1, A5, c5, by have := HIG.out; omega, by omega, by go_num, rfl, h51, h52, by rw [HNX.out, List.length_append, HU.out]; rfl, HO5, HB5⟩
      · obtain ⟨q, hq⟩ : ∃ q, xs[i - 1]? = some q := ⟨xs[i - 1]'(by rw [HL.out]; omega), List.getElem?_eq_getElem _⟩
        obtain ⟨b', o', hA', hb', x0⟩ := pr_at (HR.out.below HB.out) hq
        injection hA' with hA'
        injection hA' with e1 e2 _
        subst e1; subst e2
        have hib : ((i : Int) == 0) = false := by simp; omega
        have hip : 0 < i := by omega
        have hs1 : IntKind.i64.wrap ((i : Int) - 1) = (i : Int) - 1 := by rw [IntKind.wrap_i64]; omega
        have ht1 : ((i : Int) - 1).toNat = i - 1 := by omega
        have hj0 : (0 : Int) ≤ (i : Int) - 1 := by omega
        have hj2 : (1 : Int) ≤ (i : Int) := by omega
        have hj1 : (i : Int) - 1 < (n : Int) := by omega
        by_cases hqp : q = p
        · subst hqp
          have HNX := Lib.hid (uniqK_skip hp ⟨hip, hq⟩)
          clear hp hq hi00
          go_wp2_with fail
          refine (same_yes q _).mono ?_
          rintro e w20 ⟨rfl, b20⟩
          have HB2 : Hid (Below w.heap.size w w20) := HB.out.trans (b20.mono HB.out.size)
          have HO2 : Hid (w20.ownsRow w.heap.size 9 1 (.slice A' u c') u (strs (uniqK xs i))) := own_below2 HO.out b20 (Nat.le_refl _)
          clear b20 x0 g0 HB HO
          go_wp2_with fail
          go_roundg g2
          case measure => omega
          case rel => exact ⟨i + 1, u, A', c', by have := HIG.out; omega, by omega, by go_num, rfl, huc, hcm, by rw [HNX.out]; exact HU, by rw [HNX.out]; exact HO2.out, HB2⟩
        · have HNX := Lib.hid (uniqK_keep hp (fun h => hqp (by have := h.2; rw [hq] at this; injection this)))
          clear hp hq hi00
          go_wp2_with fail
          refine (same_no q p hqp _).mono ?_
          rintro e w20 ⟨rfl, b20⟩
          have HB2 : Hid (Below w.heap.size w w20) := HB.out.trans (b20.mono HB.out.size)
          have HO2 : Hid (w20.ownsRow w.heap.size 9 1 (.slice A' u c') u (strs (uniqK xs i))) := own_below2 HO.out b20 (Nat.le_refl _)
          clear b20 x0 g0 HB HO hqp
          generalize w20 = wz at *
          have hsz2 := HB2.out.size
          go_wp2_with (at_builtin; refine wpList_append_any _ rfl (.tmp 25) (.tmp 27) 45 rfl w.heap.size 9 i0 _ 1 16 Try.underlying45 hi hz0 hz1 hz2 rfl (by decide) (.slice A' u c') u _ rfl (HO2.out.alloc _) (wz.heap.size + 1) (some ⟨wz.heap.size, 0, none⟩) 1 _ (strs [p]) rfl (str_one wz p) (strs_one _) (by unfold maxLen; omega) (by omega) (by simp; omega) ?_; intro v5 w5 hown5 hgrow5 _; have HB5 : Hid (Below w.heap.size w w5) := (HB2.out.alloc hsz2 _).grown hgrow5 (by simp; omega) (fun k hk => (HO2.out.lt k hk).1); obtain ⟨A5, c5, rfl, h51, h52⟩ := own_form2 hown5; rw [← strs_append, ← HNX.out] at hown5; have HO5 := Lib.hid hown5; clear hown5 hgrow5)
          go_roundg g2
          case measure => omega
          case rel => exact ⟨i + 1, u + 1, A5, c5, by have := HIG.out; omega, by omega, by go_num, rfl, h51, h52, by rw [HNX.out, List.length_append, HU.out]; rfl, HO5, HB5⟩
end Go.Proofs.Ytldjffeecbegjaa.Str
