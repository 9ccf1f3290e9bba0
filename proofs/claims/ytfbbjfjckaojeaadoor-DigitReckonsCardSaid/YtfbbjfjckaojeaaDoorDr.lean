/- The document's answers of layer digit (package yardarmref01): Looks, as a contract of the translated call. -/
import Derived.Test.YtfbbjfjckaojeaaDoorDp
namespace Go.Proofs.YtfbbjfjckaojeaaDoor
open Go.RowKit

set_option maxHeartbeats 400000 in
theorem rlooks_empty (w : World) :
    Calls Tryd.prog 13 #[.string ⟨#[]⟩] w fun e w' => e = .returned (.bool false) ∧ w = w' := by
  go_enter Tryd.func13, Tryd.ntmps13
  go_wp2_with fail
  go_loop [25] (fun i => i = .int .i64 0) (fun i => 0)
  case atStart => rfl
  case round =>
    obtain rfl := hrel
    go_wp2_with fail
    go_ret
    exact ⟨rfl, rfl⟩

set_option maxHeartbeats 400000 in
theorem rlooks_minus0 (s : ByteArray) (h0 : 1 < s.size) (h45 : ((s[0].toNat : Int) == 45) = true) (hz2 : s.toList = [45, 48]) (w : World) :
    Calls Tryd.prog 13 #[.string s] w fun e w' => e = .returned (.bool false) ∧ w = w' := by
  go_enter Tryd.func13, Tryd.ntmps13
  go_wp2_with fail
  go_ret
  exact ⟨rfl, rfl⟩

set_option maxHeartbeats 400000 in
theorem rlooks_minus_no (s t : ByteArray) (h0 : 0 < s.size) (hB : s.toList.isEmpty = false) (h45 : ((s[0].toNat : Int) == 45) = true) (hz : (s.toList == [45, 48]) = false) (hex : s.extract 1 s.size = t)
    (H : Hid (∀ w : World, Calls Tryd.prog 13 #[.string t] w fun e w' => e = .returned (.bool false) ∧ w = w')) (w : World) :
    Calls Tryd.prog 13 #[.string s] w fun e w' => e = .returned (.bool false) ∧ w = w' := by
  go_enter Tryd.func13, Tryd.ntmps13
  go_wp2_with fail
  refine (H.out _).mono ?_
  rintro e w1 ⟨rfl, rfl⟩
  go_wp2_with fail
  go_ret
  exact ⟨rfl, rfl⟩

set_option maxHeartbeats 400000 in
theorem rlooks_minus_yes (s t : ByteArray) (b : Bool) (h0 : 1 < s.size) (hB : s.toList.isEmpty = false) (h45 : ((s[0].toNat : Int) == 45) = true) (hz : (s.toList == [45, 48]) = false) (hex : s.extract 1 s.size = t)
    (h1 : ((s[1].toNat : Int) != 45) = b)
    (H : Hid (∀ w : World, Calls Tryd.prog 13 #[.string t] w fun e w' => e = .returned (.bool true) ∧ w = w')) (w : World) :
    Calls Tryd.prog 13 #[.string s] w fun e w' => e = .returned (.bool b) ∧ w = w' := by
  go_enter Tryd.func13, Tryd.ntmps13
  go_wp2_with fail
  refine (H.out _).mono ?_
  rintro e w1 ⟨rfl, rfl⟩
  go_wp2_with fail
  go_ret
  exact ⟨rfl, rfl⟩

def baseB (l : List UInt8) : Bool := l.all isD && (l == [48] || !(decide (l.head? = some 48)))

set_option maxHeartbeats 800000 in
theorem rlooks_base (s : ByteArray) (h0 : 0 < s.size) (hB : s.toList.isEmpty = false) (h45 : ((s[0].toNat : Int) == 45) = false) (hs : s.size ≤ 9223372036854775807) (w : World) :
    Calls Tryd.prog 13 #[.string s] w fun e w' => e = .returned (.bool (baseB s.data.toList)) ∧ w = w' := by
  go_enter Tryd.func13, Tryd.ntmps13
  go_wp2_with fail
  go_loop [25] (fun i => ∃ p : Nat, p ≤ s.size ∧ i = .int .i64 p ∧ Hid ((s.data.toList.take p).all isD = true)) (fun i => s.size - (intOf i).toNat)
  case atStart => exact ⟨0, Nat.zero_le _, rfl, rfl⟩
  case round =>
    obtain ⟨p, hp, rfl, hall⟩ := hrel
    by_cases hlt : p < s.size
    · cases hd : isD (s[p]'hlt)
      · have HR : Hid (baseB s.data.toList = false) := by
          unfold baseB
          rw [all_not (p := p) (by rw [← Lib.size_eq]; exact hlt) (by rw [← at_data s p hlt]; exact hd)]
          rfl
        have hn : ¬ (48 ≤ (s[p]'hlt).toNat ∧ (s[p]'hlt).toNat ≤ 57) := by rw [← isD_iff]; simp [hd]
        clear hd
        by_cases hlo : (s[p]'hlt).toNat < 48
        · have hlo' : ((s[p]'hlt).toNat : Int) < 48 := by omega
          clear hn
          go_wp2_with fail
          go_ret
          exact ⟨by rw [HR.out]; rfl, rfl⟩
        · have hlo' : ¬ ((s[p]'hlt).toNat : Int) < 48 := by omega
          have hhi : (57 : Int) < ((s[p]'hlt).toNat : Int) := by omega
          clear hn
          go_wp2_with fail
          go_ret
          exact ⟨by rw [HR.out]; rfl, rfl⟩
      · have hall2 := Lib.hid (all_step hall.out (by rw [← Lib.size_eq]; exact hlt) (by rw [← at_data s p hlt]; exact hd))
        have hd' := (isD_iff _).1 hd
        have hlo' : ¬ ((s[p]'hlt).toNat : Int) < 48 := by omega
        have hhi : ¬ (57 : Int) < ((s[p]'hlt).toNat : Int) := by omega
        clear hd hd'
        go_wp2_with fail
        go_round
        case rel => exact ⟨p + 1, by omega, by go_num, hall2⟩
        case measure => simp [intOf]; omega
    · have ha : s.data.toList.all isD = true := by
        have h := hall.out
        rw [List.take_of_length_le (by rw [← Lib.size_eq]; omega)] at h
        exact h
      have hbase : baseB s.data.toList = (s.toList == [48] || !decide (s.data.toList.head? = some 48)) := by
        unfold baseB
        rw [ha, ByteArray.toList_eq]
        rfl
      have HBase := Lib.hid hbase
      have hhead : s.data.toList.head? = some s[0] := by
        rw [List.head?_eq_getElem?, List.getElem?_eq_getElem (by rw [← Lib.size_eq]; exact h0)]
        rfl
      have HHead := Lib.hid hhead
      clear hbase ha hhead
      cases hz : (s.toList == [48])
      · have hz2 : ¬ s.toList = [48] := by simpa using hz
        cases h48 : ((s[0].toNat : Int) == 48)
        · have h48n : ((s[0].toNat : Int) != 48) = true := by rw [bne, h48]; rfl
          have hne : s[0] ≠ 48 := fun e => by rw [e] at h48; exact absurd h48 (by decide)
          have HR : Hid (baseB s.data.toList = true) := by
            show baseB s.data.toList = true
            rw [HBase.out, HHead.out, hz]
            simp [hne]
          clear hne
          go_wp2_with fail
          go_ret
          exact ⟨by rw [HR.out]; rfl, rfl⟩
        · have h48n : ((s[0].toNat : Int) != 48) = false := by rw [bne, h48]; rfl
          have he : s[0] = 48 := by
            have h1 : (s[0].toNat : Int) = 48 := by simpa using h48
            apply UInt8.toNat.inj
            have e : (48 : UInt8).toNat = 48 := rfl
            omega
          have HR : Hid (baseB s.data.toList = false) := by
            show baseB s.data.toList = false
            rw [HBase.out, HHead.out, hz, he]
            simp
          clear he
          go_wp2_with fail
          go_ret
          exact ⟨by rw [HR.out]; rfl, rfl⟩
      · have hz2 : s.toList = [48] := by simpa using hz
        have HR : Hid (baseB s.data.toList = true) := by
          show baseB s.data.toList = true
          rw [HBase.out, hz]
          rfl
        go_wp2_with fail
        go_ret
        exact ⟨by rw [HR.out]; rfl, rfl⟩

/-- Does a text look like a number, as the document's answer has it? -/
def RL : List UInt8 → Bool
  | [] => false
  | c :: r => if c = 45 then !(c :: r == [45, 48]) && (RL r && decide (r.head? ≠ some 45)) else baseB (c :: r)

theorem ofL_toList (l : List UInt8) : (ofL l).toList = l := by rw [ByteArray.toList_eq, ofL_list]
theorem ofL_size (l : List UInt8) : (ofL l).size = l.length := by rw [Lib.size_eq, ofL_list]

theorem rlooks_any : ∀ (l : List UInt8), l.length ≤ 1000 → ∀ w : World,
    Calls Tryd.prog 13 #[.string (ofL l)] w fun e w' => e = .returned (.bool (RL l)) ∧ w = w' := by
  intro l
  induction l with
  | nil => intro _ w; exact rlooks_empty w
  | cons c r ih =>
    intro hl w
    have hl' : r.length ≤ 1000 := by simp at hl; omega
    have hsz : (ofL (c :: r)).size = r.length + 1 := by rw [ofL_size]; rfl
    have hB : (ofL (c :: r)).toList.isEmpty = false := by rw [ofL_toList]; rfl
    have h00 : (ofL (c :: r))[0]'(by omega) = c := rfl
    unfold RL
    by_cases hc : c = 45
    · subst hc
      rw [if_pos rfl]
      have h45 : ((((ofL (45 :: r))[0]'(by omega)).toNat : Int) == 45) = true := by rw [h00]; rfl
      cases hz : (45 :: r == [45, 48])
      · have hzt : ((ofL (45 :: r)).toList == [45, 48]) = false := by rw [ofL_toList]; exact hz
        have hex : (ofL (45 :: r)).extract 1 (ofL (45 :: r)).size = ofL r := (extract_ofL [45] r).2
        cases hr : RL r
        · have H := ih hl'
          rw [hr] at H
          exact rlooks_minus_no _ _ (by omega) hB h45 hzt hex H w
        · have H := ih hl'
          rw [hr] at H
          cases r with
          | nil => cases hr
          | cons d r =>
            have h1 : ((((ofL (45 :: d :: r))[1]'(by rw [hsz]; simp)).toNat : Int) != 45) = decide ((d :: r).head? ≠ some 45) := by
              show ((d.toNat : Int) != 45) = _
              by_cases hd : d = 45
              · subst hd; rfl
              · have : (d.toNat : Int) ≠ 45 := fun e => hd (UInt8.toNat.inj (by have e2 : (45 : UInt8).toNat = 45 := rfl; omega))
                simp [hd, this]
            have := rlooks_minus_yes (ofL (45 :: d :: r)) (ofL (d :: r)) _ (by rw [hsz]; simp) hB h45 hzt hex h1 H w
            exact this
      · have hz2 : (ofL (45 :: r)).toList = [45, 48] := by rw [ofL_toList]; simpa using hz
        have hr : r = [48] := by simpa using hz
        exact rlooks_minus0 _ (by rw [hsz, hr]; simp) h45 hz2 w
    · rw [if_neg hc]
      have h45 : ((((ofL (c :: r))[0]'(by omega)).toNat : Int) == 45) = false := by
        rw [h00]
        exact beq_eq_false_iff_ne.2 fun e => hc (UInt8.toNat.inj (by have e2 : (45 : UInt8).toNat = 45 := rfl; omega))
      have := rlooks_base (ofL (c :: r)) (by omega) hB h45 (by rw [hsz]; simp at hl; omega) w
      rw [ofL_list] at this
      exact this

theorem baseB_looks (l : List UInt8) (h : l ≠ []) : baseB l = looksL l false := by
  unfold baseB looksL leadL
  cases l with
  | nil => exact absurd rfl h
  | cons c r =>
    cases hA : (c :: r).all isD
    · rfl
    · by_cases hc : c = 48
      · subst hc
        cases r with
        | nil => rfl
        | cons => simp
      · simp [hc]

theorem RL_looks (l : List UInt8) : RL l = looksL (tlS (ofL l)) (negS (ofL l)) := by
  cases l with
  | nil => rfl
  | cons c r =>
    unfold RL
    by_cases hc : c = 45
    · subst hc
      rw [if_pos rfl, tlS_cons, negS_cons]
      cases r with
      | nil => rfl
      | cons d r =>
        by_cases hd : d = 45
        · subst hd
          have : looksL (45 :: r) true = false := by
            unfold looksL
            rw [show (45 :: r).all isD = false from rfl]
            rfl
          rw [this]
          simp
        · have hRL : RL (d :: r) = looksL (d :: r) false := by
            unfold RL
            rw [if_neg hd, baseB_looks _ (by simp)]
          rw [hRL]
          unfold looksL leadL
          cases hA : (d :: r).all isD
          · simp
          · by_cases h48 : d = 48
            · subst h48
              cases r with
              | nil => rfl
              | cons => simp
            · simp [hd, h48]
    · rw [if_neg hc, baseB_looks _ (by simp), tlS_of (by simpa using hc), negS_of (by simpa using hc)]
end Go.Proofs.YtfbbjfjckaojeaaDoor
