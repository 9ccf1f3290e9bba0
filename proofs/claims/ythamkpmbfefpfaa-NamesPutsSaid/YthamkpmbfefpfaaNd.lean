/- Layer names: the function over which one ranges that tells a table's numbers and names: its contract. -/
import Derived.Test.YthamkpmbfefpfaaNc
import Derived.Test.YthamkpmbfefpfaaPh
import Derived.Sort.CutIn
namespace Go.Proofs.Ythamkpmbfefpfaa
open Go.RowKit Go.Shelf
attribute [local go_sem] Oper.semAt_some

/-- What is told, up to a place: numbers and names. -/
def told (ns : List ByteArray) (k : Nat) : List (Nat × ByteArray) := (List.range k).map fun i => (i, ns.getD i ⟨#[]⟩)
def toldI (c : Nat × ByteArray) : Value := .int .i64 (c.1 : Int)
def toldS (c : Nat × ByteArray) : Value := .string c.2
section
variable {ns : List ByteArray} {s : ByteArray} {k : Nat} {cs : List (Nat × ByteArray)} {c : Nat × ByteArray}
theorem told_len (ns : List ByteArray) (k : Nat) : (told ns k).length = k := by unfold told; simp
theorem told_succ (h : ns[k]? = some s) : told ns (k + 1) = told ns k ++ [(k, s)] := by
  unfold told
  rw [List.range_succ, List.map_append, List.map_singleton, List.getD_eq_getElem?_getD, h]
  rfl
/-- What may be told: the names in order, from the first one on. -/
def ToldOk (ns : List ByteArray) (cs : List (Nat × ByteArray)) (_ : World) : Prop := ∃ k s, ns[k]? = some s ∧ cs = told ns (k + 1)
theorem ToldOk.inv {X : World} (h : ToldOk ns (cs ++ [c]) X) : ∃ k s, ns[k]? = some s ∧ cs = told ns k ∧ c = (k, s) := by
  obtain ⟨k, s, hs, e⟩ := h
  rw [told_succ hs] at e
  obtain ⟨e1, e2⟩ := List.append_inj' e rfl
  exact ⟨k, s, hs, e1, by simpa using e2⟩
theorem ToldOk.below (cs : List (Nat × ByteArray)) (X Y : World) (h : ToldOk ns cs X) (_ : Below X.heap.size X Y) : ToldOk ns cs Y := h
theorem ToldOk.loop (cs : List (Nat × ByteArray)) (X Y : World) (l : Nat) (o : Loop) (h : ToldOk ns cs X) (_ : X.heap[l]? = some (.loop o)) (_ : Keep (fun k => k ≠ l) X Y) : ToldOk ns cs Y := h
end

set_option maxRecDepth 100000 in
set_option maxHeartbeats 4000000 in
theorem numbered_seq (d : Nat) (S : Nat → Prop) (B Bt : Nat) (A : Option Addr) (n c : Nat) (ns : List ByteArray) (hn : n ≤ 1000000) (w1 : World) (hR : Reads w1 B 1 A n (strs ns)) (hB : B ≤ w1.heap.size) (hT : Blk w1 Bt 24 #[.slice A n c])
    (hSB : ∀ k, k < B → S k) (hST : S Bt) (hSlt : ∀ k, S k → k < w1.heap.size) :
    TwoSeq d Try.prog 38 #[.pointer (some ⟨Bt, 0, none⟩)] (fun c => #[toldI c, toldS c]) (ToldOk ns) (fun cs => cs = told ns n) S w1 := by
  intro l J Jx C0 W hW hC0 hJ _ hY h0
  have HL := Lib.hid (strs_len hR)
  have HR : Hid (∀ X, Keep S w1 X → Reads X B 1 A n (strs ns)) := fun X h => h.reads hR hB hSB
  have HT : Hid (∀ X, Keep S w1 X → X.cell? ⟨Bt, 0, none⟩ = some (.slice A n c)) := fun X h => (h.blk hT hST).cell 0
  have s0 := HT.out W hW
  have HYY := Lib.hid hY
  have HJ0 := Lib.hid hJ
  have HW := Lib.hid hW
  have HC := Lib.hid hC0
  have H0 := Lib.hid h0
  have HSL := Lib.hid hSlt
  clear hY hR hT hW hJ hC0 h0 hB hSB hST hSlt
  refine callsIn_of_wp Try.func38 rfl trivial ?_ rfl
  simp only [Try.ntmps38, List.size_toArray, List.length_cons, List.length_nil, Nat.reduceAdd, Nat.reduceSub, Array.replicate_succ, Array.replicate_zero, List.push_toArray, List.append_toArray, List.nil_append, List.cons_append]
  gi_wp2_with fail
  clear s0
  gi_loopw [7] (fun v wr => ∃ (i : Nat) (C : Nat → Prop), v = .int .i64 i ∧ i ≤ n ∧ Hid (J (told ns i) C wr) ∧ Hid (Keep S w1 wr) ∧ Hid (∀ k, C k → ¬ S k ∧ k < wr.heap.size) ∧ Hid (W.heap.size ≤ wr.heap.size)) (fun v _ => n - (intOf v).toNat)
  case atStart => exact ⟨0, C0, rfl, Nat.zero_le _, H0, HW, HC, Nat.le_refl _⟩
  case round =>
    obtain ⟨i, C, rfl, hin, HJ, HK, HCC, HSZ⟩ := hrel
    by_cases hin2 : i < n
    · have hlt : (i : Int) < (n : Int) := by omega
      obtain ⟨s, hs⟩ : ∃ s, ns[i]? = some s := ⟨ns[i]'(by rw [HL.out]; omega), List.getElem?_eq_getElem _⟩
      obtain ⟨b, o, rfl, hb, g0⟩ := str_at (HR.out wr HK.out) hs
      have t0 := HT.out wr HK.out
      have HTK := Lib.hid (told_succ hs)
      have hok : ToldOk ns (told ns i ++ [(i, s)]) wr := ⟨i, s, hs, HTK.out.symm⟩
      obtain ⟨fn, tmps, assign, body, hy, hRR⟩ := HYY.out (told ns i) (i, s) C _ HJ.out hok HCC.out HSZ.out
      simp only [toldI, toldS] at hy
      have HRR := Lib.hid hRR
      clear hs hRR HJ hok
      gi_wp2_with fail
      refine ⟨(fun h => by cases h), (RoundIn.deep rfl HRR.out).mono ?_⟩
      rintro e W3 (⟨C', hC', hk3, rfl, hJ3⟩ | ⟨rfl, _, hJ3⟩)
      · have HJ3 : Hid (J (told ns (i + 1)) C' W3) := by rw [HTK.out]; exact hJ3
        have HK3 : Hid (Keep S w1 W3) := HK.out.trans (hk3.mono fun k _ hS hC => (HCC.out k hC).1 hS)
        have HC3 : Hid (∀ k, C' k → ¬ S k ∧ k < W3.heap.size) := fun k hk => by
          have h1 := hC' k hk
          refine ⟨?_, h1.1⟩
          rcases h1.2 with h2 | h2
          · exact (HCC.out k h2).1
          · intro hS
            have h3 := HSL.out k hS
            have h4 := HK.out.size
            omega
        have HS3 : Hid (W.heap.size ≤ W3.heap.size) := Nat.le_trans HSZ.out hk3.size
        clear hJ3 hk3 hC' hy HRR g0 t0 HK HCC HSZ
        gi_wp2_with fail
        go_roundw
        case rel => exact ⟨i + 1, C', by go_num, hin2, HJ3, HK3, HC3, HS3⟩
        case measure => simp [intOf]; omega
      · have HJ3 := Lib.hid hJ3
        clear hJ3 hy HRR g0 t0
        gi_wp2_with fail
        refine bodyPost_ret (results_none rfl _ _ _) rfl ?_
        exact ⟨⟨_, rfl⟩, .inr HJ3.out⟩
    · have hge : ¬ (i : Int) < (n : Int) := by omega
      obtain rfl : i = n := by omega
      have HJ3 := Lib.hid HJ.out
      gi_wp2_with fail
      go_end0
      exact ⟨⟨_, rfl⟩, .inl ⟨C, HJ3.out⟩⟩

/-- What numbered gives: a function to be ranged over, and the table that it holds. -/
theorem numbered_any (A : Option Addr) (n c : Nat) (w : World) : Calls Try.prog 34 #[.agg #[.slice A n c]] w fun e w' =>
    e = .returned (.func (.func 38) #[] #[.pointer (some ⟨w.heap.size, 0, none⟩)]) ∧ w' = w.alloc (.cells #[.slice A n c] 24) := by
  go_enter Try.func34, Try.ntmps34
  go_wp2_with fail
  go_ret
  exact ⟨rfl, rfl⟩
theorem eg_numbered : ∀ args w, (callFunc 38 args).run Try.prog w = .ok (.enter 38 args) w := enters_of Try.func38 (by kernel_rfl) rfl
end Go.Proofs.Ythamkpmbfefpfaa
