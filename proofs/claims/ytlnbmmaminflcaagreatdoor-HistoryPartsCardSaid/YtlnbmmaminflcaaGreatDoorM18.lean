/- Layer history: what is spoken of is handed over, place by place: of a row's transactions, a version, what a scan has seen, an order, a match, a want: contracts. -/
import Derived.Test.YtlnbmmaminflcaaGreatDoorM11
import Derived.Test.YtlnbmmaminflcaaGreatDoorM17
-- holds: YtlnbmmaminflcaaGreatDoorQIe
namespace Go.Proofs.YtlnbmmaminflcaaGreatDoor
open Go.RowKit Go.Shelf
attribute [local go_sem] Oper.semAt_some

theorem sn0 : ((0 : Nat) : Int) = 0 := rfl
theorem sn1 : ((1 : Nat) : Int) = 1 := rfl
theorem sn2 : ((2 : Nat) : Int) = 2 := rfl
theorem sn3 : ((3 : Nat) : Int) = 3 := rfl
structure YS (l : Nat) (cs : List (Nat × Addr)) (J : Nat → World → Prop) (Jx : World → Prop) : Prop where
  bel : ∀ k X Y, J k X → Below X.heap.size X Y → J k Y
  belx : ∀ X Y, Jx X → Below X.heap.size X Y → Jx Y
  y : ∀ k s a X, cs[k]? = some (s, a) → J k X → ∀ m, YieldAt Fence.wide m Tryz.prog l #[.int .i64 (s : Nat), .pointer (some a)] X fun e X' => (e = .returned (.bool true) ∧ J (k + 1) X' ∧ Fk X X') ∨ (e = .returned (.bool false) ∧ Jx X')
def PushIs (cs : List (Nat × Addr)) (J : Nat → World → Prop) (Jx : World → Prop) (W : World) : Ending → World → Prop := fun e X => (e = .returned (.bool true) ∧ J cs.length X ∧ Fk W X) ∨ (e = .returned (.bool false) ∧ Jx X)
section
variable {l : Nat} {cs a b c : List (Nat × Addr)} {J : Nat → World → Prop} {Jx : World → Prop}
theorem YS.mid (h : YS l (a ++ (b ++ c)) J Jx) : YS l b (fun k => J (a.length + k)) Jx :=
  ⟨fun k X Y => h.bel _ X Y, h.belx, fun k s p X hk hj m => h.y (a.length + k) s p X (by
    rw [List.getElem?_append_right (by omega), Nat.add_sub_cancel_left, List.getElem?_append_left (List.getElem?_eq_some_iff.1 hk).1, hk]) hj m⟩
theorem YS.tail {x : Nat × Addr} (h : YS l (x :: b) J Jx) : YS l b (fun k => J (k + 1)) Jx :=
  ⟨fun k X Y => h.bel _ X Y, h.belx, fun k s p X hk hj m => h.y (k + 1) s p X (by simpa using hk) hj m⟩
theorem YS.head {x : Nat × Addr} (h : YS l (x :: b) J Jx) : YS l [x] J Jx :=
  ⟨h.bel, h.belx, fun k s p X hk hj m => h.y k s p X (by
    cases k with
    | zero => simpa using hk
    | succ k => simp at hk) hj m⟩
end
def qV (b o : Nat) (k : Int) : List (Nat × Addr) := if k = 0 then [] else [(0, ⟨b, o, none⟩)]
def qS (b o : Nat) (s : SeenP) : List (Nat × Addr) := (2, ⟨b, o, none⟩) :: qV b (o + 1) s.k
theorem plV_is {h : SH} {b o j : Nat} {k : Int} (e : h.A = some ⟨b, o, none⟩) : plV h j k = qV b (o + j) k := by unfold plV qV; rw [SH.ad_is e]
theorem plS_is {h : SH} {b o j : Nat} {s : SeenP} (e : h.A = some ⟨b, o, none⟩) : plS h j s = qS b (o + j * 3) s := by
  unfold plS qS
  rw [SH.ad_is e, plV_is e, Nat.add_assoc]
theorem flat_one {α : Type} (f : Nat → Nat × Addr) : ∀ (l : List α) (i : Nat), (flatI (fun j _ => [f j]) i l).length = l.length
  | [], _ => rfl
  | x :: l, i => by unfold flatI; rw [List.length_append, flat_one f l (i + 1)]; simp; omega
theorem flat_one_at {α : Type} (f : Nat → Nat × Addr) : ∀ (l : List α) (i k : Nat), k < l.length → (flatI (fun j _ => [f j]) i l)[k]? = some (f (i + k))
  | [], _, _, h => by simp at h
  | x :: l, i, 0, _ => rfl
  | x :: l, i, k + 1, h => by
    unfold flatI
    rw [List.singleton_append, List.getElem?_cons_succ, flat_one_at f l (i + 1) k (by simpa using h), show i + 1 + k = i + (k + 1) by omega]
theorem plT_len (h : SH) (ts : List Int) : (plT h ts).length = ts.length := flat_one (fun j => (0, h.ad j)) ts 0
theorem plT_at (h : SH) (ts : List Int) {k : Nat} (hk : k < ts.length) : (plT h ts)[k]? = some (0, h.ad k) := by
  have := flat_one_at (fun j => ((0 : Nat), h.ad j)) ts 0 k hk
  rwa [Nat.zero_add] at this

set_option maxHeartbeats 1000000 in
theorem ts1_any (l b o Bf : Nat) (J : Nat → World → Prop) (Jx : World → Prop) (hY : YS l [(0, ⟨b, o, none⟩)] J Jx) (W : World) (hB : Blk W Bf 107 #[.func (.yield l) #[] #[]]) (h0 : J 0 W) :
    Calls Tryz.prog 67 #[.pointer (some ⟨b, o, none⟩), .pointer (some ⟨Bf, 0, none⟩)] W (PushIs [(0, ⟨b, o, none⟩)] J Jx W) := by
  have z0 := hB.cell 0
  obtain ⟨fn, tmps, assign, body, hy, hRR⟩ := hY.y 0 0 ⟨b, o, none⟩ W rfl h0 7
  rw [sn0] at hy
  have HRR := Lib.hid hRR
  clear hY hB h0 hRR
  refine (callsIn_wide (n := 6)).1 (callsIn_of_wp Tryz.func67 rfl trivial ?_ rfl)
  simp only [Tryz.ntmps67, List.size_toArray, List.length_cons, List.length_nil, Nat.reduceAdd, Nat.reduceSub, Array.replicate_succ, Array.replicate_zero, List.push_toArray, List.append_toArray, List.nil_append, List.cons_append]
  gi_wp2_with fail
  refine (RoundIn.deep rfl HRR.out).mono ?_
  rintro e X (⟨rfl, hj, hf⟩ | ⟨rfl, hj⟩)
  · have HX : Hid (PushIs [(0, ⟨b, o, none⟩)] J Jx W (.returned (.bool true)) X) := .inl ⟨rfl, hj, hf⟩
    clear hj hf z0 hy HRR
    gi_wp2_with fail
    go_ret
    exact HX.out
  · have HX : Hid (PushIs [(0, ⟨b, o, none⟩)] J Jx W (.returned (.bool false)) X) := .inr ⟨rfl, hj⟩
    clear hj z0 hy HRR
    gi_wp2_with fail
    go_ret
    exact HX.out
theorem eg_ts1 : ∀ args w, (callFunc 67 args).run Tryz.prog w = .ok (.enter 67 args) w := enters_of Tryz.func67 (by kernel_rfl) rfl
theorem YS.at_ {l k : Nat} {cs : List (Nat × Addr)} {x : Nat × Addr} {J : Nat → World → Prop} {Jx : World → Prop} (h : YS l cs J Jx) (hk : cs[k]? = some x) : YS l [x] (fun q => J (k + q)) Jx :=
  ⟨fun q X Y => h.bel _ X Y, h.belx, fun q s p X hq hj m => h.y (k + q) s p X (by
    cases q with
    | zero => rw [Nat.add_zero, hk]; simpa using hq
    | succ q => simp at hq) hj m⟩
set_option maxHeartbeats 1000000 in
theorem ts_any (l : Nat) (A : Option Addr) (n c : Nat) (ts : List Int) (hl : ts.length = n ∧ (0 < n → ∃ b o, A = some ⟨b, o, none⟩)) (hn : n ≤ 1000000) (Bf : Nat) (J : Nat → World → Prop) (Jx : World → Prop) (hY : YS l (plT ⟨A, n, c⟩ ts) J Jx) (W : World) (hB : Blk W Bf 107 #[.func (.yield l) #[] #[]]) (h0 : J 0 W) :
    Calls Tryz.prog 65 #[.slice A n c, .pointer (some ⟨Bf, 0, none⟩)] W (PushIs (plT ⟨A, n, c⟩ ts) J Jx W) := by
  have HE : Hid (Calls Tryz.prog 66 #[.slice A n c, .func (.func 67) #[] #[.pointer (some ⟨Bf, 0, none⟩)]] W (EachIs (fun i X => J i X ∧ Fk W X) Jx n)) := by
    refine each_in _ _ eg_ts1 A n c hl.2 _ _ (fun i X hi hj => ?_) hn W ⟨h0, Fk.refl W⟩
    obtain ⟨b, o, rfl⟩ := hl.2 (by omega)
    have hy := hY.at_ (plT_at ⟨some ⟨b, o, none⟩, n, c⟩ ts (by rw [hl.1]; exact hi))
    rw [SH.ad_is rfl] at hy ⊢
    refine (ts1_any l b (o + i) Bf _ Jx hy X (hj.2.firm _ _ _ hB rfl) hj.1).mono ?_
    rintro e Y (⟨rfl, h1, h2⟩ | ⟨rfl, h1⟩)
    · exact .inl ⟨rfl, h1, hj.2.trans h2⟩
    · exact .inr ⟨rfl, h1⟩
  clear hY hB h0
  go_enter Tryz.func65, Tryz.ntmps65
  go_wp2_with fail
  refine HE.out.mono ?_
  rintro e X (⟨rfl, hj⟩ | ⟨rfl, hj⟩)
  · have HX : Hid (PushIs (plT ⟨A, n, c⟩ ts) J Jx W (.returned (.bool true)) X) := .inl ⟨rfl, by rw [plT_len, hl.1]; exact hj.1, hj.2⟩
    clear hj HE
    go_wp2_with fail
    go_ret
    exact HX.out
  · have HX : Hid (PushIs (plT ⟨A, n, c⟩ ts) J Jx W (.returned (.bool false)) X) := .inr ⟨rfl, hj⟩
    clear hj HE
    go_wp2_with fail
    go_ret
    exact HX.out
set_option maxHeartbeats 2000000 in
theorem ver_any (l b o Bf : Nat) (k : Int) (J : Nat → World → Prop) (Jx : World → Prop) (hY : YS l (qV b o k) J Jx) (W : World) (hB : Blk W Bf 107 #[.func (.yield l) #[] #[]]) (hk : W.cell? ⟨b, o + 1, none⟩ = some (.int .i64 k)) (h0 : J 0 W) :
    Calls Tryz.prog 104 #[.pointer (some ⟨b, o, none⟩), .pointer (some ⟨Bf, 0, none⟩)] W (PushIs (qV b o k) J Jx W) := by
  have z0 : W.drew.cell? ⟨Bf, 0, none⟩ = some (.func (.yield l) #[] #[]) := hB.drew.cell 0
  have hk : W.drew.cell? ⟨b, o + 1, none⟩ = some (.int .i64 k) := hk
  have hj0 := hY.bel _ _ _ h0 ((Below.refl _ _).drew)
  have HF : Hid (Fk W W.drew) := Fk.of_below ((Below.refl _ _).drew)
  by_cases h : k = 0
  · have HX : Hid (PushIs (qV b o k) J Jx W (.returned (.bool true)) W.drew) := .inl ⟨rfl, by unfold qV; rw [if_pos h]; exact hj0, HF.out⟩
    have hb : (k == 0) = true := by simpa using h
    clear hY hB h0 h hj0
    refine (callsIn_wide (n := 6)).1 (callsIn_of_wp Tryz.func104 rfl trivial ?_ rfl)
    simp only [Tryz.ntmps104, List.size_toArray, List.length_cons, List.length_nil, Nat.reduceAdd, Nat.reduceSub, Array.replicate_succ, Array.replicate_zero, List.push_toArray, List.append_toArray, List.nil_append, List.cons_append]
    gi_wp2_with fail
    refine wpIn_region_any (by kernel_rfl) ?_
    change wpAnyIn _ _ _ _ _ _ _ _ _ W.drew
    generalize W.drew = Wd at *
    refine wpAnyIn_take (i := 0) (oi := { dst := some 4, op := Op.move (Operand.tmp 0), type := 150, pos := "names.go:66", after := #[], guard := none }) (v := .pointer (some ⟨b, o, none⟩)) rfl rfl (by kernel_rfl) (by kernel_rfl) (by kernel_rfl) (fun _ _ _ h => h) ⟨Or.inl ⟨by kernel_rfl, fun w9 => by go_simp⟩, fun _ => rfl⟩ ?_
    try simp only [Act.put, sA, sB, sC]
    refine wpAnyIn_take (i := 1) (oi := { dst := some 5, op := Op.nilCheck (Operand.tmp 4), type := 0, pos := "names.go:66", after := #[{ on := 0, ground := Ground.data }], guard := none }) (v := .pointer (some ⟨b, o, none⟩)) rfl rfl (by kernel_rfl) (by kernel_rfl) (by kernel_rfl) (fun _ _ _ h => h) ⟨Or.inl ⟨by kernel_rfl, fun w9 => by go_simp⟩, fun _ => rfl⟩ ?_
    try simp only [Act.put, sA, sB, sC]
    refine wpAnyIn_take (i := 2) (oi := { dst := some 6, op := Op.fieldAddr 36 (Operand.tmp 5) 1, type := 0, pos := "names.go:66", after := #[{ on := 1, ground := Ground.data }], guard := none }) (v := .pointer (some ⟨b, o + 1, none⟩)) rfl rfl (by kernel_rfl) (by kernel_rfl) (by kernel_rfl) (fun _ _ _ h => h) ⟨Or.inl ⟨by kernel_rfl, fun w9 => by go_simp⟩, fun _ => rfl⟩ ?_
    try simp only [Act.put, sA, sB, sC]
    refine wpAnyIn_ready (rs := [3]) (by kernel_rfl) (by simp) ?_
    refine AllReadyIn.cons (o := { dst := some 7, op := Op.load 3 (Operand.tmp 6), type := 3, pos := "names.go:66", after := #[{ on := 2, ground := Ground.data }], guard := none }) rfl (fun K hK => ?_) ?_
    · go_simp
      refine hK _ _ ?_
      clear hK K
      try simp only [Act.put, sA, sB, sC]
      refine wpAnyIn_take (i := 4) (oi := { dst := some 8, op := Op.binOp BinOp.eql 3 (Operand.tmp 7) (Operand.const (Value.int IntKind.i64 0)) 3, type := 4, pos := "names.go:66", after := #[{ on := 3, ground := Ground.data }], guard := none }) (v := .bool true) rfl rfl (by kernel_rfl) (by kernel_rfl) (by kernel_rfl) (fun _ _ _ h => h) ⟨Or.inl ⟨by kernel_rfl, fun w9 => by go_simp⟩, fun _ => rfl⟩ ?_
      try simp only [Act.put, sA, sB, sC]
      refine wpAnyIn_take (i := 5) (oi := { dst := some 9, op := Op.move (Operand.tmp 8), type := 4, pos := "names.go:66", after := #[{ on := 4, ground := Ground.data }], guard := none }) (v := .bool true) rfl rfl (by kernel_rfl) (by kernel_rfl) (by kernel_rfl) (fun _ _ _ h => h) ⟨Or.inl ⟨by kernel_rfl, fun w9 => by go_simp⟩, fun _ => rfl⟩ ?_
      try simp only [Act.put, sA, sB, sC]
      refine wpAnyIn_take (i := 6) (oi := { dst := some 10, op := Op.load 107 (Operand.tmp 1), type := 107, pos := "names.go:66", after := #[{ on := 5, ground := Ground.guard }], guard := some (5, false) }) (v := undef) rfl rfl (by kernel_rfl) (by kernel_rfl) (by kernel_rfl) (fun _ _ _ h => h) ⟨Or.inr ⟨by kernel_rfl, rfl⟩, fun _ => rfl⟩ ?_
      try simp only [Act.put, sA, sB, sC]
      refine wpAnyIn_take (i := 7) (oi := { dst := some 11, op := Op.move (Operand.tmp 0), type := 150, pos := "names.go:66", after := #[{ on := 5, ground := Ground.guard }], guard := some (5, false) }) (v := undef) rfl rfl (by kernel_rfl) (by kernel_rfl) (by kernel_rfl) (fun _ _ _ h => h) ⟨Or.inr ⟨by kernel_rfl, rfl⟩, fun _ => rfl⟩ ?_
      try simp only [Act.put, sA, sB, sC]
      refine wpAnyIn_take (i := 8) (oi := { dst := some 12, op := Op.nilCheck (Operand.tmp 11), type := 0, pos := "names.go:66", after := #[{ on := 7, ground := Ground.data }, { on := 5, ground := Ground.guard }], guard := some (5, false) }) (v := undef) rfl rfl (by kernel_rfl) (by kernel_rfl) (by kernel_rfl) (fun _ _ _ h => h) ⟨Or.inr ⟨by kernel_rfl, rfl⟩, fun _ => rfl⟩ ?_
      try simp only [Act.put, sA, sB, sC]
      refine wpAnyIn_take (i := 9) (oi := { dst := some 13, op := Op.fieldAddr 36 (Operand.tmp 12) 0, type := 0, pos := "names.go:66", after := #[{ on := 8, ground := Ground.data }, { on := 5, ground := Ground.guard }], guard := some (5, false) }) (v := undef) rfl rfl (by kernel_rfl) (by kernel_rfl) (by kernel_rfl) (fun _ _ _ h => h) ⟨Or.inr ⟨by kernel_rfl, rfl⟩, fun _ => rfl⟩ ?_
      try simp only [Act.put, sA, sB, sC]
      refine wpAnyIn_take (i := 10) (oi := { dst := some 14, op := Op.call { callee := Callee.value (Operand.tmp 10), args := #[Operand.const (Value.int IntKind.i64 0), Operand.tmp 13], argTypes := #[3, 73] }, type := 4, pos := "names.go:66", after := #[{ on := 6, ground := Ground.data }, { on := 9, ground := Ground.data }, { on := 5, ground := Ground.chain }, { on := 5, ground := Ground.guard }], guard := some (5, false) }) (v := undef) rfl rfl (by kernel_rfl) (by kernel_rfl) (by kernel_rfl) (fun _ _ _ h => h) ⟨Or.inr ⟨by kernel_rfl, rfl⟩, fun _ => rfl⟩ ?_
      try simp only [Act.put, sA, sB, sC]
      refine wpAnyIn_take (i := 11) (oi := { dst := some 15, op := Op.pick (Operand.tmp 9) (Operand.const (Value.bool true)) (Operand.tmp 14), type := 4, pos := "names.go:66", after := #[{ on := 5, ground := Ground.data }, { on := 10, ground := Ground.data }], guard := none }) (v := .bool true) rfl rfl (by kernel_rfl) (by kernel_rfl) (by kernel_rfl) (fun _ _ _ h => h) ⟨Or.inl ⟨by kernel_rfl, fun w9 => by go_simp⟩, fun _ => rfl⟩ ?_
      try simp only [Act.put, sA, sB, sC]
      refine wpAnyIn_take (i := 12) (oi := { dst := some 3, op := Op.assign (Operand.tmp 15), type := 4, pos := "names.go:66", after := #[{ on := 11, ground := Ground.data }, { on := 10, ground := Ground.chain }, { on := 0, ground := Ground.phase }, { on := 1, ground := Ground.phase }, { on := 2, ground := Ground.phase }, { on := 3, ground := Ground.phase }, { on := 4, ground := Ground.phase }, { on := 5, ground := Ground.phase }, { on := 6, ground := Ground.phase }, { on := 7, ground := Ground.phase }, { on := 8, ground := Ground.phase }, { on := 9, ground := Ground.phase }, { on := 10, ground := Ground.phase }, { on := 11, ground := Ground.phase }], guard := none }) (v := .bool true) rfl rfl (by kernel_rfl) (by kernel_rfl) (by kernel_rfl) (fun _ _ _ h => h) ⟨Or.inl ⟨by kernel_rfl, fun w9 => by go_simp⟩, fun _ => rfl⟩ ?_
      try simp only [Act.put, sA, sB, sC]
      refine wpAnyIn_done (by kernel_rfl) ?_ _
      gi_wp2_with fail
      go_ret
      exact HX.out
    exact AllReadyIn.nil
  · have hb : (k == 0) = false := by simpa using h
    have e : qV b o k = [(0, ⟨b, o, none⟩)] := by unfold qV; rw [if_neg h]
    rw [e] at hY ⊢
    obtain ⟨fn, tmps, assign, body, hy, hRR⟩ := hY.y 0 0 ⟨b, o, none⟩ _ rfl hj0 7
    rw [sn0] at hy
    have HRR := Lib.hid hRR
    clear hY hB h0 hRR h e hj0
    refine (callsIn_wide (n := 6)).1 (callsIn_of_wp Tryz.func104 rfl trivial ?_ rfl)
    simp only [Tryz.ntmps104, List.size_toArray, List.length_cons, List.length_nil, Nat.reduceAdd, Nat.reduceSub, Array.replicate_succ, Array.replicate_zero, List.push_toArray, List.append_toArray, List.nil_append, List.cons_append]
    gi_wp2_with fail
    refine wpIn_region_any (by kernel_rfl) ?_
    change wpAnyIn _ _ _ _ _ _ _ _ _ W.drew
    generalize W.drew = Wd at *
    refine wpAnyIn_take (i := 0) (oi := { dst := some 4, op := Op.move (Operand.tmp 0), type := 150, pos := "names.go:66", after := #[], guard := none }) (v := .pointer (some ⟨b, o, none⟩)) rfl rfl (by kernel_rfl) (by kernel_rfl) (by kernel_rfl) (fun _ _ _ h => h) ⟨Or.inl ⟨by kernel_rfl, fun w9 => by go_simp⟩, fun _ => rfl⟩ ?_
    try simp only [Act.put, sA, sB, sC]
    refine wpAnyIn_take (i := 1) (oi := { dst := some 5, op := Op.nilCheck (Operand.tmp 4), type := 0, pos := "names.go:66", after := #[{ on := 0, ground := Ground.data }], guard := none }) (v := .pointer (some ⟨b, o, none⟩)) rfl rfl (by kernel_rfl) (by kernel_rfl) (by kernel_rfl) (fun _ _ _ h => h) ⟨Or.inl ⟨by kernel_rfl, fun w9 => by go_simp⟩, fun _ => rfl⟩ ?_
    try simp only [Act.put, sA, sB, sC]
    refine wpAnyIn_take (i := 2) (oi := { dst := some 6, op := Op.fieldAddr 36 (Operand.tmp 5) 1, type := 0, pos := "names.go:66", after := #[{ on := 1, ground := Ground.data }], guard := none }) (v := .pointer (some ⟨b, o + 1, none⟩)) rfl rfl (by kernel_rfl) (by kernel_rfl) (by kernel_rfl) (fun _ _ _ h => h) ⟨Or.inl ⟨by kernel_rfl, fun w9 => by go_simp⟩, fun _ => rfl⟩ ?_
    try simp only [Act.put, sA, sB, sC]
    refine wpAnyIn_ready (rs := [3]) (by kernel_rfl) (by simp) ?_
    refine AllReadyIn.cons (o := { dst := some 7, op := Op.load 3 (Operand.tmp 6), type := 3, pos := "names.go:66", after := #[{ on := 2, ground := Ground.data }], guard := none }) rfl (fun K hK => ?_) ?_
    · go_simp
      refine hK _ _ ?_
      clear hK K
      try simp only [Act.put, sA, sB, sC]
      refine wpAnyIn_take (i := 4) (oi := { dst := some 8, op := Op.binOp BinOp.eql 3 (Operand.tmp 7) (Operand.const (Value.int IntKind.i64 0)) 3, type := 4, pos := "names.go:66", after := #[{ on := 3, ground := Ground.data }], guard := none }) (v := .bool false) rfl rfl (by kernel_rfl) (by kernel_rfl) (by kernel_rfl) (fun _ _ _ h => h) ⟨Or.inl ⟨by kernel_rfl, fun w9 => by go_simp⟩, fun _ => rfl⟩ ?_
      try simp only [Act.put, sA, sB, sC]
      refine wpAnyIn_take (i := 5) (oi := { dst := some 9, op := Op.move (Operand.tmp 8), type := 4, pos := "names.go:66", after := #[{ on := 4, ground := Ground.data }], guard := none }) (v := .bool false) rfl rfl (by kernel_rfl) (by kernel_rfl) (by kernel_rfl) (fun _ _ _ h => h) ⟨Or.inl ⟨by kernel_rfl, fun w9 => by go_simp⟩, fun _ => rfl⟩ ?_
      try simp only [Act.put, sA, sB, sC]
      refine wpAnyIn_take (i := 7) (oi := { dst := some 11, op := Op.move (Operand.tmp 0), type := 150, pos := "names.go:66", after := #[{ on := 5, ground := Ground.guard }], guard := some (5, false) }) (v := .pointer (some ⟨b, o, none⟩)) rfl rfl (by kernel_rfl) (by kernel_rfl) (by kernel_rfl) (fun _ _ _ h => h) ⟨Or.inl ⟨by kernel_rfl, fun w9 => by go_simp⟩, fun _ => rfl⟩ ?_
      try simp only [Act.put, sA, sB, sC]
      refine wpAnyIn_take (i := 8) (oi := { dst := some 12, op := Op.nilCheck (Operand.tmp 11), type := 0, pos := "names.go:66", after := #[{ on := 7, ground := Ground.data }, { on := 5, ground := Ground.guard }], guard := some (5, false) }) (v := .pointer (some ⟨b, o, none⟩)) rfl rfl (by kernel_rfl) (by kernel_rfl) (by kernel_rfl) (fun _ _ _ h => h) ⟨Or.inl ⟨by kernel_rfl, fun w9 => by go_simp⟩, fun _ => rfl⟩ ?_
      try simp only [Act.put, sA, sB, sC]
      refine wpAnyIn_take (i := 9) (oi := { dst := some 13, op := Op.fieldAddr 36 (Operand.tmp 12) 0, type := 0, pos := "names.go:66", after := #[{ on := 8, ground := Ground.data }, { on := 5, ground := Ground.guard }], guard := some (5, false) }) (v := .pointer (some ⟨b, o, none⟩)) rfl rfl (by kernel_rfl) (by kernel_rfl) (by kernel_rfl) (fun _ _ _ h => h) ⟨Or.inl ⟨by kernel_rfl, fun w9 => by go_simp⟩, fun _ => rfl⟩ ?_
      try simp only [Act.put, sA, sB, sC]
      refine wpAnyIn_ready (rs := [6]) (by kernel_rfl) (by simp) ?_
      refine AllReadyIn.cons (o := { dst := some 10, op := Op.load 107 (Operand.tmp 1), type := 107, pos := "names.go:66", after := #[{ on := 5, ground := Ground.guard }], guard := some (5, false) }) rfl (fun K hK => ?_) ?_
      · go_simp
        refine hK _ _ ?_
        clear hK K
        try simp only [Act.put, sA, sB, sC]
        refine wpAnyIn_ready (rs := [10]) (by kernel_rfl) (by simp) ?_
        refine AllReadyIn.cons (o := { dst := some 14, op := Op.call { callee := Callee.value (Operand.tmp 10), args := #[Operand.const (Value.int IntKind.i64 0), Operand.tmp 13], argTypes := #[3, 73] }, type := 4, pos := "names.go:66", after := #[{ on := 6, ground := Ground.data }, { on := 9, ground := Ground.data }, { on := 5, ground := Ground.chain }, { on := 5, ground := Ground.guard }], guard := some (5, false) }) rfl (fun K hK => ?_) ?_
        · go_simp
          refine (RoundIn.deep rfl HRR.out).mono ?_
          rintro e X (⟨rfl, hj, hf⟩ | ⟨rfl, hj⟩)
          · skip
            have HX : Hid (PushIs ([(0, ⟨b, o, none⟩)]) J Jx W (.returned (.bool true)) X) := .inl ⟨rfl, hj, HF.out.trans hf⟩
            clear hj hf z0 hy HRR
            go_simp
            refine hK _ _ ?_
            clear hK K
            try simp only [Act.put, sA, sB, sC]
            refine wpAnyIn_take (i := 11) (oi := { dst := some 15, op := Op.pick (Operand.tmp 9) (Operand.const (Value.bool true)) (Operand.tmp 14), type := 4, pos := "names.go:66", after := #[{ on := 5, ground := Ground.data }, { on := 10, ground := Ground.data }], guard := none }) (v := .bool true) rfl rfl (by kernel_rfl) (by kernel_rfl) (by kernel_rfl) (fun _ _ _ h => h) ⟨Or.inl ⟨by kernel_rfl, fun w9 => by go_simp⟩, fun _ => rfl⟩ ?_
            try simp only [Act.put, sA, sB, sC]
            refine wpAnyIn_take (i := 12) (oi := { dst := some 3, op := Op.assign (Operand.tmp 15), type := 4, pos := "names.go:66", after := #[{ on := 11, ground := Ground.data }, { on := 10, ground := Ground.chain }, { on := 0, ground := Ground.phase }, { on := 1, ground := Ground.phase }, { on := 2, ground := Ground.phase }, { on := 3, ground := Ground.phase }, { on := 4, ground := Ground.phase }, { on := 5, ground := Ground.phase }, { on := 6, ground := Ground.phase }, { on := 7, ground := Ground.phase }, { on := 8, ground := Ground.phase }, { on := 9, ground := Ground.phase }, { on := 10, ground := Ground.phase }, { on := 11, ground := Ground.phase }], guard := none }) (v := .bool true) rfl rfl (by kernel_rfl) (by kernel_rfl) (by kernel_rfl) (fun _ _ _ h => h) ⟨Or.inl ⟨by kernel_rfl, fun w9 => by go_simp⟩, fun _ => rfl⟩ ?_
            try simp only [Act.put, sA, sB, sC]
            refine wpAnyIn_done (by kernel_rfl) ?_ _
            gi_wp2_with fail
            go_ret
            exact HX.out
          · skip
            have HX : Hid (PushIs ([(0, ⟨b, o, none⟩)]) J Jx W (.returned (.bool false)) X) := .inr ⟨rfl, hj⟩
            clear hj z0 hy HRR
            go_simp
            refine hK _ _ ?_
            clear hK K
            try simp only [Act.put, sA, sB, sC]
            refine wpAnyIn_take (i := 11) (oi := { dst := some 15, op := Op.pick (Operand.tmp 9) (Operand.const (Value.bool true)) (Operand.tmp 14), type := 4, pos := "names.go:66", after := #[{ on := 5, ground := Ground.data }, { on := 10, ground := Ground.data }], guard := none }) (v := .bool false) rfl rfl (by kernel_rfl) (by kernel_rfl) (by kernel_rfl) (fun _ _ _ h => h) ⟨Or.inl ⟨by kernel_rfl, fun w9 => by go_simp⟩, fun _ => rfl⟩ ?_
            try simp only [Act.put, sA, sB, sC]
            refine wpAnyIn_take (i := 12) (oi := { dst := some 3, op := Op.assign (Operand.tmp 15), type := 4, pos := "names.go:66", after := #[{ on := 11, ground := Ground.data }, { on := 10, ground := Ground.chain }, { on := 0, ground := Ground.phase }, { on := 1, ground := Ground.phase }, { on := 2, ground := Ground.phase }, { on := 3, ground := Ground.phase }, { on := 4, ground := Ground.phase }, { on := 5, ground := Ground.phase }, { on := 6, ground := Ground.phase }, { on := 7, ground := Ground.phase }, { on := 8, ground := Ground.phase }, { on := 9, ground := Ground.phase }, { on := 10, ground := Ground.phase }, { on := 11, ground := Ground.phase }], guard := none }) (v := .bool false) rfl rfl (by kernel_rfl) (by kernel_rfl) (by kernel_rfl) (fun _ _ _ h => h) ⟨Or.inl ⟨by kernel_rfl, fun w9 => by go_simp⟩, fun _ => rfl⟩ ?_
            try simp only [Act.put, sA, sB, sC]
            refine wpAnyIn_done (by kernel_rfl) ?_ _
            gi_wp2_with fail
            go_ret
            exact HX.out
        exact AllReadyIn.nil
      exact AllReadyIn.nil
    exact AllReadyIn.nil
set_option maxHeartbeats 4000000 in
theorem seen_any (l b o Bf Bv : Nat) (s : SeenP) (J : Nat → World → Prop) (Jx : World → Prop) (hY : YS l (qS b o s) J Jx) (W : World) (hB : Blk W Bf 107 #[.func (.yield l) #[] #[]]) (hV : Blk W Bv 151 #[.func (.func 104) #[] #[.pointer (some ⟨Bf, 0, none⟩)]]) (hK : ∀ k X, J k X → X.cell? ⟨b, o + 1 + 1, none⟩ = some (.int .i64 s.k)) (h0 : J 0 W) :
    Calls Tryz.prog 106 #[.pointer (some ⟨b, o, none⟩), .pointer (some ⟨Bf, 0, none⟩), .pointer (some ⟨Bv, 0, none⟩)] W (PushIs (qS b o s) J Jx W) := by
  have z0 : W.drew.cell? ⟨Bf, 0, none⟩ = some (.func (.yield l) #[] #[]) := hB.drew.cell 0
  have hj0 := hY.bel _ _ _ h0 ((Below.refl _ _).drew)
  have HF : Hid (Fk W W.drew) := Fk.of_below ((Below.refl _ _).drew)
  obtain ⟨fn, tmps, assign, body, hy, hRR⟩ := hY.y 0 2 ⟨b, o, none⟩ _ rfl hj0 7
  rw [sn2] at hy
  have HRR := Lib.hid hRR
  have HY := Lib.hid hY
  have HB := Lib.hid hB.drew
  have HV := Lib.hid hV.drew
  have HK := Lib.hid hK
  clear hY hB hV h0 hj0 hRR hK
  refine (callsIn_wide (n := 6)).1 (callsIn_of_wp Tryz.func106 rfl trivial ?_ rfl)
  simp only [Tryz.ntmps106, List.size_toArray, List.length_cons, List.length_nil, Nat.reduceAdd, Nat.reduceSub, Array.replicate_succ, Array.replicate_zero, List.push_toArray, List.append_toArray, List.nil_append, List.cons_append]
  gi_wp2_with fail
  refine wpIn_region_any (by kernel_rfl) ?_
  change wpAnyIn _ _ _ _ _ _ _ _ _ W.drew
  generalize W.drew = Wd at *
  refine wpAnyIn_take (i := 1) (oi := { dst := some 6, op := Op.move (Operand.tmp 0), type := 153, pos := "names.go:78", after := #[], guard := none }) (v := .pointer (some ⟨b, o, none⟩)) rfl rfl (by kernel_rfl) (by kernel_rfl) (by kernel_rfl) (fun _ _ _ h => h) ⟨Or.inl ⟨by kernel_rfl, fun w9 => by go_simp⟩, fun _ => rfl⟩ ?_
  try simp only [Act.put, sA, sB, sC]
  refine wpAnyIn_take (i := 2) (oi := { dst := some 7, op := Op.nilCheck (Operand.tmp 6), type := 0, pos := "names.go:78", after := #[{ on := 1, ground := Ground.data }], guard := none }) (v := .pointer (some ⟨b, o, none⟩)) rfl rfl (by kernel_rfl) (by kernel_rfl) (by kernel_rfl) (fun _ _ _ h => h) ⟨Or.inl ⟨by kernel_rfl, fun w9 => by go_simp⟩, fun _ => rfl⟩ ?_
  try simp only [Act.put, sA, sB, sC]
  refine wpAnyIn_take (i := 3) (oi := { dst := some 8, op := Op.fieldAddr 59 (Operand.tmp 7) 0, type := 0, pos := "names.go:78", after := #[{ on := 2, ground := Ground.data }], guard := none }) (v := .pointer (some ⟨b, o, none⟩)) rfl rfl (by kernel_rfl) (by kernel_rfl) (by kernel_rfl) (fun _ _ _ h => h) ⟨Or.inl ⟨by kernel_rfl, fun w9 => by go_simp⟩, fun _ => rfl⟩ ?_
  try simp only [Act.put, sA, sB, sC]
  refine wpAnyIn_ready (rs := [0]) (by kernel_rfl) (by simp) ?_
  refine AllReadyIn.cons (o := { dst := some 5, op := Op.load 107 (Operand.tmp 1), type := 107, pos := "names.go:78", after := #[], guard := none }) rfl (fun K hK => ?_) ?_
  · go_simp
    refine hK _ _ ?_
    clear hK K
    try simp only [Act.put, sA, sB, sC]
    refine wpAnyIn_ready (rs := [4]) (by kernel_rfl) (by simp) ?_
    refine AllReadyIn.cons (o := { dst := some 9, op := Op.call { callee := Callee.value (Operand.tmp 5), args := #[Operand.const (Value.int IntKind.i64 2), Operand.tmp 8], argTypes := #[3, 73] }, type := 4, pos := "names.go:78", after := #[{ on := 0, ground := Ground.data }, { on := 3, ground := Ground.data }], guard := none }) rfl (fun K hK => ?_) ?_
    · go_simp
      refine (RoundIn.deep rfl HRR.out).mono ?_
      rintro e X (⟨rfl, hj, hf⟩ | ⟨rfl, hj⟩)
      · skip
        have HF := Lib.hid (HF.out.trans hf)
        have z1 := (hf.firm _ _ _ HV.out rfl).cell 0
        have hk1 := HK.out 1 X hj
        have HC := Lib.hid (ver_any l b (o + 1) Bf s.k (fun k => J (k + 1)) Jx HY.out.tail X (hf.firm _ _ _ HB.out rfl) hk1 hj)
        clear hj hf z0 hy HRR
        go_simp
        refine hK _ _ ?_
        clear hK K
        try simp only [Act.put, sA, sB, sC]
        refine wpAnyIn_take (i := 5) (oi := { dst := some 10, op := Op.move (Operand.tmp 9), type := 4, pos := "names.go:78", after := #[{ on := 4, ground := Ground.data }, { on := 4, ground := Ground.chain }], guard := none }) (v := .bool true) rfl rfl (by kernel_rfl) (by kernel_rfl) (by kernel_rfl) (fun _ _ _ h => h) ⟨Or.inl ⟨by kernel_rfl, fun w9 => by go_simp⟩, fun _ => rfl⟩ ?_
        try simp only [Act.put, sA, sB, sC]
        refine wpAnyIn_take (i := 7) (oi := { dst := some 12, op := Op.move (Operand.tmp 0), type := 153, pos := "names.go:78", after := #[{ on := 5, ground := Ground.guard }], guard := some (5, true) }) (v := .pointer (some ⟨b, o, none⟩)) rfl rfl (by kernel_rfl) (by kernel_rfl) (by kernel_rfl) (fun _ _ _ h => h) ⟨Or.inl ⟨by kernel_rfl, fun w9 => by go_simp⟩, fun _ => rfl⟩ ?_
        try simp only [Act.put, sA, sB, sC]
        refine wpAnyIn_take (i := 8) (oi := { dst := some 13, op := Op.nilCheck (Operand.tmp 12), type := 0, pos := "names.go:78", after := #[{ on := 7, ground := Ground.data }, { on := 5, ground := Ground.guard }], guard := some (5, true) }) (v := .pointer (some ⟨b, o, none⟩)) rfl rfl (by kernel_rfl) (by kernel_rfl) (by kernel_rfl) (fun _ _ _ h => h) ⟨Or.inl ⟨by kernel_rfl, fun w9 => by go_simp⟩, fun _ => rfl⟩ ?_
        try simp only [Act.put, sA, sB, sC]
        refine wpAnyIn_take (i := 9) (oi := { dst := some 14, op := Op.fieldAddr 59 (Operand.tmp 13) 1, type := 0, pos := "names.go:78", after := #[{ on := 8, ground := Ground.data }, { on := 5, ground := Ground.guard }], guard := some (5, true) }) (v := .pointer (some ⟨b, o + 1, none⟩)) rfl rfl (by kernel_rfl) (by kernel_rfl) (by kernel_rfl) (fun _ _ _ h => h) ⟨Or.inl ⟨by kernel_rfl, fun w9 => by go_simp⟩, fun _ => rfl⟩ ?_
        try simp only [Act.put, sA, sB, sC]
        refine wpAnyIn_ready (rs := [6]) (by kernel_rfl) (by simp) ?_
        refine AllReadyIn.cons (o := { dst := some 11, op := Op.load 151 (Operand.tmp 2), type := 151, pos := "names.go:78", after := #[{ on := 5, ground := Ground.guard }], guard := some (5, true) }) rfl (fun K hK => ?_) ?_
        · go_simp
          refine hK _ _ ?_
          clear hK K
          try simp only [Act.put, sA, sB, sC]
          refine wpAnyIn_ready (rs := [10]) (by kernel_rfl) (by simp) ?_
          refine AllReadyIn.cons (o := { dst := some 15, op := Op.call { callee := Callee.value (Operand.tmp 11), args := #[Operand.tmp 14], argTypes := #[150] }, type := 4, pos := "names.go:78", after := #[{ on := 6, ground := Ground.data }, { on := 9, ground := Ground.data }, { on := 5, ground := Ground.chain }, { on := 5, ground := Ground.guard }], guard := some (5, true) }) rfl (fun K hK => ?_) ?_
          · go_simp
            refine ⟨trivial, (callsIn_wide.2 HC.out).mono ?_⟩
            rintro e Y (⟨rfl, hj, hf⟩ | ⟨rfl, hj⟩)
            · skip
              have HX : Hid (PushIs (qS b o s) J Jx W (.returned (.bool true)) Y) := .inl ⟨rfl, hj, HF.out.trans hf⟩
              clear hj hf z1 HC
              go_simp
              refine hK _ _ ?_
              clear hK K
              try simp only [Act.put, sA, sB, sC]
              refine wpAnyIn_take (i := 11) (oi := { dst := some 16, op := Op.pick (Operand.tmp 10) (Operand.tmp 15) (Operand.const (Value.bool false)), type := 4, pos := "names.go:78", after := #[{ on := 5, ground := Ground.data }, { on := 10, ground := Ground.data }], guard := none }) (v := .bool true) rfl rfl (by kernel_rfl) (by kernel_rfl) (by kernel_rfl) (fun _ _ _ h => h) ⟨Or.inl ⟨by kernel_rfl, fun w9 => by go_simp⟩, fun _ => rfl⟩ ?_
              try simp only [Act.put, sA, sB, sC]
              refine wpAnyIn_take (i := 12) (oi := { dst := some 4, op := Op.assign (Operand.tmp 16), type := 4, pos := "names.go:78", after := #[{ on := 11, ground := Ground.data }, { on := 10, ground := Ground.chain }, { on := 0, ground := Ground.phase }, { on := 1, ground := Ground.phase }, { on := 2, ground := Ground.phase }, { on := 3, ground := Ground.phase }, { on := 4, ground := Ground.phase }, { on := 5, ground := Ground.phase }, { on := 6, ground := Ground.phase }, { on := 7, ground := Ground.phase }, { on := 8, ground := Ground.phase }, { on := 9, ground := Ground.phase }, { on := 10, ground := Ground.phase }, { on := 11, ground := Ground.phase }], guard := none }) (v := .bool true) rfl rfl (by kernel_rfl) (by kernel_rfl) (by kernel_rfl) (fun _ _ _ h => h) ⟨Or.inl ⟨by kernel_rfl, fun w9 => by go_simp⟩, fun _ => rfl⟩ ?_
              try simp only [Act.put, sA, sB, sC]
              refine wpAnyIn_done (by kernel_rfl) ?_ _
              gi_wp2_with fail
              go_ret
              exact HX.out
            · skip
              have HX : Hid (PushIs (qS b o s) J Jx W (.returned (.bool false)) Y) := .inr ⟨rfl, hj⟩
              clear hj z1 HC
              go_simp
              refine hK _ _ ?_
              clear hK K
              try simp only [Act.put, sA, sB, sC]
              refine wpAnyIn_take (i := 11) (oi := { dst := some 16, op := Op.pick (Operand.tmp 10) (Operand.tmp 15) (Operand.const (Value.bool false)), type := 4, pos := "names.go:78", after := #[{ on := 5, ground := Ground.data }, { on := 10, ground := Ground.data }], guard := none }) (v := .bool false) rfl rfl (by kernel_rfl) (by kernel_rfl) (by kernel_rfl) (fun _ _ _ h => h) ⟨Or.inl ⟨by kernel_rfl, fun w9 => by go_simp⟩, fun _ => rfl⟩ ?_
              try simp only [Act.put, sA, sB, sC]
              refine wpAnyIn_take (i := 12) (oi := { dst := some 4, op := Op.assign (Operand.tmp 16), type := 4, pos := "names.go:78", after := #[{ on := 11, ground := Ground.data }, { on := 10, ground := Ground.chain }, { on := 0, ground := Ground.phase }, { on := 1, ground := Ground.phase }, { on := 2, ground := Ground.phase }, { on := 3, ground := Ground.phase }, { on := 4, ground := Ground.phase }, { on := 5, ground := Ground.phase }, { on := 6, ground := Ground.phase }, { on := 7, ground := Ground.phase }, { on := 8, ground := Ground.phase }, { on := 9, ground := Ground.phase }, { on := 10, ground := Ground.phase }, { on := 11, ground := Ground.phase }], guard := none }) (v := .bool false) rfl rfl (by kernel_rfl) (by kernel_rfl) (by kernel_rfl) (fun _ _ _ h => h) ⟨Or.inl ⟨by kernel_rfl, fun w9 => by go_simp⟩, fun _ => rfl⟩ ?_
              try simp only [Act.put, sA, sB, sC]
              refine wpAnyIn_done (by kernel_rfl) ?_ _
              gi_wp2_with fail
              go_ret
              exact HX.out
          exact AllReadyIn.nil
        exact AllReadyIn.nil
      · skip
        have HX : Hid (PushIs (qS b o s) J Jx W (.returned (.bool false)) X) := .inr ⟨rfl, hj⟩
        clear hj z0 hy HRR
        go_simp
        refine hK _ _ ?_
        clear hK K
        try simp only [Act.put, sA, sB, sC]
        refine wpAnyIn_take (i := 5) (oi := { dst := some 10, op := Op.move (Operand.tmp 9), type := 4, pos := "names.go:78", after := #[{ on := 4, ground := Ground.data }, { on := 4, ground := Ground.chain }], guard := none }) (v := .bool false) rfl rfl (by kernel_rfl) (by kernel_rfl) (by kernel_rfl) (fun _ _ _ h => h) ⟨Or.inl ⟨by kernel_rfl, fun w9 => by go_simp⟩, fun _ => rfl⟩ ?_
        try simp only [Act.put, sA, sB, sC]
        refine wpAnyIn_take (i := 6) (oi := { dst := some 11, op := Op.load 151 (Operand.tmp 2), type := 151, pos := "names.go:78", after := #[{ on := 5, ground := Ground.guard }], guard := some (5, true) }) (v := undef) rfl rfl (by kernel_rfl) (by kernel_rfl) (by kernel_rfl) (fun _ _ _ h => h) ⟨Or.inr ⟨by kernel_rfl, rfl⟩, fun _ => rfl⟩ ?_
        try simp only [Act.put, sA, sB, sC]
        refine wpAnyIn_take (i := 7) (oi := { dst := some 12, op := Op.move (Operand.tmp 0), type := 153, pos := "names.go:78", after := #[{ on := 5, ground := Ground.guard }], guard := some (5, true) }) (v := undef) rfl rfl (by kernel_rfl) (by kernel_rfl) (by kernel_rfl) (fun _ _ _ h => h) ⟨Or.inr ⟨by kernel_rfl, rfl⟩, fun _ => rfl⟩ ?_
        try simp only [Act.put, sA, sB, sC]
        refine wpAnyIn_take (i := 8) (oi := { dst := some 13, op := Op.nilCheck (Operand.tmp 12), type := 0, pos := "names.go:78", after := #[{ on := 7, ground := Ground.data }, { on := 5, ground := Ground.guard }], guard := some (5, true) }) (v := undef) rfl rfl (by kernel_rfl) (by kernel_rfl) (by kernel_rfl) (fun _ _ _ h => h) ⟨Or.inr ⟨by kernel_rfl, rfl⟩, fun _ => rfl⟩ ?_
        try simp only [Act.put, sA, sB, sC]
        refine wpAnyIn_take (i := 9) (oi := { dst := some 14, op := Op.fieldAddr 59 (Operand.tmp 13) 1, type := 0, pos := "names.go:78", after := #[{ on := 8, ground := Ground.data }, { on := 5, ground := Ground.guard }], guard := some (5, true) }) (v := undef) rfl rfl (by kernel_rfl) (by kernel_rfl) (by kernel_rfl) (fun _ _ _ h => h) ⟨Or.inr ⟨by kernel_rfl, rfl⟩, fun _ => rfl⟩ ?_
        try simp only [Act.put, sA, sB, sC]
        refine wpAnyIn_take (i := 10) (oi := { dst := some 15, op := Op.call { callee := Callee.value (Operand.tmp 11), args := #[Operand.tmp 14], argTypes := #[150] }, type := 4, pos := "names.go:78", after := #[{ on := 6, ground := Ground.data }, { on := 9, ground := Ground.data }, { on := 5, ground := Ground.chain }, { on := 5, ground := Ground.guard }], guard := some (5, true) }) (v := undef) rfl rfl (by kernel_rfl) (by kernel_rfl) (by kernel_rfl) (fun _ _ _ h => h) ⟨Or.inr ⟨by kernel_rfl, rfl⟩, fun _ => rfl⟩ ?_
        try simp only [Act.put, sA, sB, sC]
        refine wpAnyIn_take (i := 11) (oi := { dst := some 16, op := Op.pick (Operand.tmp 10) (Operand.tmp 15) (Operand.const (Value.bool false)), type := 4, pos := "names.go:78", after := #[{ on := 5, ground := Ground.data }, { on := 10, ground := Ground.data }], guard := none }) (v := .bool false) rfl rfl (by kernel_rfl) (by kernel_rfl) (by kernel_rfl) (fun _ _ _ h => h) ⟨Or.inl ⟨by kernel_rfl, fun w9 => by go_simp⟩, fun _ => rfl⟩ ?_
        try simp only [Act.put, sA, sB, sC]
        refine wpAnyIn_take (i := 12) (oi := { dst := some 4, op := Op.assign (Operand.tmp 16), type := 4, pos := "names.go:78", after := #[{ on := 11, ground := Ground.data }, { on := 10, ground := Ground.chain }, { on := 0, ground := Ground.phase }, { on := 1, ground := Ground.phase }, { on := 2, ground := Ground.phase }, { on := 3, ground := Ground.phase }, { on := 4, ground := Ground.phase }, { on := 5, ground := Ground.phase }, { on := 6, ground := Ground.phase }, { on := 7, ground := Ground.phase }, { on := 8, ground := Ground.phase }, { on := 9, ground := Ground.phase }, { on := 10, ground := Ground.phase }, { on := 11, ground := Ground.phase }], guard := none }) (v := .bool false) rfl rfl (by kernel_rfl) (by kernel_rfl) (by kernel_rfl) (fun _ _ _ h => h) ⟨Or.inl ⟨by kernel_rfl, fun w9 => by go_simp⟩, fun _ => rfl⟩ ?_
        try simp only [Act.put, sA, sB, sC]
        refine wpAnyIn_done (by kernel_rfl) ?_ _
        gi_wp2_with fail
        go_ret
        exact HX.out
    exact AllReadyIn.nil
  exact AllReadyIn.nil
theorem eg_seen : ∀ args w, (callFunc 106 args).run Tryz.prog w = .ok (.enter 106 args) w := enters_of Tryz.func106 (by kernel_rfl) rfl

set_option maxHeartbeats 4000000 in
theorem od_any (l b o Bf Bv : Nat) (A : Option Addr) (n c : Nat) (ts : List Int) (hl : ts.length = n ∧ (0 < n → ∃ b o, A = some ⟨b, o, none⟩)) (hn : n ≤ 1000000) (J : Nat → World → Prop) (Jx : World → Prop) (hY : YS l ((2, ⟨b, o, none⟩) :: plT ⟨A, n, c⟩ ts) J Jx) (W : World) (hB : Blk W Bf 107 #[.func (.yield l) #[] #[]]) (hV : Blk W Bv 53 #[.func (.func 65) #[] #[.pointer (some ⟨Bf, 0, none⟩)]]) (hK : ∀ k X, J k X → X.cell? ⟨b, o + 1, none⟩ = some (.slice A n c)) (h0 : J 0 W) :
    Calls Tryz.prog 72 #[.pointer (some ⟨b, o, none⟩), .pointer (some ⟨Bf, 0, none⟩), .pointer (some ⟨Bv, 0, none⟩)] W (PushIs ((2, ⟨b, o, none⟩) :: plT ⟨A, n, c⟩ ts) J Jx W) := by
  have z0 : W.drew.cell? ⟨Bf, 0, none⟩ = some (.func (.yield l) #[] #[]) := hB.drew.cell 0
  have hj0 := hY.bel _ _ _ h0 ((Below.refl _ _).drew)
  have HF : Hid (Fk W W.drew) := Fk.of_below ((Below.refl _ _).drew)
  obtain ⟨fn, tmps, assign, body, hy, hRR⟩ := hY.y 0 2 ⟨b, o, none⟩ _ rfl hj0 7
  rw [sn2] at hy
  have HRR := Lib.hid hRR
  have HY := Lib.hid hY
  have HB := Lib.hid hB.drew
  have HV := Lib.hid hV.drew
  have HK := Lib.hid hK
  clear hY hB hV h0 hj0 hRR hK
  refine (callsIn_wide (n := 6)).1 (callsIn_of_wp Tryz.func72 rfl trivial ?_ rfl)
  simp only [Tryz.ntmps72, List.size_toArray, List.length_cons, List.length_nil, Nat.reduceAdd, Nat.reduceSub, Array.replicate_succ, Array.replicate_zero, List.push_toArray, List.append_toArray, List.nil_append, List.cons_append]
  gi_wp2_with fail
  refine wpIn_region_any (by kernel_rfl) ?_
  change wpAnyIn _ _ _ _ _ _ _ _ _ W.drew
  generalize W.drew = Wd at *
  refine wpAnyIn_take (i := 1) (oi := { dst := some 6, op := Op.move (Operand.tmp 0), type := 115, pos := "names.go:53", after := #[], guard := none }) (v := .pointer (some ⟨b, o, none⟩)) rfl rfl (by kernel_rfl) (by kernel_rfl) (by kernel_rfl) (fun _ _ _ h => h) ⟨Or.inl ⟨by kernel_rfl, fun w9 => by go_simp⟩, fun _ => rfl⟩ ?_
  try simp only [Act.put, sA, sB, sC]
  refine wpAnyIn_take (i := 2) (oi := { dst := some 7, op := Op.nilCheck (Operand.tmp 6), type := 0, pos := "names.go:53", after := #[{ on := 1, ground := Ground.data }], guard := none }) (v := .pointer (some ⟨b, o, none⟩)) rfl rfl (by kernel_rfl) (by kernel_rfl) (by kernel_rfl) (fun _ _ _ h => h) ⟨Or.inl ⟨by kernel_rfl, fun w9 => by go_simp⟩, fun _ => rfl⟩ ?_
  try simp only [Act.put, sA, sB, sC]
  refine wpAnyIn_take (i := 3) (oi := { dst := some 8, op := Op.fieldAddr 61 (Operand.tmp 7) 0, type := 0, pos := "names.go:53", after := #[{ on := 2, ground := Ground.data }], guard := none }) (v := .pointer (some ⟨b, o, none⟩)) rfl rfl (by kernel_rfl) (by kernel_rfl) (by kernel_rfl) (fun _ _ _ h => h) ⟨Or.inl ⟨by kernel_rfl, fun w9 => by go_simp⟩, fun _ => rfl⟩ ?_
  try simp only [Act.put, sA, sB, sC]
  refine wpAnyIn_ready (rs := [0]) (by kernel_rfl) (by simp) ?_
  refine AllReadyIn.cons (o := { dst := some 5, op := Op.load 107 (Operand.tmp 1), type := 107, pos := "names.go:53", after := #[], guard := none }) rfl (fun K hK => ?_) ?_
  · go_simp
    refine hK _ _ ?_
    clear hK K
    try simp only [Act.put, sA, sB, sC]
    refine wpAnyIn_ready (rs := [4]) (by kernel_rfl) (by simp) ?_
    refine AllReadyIn.cons (o := { dst := some 9, op := Op.call { callee := Callee.value (Operand.tmp 5), args := #[Operand.const (Value.int IntKind.i64 2), Operand.tmp 8], argTypes := #[3, 73] }, type := 4, pos := "names.go:53", after := #[{ on := 0, ground := Ground.data }, { on := 3, ground := Ground.data }], guard := none }) rfl (fun K hK => ?_) ?_
    · go_simp
      refine (RoundIn.deep rfl HRR.out).mono ?_
      rintro e X (⟨rfl, hj, hf⟩ | ⟨rfl, hj⟩)
      · skip
        have HF := Lib.hid (HF.out.trans hf)
        have z1 := (hf.firm _ _ _ HV.out rfl).cell 0
        have hk1 := HK.out 1 X hj
        have HC := Lib.hid (ts_any l A n c ts hl hn Bf (fun k => J (k + 1)) Jx HY.out.tail X (hf.firm _ _ _ HB.out rfl) hj)
        clear hj hf z0 hy HRR
        go_simp
        refine hK _ _ ?_
        clear hK K
        try simp only [Act.put, sA, sB, sC]
        refine wpAnyIn_take (i := 5) (oi := { dst := some 10, op := Op.move (Operand.tmp 9), type := 4, pos := "names.go:53", after := #[{ on := 4, ground := Ground.data }, { on := 4, ground := Ground.chain }], guard := none }) (v := .bool true) rfl rfl (by kernel_rfl) (by kernel_rfl) (by kernel_rfl) (fun _ _ _ h => h) ⟨Or.inl ⟨by kernel_rfl, fun w9 => by go_simp⟩, fun _ => rfl⟩ ?_
        try simp only [Act.put, sA, sB, sC]
        refine wpAnyIn_take (i := 7) (oi := { dst := some 12, op := Op.move (Operand.tmp 0), type := 115, pos := "names.go:53", after := #[{ on := 5, ground := Ground.guard }], guard := some (5, true) }) (v := .pointer (some ⟨b, o, none⟩)) rfl rfl (by kernel_rfl) (by kernel_rfl) (by kernel_rfl) (fun _ _ _ h => h) ⟨Or.inl ⟨by kernel_rfl, fun w9 => by go_simp⟩, fun _ => rfl⟩ ?_
        try simp only [Act.put, sA, sB, sC]
        refine wpAnyIn_take (i := 8) (oi := { dst := some 13, op := Op.nilCheck (Operand.tmp 12), type := 0, pos := "names.go:53", after := #[{ on := 7, ground := Ground.data }, { on := 5, ground := Ground.guard }], guard := some (5, true) }) (v := .pointer (some ⟨b, o, none⟩)) rfl rfl (by kernel_rfl) (by kernel_rfl) (by kernel_rfl) (fun _ _ _ h => h) ⟨Or.inl ⟨by kernel_rfl, fun w9 => by go_simp⟩, fun _ => rfl⟩ ?_
        try simp only [Act.put, sA, sB, sC]
        refine wpAnyIn_take (i := 9) (oi := { dst := some 14, op := Op.fieldAddr 61 (Operand.tmp 13) 1, type := 0, pos := "names.go:53", after := #[{ on := 8, ground := Ground.data }, { on := 5, ground := Ground.guard }], guard := some (5, true) }) (v := .pointer (some ⟨b, o + 1, none⟩)) rfl rfl (by kernel_rfl) (by kernel_rfl) (by kernel_rfl) (fun _ _ _ h => h) ⟨Or.inl ⟨by kernel_rfl, fun w9 => by go_simp⟩, fun _ => rfl⟩ ?_
        try simp only [Act.put, sA, sB, sC]
        refine wpAnyIn_ready (rs := [6, 10]) (by kernel_rfl) (by simp) ?_
        refine AllReadyIn.cons (o := { dst := some 11, op := Op.load 53 (Operand.tmp 2), type := 53, pos := "names.go:53", after := #[{ on := 5, ground := Ground.guard }], guard := some (5, true) }) rfl (fun K hK => ?_) ?_
        · go_simp
          refine hK _ _ ?_
          clear hK K
          try simp only [Act.put, sA, sB, sC]
          refine wpAnyIn_ready (rs := [10]) (by kernel_rfl) (by simp) ?_
          refine AllReadyIn.cons (o := { dst := some 15, op := Op.load 45 (Operand.tmp 14), type := 45, pos := "names.go:53", after := #[{ on := 9, ground := Ground.data }, { on := 5, ground := Ground.guard }], guard := some (5, true) }) rfl (fun K hK => ?_) ?_
          · go_simp
            refine hK _ _ ?_
            clear hK K
            try simp only [Act.put, sA, sB, sC]
            refine wpAnyIn_ready (rs := [11]) (by kernel_rfl) (by simp) ?_
            refine AllReadyIn.cons (o := { dst := some 16, op := Op.call { callee := Callee.value (Operand.tmp 11), args := #[Operand.tmp 15], argTypes := #[45] }, type := 4, pos := "names.go:53", after := #[{ on := 6, ground := Ground.data }, { on := 10, ground := Ground.data }, { on := 5, ground := Ground.chain }, { on := 5, ground := Ground.guard }], guard := some (5, true) }) rfl (fun K hK => ?_) ?_
            · go_simp
              refine ⟨trivial, (callsIn_wide.2 HC.out).mono ?_⟩
              rintro e Y (⟨rfl, hj, hf⟩ | ⟨rfl, hj⟩)
              · skip
                have HX : Hid (PushIs ((2, ⟨b, o, none⟩) :: plT ⟨A, n, c⟩ ts) J Jx W (.returned (.bool true)) Y) := .inl ⟨rfl, hj, HF.out.trans hf⟩
                clear hj hf z1 HC
                go_simp
                refine hK _ _ ?_
                clear hK K
                try simp only [Act.put, sA, sB, sC]
                refine wpAnyIn_take (i := 12) (oi := { dst := some 17, op := Op.pick (Operand.tmp 10) (Operand.tmp 16) (Operand.const (Value.bool false)), type := 4, pos := "names.go:53", after := #[{ on := 5, ground := Ground.data }, { on := 11, ground := Ground.data }], guard := none }) (v := .bool true) rfl rfl (by kernel_rfl) (by kernel_rfl) (by kernel_rfl) (fun _ _ _ h => h) ⟨Or.inl ⟨by kernel_rfl, fun w9 => by go_simp⟩, fun _ => rfl⟩ ?_
                try simp only [Act.put, sA, sB, sC]
                refine wpAnyIn_take (i := 13) (oi := { dst := some 4, op := Op.assign (Operand.tmp 17), type := 4, pos := "names.go:53", after := #[{ on := 12, ground := Ground.data }, { on := 11, ground := Ground.chain }, { on := 0, ground := Ground.phase }, { on := 1, ground := Ground.phase }, { on := 2, ground := Ground.phase }, { on := 3, ground := Ground.phase }, { on := 4, ground := Ground.phase }, { on := 5, ground := Ground.phase }, { on := 6, ground := Ground.phase }, { on := 7, ground := Ground.phase }, { on := 8, ground := Ground.phase }, { on := 9, ground := Ground.phase }, { on := 10, ground := Ground.phase }, { on := 11, ground := Ground.phase }, { on := 12, ground := Ground.phase }], guard := none }) (v := .bool true) rfl rfl (by kernel_rfl) (by kernel_rfl) (by kernel_rfl) (fun _ _ _ h => h) ⟨Or.inl ⟨by kernel_rfl, fun w9 => by go_simp⟩, fun _ => rfl⟩ ?_
                try simp only [Act.put, sA, sB, sC]
                refine wpAnyIn_done (by kernel_rfl) ?_ _
                gi_wp2_with fail
                go_ret
                exact HX.out
              · skip
                have HX : Hid (PushIs ((2, ⟨b, o, none⟩) :: plT ⟨A, n, c⟩ ts) J Jx W (.returned (.bool false)) Y) := .inr ⟨rfl, hj⟩
                clear hj z1 HC
                go_simp
                refine hK _ _ ?_
                clear hK K
                try simp only [Act.put, sA, sB, sC]
                refine wpAnyIn_take (i := 12) (oi := { dst := some 17, op := Op.pick (Operand.tmp 10) (Operand.tmp 16) (Operand.const (Value.bool false)), type := 4, pos := "names.go:53", after := #[{ on := 5, ground := Ground.data }, { on := 11, ground := Ground.data }], guard := none }) (v := .bool false) rfl rfl (by kernel_rfl) (by kernel_rfl) (by kernel_rfl) (fun _ _ _ h => h) ⟨Or.inl ⟨by kernel_rfl, fun w9 => by go_simp⟩, fun _ => rfl⟩ ?_
                try simp only [Act.put, sA, sB, sC]
                refine wpAnyIn_take (i := 13) (oi := { dst := some 4, op := Op.assign (Operand.tmp 17), type := 4, pos := "names.go:53", after := #[{ on := 12, ground := Ground.data }, { on := 11, ground := Ground.chain }, { on := 0, ground := Ground.phase }, { on := 1, ground := Ground.phase }, { on := 2, ground := Ground.phase }, { on := 3, ground := Ground.phase }, { on := 4, ground := Ground.phase }, { on := 5, ground := Ground.phase }, { on := 6, ground := Ground.phase }, { on := 7, ground := Ground.phase }, { on := 8, ground := Ground.phase }, { on := 9, ground := Ground.phase }, { on := 10, ground := Ground.phase }, { on := 11, ground := Ground.phase }, { on := 12, ground := Ground.phase }], guard := none }) (v := .bool false) rfl rfl (by kernel_rfl) (by kernel_rfl) (by kernel_rfl) (fun _ _ _ h => h) ⟨Or.inl ⟨by kernel_rfl, fun w9 => by go_simp⟩, fun _ => rfl⟩ ?_
                try simp only [Act.put, sA, sB, sC]
                refine wpAnyIn_done (by kernel_rfl) ?_ _
                gi_wp2_with fail
                go_ret
                exact HX.out
            exact AllReadyIn.nil
          exact AllReadyIn.nil
        refine AllReadyIn.cons (o := { dst := some 15, op := Op.load 45 (Operand.tmp 14), type := 45, pos := "names.go:53", after := #[{ on := 9, ground := Ground.data }, { on := 5, ground := Ground.guard }], guard := some (5, true) }) rfl (fun K hK => ?_) ?_
        · go_simp
          refine hK _ _ ?_
          clear hK K
          try simp only [Act.put, sA, sB, sC]
          refine wpAnyIn_ready (rs := [6]) (by kernel_rfl) (by simp) ?_
          refine AllReadyIn.cons (o := { dst := some 11, op := Op.load 53 (Operand.tmp 2), type := 53, pos := "names.go:53", after := #[{ on := 5, ground := Ground.guard }], guard := some (5, true) }) rfl (fun K hK => ?_) ?_
          · go_simp
            refine hK _ _ ?_
            clear hK K
            try simp only [Act.put, sA, sB, sC]
            refine wpAnyIn_ready (rs := [11]) (by kernel_rfl) (by simp) ?_
            refine AllReadyIn.cons (o := { dst := some 16, op := Op.call { callee := Callee.value (Operand.tmp 11), args := #[Operand.tmp 15], argTypes := #[45] }, type := 4, pos := "names.go:53", after := #[{ on := 6, ground := Ground.data }, { on := 10, ground := Ground.data }, { on := 5, ground := Ground.chain }, { on := 5, ground := Ground.guard }], guard := some (5, true) }) rfl (fun K hK => ?_) ?_
            · go_simp
              refine ⟨trivial, (callsIn_wide.2 HC.out).mono ?_⟩
              rintro e Y (⟨rfl, hj, hf⟩ | ⟨rfl, hj⟩)
              · skip
                have HX : Hid (PushIs ((2, ⟨b, o, none⟩) :: plT ⟨A, n, c⟩ ts) J Jx W (.returned (.bool true)) Y) := .inl ⟨rfl, hj, HF.out.trans hf⟩
                clear hj hf z1 HC
                go_simp
                refine hK _ _ ?_
                clear hK K
                try simp only [Act.put, sA, sB, sC]
                refine wpAnyIn_take (i := 12) (oi := { dst := some 17, op := Op.pick (Operand.tmp 10) (Operand.tmp 16) (Operand.const (Value.bool false)), type := 4, pos := "names.go:53", after := #[{ on := 5, ground := Ground.data }, { on := 11, ground := Ground.data }], guard := none }) (v := .bool true) rfl rfl (by kernel_rfl) (by kernel_rfl) (by kernel_rfl) (fun _ _ _ h => h) ⟨Or.inl ⟨by kernel_rfl, fun w9 => by go_simp⟩, fun _ => rfl⟩ ?_
                try simp only [Act.put, sA, sB, sC]
                refine wpAnyIn_take (i := 13) (oi := { dst := some 4, op := Op.assign (Operand.tmp 17), type := 4, pos := "names.go:53", after := #[{ on := 12, ground := Ground.data }, { on := 11, ground := Ground.chain }, { on := 0, ground := Ground.phase }, { on := 1, ground := Ground.phase }, { on := 2, ground := Ground.phase }, { on := 3, ground := Ground.phase }, { on := 4, ground := Ground.phase }, { on := 5, ground := Ground.phase }, { on := 6, ground := Ground.phase }, { on := 7, ground := Ground.phase }, { on := 8, ground := Ground.phase }, { on := 9, ground := Ground.phase }, { on := 10, ground := Ground.phase }, { on := 11, ground := Ground.phase }, { on := 12, ground := Ground.phase }], guard := none }) (v := .bool true) rfl rfl (by kernel_rfl) (by kernel_rfl) (by kernel_rfl) (fun _ _ _ h => h) ⟨Or.inl ⟨by kernel_rfl, fun w9 => by go_simp⟩, fun _ => rfl⟩ ?_
                try simp only [Act.put, sA, sB, sC]
                refine wpAnyIn_done (by kernel_rfl) ?_ _
                gi_wp2_with fail
                go_ret
                exact HX.out
              · skip
                have HX : Hid (PushIs ((2, ⟨b, o, none⟩) :: plT ⟨A, n, c⟩ ts) J Jx W (.returned (.bool false)) Y) := .inr ⟨rfl, hj⟩
                clear hj z1 HC
                go_simp
                refine hK _ _ ?_
                clear hK K
                try simp only [Act.put, sA, sB, sC]
                refine wpAnyIn_take (i := 12) (oi := { dst := some 17, op := Op.pick (Operand.tmp 10) (Operand.tmp 16) (Operand.const (Value.bool false)), type := 4, pos := "names.go:53", after := #[{ on := 5, ground := Ground.data }, { on := 11, ground := Ground.data }], guard := none }) (v := .bool false) rfl rfl (by kernel_rfl) (by kernel_rfl) (by kernel_rfl) (fun _ _ _ h => h) ⟨Or.inl ⟨by kernel_rfl, fun w9 => by go_simp⟩, fun _ => rfl⟩ ?_
                try simp only [Act.put, sA, sB, sC]
                refine wpAnyIn_take (i := 13) (oi := { dst := some 4, op := Op.assign (Operand.tmp 17), type := 4, pos := "names.go:53", after := #[{ on := 12, ground := Ground.data }, { on := 11, ground := Ground.chain }, { on := 0, ground := Ground.phase }, { on := 1, ground := Ground.phase }, { on := 2, ground := Ground.phase }, { on := 3, ground := Ground.phase }, { on := 4, ground := Ground.phase }, { on := 5, ground := Ground.phase }, { on := 6, ground := Ground.phase }, { on := 7, ground := Ground.phase }, { on := 8, ground := Ground.phase }, { on := 9, ground := Ground.phase }, { on := 10, ground := Ground.phase }, { on := 11, ground := Ground.phase }, { on := 12, ground := Ground.phase }], guard := none }) (v := .bool false) rfl rfl (by kernel_rfl) (by kernel_rfl) (by kernel_rfl) (fun _ _ _ h => h) ⟨Or.inl ⟨by kernel_rfl, fun w9 => by go_simp⟩, fun _ => rfl⟩ ?_
                try simp only [Act.put, sA, sB, sC]
                refine wpAnyIn_done (by kernel_rfl) ?_ _
                gi_wp2_with fail
                go_ret
                exact HX.out
            exact AllReadyIn.nil
          exact AllReadyIn.nil
        exact AllReadyIn.nil
      · skip
        have HX : Hid (PushIs ((2, ⟨b, o, none⟩) :: plT ⟨A, n, c⟩ ts) J Jx W (.returned (.bool false)) X) := .inr ⟨rfl, hj⟩
        clear hj z0 hy HRR
        go_simp
        refine hK _ _ ?_
        clear hK K
        try simp only [Act.put, sA, sB, sC]
        refine wpAnyIn_take (i := 5) (oi := { dst := some 10, op := Op.move (Operand.tmp 9), type := 4, pos := "names.go:53", after := #[{ on := 4, ground := Ground.data }, { on := 4, ground := Ground.chain }], guard := none }) (v := .bool false) rfl rfl (by kernel_rfl) (by kernel_rfl) (by kernel_rfl) (fun _ _ _ h => h) ⟨Or.inl ⟨by kernel_rfl, fun w9 => by go_simp⟩, fun _ => rfl⟩ ?_
        try simp only [Act.put, sA, sB, sC]
        refine wpAnyIn_take (i := 6) (oi := { dst := some 11, op := Op.load 53 (Operand.tmp 2), type := 53, pos := "names.go:53", after := #[{ on := 5, ground := Ground.guard }], guard := some (5, true) }) (v := undef) rfl rfl (by kernel_rfl) (by kernel_rfl) (by kernel_rfl) (fun _ _ _ h => h) ⟨Or.inr ⟨by kernel_rfl, rfl⟩, fun _ => rfl⟩ ?_
        try simp only [Act.put, sA, sB, sC]
        refine wpAnyIn_take (i := 7) (oi := { dst := some 12, op := Op.move (Operand.tmp 0), type := 115, pos := "names.go:53", after := #[{ on := 5, ground := Ground.guard }], guard := some (5, true) }) (v := undef) rfl rfl (by kernel_rfl) (by kernel_rfl) (by kernel_rfl) (fun _ _ _ h => h) ⟨Or.inr ⟨by kernel_rfl, rfl⟩, fun _ => rfl⟩ ?_
        try simp only [Act.put, sA, sB, sC]
        refine wpAnyIn_take (i := 8) (oi := { dst := some 13, op := Op.nilCheck (Operand.tmp 12), type := 0, pos := "names.go:53", after := #[{ on := 7, ground := Ground.data }, { on := 5, ground := Ground.guard }], guard := some (5, true) }) (v := undef) rfl rfl (by kernel_rfl) (by kernel_rfl) (by kernel_rfl) (fun _ _ _ h => h) ⟨Or.inr ⟨by kernel_rfl, rfl⟩, fun _ => rfl⟩ ?_
        try simp only [Act.put, sA, sB, sC]
        refine wpAnyIn_take (i := 9) (oi := { dst := some 14, op := Op.fieldAddr 61 (Operand.tmp 13) 1, type := 0, pos := "names.go:53", after := #[{ on := 8, ground := Ground.data }, { on := 5, ground := Ground.guard }], guard := some (5, true) }) (v := undef) rfl rfl (by kernel_rfl) (by kernel_rfl) (by kernel_rfl) (fun _ _ _ h => h) ⟨Or.inr ⟨by kernel_rfl, rfl⟩, fun _ => rfl⟩ ?_
        try simp only [Act.put, sA, sB, sC]
        refine wpAnyIn_take (i := 10) (oi := { dst := some 15, op := Op.load 45 (Operand.tmp 14), type := 45, pos := "names.go:53", after := #[{ on := 9, ground := Ground.data }, { on := 5, ground := Ground.guard }], guard := some (5, true) }) (v := undef) rfl rfl (by kernel_rfl) (by kernel_rfl) (by kernel_rfl) (fun _ _ _ h => h) ⟨Or.inr ⟨by kernel_rfl, rfl⟩, fun _ => rfl⟩ ?_
        try simp only [Act.put, sA, sB, sC]
        refine wpAnyIn_take (i := 11) (oi := { dst := some 16, op := Op.call { callee := Callee.value (Operand.tmp 11), args := #[Operand.tmp 15], argTypes := #[45] }, type := 4, pos := "names.go:53", after := #[{ on := 6, ground := Ground.data }, { on := 10, ground := Ground.data }, { on := 5, ground := Ground.chain }, { on := 5, ground := Ground.guard }], guard := some (5, true) }) (v := undef) rfl rfl (by kernel_rfl) (by kernel_rfl) (by kernel_rfl) (fun _ _ _ h => h) ⟨Or.inr ⟨by kernel_rfl, rfl⟩, fun _ => rfl⟩ ?_
        try simp only [Act.put, sA, sB, sC]
        refine wpAnyIn_take (i := 12) (oi := { dst := some 17, op := Op.pick (Operand.tmp 10) (Operand.tmp 16) (Operand.const (Value.bool false)), type := 4, pos := "names.go:53", after := #[{ on := 5, ground := Ground.data }, { on := 11, ground := Ground.data }], guard := none }) (v := .bool false) rfl rfl (by kernel_rfl) (by kernel_rfl) (by kernel_rfl) (fun _ _ _ h => h) ⟨Or.inl ⟨by kernel_rfl, fun w9 => by go_simp⟩, fun _ => rfl⟩ ?_
        try simp only [Act.put, sA, sB, sC]
        refine wpAnyIn_take (i := 13) (oi := { dst := some 4, op := Op.assign (Operand.tmp 17), type := 4, pos := "names.go:53", after := #[{ on := 12, ground := Ground.data }, { on := 11, ground := Ground.chain }, { on := 0, ground := Ground.phase }, { on := 1, ground := Ground.phase }, { on := 2, ground := Ground.phase }, { on := 3, ground := Ground.phase }, { on := 4, ground := Ground.phase }, { on := 5, ground := Ground.phase }, { on := 6, ground := Ground.phase }, { on := 7, ground := Ground.phase }, { on := 8, ground := Ground.phase }, { on := 9, ground := Ground.phase }, { on := 10, ground := Ground.phase }, { on := 11, ground := Ground.phase }, { on := 12, ground := Ground.phase }], guard := none }) (v := .bool false) rfl rfl (by kernel_rfl) (by kernel_rfl) (by kernel_rfl) (fun _ _ _ h => h) ⟨Or.inl ⟨by kernel_rfl, fun w9 => by go_simp⟩, fun _ => rfl⟩ ?_
        try simp only [Act.put, sA, sB, sC]
        refine wpAnyIn_done (by kernel_rfl) ?_ _
        gi_wp2_with fail
        go_ret
        exact HX.out
    exact AllReadyIn.nil
  exact AllReadyIn.nil
theorem eg_od : ∀ args w, (callFunc 72 args).run Tryz.prog w = .ok (.enter 72 args) w := enters_of Tryz.func72 (by kernel_rfl) rfl

set_option maxHeartbeats 2000000 in
theorem wa_any (l b o Bf : Nat) (J : Nat → World → Prop) (Jx : World → Prop) (hY : YS l ([(1, ⟨b, o, none⟩)]) J Jx) (W : World) (hB : Blk W Bf 107 #[.func (.yield l) #[] #[]]) (h0 : J 0 W) :
    Calls Tryz.prog 76 #[.pointer (some ⟨b, o, none⟩), .pointer (some ⟨Bf, 0, none⟩)] W (PushIs ([(1, ⟨b, o, none⟩)]) J Jx W) := by
  have z0 : W.drew.cell? ⟨Bf, 0, none⟩ = some (.func (.yield l) #[] #[]) := hB.drew.cell 0
  have hj0 := hY.bel _ _ _ h0 ((Below.refl _ _).drew)
  have HF : Hid (Fk W W.drew) := Fk.of_below ((Below.refl _ _).drew)
  obtain ⟨fn, tmps, assign, body, hy, hRR⟩ := hY.y 0 1 ⟨b, o, none⟩ _ rfl hj0 7
  rw [sn1] at hy
  have HRR := Lib.hid hRR
  clear hY hB h0 hj0 hRR
  refine (callsIn_wide (n := 6)).1 (callsIn_of_wp Tryz.func76 rfl trivial ?_ rfl)
  simp only [Tryz.ntmps76, List.size_toArray, List.length_cons, List.length_nil, Nat.reduceAdd, Nat.reduceSub, Array.replicate_succ, Array.replicate_zero, List.push_toArray, List.append_toArray, List.nil_append, List.cons_append]
  gi_wp2_with fail
  refine wpIn_region_any (by kernel_rfl) ?_
  change wpAnyIn _ _ _ _ _ _ _ _ _ W.drew
  generalize W.drew = Wd at *
  refine wpAnyIn_take (i := 1) (oi := { dst := some 5, op := Op.move (Operand.tmp 0), type := 121, pos := "names.go:57", after := #[], guard := none }) (v := .pointer (some ⟨b, o, none⟩)) rfl rfl (by kernel_rfl) (by kernel_rfl) (by kernel_rfl) (fun _ _ _ h => h) ⟨Or.inl ⟨by kernel_rfl, fun w9 => by go_simp⟩, fun _ => rfl⟩ ?_
  try simp only [Act.put, sA, sB, sC]
  refine wpAnyIn_take (i := 2) (oi := { dst := some 6, op := Op.nilCheck (Operand.tmp 5), type := 0, pos := "names.go:57", after := #[{ on := 1, ground := Ground.data }], guard := none }) (v := .pointer (some ⟨b, o, none⟩)) rfl rfl (by kernel_rfl) (by kernel_rfl) (by kernel_rfl) (fun _ _ _ h => h) ⟨Or.inl ⟨by kernel_rfl, fun w9 => by go_simp⟩, fun _ => rfl⟩ ?_
  try simp only [Act.put, sA, sB, sC]
  refine wpAnyIn_take (i := 3) (oi := { dst := some 7, op := Op.fieldAddr 67 (Operand.tmp 6) 0, type := 0, pos := "names.go:57", after := #[{ on := 2, ground := Ground.data }], guard := none }) (v := .pointer (some ⟨b, o, none⟩)) rfl rfl (by kernel_rfl) (by kernel_rfl) (by kernel_rfl) (fun _ _ _ h => h) ⟨Or.inl ⟨by kernel_rfl, fun w9 => by go_simp⟩, fun _ => rfl⟩ ?_
  try simp only [Act.put, sA, sB, sC]
  refine wpAnyIn_ready (rs := [0]) (by kernel_rfl) (by simp) ?_
  refine AllReadyIn.cons (o := { dst := some 4, op := Op.load 107 (Operand.tmp 1), type := 107, pos := "names.go:57", after := #[], guard := none }) rfl (fun K hK => ?_) ?_
  · go_simp
    refine hK _ _ ?_
    clear hK K
    try simp only [Act.put, sA, sB, sC]
    refine wpAnyIn_ready (rs := [4]) (by kernel_rfl) (by simp) ?_
    refine AllReadyIn.cons (o := { dst := some 8, op := Op.call { callee := Callee.value (Operand.tmp 4), args := #[Operand.const (Value.int IntKind.i64 1), Operand.tmp 7], argTypes := #[3, 73] }, type := 4, pos := "names.go:57", after := #[{ on := 0, ground := Ground.data }, { on := 3, ground := Ground.data }], guard := none }) rfl (fun K hK => ?_) ?_
    · go_simp
      refine (RoundIn.deep rfl HRR.out).mono ?_
      rintro e X (⟨rfl, hj, hf⟩ | ⟨rfl, hj⟩)
      · skip
        have HX : Hid (PushIs ([(1, ⟨b, o, none⟩)]) J Jx W (.returned (.bool true)) X) := .inl ⟨rfl, hj, HF.out.trans hf⟩
        clear hj hf z0 hy HRR
        go_simp
        refine hK _ _ ?_
        clear hK K
        try simp only [Act.put, sA, sB, sC]
        refine wpAnyIn_take (i := 5) (oi := { dst := some 3, op := Op.assign (Operand.tmp 8), type := 4, pos := "names.go:57", after := #[{ on := 4, ground := Ground.data }, { on := 4, ground := Ground.chain }, { on := 0, ground := Ground.phase }, { on := 1, ground := Ground.phase }, { on := 2, ground := Ground.phase }, { on := 3, ground := Ground.phase }, { on := 4, ground := Ground.phase }], guard := none }) (v := .bool true) rfl rfl (by kernel_rfl) (by kernel_rfl) (by kernel_rfl) (fun _ _ _ h => h) ⟨Or.inl ⟨by kernel_rfl, fun w9 => by go_simp⟩, fun _ => rfl⟩ ?_
        try simp only [Act.put, sA, sB, sC]
        refine wpAnyIn_done (by kernel_rfl) ?_ _
        gi_wp2_with fail
        go_ret
        exact HX.out
      · skip
        have HX : Hid (PushIs ([(1, ⟨b, o, none⟩)]) J Jx W (.returned (.bool false)) X) := .inr ⟨rfl, hj⟩
        clear hj z0 hy HRR
        go_simp
        refine hK _ _ ?_
        clear hK K
        try simp only [Act.put, sA, sB, sC]
        refine wpAnyIn_take (i := 5) (oi := { dst := some 3, op := Op.assign (Operand.tmp 8), type := 4, pos := "names.go:57", after := #[{ on := 4, ground := Ground.data }, { on := 4, ground := Ground.chain }, { on := 0, ground := Ground.phase }, { on := 1, ground := Ground.phase }, { on := 2, ground := Ground.phase }, { on := 3, ground := Ground.phase }, { on := 4, ground := Ground.phase }], guard := none }) (v := .bool false) rfl rfl (by kernel_rfl) (by kernel_rfl) (by kernel_rfl) (fun _ _ _ h => h) ⟨Or.inl ⟨by kernel_rfl, fun w9 => by go_simp⟩, fun _ => rfl⟩ ?_
        try simp only [Act.put, sA, sB, sC]
        refine wpAnyIn_done (by kernel_rfl) ?_ _
        gi_wp2_with fail
        go_ret
        exact HX.out
    exact AllReadyIn.nil
  exact AllReadyIn.nil
theorem eg_wa : ∀ args w, (callFunc 76 args).run Tryz.prog w = .ok (.enter 76 args) w := enters_of Tryz.func76 (by kernel_rfl) rfl

set_option maxHeartbeats 4000000 in
theorem ma_any (l b o Bf Bv : Nat) (A : Option Addr) (n c : Nat) (ts : List Int) (hl : ts.length = n ∧ (0 < n → ∃ b o, A = some ⟨b, o, none⟩)) (hn : n ≤ 1000000) (J : Nat → World → Prop) (Jx : World → Prop) (hY : YS l ((3, ⟨b, o, none⟩) :: (2, ⟨b, o + 1, none⟩) :: plT ⟨A, n, c⟩ ts) J Jx) (W : World) (hB : Blk W Bf 107 #[.func (.yield l) #[] #[]]) (hV : Blk W Bv 53 #[.func (.func 65) #[] #[.pointer (some ⟨Bf, 0, none⟩)]]) (hK : ∀ k X, J k X → X.cell? ⟨b, o + 3, none⟩ = some (.slice A n c)) (h0 : J 0 W) :
    Calls Tryz.prog 74 #[.pointer (some ⟨b, o, none⟩), .pointer (some ⟨Bf, 0, none⟩), .pointer (some ⟨Bv, 0, none⟩)] W (PushIs ((3, ⟨b, o, none⟩) :: (2, ⟨b, o + 1, none⟩) :: plT ⟨A, n, c⟩ ts) J Jx W) := by
  have z0 : W.drew.cell? ⟨Bf, 0, none⟩ = some (.func (.yield l) #[] #[]) := hB.drew.cell 0
  have hj0 := hY.bel _ _ _ h0 ((Below.refl _ _).drew)
  have HF : Hid (Fk W W.drew) := Fk.of_below ((Below.refl _ _).drew)
  obtain ⟨fn, tmps, assign, body, hy, hRR⟩ := hY.y 0 3 ⟨b, o, none⟩ _ rfl hj0 7
  rw [sn3] at hy
  have HRR := Lib.hid hRR
  have HY := Lib.hid hY
  have HB := Lib.hid hB.drew
  have HV := Lib.hid hV.drew
  have HK := Lib.hid hK
  clear hY hB hV h0 hj0 hRR hK
  refine (callsIn_wide (n := 6)).1 (callsIn_of_wp Tryz.func74 rfl trivial ?_ rfl)
  simp only [Tryz.ntmps74, List.size_toArray, List.length_cons, List.length_nil, Nat.reduceAdd, Nat.reduceSub, Array.replicate_succ, Array.replicate_zero, List.push_toArray, List.append_toArray, List.nil_append, List.cons_append]
  gi_wp2_with fail
  refine wpIn_region_any (by kernel_rfl) ?_
  change wpAnyIn _ _ _ _ _ _ _ _ _ W.drew
  generalize W.drew = Wd at *
  refine wpAnyIn_take (i := 1) (oi := { dst := some 6, op := Op.move (Operand.tmp 0), type := 118, pos := "names.go:55", after := #[], guard := none }) (v := .pointer (some ⟨b, o, none⟩)) rfl rfl (by kernel_rfl) (by kernel_rfl) (by kernel_rfl) (fun _ _ _ h => h) ⟨Or.inl ⟨by kernel_rfl, fun w9 => by go_simp⟩, fun _ => rfl⟩ ?_
  try simp only [Act.put, sA, sB, sC]
  refine wpAnyIn_take (i := 2) (oi := { dst := some 7, op := Op.nilCheck (Operand.tmp 6), type := 0, pos := "names.go:55", after := #[{ on := 1, ground := Ground.data }], guard := none }) (v := .pointer (some ⟨b, o, none⟩)) rfl rfl (by kernel_rfl) (by kernel_rfl) (by kernel_rfl) (fun _ _ _ h => h) ⟨Or.inl ⟨by kernel_rfl, fun w9 => by go_simp⟩, fun _ => rfl⟩ ?_
  try simp only [Act.put, sA, sB, sC]
  refine wpAnyIn_take (i := 3) (oi := { dst := some 8, op := Op.fieldAddr 64 (Operand.tmp 7) 0, type := 0, pos := "names.go:55", after := #[{ on := 2, ground := Ground.data }], guard := none }) (v := .pointer (some ⟨b, o, none⟩)) rfl rfl (by kernel_rfl) (by kernel_rfl) (by kernel_rfl) (fun _ _ _ h => h) ⟨Or.inl ⟨by kernel_rfl, fun w9 => by go_simp⟩, fun _ => rfl⟩ ?_
  try simp only [Act.put, sA, sB, sC]
  refine wpAnyIn_ready (rs := [0]) (by kernel_rfl) (by simp) ?_
  refine AllReadyIn.cons (o := { dst := some 5, op := Op.load 107 (Operand.tmp 1), type := 107, pos := "names.go:55", after := #[], guard := none }) rfl (fun K hK => ?_) ?_
  · go_simp
    refine hK _ _ ?_
    clear hK K
    try simp only [Act.put, sA, sB, sC]
    refine wpAnyIn_ready (rs := [4]) (by kernel_rfl) (by simp) ?_
    refine AllReadyIn.cons (o := { dst := some 9, op := Op.call { callee := Callee.value (Operand.tmp 5), args := #[Operand.const (Value.int IntKind.i64 3), Operand.tmp 8], argTypes := #[3, 73] }, type := 4, pos := "names.go:55", after := #[{ on := 0, ground := Ground.data }, { on := 3, ground := Ground.data }], guard := none }) rfl (fun K hK => ?_) ?_
    · go_simp
      refine (RoundIn.deep rfl HRR.out).mono ?_
      rintro e X (⟨rfl, hj, hf⟩ | ⟨rfl, hj⟩)
      · skip
        have HF := Lib.hid (HF.out.trans hf)
        have HB1 := Lib.hid (hf.firm _ _ _ HB.out rfl)
        have HV1 := Lib.hid (hf.firm _ _ _ HV.out rfl)
        have z1 := HB1.out.cell 0
        clear z0 hy HRR
        obtain ⟨fn, tmps, assign, body, hy, hRR⟩ := HY.out.y 1 2 ⟨b, o + 1, none⟩ X rfl hj 7
        rw [sn2] at hy
        have HRR := Lib.hid hRR
        clear hj hf hRR
        go_simp
        refine hK _ _ ?_
        clear hK K
        try simp only [Act.put, sA, sB, sC]
        refine wpAnyIn_take (i := 5) (oi := { dst := some 10, op := Op.move (Operand.tmp 9), type := 4, pos := "names.go:55", after := #[{ on := 4, ground := Ground.data }, { on := 4, ground := Ground.chain }], guard := none }) (v := .bool true) rfl rfl (by kernel_rfl) (by kernel_rfl) (by kernel_rfl) (fun _ _ _ h => h) ⟨Or.inl ⟨by kernel_rfl, fun w9 => by go_simp⟩, fun _ => rfl⟩ ?_
        try simp only [Act.put, sA, sB, sC]
        refine wpAnyIn_take (i := 7) (oi := { dst := some 12, op := Op.move (Operand.tmp 0), type := 118, pos := "names.go:55", after := #[{ on := 5, ground := Ground.guard }], guard := some (5, true) }) (v := .pointer (some ⟨b, o, none⟩)) rfl rfl (by kernel_rfl) (by kernel_rfl) (by kernel_rfl) (fun _ _ _ h => h) ⟨Or.inl ⟨by kernel_rfl, fun w9 => by go_simp⟩, fun _ => rfl⟩ ?_
        try simp only [Act.put, sA, sB, sC]
        refine wpAnyIn_take (i := 8) (oi := { dst := some 13, op := Op.nilCheck (Operand.tmp 12), type := 0, pos := "names.go:55", after := #[{ on := 7, ground := Ground.data }, { on := 5, ground := Ground.guard }], guard := some (5, true) }) (v := .pointer (some ⟨b, o, none⟩)) rfl rfl (by kernel_rfl) (by kernel_rfl) (by kernel_rfl) (fun _ _ _ h => h) ⟨Or.inl ⟨by kernel_rfl, fun w9 => by go_simp⟩, fun _ => rfl⟩ ?_
        try simp only [Act.put, sA, sB, sC]
        refine wpAnyIn_take (i := 9) (oi := { dst := some 14, op := Op.fieldAddr 64 (Operand.tmp 13) 1, type := 0, pos := "names.go:55", after := #[{ on := 8, ground := Ground.data }, { on := 5, ground := Ground.guard }], guard := some (5, true) }) (v := .pointer (some ⟨b, o + 1, none⟩)) rfl rfl (by kernel_rfl) (by kernel_rfl) (by kernel_rfl) (fun _ _ _ h => h) ⟨Or.inl ⟨by kernel_rfl, fun w9 => by go_simp⟩, fun _ => rfl⟩ ?_
        try simp only [Act.put, sA, sB, sC]
        refine wpAnyIn_ready (rs := [6]) (by kernel_rfl) (by simp) ?_
        refine AllReadyIn.cons (o := { dst := some 11, op := Op.load 107 (Operand.tmp 1), type := 107, pos := "names.go:55", after := #[{ on := 5, ground := Ground.guard }], guard := some (5, true) }) rfl (fun K hK => ?_) ?_
        · go_simp
          refine hK _ _ ?_
          clear hK K
          try simp only [Act.put, sA, sB, sC]
          refine wpAnyIn_ready (rs := [10]) (by kernel_rfl) (by simp) ?_
          refine AllReadyIn.cons (o := { dst := some 15, op := Op.call { callee := Callee.value (Operand.tmp 11), args := #[Operand.const (Value.int IntKind.i64 2), Operand.tmp 14], argTypes := #[3, 73] }, type := 4, pos := "names.go:55", after := #[{ on := 6, ground := Ground.data }, { on := 9, ground := Ground.data }, { on := 5, ground := Ground.chain }, { on := 5, ground := Ground.guard }], guard := some (5, true) }) rfl (fun K hK => ?_) ?_
          · go_simp
            refine (RoundIn.deep rfl HRR.out).mono ?_
            rintro e Y (⟨rfl, hj, hf⟩ | ⟨rfl, hj⟩)
            · skip
              have HF := Lib.hid (HF.out.trans hf)
              have z2 := (hf.firm _ _ _ HV1.out rfl).cell 0
              have hk1 := HK.out 2 Y hj
              have HC := Lib.hid (ts_any l A n c ts hl hn Bf (fun k => J (k + 1 + 1)) Jx HY.out.tail.tail Y (hf.firm _ _ _ HB1.out rfl) hj)
              clear hj hf z1 hy HRR
              go_simp
              refine hK _ _ ?_
              clear hK K
              try simp only [Act.put, sA, sB, sC]
              refine wpAnyIn_take (i := 11) (oi := { dst := some 16, op := Op.pick (Operand.tmp 10) (Operand.tmp 15) (Operand.const (Value.bool false)), type := 4, pos := "names.go:55", after := #[{ on := 5, ground := Ground.data }, { on := 10, ground := Ground.data }], guard := none }) (v := .bool true) rfl rfl (by kernel_rfl) (by kernel_rfl) (by kernel_rfl) (fun _ _ _ h => h) ⟨Or.inl ⟨by kernel_rfl, fun w9 => by go_simp⟩, fun _ => rfl⟩ ?_
              try simp only [Act.put, sA, sB, sC]
              refine wpAnyIn_take (i := 12) (oi := { dst := some 17, op := Op.move (Operand.tmp 16), type := 4, pos := "names.go:55", after := #[{ on := 11, ground := Ground.data }, { on := 10, ground := Ground.chain }], guard := none }) (v := .bool true) rfl rfl (by kernel_rfl) (by kernel_rfl) (by kernel_rfl) (fun _ _ _ h => h) ⟨Or.inl ⟨by kernel_rfl, fun w9 => by go_simp⟩, fun _ => rfl⟩ ?_
              try simp only [Act.put, sA, sB, sC]
              refine wpAnyIn_take (i := 14) (oi := { dst := some 19, op := Op.move (Operand.tmp 0), type := 118, pos := "names.go:55", after := #[{ on := 12, ground := Ground.guard }], guard := some (12, true) }) (v := .pointer (some ⟨b, o, none⟩)) rfl rfl (by kernel_rfl) (by kernel_rfl) (by kernel_rfl) (fun _ _ _ h => h) ⟨Or.inl ⟨by kernel_rfl, fun w9 => by go_simp⟩, fun _ => rfl⟩ ?_
              try simp only [Act.put, sA, sB, sC]
              refine wpAnyIn_take (i := 15) (oi := { dst := some 20, op := Op.nilCheck (Operand.tmp 19), type := 0, pos := "names.go:55", after := #[{ on := 14, ground := Ground.data }, { on := 12, ground := Ground.guard }], guard := some (12, true) }) (v := .pointer (some ⟨b, o, none⟩)) rfl rfl (by kernel_rfl) (by kernel_rfl) (by kernel_rfl) (fun _ _ _ h => h) ⟨Or.inl ⟨by kernel_rfl, fun w9 => by go_simp⟩, fun _ => rfl⟩ ?_
              try simp only [Act.put, sA, sB, sC]
              refine wpAnyIn_take (i := 16) (oi := { dst := some 21, op := Op.fieldAddr 64 (Operand.tmp 20) 3, type := 0, pos := "names.go:55", after := #[{ on := 15, ground := Ground.data }, { on := 12, ground := Ground.guard }], guard := some (12, true) }) (v := .pointer (some ⟨b, o + 3, none⟩)) rfl rfl (by kernel_rfl) (by kernel_rfl) (by kernel_rfl) (fun _ _ _ h => h) ⟨Or.inl ⟨by kernel_rfl, fun w9 => by go_simp⟩, fun _ => rfl⟩ ?_
              try simp only [Act.put, sA, sB, sC]
              refine wpAnyIn_ready (rs := [13, 17]) (by kernel_rfl) (by simp) ?_
              refine AllReadyIn.cons (o := { dst := some 18, op := Op.load 53 (Operand.tmp 2), type := 53, pos := "names.go:55", after := #[{ on := 12, ground := Ground.guard }], guard := some (12, true) }) rfl (fun K hK => ?_) ?_
              · go_simp
                refine hK _ _ ?_
                clear hK K
                try simp only [Act.put, sA, sB, sC]
                refine wpAnyIn_ready (rs := [17]) (by kernel_rfl) (by simp) ?_
                refine AllReadyIn.cons (o := { dst := some 22, op := Op.load 45 (Operand.tmp 21), type := 45, pos := "names.go:55", after := #[{ on := 16, ground := Ground.data }, { on := 12, ground := Ground.guard }], guard := some (12, true) }) rfl (fun K hK => ?_) ?_
                · go_simp
                  refine hK _ _ ?_
                  clear hK K
                  try simp only [Act.put, sA, sB, sC]
                  refine wpAnyIn_ready (rs := [18]) (by kernel_rfl) (by simp) ?_
                  refine AllReadyIn.cons (o := { dst := some 23, op := Op.call { callee := Callee.value (Operand.tmp 18), args := #[Operand.tmp 22], argTypes := #[45] }, type := 4, pos := "names.go:55", after := #[{ on := 13, ground := Ground.data }, { on := 17, ground := Ground.data }, { on := 12, ground := Ground.chain }, { on := 12, ground := Ground.guard }], guard := some (12, true) }) rfl (fun K hK => ?_) ?_
                  · go_simp
                    refine ⟨trivial, (callsIn_wide.2 HC.out).mono ?_⟩
                    rintro e Z (⟨rfl, hj, hf⟩ | ⟨rfl, hj⟩)
                    · skip
                      have HX : Hid (PushIs ((3, ⟨b, o, none⟩) :: (2, ⟨b, o + 1, none⟩) :: plT ⟨A, n, c⟩ ts) J Jx W (.returned (.bool true)) Z) := .inl ⟨rfl, hj, HF.out.trans hf⟩
                      clear hj hf z2 hk1 HC
                      go_simp
                      refine hK _ _ ?_
                      clear hK K
                      try simp only [Act.put, sA, sB, sC]
                      refine wpAnyIn_take (i := 19) (oi := { dst := some 24, op := Op.pick (Operand.tmp 17) (Operand.tmp 23) (Operand.const (Value.bool false)), type := 4, pos := "names.go:55", after := #[{ on := 12, ground := Ground.data }, { on := 18, ground := Ground.data }], guard := none }) (v := .bool true) rfl rfl (by kernel_rfl) (by kernel_rfl) (by kernel_rfl) (fun _ _ _ h => h) ⟨Or.inl ⟨by kernel_rfl, fun w9 => by go_simp⟩, fun _ => rfl⟩ ?_
                      try simp only [Act.put, sA, sB, sC]
                      refine wpAnyIn_take (i := 20) (oi := { dst := some 4, op := Op.assign (Operand.tmp 24), type := 4, pos := "names.go:55", after := #[{ on := 19, ground := Ground.data }, { on := 18, ground := Ground.chain }, { on := 0, ground := Ground.phase }, { on := 1, ground := Ground.phase }, { on := 2, ground := Ground.phase }, { on := 3, ground := Ground.phase }, { on := 4, ground := Ground.phase }, { on := 5, ground := Ground.phase }, { on := 6, ground := Ground.phase }, { on := 7, ground := Ground.phase }, { on := 8, ground := Ground.phase }, { on := 9, ground := Ground.phase }, { on := 10, ground := Ground.phase }, { on := 11, ground := Ground.phase }, { on := 12, ground := Ground.phase }, { on := 13, ground := Ground.phase }, { on := 14, ground := Ground.phase }, { on := 15, ground := Ground.phase }, { on := 16, ground := Ground.phase }, { on := 17, ground := Ground.phase }, { on := 18, ground := Ground.phase }, { on := 19, ground := Ground.phase }], guard := none }) (v := .bool true) rfl rfl (by kernel_rfl) (by kernel_rfl) (by kernel_rfl) (fun _ _ _ h => h) ⟨Or.inl ⟨by kernel_rfl, fun w9 => by go_simp⟩, fun _ => rfl⟩ ?_
                      try simp only [Act.put, sA, sB, sC]
                      refine wpAnyIn_done (by kernel_rfl) ?_ _
                      gi_wp2_with fail
                      go_ret
                      exact HX.out
                    · skip
                      have HX : Hid (PushIs ((3, ⟨b, o, none⟩) :: (2, ⟨b, o + 1, none⟩) :: plT ⟨A, n, c⟩ ts) J Jx W (.returned (.bool false)) Z) := .inr ⟨rfl, hj⟩
                      clear hj z2 hk1 HC
                      go_simp
                      refine hK _ _ ?_
                      clear hK K
                      try simp only [Act.put, sA, sB, sC]
                      refine wpAnyIn_take (i := 19) (oi := { dst := some 24, op := Op.pick (Operand.tmp 17) (Operand.tmp 23) (Operand.const (Value.bool false)), type := 4, pos := "names.go:55", after := #[{ on := 12, ground := Ground.data }, { on := 18, ground := Ground.data }], guard := none }) (v := .bool false) rfl rfl (by kernel_rfl) (by kernel_rfl) (by kernel_rfl) (fun _ _ _ h => h) ⟨Or.inl ⟨by kernel_rfl, fun w9 => by go_simp⟩, fun _ => rfl⟩ ?_
                      try simp only [Act.put, sA, sB, sC]
                      refine wpAnyIn_take (i := 20) (oi := { dst := some 4, op := Op.assign (Operand.tmp 24), type := 4, pos := "names.go:55", after := #[{ on := 19, ground := Ground.data }, { on := 18, ground := Ground.chain }, { on := 0, ground := Ground.phase }, { on := 1, ground := Ground.phase }, { on := 2, ground := Ground.phase }, { on := 3, ground := Ground.phase }, { on := 4, ground := Ground.phase }, { on := 5, ground := Ground.phase }, { on := 6, ground := Ground.phase }, { on := 7, ground := Ground.phase }, { on := 8, ground := Ground.phase }, { on := 9, ground := Ground.phase }, { on := 10, ground := Ground.phase }, { on := 11, ground := Ground.phase }, { on := 12, ground := Ground.phase }, { on := 13, ground := Ground.phase }, { on := 14, ground := Ground.phase }, { on := 15, ground := Ground.phase }, { on := 16, ground := Ground.phase }, { on := 17, ground := Ground.phase }, { on := 18, ground := Ground.phase }, { on := 19, ground := Ground.phase }], guard := none }) (v := .bool false) rfl rfl (by kernel_rfl) (by kernel_rfl) (by kernel_rfl) (fun _ _ _ h => h) ⟨Or.inl ⟨by kernel_rfl, fun w9 => by go_simp⟩, fun _ => rfl⟩ ?_
                      try simp only [Act.put, sA, sB, sC]
                      refine wpAnyIn_done (by kernel_rfl) ?_ _
                      gi_wp2_with fail
                      go_ret
                      exact HX.out
                  exact AllReadyIn.nil
                exact AllReadyIn.nil
              refine AllReadyIn.cons (o := { dst := some 22, op := Op.load 45 (Operand.tmp 21), type := 45, pos := "names.go:55", after := #[{ on := 16, ground := Ground.data }, { on := 12, ground := Ground.guard }], guard := some (12, true) }) rfl (fun K hK => ?_) ?_
              · go_simp
                refine hK _ _ ?_
                clear hK K
                try simp only [Act.put, sA, sB, sC]
                refine wpAnyIn_ready (rs := [13]) (by kernel_rfl) (by simp) ?_
                refine AllReadyIn.cons (o := { dst := some 18, op := Op.load 53 (Operand.tmp 2), type := 53, pos := "names.go:55", after := #[{ on := 12, ground := Ground.guard }], guard := some (12, true) }) rfl (fun K hK => ?_) ?_
                · go_simp
                  refine hK _ _ ?_
                  clear hK K
                  try simp only [Act.put, sA, sB, sC]
                  refine wpAnyIn_ready (rs := [18]) (by kernel_rfl) (by simp) ?_
                  refine AllReadyIn.cons (o := { dst := some 23, op := Op.call { callee := Callee.value (Operand.tmp 18), args := #[Operand.tmp 22], argTypes := #[45] }, type := 4, pos := "names.go:55", after := #[{ on := 13, ground := Ground.data }, { on := 17, ground := Ground.data }, { on := 12, ground := Ground.chain }, { on := 12, ground := Ground.guard }], guard := some (12, true) }) rfl (fun K hK => ?_) ?_
                  · go_simp
                    refine ⟨trivial, (callsIn_wide.2 HC.out).mono ?_⟩
                    rintro e Z (⟨rfl, hj, hf⟩ | ⟨rfl, hj⟩)
                    · skip
                      have HX : Hid (PushIs ((3, ⟨b, o, none⟩) :: (2, ⟨b, o + 1, none⟩) :: plT ⟨A, n, c⟩ ts) J Jx W (.returned (.bool true)) Z) := .inl ⟨rfl, hj, HF.out.trans hf⟩
                      clear hj hf z2 hk1 HC
                      go_simp
                      refine hK _ _ ?_
                      clear hK K
                      try simp only [Act.put, sA, sB, sC]
                      refine wpAnyIn_take (i := 19) (oi := { dst := some 24, op := Op.pick (Operand.tmp 17) (Operand.tmp 23) (Operand.const (Value.bool false)), type := 4, pos := "names.go:55", after := #[{ on := 12, ground := Ground.data }, { on := 18, ground := Ground.data }], guard := none }) (v := .bool true) rfl rfl (by kernel_rfl) (by kernel_rfl) (by kernel_rfl) (fun _ _ _ h => h) ⟨Or.inl ⟨by kernel_rfl, fun w9 => by go_simp⟩, fun _ => rfl⟩ ?_
                      try simp only [Act.put, sA, sB, sC]
                      refine wpAnyIn_take (i := 20) (oi := { dst := some 4, op := Op.assign (Operand.tmp 24), type := 4, pos := "names.go:55", after := #[{ on := 19, ground := Ground.data }, { on := 18, ground := Ground.chain }, { on := 0, ground := Ground.phase }, { on := 1, ground := Ground.phase }, { on := 2, ground := Ground.phase }, { on := 3, ground := Ground.phase }, { on := 4, ground := Ground.phase }, { on := 5, ground := Ground.phase }, { on := 6, ground := Ground.phase }, { on := 7, ground := Ground.phase }, { on := 8, ground := Ground.phase }, { on := 9, ground := Ground.phase }, { on := 10, ground := Ground.phase }, { on := 11, ground := Ground.phase }, { on := 12, ground := Ground.phase }, { on := 13, ground := Ground.phase }, { on := 14, ground := Ground.phase }, { on := 15, ground := Ground.phase }, { on := 16, ground := Ground.phase }, { on := 17, ground := Ground.phase }, { on := 18, ground := Ground.phase }, { on := 19, ground := Ground.phase }], guard := none }) (v := .bool true) rfl rfl (by kernel_rfl) (by kernel_rfl) (by kernel_rfl) (fun _ _ _ h => h) ⟨Or.inl ⟨by kernel_rfl, fun w9 => by go_simp⟩, fun _ => rfl⟩ ?_
                      try simp only [Act.put, sA, sB, sC]
                      refine wpAnyIn_done (by kernel_rfl) ?_ _
                      gi_wp2_with fail
                      go_ret
                      exact HX.out
                    · skip
                      have HX : Hid (PushIs ((3, ⟨b, o, none⟩) :: (2, ⟨b, o + 1, none⟩) :: plT ⟨A, n, c⟩ ts) J Jx W (.returned (.bool false)) Z) := .inr ⟨rfl, hj⟩
                      clear hj z2 hk1 HC
                      go_simp
                      refine hK _ _ ?_
                      clear hK K
                      try simp only [Act.put, sA, sB, sC]
                      refine wpAnyIn_take (i := 19) (oi := { dst := some 24, op := Op.pick (Operand.tmp 17) (Operand.tmp 23) (Operand.const (Value.bool false)), type := 4, pos := "names.go:55", after := #[{ on := 12, ground := Ground.data }, { on := 18, ground := Ground.data }], guard := none }) (v := .bool false) rfl rfl (by kernel_rfl) (by kernel_rfl) (by kernel_rfl) (fun _ _ _ h => h) ⟨Or.inl ⟨by kernel_rfl, fun w9 => by go_simp⟩, fun _ => rfl⟩ ?_
                      try simp only [Act.put, sA, sB, sC]
                      refine wpAnyIn_take (i := 20) (oi := { dst := some 4, op := Op.assign (Operand.tmp 24), type := 4, pos := "names.go:55", after := #[{ on := 19, ground := Ground.data }, { on := 18, ground := Ground.chain }, { on := 0, ground := Ground.phase }, { on := 1, ground := Ground.phase }, { on := 2, ground := Ground.phase }, { on := 3, ground := Ground.phase }, { on := 4, ground := Ground.phase }, { on := 5, ground := Ground.phase }, { on := 6, ground := Ground.phase }, { on := 7, ground := Ground.phase }, { on := 8, ground := Ground.phase }, { on := 9, ground := Ground.phase }, { on := 10, ground := Ground.phase }, { on := 11, ground := Ground.phase }, { on := 12, ground := Ground.phase }, { on := 13, ground := Ground.phase }, { on := 14, ground := Ground.phase }, { on := 15, ground := Ground.phase }, { on := 16, ground := Ground.phase }, { on := 17, ground := Ground.phase }, { on := 18, ground := Ground.phase }, { on := 19, ground := Ground.phase }], guard := none }) (v := .bool false) rfl rfl (by kernel_rfl) (by kernel_rfl) (by kernel_rfl) (fun _ _ _ h => h) ⟨Or.inl ⟨by kernel_rfl, fun w9 => by go_simp⟩, fun _ => rfl⟩ ?_
                      try simp only [Act.put, sA, sB, sC]
                      refine wpAnyIn_done (by kernel_rfl) ?_ _
                      gi_wp2_with fail
                      go_ret
                      exact HX.out
                  exact AllReadyIn.nil
                exact AllReadyIn.nil
              exact AllReadyIn.nil
            · skip
              have HX : Hid (PushIs ((3, ⟨b, o, none⟩) :: (2, ⟨b, o + 1, none⟩) :: plT ⟨A, n, c⟩ ts) J Jx W (.returned (.bool false)) Y) := .inr ⟨rfl, hj⟩
              clear hj z1 hy HRR
              go_simp
              refine hK _ _ ?_
              clear hK K
              try simp only [Act.put, sA, sB, sC]
              refine wpAnyIn_take (i := 11) (oi := { dst := some 16, op := Op.pick (Operand.tmp 10) (Operand.tmp 15) (Operand.const (Value.bool false)), type := 4, pos := "names.go:55", after := #[{ on := 5, ground := Ground.data }, { on := 10, ground := Ground.data }], guard := none }) (v := .bool false) rfl rfl (by kernel_rfl) (by kernel_rfl) (by kernel_rfl) (fun _ _ _ h => h) ⟨Or.inl ⟨by kernel_rfl, fun w9 => by go_simp⟩, fun _ => rfl⟩ ?_
              try simp only [Act.put, sA, sB, sC]
              refine wpAnyIn_take (i := 12) (oi := { dst := some 17, op := Op.move (Operand.tmp 16), type := 4, pos := "names.go:55", after := #[{ on := 11, ground := Ground.data }, { on := 10, ground := Ground.chain }], guard := none }) (v := .bool false) rfl rfl (by kernel_rfl) (by kernel_rfl) (by kernel_rfl) (fun _ _ _ h => h) ⟨Or.inl ⟨by kernel_rfl, fun w9 => by go_simp⟩, fun _ => rfl⟩ ?_
              try simp only [Act.put, sA, sB, sC]
              refine wpAnyIn_take (i := 13) (oi := { dst := some 18, op := Op.load 53 (Operand.tmp 2), type := 53, pos := "names.go:55", after := #[{ on := 12, ground := Ground.guard }], guard := some (12, true) }) (v := undef) rfl rfl (by kernel_rfl) (by kernel_rfl) (by kernel_rfl) (fun _ _ _ h => h) ⟨Or.inr ⟨by kernel_rfl, rfl⟩, fun _ => rfl⟩ ?_
              try simp only [Act.put, sA, sB, sC]
              refine wpAnyIn_take (i := 14) (oi := { dst := some 19, op := Op.move (Operand.tmp 0), type := 118, pos := "names.go:55", after := #[{ on := 12, ground := Ground.guard }], guard := some (12, true) }) (v := undef) rfl rfl (by kernel_rfl) (by kernel_rfl) (by kernel_rfl) (fun _ _ _ h => h) ⟨Or.inr ⟨by kernel_rfl, rfl⟩, fun _ => rfl⟩ ?_
              try simp only [Act.put, sA, sB, sC]
              refine wpAnyIn_take (i := 15) (oi := { dst := some 20, op := Op.nilCheck (Operand.tmp 19), type := 0, pos := "names.go:55", after := #[{ on := 14, ground := Ground.data }, { on := 12, ground := Ground.guard }], guard := some (12, true) }) (v := undef) rfl rfl (by kernel_rfl) (by kernel_rfl) (by kernel_rfl) (fun _ _ _ h => h) ⟨Or.inr ⟨by kernel_rfl, rfl⟩, fun _ => rfl⟩ ?_
              try simp only [Act.put, sA, sB, sC]
              refine wpAnyIn_take (i := 16) (oi := { dst := some 21, op := Op.fieldAddr 64 (Operand.tmp 20) 3, type := 0, pos := "names.go:55", after := #[{ on := 15, ground := Ground.data }, { on := 12, ground := Ground.guard }], guard := some (12, true) }) (v := undef) rfl rfl (by kernel_rfl) (by kernel_rfl) (by kernel_rfl) (fun _ _ _ h => h) ⟨Or.inr ⟨by kernel_rfl, rfl⟩, fun _ => rfl⟩ ?_
              try simp only [Act.put, sA, sB, sC]
              refine wpAnyIn_take (i := 17) (oi := { dst := some 22, op := Op.load 45 (Operand.tmp 21), type := 45, pos := "names.go:55", after := #[{ on := 16, ground := Ground.data }, { on := 12, ground := Ground.guard }], guard := some (12, true) }) (v := undef) rfl rfl (by kernel_rfl) (by kernel_rfl) (by kernel_rfl) (fun _ _ _ h => h) ⟨Or.inr ⟨by kernel_rfl, rfl⟩, fun _ => rfl⟩ ?_
              try simp only [Act.put, sA, sB, sC]
              refine wpAnyIn_take (i := 18) (oi := { dst := some 23, op := Op.call { callee := Callee.value (Operand.tmp 18), args := #[Operand.tmp 22], argTypes := #[45] }, type := 4, pos := "names.go:55", after := #[{ on := 13, ground := Ground.data }, { on := 17, ground := Ground.data }, { on := 12, ground := Ground.chain }, { on := 12, ground := Ground.guard }], guard := some (12, true) }) (v := undef) rfl rfl (by kernel_rfl) (by kernel_rfl) (by kernel_rfl) (fun _ _ _ h => h) ⟨Or.inr ⟨by kernel_rfl, rfl⟩, fun _ => rfl⟩ ?_
              try simp only [Act.put, sA, sB, sC]
              refine wpAnyIn_take (i := 19) (oi := { dst := some 24, op := Op.pick (Operand.tmp 17) (Operand.tmp 23) (Operand.const (Value.bool false)), type := 4, pos := "names.go:55", after := #[{ on := 12, ground := Ground.data }, { on := 18, ground := Ground.data }], guard := none }) (v := .bool false) rfl rfl (by kernel_rfl) (by kernel_rfl) (by kernel_rfl) (fun _ _ _ h => h) ⟨Or.inl ⟨by kernel_rfl, fun w9 => by go_simp⟩, fun _ => rfl⟩ ?_
              try simp only [Act.put, sA, sB, sC]
              refine wpAnyIn_take (i := 20) (oi := { dst := some 4, op := Op.assign (Operand.tmp 24), type := 4, pos := "names.go:55", after := #[{ on := 19, ground := Ground.data }, { on := 18, ground := Ground.chain }, { on := 0, ground := Ground.phase }, { on := 1, ground := Ground.phase }, { on := 2, ground := Ground.phase }, { on := 3, ground := Ground.phase }, { on := 4, ground := Ground.phase }, { on := 5, ground := Ground.phase }, { on := 6, ground := Ground.phase }, { on := 7, ground := Ground.phase }, { on := 8, ground := Ground.phase }, { on := 9, ground := Ground.phase }, { on := 10, ground := Ground.phase }, { on := 11, ground := Ground.phase }, { on := 12, ground := Ground.phase }, { on := 13, ground := Ground.phase }, { on := 14, ground := Ground.phase }, { on := 15, ground := Ground.phase }, { on := 16, ground := Ground.phase }, { on := 17, ground := Ground.phase }, { on := 18, ground := Ground.phase }, { on := 19, ground := Ground.phase }], guard := none }) (v := .bool false) rfl rfl (by kernel_rfl) (by kernel_rfl) (by kernel_rfl) (fun _ _ _ h => h) ⟨Or.inl ⟨by kernel_rfl, fun w9 => by go_simp⟩, fun _ => rfl⟩ ?_
              try simp only [Act.put, sA, sB, sC]
              refine wpAnyIn_done (by kernel_rfl) ?_ _
              gi_wp2_with fail
              go_ret
              exact HX.out
          exact AllReadyIn.nil
        exact AllReadyIn.nil
      · skip
        have HX : Hid (PushIs ((3, ⟨b, o, none⟩) :: (2, ⟨b, o + 1, none⟩) :: plT ⟨A, n, c⟩ ts) J Jx W (.returned (.bool false)) X) := .inr ⟨rfl, hj⟩
        clear hj z0 hy HRR
        go_simp
        refine hK _ _ ?_
        clear hK K
        try simp only [Act.put, sA, sB, sC]
        refine wpAnyIn_take (i := 5) (oi := { dst := some 10, op := Op.move (Operand.tmp 9), type := 4, pos := "names.go:55", after := #[{ on := 4, ground := Ground.data }, { on := 4, ground := Ground.chain }], guard := none }) (v := .bool false) rfl rfl (by kernel_rfl) (by kernel_rfl) (by kernel_rfl) (fun _ _ _ h => h) ⟨Or.inl ⟨by kernel_rfl, fun w9 => by go_simp⟩, fun _ => rfl⟩ ?_
        try simp only [Act.put, sA, sB, sC]
        refine wpAnyIn_take (i := 6) (oi := { dst := some 11, op := Op.load 107 (Operand.tmp 1), type := 107, pos := "names.go:55", after := #[{ on := 5, ground := Ground.guard }], guard := some (5, true) }) (v := undef) rfl rfl (by kernel_rfl) (by kernel_rfl) (by kernel_rfl) (fun _ _ _ h => h) ⟨Or.inr ⟨by kernel_rfl, rfl⟩, fun _ => rfl⟩ ?_
        try simp only [Act.put, sA, sB, sC]
        refine wpAnyIn_take (i := 7) (oi := { dst := some 12, op := Op.move (Operand.tmp 0), type := 118, pos := "names.go:55", after := #[{ on := 5, ground := Ground.guard }], guard := some (5, true) }) (v := undef) rfl rfl (by kernel_rfl) (by kernel_rfl) (by kernel_rfl) (fun _ _ _ h => h) ⟨Or.inr ⟨by kernel_rfl, rfl⟩, fun _ => rfl⟩ ?_
        try simp only [Act.put, sA, sB, sC]
        refine wpAnyIn_take (i := 8) (oi := { dst := some 13, op := Op.nilCheck (Operand.tmp 12), type := 0, pos := "names.go:55", after := #[{ on := 7, ground := Ground.data }, { on := 5, ground := Ground.guard }], guard := some (5, true) }) (v := undef) rfl rfl (by kernel_rfl) (by kernel_rfl) (by kernel_rfl) (fun _ _ _ h => h) ⟨Or.inr ⟨by kernel_rfl, rfl⟩, fun _ => rfl⟩ ?_
        try simp only [Act.put, sA, sB, sC]
        refine wpAnyIn_take (i := 9) (oi := { dst := some 14, op := Op.fieldAddr 64 (Operand.tmp 13) 1, type := 0, pos := "names.go:55", after := #[{ on := 8, ground := Ground.data }, { on := 5, ground := Ground.guard }], guard := some (5, true) }) (v := undef) rfl rfl (by kernel_rfl) (by kernel_rfl) (by kernel_rfl) (fun _ _ _ h => h) ⟨Or.inr ⟨by kernel_rfl, rfl⟩, fun _ => rfl⟩ ?_
        try simp only [Act.put, sA, sB, sC]
        refine wpAnyIn_take (i := 10) (oi := { dst := some 15, op := Op.call { callee := Callee.value (Operand.tmp 11), args := #[Operand.const (Value.int IntKind.i64 2), Operand.tmp 14], argTypes := #[3, 73] }, type := 4, pos := "names.go:55", after := #[{ on := 6, ground := Ground.data }, { on := 9, ground := Ground.data }, { on := 5, ground := Ground.chain }, { on := 5, ground := Ground.guard }], guard := some (5, true) }) (v := undef) rfl rfl (by kernel_rfl) (by kernel_rfl) (by kernel_rfl) (fun _ _ _ h => h) ⟨Or.inr ⟨by kernel_rfl, rfl⟩, fun _ => rfl⟩ ?_
        try simp only [Act.put, sA, sB, sC]
        refine wpAnyIn_take (i := 11) (oi := { dst := some 16, op := Op.pick (Operand.tmp 10) (Operand.tmp 15) (Operand.const (Value.bool false)), type := 4, pos := "names.go:55", after := #[{ on := 5, ground := Ground.data }, { on := 10, ground := Ground.data }], guard := none }) (v := .bool false) rfl rfl (by kernel_rfl) (by kernel_rfl) (by kernel_rfl) (fun _ _ _ h => h) ⟨Or.inl ⟨by kernel_rfl, fun w9 => by go_simp⟩, fun _ => rfl⟩ ?_
        try simp only [Act.put, sA, sB, sC]
        refine wpAnyIn_take (i := 12) (oi := { dst := some 17, op := Op.move (Operand.tmp 16), type := 4, pos := "names.go:55", after := #[{ on := 11, ground := Ground.data }, { on := 10, ground := Ground.chain }], guard := none }) (v := .bool false) rfl rfl (by kernel_rfl) (by kernel_rfl) (by kernel_rfl) (fun _ _ _ h => h) ⟨Or.inl ⟨by kernel_rfl, fun w9 => by go_simp⟩, fun _ => rfl⟩ ?_
        try simp only [Act.put, sA, sB, sC]
        refine wpAnyIn_take (i := 13) (oi := { dst := some 18, op := Op.load 53 (Operand.tmp 2), type := 53, pos := "names.go:55", after := #[{ on := 12, ground := Ground.guard }], guard := some (12, true) }) (v := undef) rfl rfl (by kernel_rfl) (by kernel_rfl) (by kernel_rfl) (fun _ _ _ h => h) ⟨Or.inr ⟨by kernel_rfl, rfl⟩, fun _ => rfl⟩ ?_
        try simp only [Act.put, sA, sB, sC]
        refine wpAnyIn_take (i := 14) (oi := { dst := some 19, op := Op.move (Operand.tmp 0), type := 118, pos := "names.go:55", after := #[{ on := 12, ground := Ground.guard }], guard := some (12, true) }) (v := undef) rfl rfl (by kernel_rfl) (by kernel_rfl) (by kernel_rfl) (fun _ _ _ h => h) ⟨Or.inr ⟨by kernel_rfl, rfl⟩, fun _ => rfl⟩ ?_
        try simp only [Act.put, sA, sB, sC]
        refine wpAnyIn_take (i := 15) (oi := { dst := some 20, op := Op.nilCheck (Operand.tmp 19), type := 0, pos := "names.go:55", after := #[{ on := 14, ground := Ground.data }, { on := 12, ground := Ground.guard }], guard := some (12, true) }) (v := undef) rfl rfl (by kernel_rfl) (by kernel_rfl) (by kernel_rfl) (fun _ _ _ h => h) ⟨Or.inr ⟨by kernel_rfl, rfl⟩, fun _ => rfl⟩ ?_
        try simp only [Act.put, sA, sB, sC]
        refine wpAnyIn_take (i := 16) (oi := { dst := some 21, op := Op.fieldAddr 64 (Operand.tmp 20) 3, type := 0, pos := "names.go:55", after := #[{ on := 15, ground := Ground.data }, { on := 12, ground := Ground.guard }], guard := some (12, true) }) (v := undef) rfl rfl (by kernel_rfl) (by kernel_rfl) (by kernel_rfl) (fun _ _ _ h => h) ⟨Or.inr ⟨by kernel_rfl, rfl⟩, fun _ => rfl⟩ ?_
        try simp only [Act.put, sA, sB, sC]
        refine wpAnyIn_take (i := 17) (oi := { dst := some 22, op := Op.load 45 (Operand.tmp 21), type := 45, pos := "names.go:55", after := #[{ on := 16, ground := Ground.data }, { on := 12, ground := Ground.guard }], guard := some (12, true) }) (v := undef) rfl rfl (by kernel_rfl) (by kernel_rfl) (by kernel_rfl) (fun _ _ _ h => h) ⟨Or.inr ⟨by kernel_rfl, rfl⟩, fun _ => rfl⟩ ?_
        try simp only [Act.put, sA, sB, sC]
        refine wpAnyIn_take (i := 18) (oi := { dst := some 23, op := Op.call { callee := Callee.value (Operand.tmp 18), args := #[Operand.tmp 22], argTypes := #[45] }, type := 4, pos := "names.go:55", after := #[{ on := 13, ground := Ground.data }, { on := 17, ground := Ground.data }, { on := 12, ground := Ground.chain }, { on := 12, ground := Ground.guard }], guard := some (12, true) }) (v := undef) rfl rfl (by kernel_rfl) (by kernel_rfl) (by kernel_rfl) (fun _ _ _ h => h) ⟨Or.inr ⟨by kernel_rfl, rfl⟩, fun _ => rfl⟩ ?_
        try simp only [Act.put, sA, sB, sC]
        refine wpAnyIn_take (i := 19) (oi := { dst := some 24, op := Op.pick (Operand.tmp 17) (Operand.tmp 23) (Operand.const (Value.bool false)), type := 4, pos := "names.go:55", after := #[{ on := 12, ground := Ground.data }, { on := 18, ground := Ground.data }], guard := none }) (v := .bool false) rfl rfl (by kernel_rfl) (by kernel_rfl) (by kernel_rfl) (fun _ _ _ h => h) ⟨Or.inl ⟨by kernel_rfl, fun w9 => by go_simp⟩, fun _ => rfl⟩ ?_
        try simp only [Act.put, sA, sB, sC]
        refine wpAnyIn_take (i := 20) (oi := { dst := some 4, op := Op.assign (Operand.tmp 24), type := 4, pos := "names.go:55", after := #[{ on := 19, ground := Ground.data }, { on := 18, ground := Ground.chain }, { on := 0, ground := Ground.phase }, { on := 1, ground := Ground.phase }, { on := 2, ground := Ground.phase }, { on := 3, ground := Ground.phase }, { on := 4, ground := Ground.phase }, { on := 5, ground := Ground.phase }, { on := 6, ground := Ground.phase }, { on := 7, ground := Ground.phase }, { on := 8, ground := Ground.phase }, { on := 9, ground := Ground.phase }, { on := 10, ground := Ground.phase }, { on := 11, ground := Ground.phase }, { on := 12, ground := Ground.phase }, { on := 13, ground := Ground.phase }, { on := 14, ground := Ground.phase }, { on := 15, ground := Ground.phase }, { on := 16, ground := Ground.phase }, { on := 17, ground := Ground.phase }, { on := 18, ground := Ground.phase }, { on := 19, ground := Ground.phase }], guard := none }) (v := .bool false) rfl rfl (by kernel_rfl) (by kernel_rfl) (by kernel_rfl) (fun _ _ _ h => h) ⟨Or.inl ⟨by kernel_rfl, fun w9 => by go_simp⟩, fun _ => rfl⟩ ?_
        try simp only [Act.put, sA, sB, sC]
        refine wpAnyIn_done (by kernel_rfl) ?_ _
        gi_wp2_with fail
        go_ret
        exact HX.out
    exact AllReadyIn.nil
  exact AllReadyIn.nil
theorem eg_ma : ∀ args w, (callFunc 74 args).run Tryz.prog w = .ok (.enter 74 args) w := enters_of Tryz.func74 (by kernel_rfl) rfl
end Go.Proofs.YtlnbmmaminflcaaGreatDoor
