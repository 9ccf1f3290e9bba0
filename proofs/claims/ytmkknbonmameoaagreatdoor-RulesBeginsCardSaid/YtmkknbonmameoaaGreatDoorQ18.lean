import Derived.Test.YtmkknbonmameoaaGreatDoorQ5
import Derived.Test.YtmkknbonmameoaaGreatDoorQ10
import Derived.Test.YtmkknbonmameoaaGreatDoorQ17
-- holds: YtmkknbonmameoaaGreatDoorHIe YtmkknbonmameoaaGreatDoorHIf
namespace Go.Proofs.YtmkknbonmameoaaGreatDoor
open Go.RowKit Go.Shelf
attribute [local go_sem] Oper.semAt_some
theorem sn0:((0:Nat):Int)=0:=rfl
theorem sn1:((1:Nat):Int)=1:=rfl
theorem sn2:((2:Nat):Int)=2:=rfl
theorem sn3:((3:Nat):Int)=3:=rfl
structure YS (l:Nat) (cs:List (Nat × Addr)) (J:Nat→World→Prop) (Jx:World→Prop):Prop where
 bel:∀ k X Y,J k X→Below X.heap.size X Y→J k Y
 belx:∀ X Y,Jx X→Below X.heap.size X Y→Jx Y
 y:∀ k s a X,cs[k]?=some (s,a)→J k X→∀ m,YieldAt Fence.wide m Tryz.prog l #[.int .i64 (s:Nat),.pointer (some a)] X fun e X'=>(e=.returned (.bool true)∧J (k+1) X'∧Fk X X')∨(e=.returned (.bool false)∧Jx X')
def PushIs (cs:List (Nat × Addr)) (J:Nat→World→Prop) (Jx:World→Prop) (W:World):Ending→World→Prop:=fun e X=>(e=.returned (.bool true)∧J cs.length X∧Fk W X)∨(e=.returned (.bool false)∧Jx X)
section
variable {l : Nat} {cs a b c : List (Nat × Addr)} {J : Nat → World → Prop} {Jx : World → Prop}
theorem YS.mid (h:YS l (a++(b++c)) J Jx):YS l b (fun k=>J (a.length+k)) Jx :=
 ⟨fun k X Y=>h.bel _ X Y,h.belx,fun k s p X hk hj m=>h.y (a.length+k) s p X (by
  rw[List.getElem?_append_right (by omega),Nat.add_sub_cancel_left,List.getElem?_append_left (List.getElem?_eq_some_iff.1 hk).1,hk]) hj m⟩
theorem YS.tail {x:Nat × Addr} (h:YS l (x :: b) J Jx):YS l b (fun k=>J (k+1)) Jx :=
 ⟨fun k X Y=>h.bel _ X Y,h.belx,fun k s p X hk hj m=>h.y (k+1) s p X (by simpa using hk) hj m⟩
theorem YS.head {x:Nat × Addr} (h:YS l (x :: b) J Jx):YS l [x] J Jx :=
 ⟨h.bel,h.belx,fun k s p X hk hj m=>h.y k s p X (by
  cases k with
  | zero=>simpa using hk
  | succ k=>simp at hk) hj m⟩
end
def qV (b o:Nat) (k:Int):List (Nat × Addr):=if k=0 then [] else [(0,⟨b,o,none⟩)]
def qS (b o:Nat) (s:SeenP):List (Nat × Addr):=(2,⟨b,o,none⟩) :: qV b (o+1) s.k
theorem plV_is {h:SH} {b o j:Nat} {k:Int} (e:h.A=some ⟨b,o,none⟩):plV h j k=qV b (o+j) k:=by unfold plV qV;rw[SH.ad_is e]
theorem plS_is {h:SH} {b o j:Nat} {s:SeenP} (e:h.A=some ⟨b,o,none⟩):plS h j s=qS b (o+j * 3) s:=by
 unfold plS qS
 rw[SH.ad_is e,plV_is e,Nat.add_assoc]
theorem flat_one {α:Type} (f:Nat→Nat × Addr):∀ (l:List α) (i:Nat),(flatI (fun j _=>[f j]) i l).length=l.length
 | [],_=>rfl
 | x :: l,i=>by unfold flatI;rw[List.length_append,flat_one f l (i+1)];simp;omega
theorem flat_one_at {α:Type} (f:Nat→Nat × Addr):∀ (l:List α) (i k:Nat),k<l.length→(flatI (fun j _=>[f j]) i l)[k]?=some (f (i+k))
 | [],_,_,h=>by simp at h
 | x :: l,i,0,_=>rfl
 | x :: l,i,k+1,h=>by
  unfold flatI
  rw[List.singleton_append,List.getElem?_cons_succ,flat_one_at f l (i+1) k (by simpa using h),show i+1+k=i+(k+1) by omega]
theorem plT_len (h:SH) (ts:List Int):(plT h ts).length=ts.length:=flat_one (fun j=>(0,h.ad j)) ts 0
theorem plT_at (h:SH) (ts:List Int) {k:Nat} (hk:k<ts.length):(plT h ts)[k]?=some (0,h.ad k):=by
 have:=flat_one_at (fun j=>((0:Nat),h.ad j)) ts 0 k hk
 rwa [Nat.zero_add] at this
set_option maxHeartbeats 1000000 in
theorem ts1_any (l b o Bf:Nat) (J:Nat→World→Prop) (Jx:World→Prop) (hY:YS l [(0,⟨b,o,none⟩)] J Jx) (W:World) (hB:Blk W Bf 120 #[.func (.yield l) #[] #[]]) (h0:J 0 W) :
 Calls Tryz.prog 76 #[.pointer (some ⟨b,o,none⟩),.pointer (some ⟨Bf,0,none⟩)] W (PushIs [(0,⟨b,o,none⟩)] J Jx W):=by
 have z0:=hB.cell 0
 obtain⟨fn,tmps,assign,body,hy,hRR⟩:=hY.y 0 0 ⟨b,o,none⟩ W rfl h0 7
 rw[sn0] at hy
 have HRR:=zh hRR
 clear hY hB h0 hRR
 refine (callsIn_wide (n:=6)).1 (callsIn_of_wp Tryz.func76 rfl trivial ?_ rfl)
 simp only[Tryz.ntmps76,List.size_toArray,List.length_cons,List.length_nil,Nat.reduceAdd,Nat.reduceSub,Array.replicate_succ,Array.replicate_zero,List.push_toArray,List.append_toArray,List.nil_append,List.cons_append]
 gi_wp2_with fail
 refine (RoundIn.deep rfl HRR.out).mono ?_
 rintro e X (⟨rfl,hj,hf⟩ | ⟨rfl,hj⟩)
 ·have HX:Hid (PushIs [(0,⟨b,o,none⟩)] J Jx W (.returned (.bool true)) X):=.inl ⟨rfl,hj,hf⟩
  clear hj hf z0 hy HRR
  gi_wp2_with fail
  go_ret
  exact HX.out
 have HX:Hid (PushIs [(0,⟨b,o,none⟩)] J Jx W (.returned (.bool false)) X):=.inr ⟨rfl,hj⟩
 clear hj z0 hy HRR
 gi_wp2_with fail
 go_ret
 exact HX.out
theorem eg_ts1:∀ args w,(callFunc 76 args).run Tryz.prog w=.ok (.enter 76 args) w:=enters_of Tryz.func76 (by kernel_rfl) rfl
theorem YS.at_ {l k:Nat} {cs:List (Nat × Addr)} {x:Nat × Addr} {J:Nat→World→Prop} {Jx:World→Prop} (h:YS l cs J Jx) (hk:cs[k]?=some x):YS l [x] (fun q=>J (k+q)) Jx :=
 ⟨fun q X Y=>h.bel _ X Y,h.belx,fun q s p X hq hj m=>h.y (k+q) s p X (by
  cases q with
  | zero=>rw[Nat.add_zero,hk];simpa using hq
  | succ q=>simp at hq) hj m⟩
set_option maxHeartbeats 1000000 in
theorem ts_any (l:Nat) (A:Option Addr) (n c:Nat) (ts:List Int) (hl:ts.length=n∧(0<n→∃ b o,A=some ⟨b,o,none⟩)) (hn:n≤140737488355328) (Bf:Nat) (J:Nat→World→Prop) (Jx:World→Prop) (hY:YS l (plT ⟨A,n,c⟩ ts) J Jx) (W:World) (hB:Blk W Bf 120 #[.func (.yield l) #[] #[]]) (h0:J 0 W) :
 Calls Tryz.prog 74 #[.slice A n c,.pointer (some ⟨Bf,0,none⟩)] W (PushIs (plT ⟨A,n,c⟩ ts) J Jx W):=by
 have HE:Hid (Calls Tryz.prog 75 #[.slice A n c,.func (.func 76) #[] #[.pointer (some ⟨Bf,0,none⟩)]] W (EachIs (fun i X=>J i X∧Fk W X) Jx n)):=by
  refine each_in _ _ eg_ts1 A n c hl.2 _ _ (fun i X hi hj=>?_) hn W ⟨h0,Fk.refl W⟩
  obtain⟨b,o,rfl⟩:=hl.2 (by omega)
  have hy:=hY.at_ (plT_at ⟨some ⟨b,o,none⟩,n,c⟩ ts (by rw[hl.1];exact hi))
  rw[SH.ad_is rfl] at hy ⊢
  refine (ts1_any l b (o+i) Bf _ Jx hy X (hj.2.firm _ _ _ hB rfl) hj.1).mono ?_
  rintro e Y (⟨rfl,h1,h2⟩ | ⟨rfl,h1⟩)
  ·exact .inl ⟨rfl,h1,hj.2.trans h2⟩
  exact .inr ⟨rfl,h1⟩
 clear hY hB h0
 go_enter Tryz.func74,Tryz.ntmps74
 go_wp2_with fail
 refine HE.out.mono ?_
 rintro e X (⟨rfl,hj⟩ | ⟨rfl,hj⟩)
 ·have HX:Hid (PushIs (plT ⟨A,n,c⟩ ts) J Jx W (.returned (.bool true)) X):=.inl ⟨rfl,by rw[plT_len,hl.1];exact hj.1,hj.2⟩
  clear hj HE
  go_wp2_with fail
  go_ret
  exact HX.out
 have HX:Hid (PushIs (plT ⟨A,n,c⟩ ts) J Jx W (.returned (.bool false)) X):=.inr ⟨rfl,hj⟩
 clear hj HE
 go_wp2_with fail
 go_ret
 exact HX.out
set_option maxHeartbeats 2000000 in
theorem ver_any (l b o Bf:Nat) (k:Int) (J:Nat→World→Prop) (Jx:World→Prop) (hY:YS l (qV b o k) J Jx) (W:World) (hB:Blk W Bf 120 #[.func (.yield l) #[] #[]]) (hk:W.cell? ⟨b,o+1,none⟩=some (.int .i64 k)) (h0:J 0 W) :
 Calls Tryz.prog 133 #[.pointer (some ⟨b,o,none⟩),.pointer (some ⟨Bf,0,none⟩)] W (PushIs (qV b o k) J Jx W):=by
 have z0:W.drew.cell? ⟨Bf,0,none⟩=some (.func (.yield l) #[] #[]):=hB.drew.cell 0
 have hk:W.drew.cell? ⟨b,o+1,none⟩=some (.int .i64 k):=hk
 have hj0:=hY.bel _ _ _ h0 ((Below.refl _ _).drew)
 have HF:Hid (Fk W W.drew):=Fk.of_below ((Below.refl _ _).drew)
 by_cases h:k=0
 ·have HX:Hid (PushIs (qV b o k) J Jx W (.returned (.bool true)) W.drew):=.inl ⟨rfl,by unfold qV;rw[if_pos h];exact hj0,HF.out⟩
  have hb:(k==0)=true:=by simpa using h
  clear hY hB h0 h hj0
  refine (callsIn_wide (n:=6)).1 (callsIn_of_wp Tryz.func133 rfl trivial ?_ rfl)
  simp only[Tryz.ntmps133,List.size_toArray,List.length_cons,List.length_nil,Nat.reduceAdd,Nat.reduceSub,Array.replicate_succ,Array.replicate_zero,List.push_toArray,List.append_toArray,List.nil_append,List.cons_append]
  gi_wp2_with fail
  refine wpIn_region_any (by kernel_rfl) ?_
  change wpAnyIn _ _ _ _ _ _ _ _ _ W.drew
  generalize W.drew=Wd at *
  refine tkiv 0 (some 4) (.pointer (some ⟨b,o,none⟩)) rfl rfl rfl (fun w9=>by go_simp) ?_
  try simp only[Act.put,zS]
  refine tkiv 1 (some 5) (.pointer (some ⟨b,o,none⟩)) rfl rfl rfl (fun w9=>by go_simp) ?_
  try simp only[Act.put,zS]
  refine tkiv 2 (some 6) (.pointer (some ⟨b,o+1,none⟩)) rfl rfl rfl (fun w9=>by go_simp) ?_
  try simp only[Act.put,zS]
  refine wpAnyIn_ready (rs:=[3]) (by kernel_rfl) (by simp) ?_
  refine AllReadyIn.cons rfl (fun K hK=>?_) ?_
  ·go_simp
   refine hK _ _ ?_
   clear hK K
   try simp only[Act.put,zS]
   refine tkiv 4 (some 8) (.bool true) rfl rfl rfl (fun w9=>by go_simp) ?_
   try simp only[Act.put,zS]
   refine tkiv 5 (some 9) (.bool true) rfl rfl rfl (fun w9=>by go_simp) ?_
   try simp only[Act.put,zS]
   refine tkiu 6 (some 10) rfl rfl rfl ?_
   refine tkiu 7 (some 11) rfl rfl rfl ?_
   refine tkiu 8 (some 12) rfl rfl rfl ?_
   refine tkiu 9 (some 13) rfl rfl rfl ?_
   refine tkiu 10 (some 14) rfl rfl rfl ?_
   try simp only[Act.put,zS]
   refine tkiv 11 (some 15) (.bool true) rfl rfl rfl (fun w9=>by go_simp) ?_
   try simp only[Act.put,zS]
   refine tkiv 12 (some 3) (.bool true) rfl rfl rfl (fun w9=>by go_simp) ?_
   try simp only[Act.put,zS]
   refine wpAnyIn_done (by kernel_rfl) ?_ _
   gi_wp2_with fail
   go_ret
   exact HX.out
  exact AllReadyIn.nil
 have hb:(k==0)=false:=by simpa using h
 have e:qV b o k=[(0,⟨b,o,none⟩)]:=by unfold qV;rw[if_neg h]
 rw[e] at hY ⊢
 obtain⟨fn,tmps,assign,body,hy,hRR⟩:=hY.y 0 0 ⟨b,o,none⟩ _ rfl hj0 7
 rw[sn0] at hy
 have HRR:=zh hRR
 clear hY hB h0 hRR h e hj0
 refine (callsIn_wide (n:=6)).1 (callsIn_of_wp Tryz.func133 rfl trivial ?_ rfl)
 simp only[Tryz.ntmps133,List.size_toArray,List.length_cons,List.length_nil,Nat.reduceAdd,Nat.reduceSub,Array.replicate_succ,Array.replicate_zero,List.push_toArray,List.append_toArray,List.nil_append,List.cons_append]
 gi_wp2_with fail
 refine wpIn_region_any (by kernel_rfl) ?_
 change wpAnyIn _ _ _ _ _ _ _ _ _ W.drew
 generalize W.drew=Wd at *
 refine tkiv 0 (some 4) (.pointer (some ⟨b,o,none⟩)) rfl rfl rfl (fun w9=>by go_simp) ?_
 try simp only[Act.put,zS]
 refine tkiv 1 (some 5) (.pointer (some ⟨b,o,none⟩)) rfl rfl rfl (fun w9=>by go_simp) ?_
 try simp only[Act.put,zS]
 refine tkiv 2 (some 6) (.pointer (some ⟨b,o+1,none⟩)) rfl rfl rfl (fun w9=>by go_simp) ?_
 try simp only[Act.put,zS]
 refine wpAnyIn_ready (rs:=[3]) (by kernel_rfl) (by simp) ?_
 refine AllReadyIn.cons rfl (fun K hK=>?_) ?_
 ·go_simp
  refine hK _ _ ?_
  clear hK K
  try simp only[Act.put,zS]
  refine tkiv 4 (some 8) (.bool false) rfl rfl rfl (fun w9=>by go_simp) ?_
  try simp only[Act.put,zS]
  refine tkiv 5 (some 9) (.bool false) rfl rfl rfl (fun w9=>by go_simp) ?_
  try simp only[Act.put,zS]
  refine tkiv 7 (some 11) (.pointer (some ⟨b,o,none⟩)) rfl rfl rfl (fun w9=>by go_simp) ?_
  try simp only[Act.put,zS]
  refine tkiv 8 (some 12) (.pointer (some ⟨b,o,none⟩)) rfl rfl rfl (fun w9=>by go_simp) ?_
  try simp only[Act.put,zS]
  refine tkiv 9 (some 13) (.pointer (some ⟨b,o,none⟩)) rfl rfl rfl (fun w9=>by go_simp) ?_
  try simp only[Act.put,zS]
  refine wpAnyIn_ready (rs:=[6]) (by kernel_rfl) (by simp) ?_
  refine AllReadyIn.cons rfl (fun K hK=>?_) ?_
  ·go_simp
   refine hK _ _ ?_
   clear hK K
   try simp only[Act.put,zS]
   refine wpAnyIn_ready (rs:=[10]) (by kernel_rfl) (by simp) ?_
   refine AllReadyIn.cons rfl (fun K hK=>?_) ?_
   ·go_simp
    refine (RoundIn.deep rfl HRR.out).mono ?_
    rintro e X (⟨rfl,hj,hf⟩ | ⟨rfl,hj⟩)
    ·have HX:Hid (PushIs ([(0,⟨b,o,none⟩)]) J Jx W (.returned (.bool true)) X):=.inl ⟨rfl,hj,HF.out.trans hf⟩
     clear hj hf z0 hy HRR
     go_simp
     refine hK _ _ ?_
     clear hK K
     try simp only[Act.put,zS]
     refine tkiv 11 (some 15) (.bool true) rfl rfl rfl (fun w9=>by go_simp) ?_
     try simp only[Act.put,zS]
     refine tkiv 12 (some 3) (.bool true) rfl rfl rfl (fun w9=>by go_simp) ?_
     try simp only[Act.put,zS]
     refine wpAnyIn_done (by kernel_rfl) ?_ _
     gi_wp2_with fail
     go_ret
     exact HX.out
    have HX:Hid (PushIs ([(0,⟨b,o,none⟩)]) J Jx W (.returned (.bool false)) X):=.inr ⟨rfl,hj⟩
    clear hj z0 hy HRR
    go_simp
    refine hK _ _ ?_
    clear hK K
    try simp only[Act.put,zS]
    refine tkiv 11 (some 15) (.bool false) rfl rfl rfl (fun w9=>by go_simp) ?_
    try simp only[Act.put,zS]
    refine tkiv 12 (some 3) (.bool false) rfl rfl rfl (fun w9=>by go_simp) ?_
    try simp only[Act.put,zS]
    refine wpAnyIn_done (by kernel_rfl) ?_ _
    gi_wp2_with fail
    go_ret
    exact HX.out
   exact AllReadyIn.nil
  exact AllReadyIn.nil
 exact AllReadyIn.nil
set_option maxHeartbeats 4000000 in
theorem seen_any (l b o Bf Bv:Nat) (s:SeenP) (J:Nat→World→Prop) (Jx:World→Prop) (hY:YS l (qS b o s) J Jx) (W:World) (hB:Blk W Bf 120 #[.func (.yield l) #[] #[]]) (hV:Blk W Bv 178 #[.func (.func 133) #[] #[.pointer (some ⟨Bf,0,none⟩)]]) (hK:∀ k X,J k X→X.cell? ⟨b,o+1+1,none⟩=some (.int .i64 s.k)) (h0:J 0 W) :
 Calls Tryz.prog 135 #[.pointer (some ⟨b,o,none⟩),.pointer (some ⟨Bf,0,none⟩),.pointer (some ⟨Bv,0,none⟩)] W (PushIs (qS b o s) J Jx W):=by
 have z0:W.drew.cell? ⟨Bf,0,none⟩=some (.func (.yield l) #[] #[]):=hB.drew.cell 0
 have hj0:=hY.bel _ _ _ h0 ((Below.refl _ _).drew)
 have HF:Hid (Fk W W.drew):=Fk.of_below ((Below.refl _ _).drew)
 obtain⟨fn,tmps,assign,body,hy,hRR⟩:=hY.y 0 2 ⟨b,o,none⟩ _ rfl hj0 7
 rw[sn2] at hy
 have HRR:=zh hRR
 have HY:=zh hY
 have HB:=zh hB.drew
 have HV:=zh hV.drew
 have HK:=zh hK
 clear hY hB hV h0 hj0 hRR hK
 refine (callsIn_wide (n:=6)).1 (callsIn_of_wp Tryz.func135 rfl trivial ?_ rfl)
 simp only[Tryz.ntmps135,List.size_toArray,List.length_cons,List.length_nil,Nat.reduceAdd,Nat.reduceSub,Array.replicate_succ,Array.replicate_zero,List.push_toArray,List.append_toArray,List.nil_append,List.cons_append]
 gi_wp2_with fail
 refine wpIn_region_any (by kernel_rfl) ?_
 change wpAnyIn _ _ _ _ _ _ _ _ _ W.drew
 generalize W.drew=Wd at *
 refine tkiv 1 (some 6) (.pointer (some ⟨b,o,none⟩)) rfl rfl rfl (fun w9=>by go_simp) ?_
 try simp only[Act.put,zS]
 refine tkiv 2 (some 7) (.pointer (some ⟨b,o,none⟩)) rfl rfl rfl (fun w9=>by go_simp) ?_
 try simp only[Act.put,zS]
 refine tkiv 3 (some 8) (.pointer (some ⟨b,o,none⟩)) rfl rfl rfl (fun w9=>by go_simp) ?_
 try simp only[Act.put,zS]
 refine wpAnyIn_ready (rs:=[0]) (by kernel_rfl) (by simp) ?_
 refine AllReadyIn.cons rfl (fun K hK=>?_) ?_
 ·go_simp
  refine hK _ _ ?_
  clear hK K
  try simp only[Act.put,zS]
  refine wpAnyIn_ready (rs:=[4]) (by kernel_rfl) (by simp) ?_
  refine AllReadyIn.cons rfl (fun K hK=>?_) ?_
  ·go_simp
   refine (RoundIn.deep rfl HRR.out).mono ?_
   rintro e X (⟨rfl,hj,hf⟩ | ⟨rfl,hj⟩)
   ·have HF:=zh (HF.out.trans hf)
    have z1:=(hf.firm _ _ _ HV.out rfl).cell 0
    have hk1:=HK.out 1 X hj
    have HC:=zh (ver_any l b (o+1) Bf s.k (fun k=>J (k+1)) Jx HY.out.tail X (hf.firm _ _ _ HB.out rfl) hk1 hj)
    clear hj hf z0 hy HRR
    go_simp
    refine hK _ _ ?_
    clear hK K
    try simp only[Act.put,zS]
    refine tkiv 5 (some 10) (.bool true) rfl rfl rfl (fun w9=>by go_simp) ?_
    try simp only[Act.put,zS]
    refine tkiv 7 (some 12) (.pointer (some ⟨b,o,none⟩)) rfl rfl rfl (fun w9=>by go_simp) ?_
    try simp only[Act.put,zS]
    refine tkiv 8 (some 13) (.pointer (some ⟨b,o,none⟩)) rfl rfl rfl (fun w9=>by go_simp) ?_
    try simp only[Act.put,zS]
    refine tkiv 9 (some 14) (.pointer (some ⟨b,o+1,none⟩)) rfl rfl rfl (fun w9=>by go_simp) ?_
    try simp only[Act.put,zS]
    refine wpAnyIn_ready (rs:=[6]) (by kernel_rfl) (by simp) ?_
    refine AllReadyIn.cons rfl (fun K hK=>?_) ?_
    ·go_simp
     refine hK _ _ ?_
     clear hK K
     try simp only[Act.put,zS]
     refine wpAnyIn_ready (rs:=[10]) (by kernel_rfl) (by simp) ?_
     refine AllReadyIn.cons rfl (fun K hK=>?_) ?_
     ·go_simp
      refine⟨trivial,(callsIn_wide.2 HC.out).mono ?_⟩
      rintro e Y (⟨rfl,hj,hf⟩ | ⟨rfl,hj⟩)
      ·have HX:Hid (PushIs (qS b o s) J Jx W (.returned (.bool true)) Y):=.inl ⟨rfl,hj,HF.out.trans hf⟩
       clear hj hf z1 HC
       go_simp
       refine hK _ _ ?_
       clear hK K
       try simp only[Act.put,zS]
       refine tkiv 11 (some 16) (.bool true) rfl rfl rfl (fun w9=>by go_simp) ?_
       try simp only[Act.put,zS]
       refine tkiv 12 (some 4) (.bool true) rfl rfl rfl (fun w9=>by go_simp) ?_
       try simp only[Act.put,zS]
       refine wpAnyIn_done (by kernel_rfl) ?_ _
       gi_wp2_with fail
       go_ret
       exact HX.out
      have HX:Hid (PushIs (qS b o s) J Jx W (.returned (.bool false)) Y):=.inr ⟨rfl,hj⟩
      clear hj z1 HC
      go_simp
      refine hK _ _ ?_
      clear hK K
      try simp only[Act.put,zS]
      refine tkiv 11 (some 16) (.bool false) rfl rfl rfl (fun w9=>by go_simp) ?_
      try simp only[Act.put,zS]
      refine tkiv 12 (some 4) (.bool false) rfl rfl rfl (fun w9=>by go_simp) ?_
      try simp only[Act.put,zS]
      refine wpAnyIn_done (by kernel_rfl) ?_ _
      gi_wp2_with fail
      go_ret
      exact HX.out
     exact AllReadyIn.nil
    exact AllReadyIn.nil
   have HX:Hid (PushIs (qS b o s) J Jx W (.returned (.bool false)) X):=.inr ⟨rfl,hj⟩
   clear hj z0 hy HRR
   go_simp
   refine hK _ _ ?_
   clear hK K
   try simp only[Act.put,zS]
   refine tkiv 5 (some 10) (.bool false) rfl rfl rfl (fun w9=>by go_simp) ?_
   try simp only[Act.put,zS]
   refine tkiu 6 (some 11) rfl rfl rfl ?_
   refine tkiu 7 (some 12) rfl rfl rfl ?_
   refine tkiu 8 (some 13) rfl rfl rfl ?_
   refine tkiu 9 (some 14) rfl rfl rfl ?_
   refine tkiu 10 (some 15) rfl rfl rfl ?_
   try simp only[Act.put,zS]
   refine tkiv 11 (some 16) (.bool false) rfl rfl rfl (fun w9=>by go_simp) ?_
   try simp only[Act.put,zS]
   refine tkiv 12 (some 4) (.bool false) rfl rfl rfl (fun w9=>by go_simp) ?_
   try simp only[Act.put,zS]
   refine wpAnyIn_done (by kernel_rfl) ?_ _
   gi_wp2_with fail
   go_ret
   exact HX.out
  exact AllReadyIn.nil
 exact AllReadyIn.nil
theorem eg_seen:∀ args w,(callFunc 135 args).run Tryz.prog w=.ok (.enter 135 args) w:=enters_of Tryz.func135 (by kernel_rfl) rfl
set_option maxHeartbeats 4000000 in
theorem od_any (l b o Bf Bv:Nat) (A:Option Addr) (n c:Nat) (ts:List Int) (hl:ts.length=n∧(0<n→∃ b o,A=some ⟨b,o,none⟩)) (hn:n≤140737488355328) (J:Nat→World→Prop) (Jx:World→Prop) (hY:YS l ((2,⟨b,o,none⟩) :: plT ⟨A,n,c⟩ ts) J Jx) (W:World) (hB:Blk W Bf 120 #[.func (.yield l) #[] #[]]) (hV:Blk W Bv 52 #[.func (.func 74) #[] #[.pointer (some ⟨Bf,0,none⟩)]]) (hK:∀ k X,J k X→X.cell? ⟨b,o+1,none⟩=some (.slice A n c)) (h0:J 0 W) :
 Calls Tryz.prog 81 #[.pointer (some ⟨b,o,none⟩),.pointer (some ⟨Bf,0,none⟩),.pointer (some ⟨Bv,0,none⟩)] W (PushIs ((2,⟨b,o,none⟩) :: plT ⟨A,n,c⟩ ts) J Jx W):=by
 have z0:W.drew.cell? ⟨Bf,0,none⟩=some (.func (.yield l) #[] #[]):=hB.drew.cell 0
 have hj0:=hY.bel _ _ _ h0 ((Below.refl _ _).drew)
 have HF:Hid (Fk W W.drew):=Fk.of_below ((Below.refl _ _).drew)
 obtain⟨fn,tmps,assign,body,hy,hRR⟩:=hY.y 0 2 ⟨b,o,none⟩ _ rfl hj0 7
 rw[sn2] at hy
 have HRR:=zh hRR
 have HY:=zh hY
 have HB:=zh hB.drew
 have HV:=zh hV.drew
 have HK:=zh hK
 clear hY hB hV h0 hj0 hRR hK
 refine (callsIn_wide (n:=6)).1 (callsIn_of_wp Tryz.func81 rfl trivial ?_ rfl)
 simp only[Tryz.ntmps81,List.size_toArray,List.length_cons,List.length_nil,Nat.reduceAdd,Nat.reduceSub,Array.replicate_succ,Array.replicate_zero,List.push_toArray,List.append_toArray,List.nil_append,List.cons_append]
 gi_wp2_with fail
 refine wpIn_region_any (by kernel_rfl) ?_
 change wpAnyIn _ _ _ _ _ _ _ _ _ W.drew
 generalize W.drew=Wd at *
 refine tkiv 1 (some 6) (.pointer (some ⟨b,o,none⟩)) rfl rfl rfl (fun w9=>by go_simp) ?_
 try simp only[Act.put,zS]
 refine tkiv 2 (some 7) (.pointer (some ⟨b,o,none⟩)) rfl rfl rfl (fun w9=>by go_simp) ?_
 try simp only[Act.put,zS]
 refine tkiv 3 (some 8) (.pointer (some ⟨b,o,none⟩)) rfl rfl rfl (fun w9=>by go_simp) ?_
 try simp only[Act.put,zS]
 refine wpAnyIn_ready (rs:=[0]) (by kernel_rfl) (by simp) ?_
 refine AllReadyIn.cons rfl (fun K hK=>?_) ?_
 ·go_simp
  refine hK _ _ ?_
  clear hK K
  try simp only[Act.put,zS]
  refine wpAnyIn_ready (rs:=[4]) (by kernel_rfl) (by simp) ?_
  refine AllReadyIn.cons rfl (fun K hK=>?_) ?_
  ·go_simp
   refine (RoundIn.deep rfl HRR.out).mono ?_
   rintro e X (⟨rfl,hj,hf⟩ | ⟨rfl,hj⟩)
   ·have HF:=zh (HF.out.trans hf)
    have z1:=(hf.firm _ _ _ HV.out rfl).cell 0
    have hk1:=HK.out 1 X hj
    have HC:=zh (ts_any l A n c ts hl hn Bf (fun k=>J (k+1)) Jx HY.out.tail X (hf.firm _ _ _ HB.out rfl) hj)
    clear hj hf z0 hy HRR
    go_simp
    refine hK _ _ ?_
    clear hK K
    try simp only[Act.put,zS]
    refine tkiv 5 (some 10) (.bool true) rfl rfl rfl (fun w9=>by go_simp) ?_
    try simp only[Act.put,zS]
    refine tkiv 7 (some 12) (.pointer (some ⟨b,o,none⟩)) rfl rfl rfl (fun w9=>by go_simp) ?_
    try simp only[Act.put,zS]
    refine tkiv 8 (some 13) (.pointer (some ⟨b,o,none⟩)) rfl rfl rfl (fun w9=>by go_simp) ?_
    try simp only[Act.put,zS]
    refine tkiv 9 (some 14) (.pointer (some ⟨b,o+1,none⟩)) rfl rfl rfl (fun w9=>by go_simp) ?_
    try simp only[Act.put,zS]
    refine wpAnyIn_ready (rs:=[6,10]) (by kernel_rfl) (by simp) ?_
    refine AllReadyIn.cons rfl (fun K hK=>?_) ?_
    ·go_simp
     refine hK _ _ ?_
     clear hK K
     try simp only[Act.put,zS]
     refine wpAnyIn_ready (rs:=[10]) (by kernel_rfl) (by simp) ?_
     refine AllReadyIn.cons rfl (fun K hK=>?_) ?_
     ·go_simp
      refine hK _ _ ?_
      clear hK K
      try simp only[Act.put,zS]
      refine wpAnyIn_ready (rs:=[11]) (by kernel_rfl) (by simp) ?_
      refine AllReadyIn.cons rfl (fun K hK=>?_) ?_
      ·go_simp
       refine⟨trivial,(callsIn_wide.2 HC.out).mono ?_⟩
       rintro e Y (⟨rfl,hj,hf⟩ | ⟨rfl,hj⟩)
       ·have HX:Hid (PushIs ((2,⟨b,o,none⟩) :: plT ⟨A,n,c⟩ ts) J Jx W (.returned (.bool true)) Y):=.inl ⟨rfl,hj,HF.out.trans hf⟩
        clear hj hf z1 HC
        go_simp
        refine hK _ _ ?_
        clear hK K
        try simp only[Act.put,zS]
        refine tkiv 12 (some 17) (.bool true) rfl rfl rfl (fun w9=>by go_simp) ?_
        try simp only[Act.put,zS]
        refine tkiv 13 (some 4) (.bool true) rfl rfl rfl (fun w9=>by go_simp) ?_
        try simp only[Act.put,zS]
        refine wpAnyIn_done (by kernel_rfl) ?_ _
        gi_wp2_with fail
        go_ret
        exact HX.out
       have HX:Hid (PushIs ((2,⟨b,o,none⟩) :: plT ⟨A,n,c⟩ ts) J Jx W (.returned (.bool false)) Y):=.inr ⟨rfl,hj⟩
       clear hj z1 HC
       go_simp
       refine hK _ _ ?_
       clear hK K
       try simp only[Act.put,zS]
       refine tkiv 12 (some 17) (.bool false) rfl rfl rfl (fun w9=>by go_simp) ?_
       try simp only[Act.put,zS]
       refine tkiv 13 (some 4) (.bool false) rfl rfl rfl (fun w9=>by go_simp) ?_
       try simp only[Act.put,zS]
       refine wpAnyIn_done (by kernel_rfl) ?_ _
       gi_wp2_with fail
       go_ret
       exact HX.out
      exact AllReadyIn.nil
     exact AllReadyIn.nil
    refine AllReadyIn.cons rfl (fun K hK=>?_) ?_
    ·go_simp
     refine hK _ _ ?_
     clear hK K
     try simp only[Act.put,zS]
     refine wpAnyIn_ready (rs:=[6]) (by kernel_rfl) (by simp) ?_
     refine AllReadyIn.cons rfl (fun K hK=>?_) ?_
     ·go_simp
      refine hK _ _ ?_
      clear hK K
      try simp only[Act.put,zS]
      refine wpAnyIn_ready (rs:=[11]) (by kernel_rfl) (by simp) ?_
      refine AllReadyIn.cons rfl (fun K hK=>?_) ?_
      ·go_simp
       refine⟨trivial,(callsIn_wide.2 HC.out).mono ?_⟩
       rintro e Y (⟨rfl,hj,hf⟩ | ⟨rfl,hj⟩)
       ·have HX:Hid (PushIs ((2,⟨b,o,none⟩) :: plT ⟨A,n,c⟩ ts) J Jx W (.returned (.bool true)) Y):=.inl ⟨rfl,hj,HF.out.trans hf⟩
        clear hj hf z1 HC
        go_simp
        refine hK _ _ ?_
        clear hK K
        try simp only[Act.put,zS]
        refine tkiv 12 (some 17) (.bool true) rfl rfl rfl (fun w9=>by go_simp) ?_
        try simp only[Act.put,zS]
        refine tkiv 13 (some 4) (.bool true) rfl rfl rfl (fun w9=>by go_simp) ?_
        try simp only[Act.put,zS]
        refine wpAnyIn_done (by kernel_rfl) ?_ _
        gi_wp2_with fail
        go_ret
        exact HX.out
       have HX:Hid (PushIs ((2,⟨b,o,none⟩) :: plT ⟨A,n,c⟩ ts) J Jx W (.returned (.bool false)) Y):=.inr ⟨rfl,hj⟩
       clear hj z1 HC
       go_simp
       refine hK _ _ ?_
       clear hK K
       try simp only[Act.put,zS]
       refine tkiv 12 (some 17) (.bool false) rfl rfl rfl (fun w9=>by go_simp) ?_
       try simp only[Act.put,zS]
       refine tkiv 13 (some 4) (.bool false) rfl rfl rfl (fun w9=>by go_simp) ?_
       try simp only[Act.put,zS]
       refine wpAnyIn_done (by kernel_rfl) ?_ _
       gi_wp2_with fail
       go_ret
       exact HX.out
      exact AllReadyIn.nil
     exact AllReadyIn.nil
    exact AllReadyIn.nil
   have HX:Hid (PushIs ((2,⟨b,o,none⟩) :: plT ⟨A,n,c⟩ ts) J Jx W (.returned (.bool false)) X):=.inr ⟨rfl,hj⟩
   clear hj z0 hy HRR
   go_simp
   refine hK _ _ ?_
   clear hK K
   try simp only[Act.put,zS]
   refine tkiv 5 (some 10) (.bool false) rfl rfl rfl (fun w9=>by go_simp) ?_
   try simp only[Act.put,zS]
   refine tkiu 6 (some 11) rfl rfl rfl ?_
   refine tkiu 7 (some 12) rfl rfl rfl ?_
   refine tkiu 8 (some 13) rfl rfl rfl ?_
   refine tkiu 9 (some 14) rfl rfl rfl ?_
   refine tkiu 10 (some 15) rfl rfl rfl ?_
   refine tkiu 11 (some 16) rfl rfl rfl ?_
   try simp only[Act.put,zS]
   refine tkiv 12 (some 17) (.bool false) rfl rfl rfl (fun w9=>by go_simp) ?_
   try simp only[Act.put,zS]
   refine tkiv 13 (some 4) (.bool false) rfl rfl rfl (fun w9=>by go_simp) ?_
   try simp only[Act.put,zS]
   refine wpAnyIn_done (by kernel_rfl) ?_ _
   gi_wp2_with fail
   go_ret
   exact HX.out
  exact AllReadyIn.nil
 exact AllReadyIn.nil
theorem eg_od:∀ args w,(callFunc 81 args).run Tryz.prog w=.ok (.enter 81 args) w:=enters_of Tryz.func81 (by kernel_rfl) rfl
set_option maxHeartbeats 2000000 in
theorem wa_any (l b o Bf:Nat) (J:Nat→World→Prop) (Jx:World→Prop) (hY:YS l ([(1,⟨b,o,none⟩)]) J Jx) (W:World) (hB:Blk W Bf 120 #[.func (.yield l) #[] #[]]) (h0:J 0 W) :
 Calls Tryz.prog 85 #[.pointer (some ⟨b,o,none⟩),.pointer (some ⟨Bf,0,none⟩)] W (PushIs ([(1,⟨b,o,none⟩)]) J Jx W):=by
 have z0:W.drew.cell? ⟨Bf,0,none⟩=some (.func (.yield l) #[] #[]):=hB.drew.cell 0
 have hj0:=hY.bel _ _ _ h0 ((Below.refl _ _).drew)
 have HF:Hid (Fk W W.drew):=Fk.of_below ((Below.refl _ _).drew)
 obtain⟨fn,tmps,assign,body,hy,hRR⟩:=hY.y 0 1 ⟨b,o,none⟩ _ rfl hj0 7
 rw[sn1] at hy
 have HRR:=zh hRR
 clear hY hB h0 hj0 hRR
 refine (callsIn_wide (n:=6)).1 (callsIn_of_wp Tryz.func85 rfl trivial ?_ rfl)
 simp only[Tryz.ntmps85,List.size_toArray,List.length_cons,List.length_nil,Nat.reduceAdd,Nat.reduceSub,Array.replicate_succ,Array.replicate_zero,List.push_toArray,List.append_toArray,List.nil_append,List.cons_append]
 gi_wp2_with fail
 refine wpIn_region_any (by kernel_rfl) ?_
 change wpAnyIn _ _ _ _ _ _ _ _ _ W.drew
 generalize W.drew=Wd at *
 refine tkiv 1 (some 5) (.pointer (some ⟨b,o,none⟩)) rfl rfl rfl (fun w9=>by go_simp) ?_
 try simp only[Act.put,zS]
 refine tkiv 2 (some 6) (.pointer (some ⟨b,o,none⟩)) rfl rfl rfl (fun w9=>by go_simp) ?_
 try simp only[Act.put,zS]
 refine tkiv 3 (some 7) (.pointer (some ⟨b,o,none⟩)) rfl rfl rfl (fun w9=>by go_simp) ?_
 try simp only[Act.put,zS]
 refine wpAnyIn_ready (rs:=[0]) (by kernel_rfl) (by simp) ?_
 refine AllReadyIn.cons rfl (fun K hK=>?_) ?_
 ·go_simp
  refine hK _ _ ?_
  clear hK K
  try simp only[Act.put,zS]
  refine wpAnyIn_ready (rs:=[4]) (by kernel_rfl) (by simp) ?_
  refine AllReadyIn.cons rfl (fun K hK=>?_) ?_
  ·go_simp
   refine (RoundIn.deep rfl HRR.out).mono ?_
   rintro e X (⟨rfl,hj,hf⟩ | ⟨rfl,hj⟩)
   ·have HX:Hid (PushIs ([(1,⟨b,o,none⟩)]) J Jx W (.returned (.bool true)) X):=.inl ⟨rfl,hj,HF.out.trans hf⟩
    clear hj hf z0 hy HRR
    go_simp
    refine hK _ _ ?_
    clear hK K
    try simp only[Act.put,zS]
    refine tkiv 5 (some 3) (.bool true) rfl rfl rfl (fun w9=>by go_simp) ?_
    try simp only[Act.put,zS]
    refine wpAnyIn_done (by kernel_rfl) ?_ _
    gi_wp2_with fail
    go_ret
    exact HX.out
   have HX:Hid (PushIs ([(1,⟨b,o,none⟩)]) J Jx W (.returned (.bool false)) X):=.inr ⟨rfl,hj⟩
   clear hj z0 hy HRR
   go_simp
   refine hK _ _ ?_
   clear hK K
   try simp only[Act.put,zS]
   refine tkiv 5 (some 3) (.bool false) rfl rfl rfl (fun w9=>by go_simp) ?_
   try simp only[Act.put,zS]
   refine wpAnyIn_done (by kernel_rfl) ?_ _
   gi_wp2_with fail
   go_ret
   exact HX.out
  exact AllReadyIn.nil
 exact AllReadyIn.nil
theorem eg_wa:∀ args w,(callFunc 85 args).run Tryz.prog w=.ok (.enter 85 args) w:=enters_of Tryz.func85 (by kernel_rfl) rfl
set_option maxHeartbeats 4000000 in
theorem ma_any (l b o Bf Bv:Nat) (A:Option Addr) (n c:Nat) (ts:List Int) (hl:ts.length=n∧(0<n→∃ b o,A=some ⟨b,o,none⟩)) (hn:n≤140737488355328) (J:Nat→World→Prop) (Jx:World→Prop) (hY:YS l ((3,⟨b,o,none⟩) :: (2,⟨b,o+1,none⟩) :: plT ⟨A,n,c⟩ ts) J Jx) (W:World) (hB:Blk W Bf 120 #[.func (.yield l) #[] #[]]) (hV:Blk W Bv 52 #[.func (.func 74) #[] #[.pointer (some ⟨Bf,0,none⟩)]]) (hK:∀ k X,J k X→X.cell? ⟨b,o+3,none⟩=some (.slice A n c)) (h0:J 0 W) :
 Calls Tryz.prog 83 #[.pointer (some ⟨b,o,none⟩),.pointer (some ⟨Bf,0,none⟩),.pointer (some ⟨Bv,0,none⟩)] W (PushIs ((3,⟨b,o,none⟩) :: (2,⟨b,o+1,none⟩) :: plT ⟨A,n,c⟩ ts) J Jx W):=by
 have z0:W.drew.cell? ⟨Bf,0,none⟩=some (.func (.yield l) #[] #[]):=hB.drew.cell 0
 have hj0:=hY.bel _ _ _ h0 ((Below.refl _ _).drew)
 have HF:Hid (Fk W W.drew):=Fk.of_below ((Below.refl _ _).drew)
 obtain⟨fn,tmps,assign,body,hy,hRR⟩:=hY.y 0 3 ⟨b,o,none⟩ _ rfl hj0 7
 rw[sn3] at hy
 have HRR:=zh hRR
 have HY:=zh hY
 have HB:=zh hB.drew
 have HV:=zh hV.drew
 have HK:=zh hK
 clear hY hB hV h0 hj0 hRR hK
 refine (callsIn_wide (n:=6)).1 (callsIn_of_wp Tryz.func83 rfl trivial ?_ rfl)
 simp only[Tryz.ntmps83,List.size_toArray,List.length_cons,List.length_nil,Nat.reduceAdd,Nat.reduceSub,Array.replicate_succ,Array.replicate_zero,List.push_toArray,List.append_toArray,List.nil_append,List.cons_append]
 gi_wp2_with fail
 refine wpIn_region_any (by kernel_rfl) ?_
 change wpAnyIn _ _ _ _ _ _ _ _ _ W.drew
 generalize W.drew=Wd at *
 refine tkiv 1 (some 6) (.pointer (some ⟨b,o,none⟩)) rfl rfl rfl (fun w9=>by go_simp) ?_
 try simp only[Act.put,zS]
 refine tkiv 2 (some 7) (.pointer (some ⟨b,o,none⟩)) rfl rfl rfl (fun w9=>by go_simp) ?_
 try simp only[Act.put,zS]
 refine tkiv 3 (some 8) (.pointer (some ⟨b,o,none⟩)) rfl rfl rfl (fun w9=>by go_simp) ?_
 try simp only[Act.put,zS]
 refine wpAnyIn_ready (rs:=[0]) (by kernel_rfl) (by simp) ?_
 refine AllReadyIn.cons rfl (fun K hK=>?_) ?_
 ·go_simp
  refine hK _ _ ?_
  clear hK K
  try simp only[Act.put,zS]
  refine wpAnyIn_ready (rs:=[4]) (by kernel_rfl) (by simp) ?_
  refine AllReadyIn.cons rfl (fun K hK=>?_) ?_
  ·go_simp
   refine (RoundIn.deep rfl HRR.out).mono ?_
   rintro e X (⟨rfl,hj,hf⟩ | ⟨rfl,hj⟩)
   ·have HF:=zh (HF.out.trans hf)
    have HB1:=zh (hf.firm _ _ _ HB.out rfl)
    have HV1:=zh (hf.firm _ _ _ HV.out rfl)
    have z1:=HB1.out.cell 0
    clear z0 hy HRR
    obtain⟨fn,tmps,assign,body,hy,hRR⟩:=HY.out.y 1 2 ⟨b,o+1,none⟩ X rfl hj 7
    rw[sn2] at hy
    have HRR:=zh hRR
    clear hj hf hRR
    go_simp
    refine hK _ _ ?_
    clear hK K
    try simp only[Act.put,zS]
    refine tkiv 5 (some 10) (.bool true) rfl rfl rfl (fun w9=>by go_simp) ?_
    try simp only[Act.put,zS]
    refine tkiv 7 (some 12) (.pointer (some ⟨b,o,none⟩)) rfl rfl rfl (fun w9=>by go_simp) ?_
    try simp only[Act.put,zS]
    refine tkiv 8 (some 13) (.pointer (some ⟨b,o,none⟩)) rfl rfl rfl (fun w9=>by go_simp) ?_
    try simp only[Act.put,zS]
    refine tkiv 9 (some 14) (.pointer (some ⟨b,o+1,none⟩)) rfl rfl rfl (fun w9=>by go_simp) ?_
    try simp only[Act.put,zS]
    refine wpAnyIn_ready (rs:=[6]) (by kernel_rfl) (by simp) ?_
    refine AllReadyIn.cons rfl (fun K hK=>?_) ?_
    ·go_simp
     refine hK _ _ ?_
     clear hK K
     try simp only[Act.put,zS]
     refine wpAnyIn_ready (rs:=[10]) (by kernel_rfl) (by simp) ?_
     refine AllReadyIn.cons rfl (fun K hK=>?_) ?_
     ·go_simp
      refine (RoundIn.deep rfl HRR.out).mono ?_
      rintro e Y (⟨rfl,hj,hf⟩ | ⟨rfl,hj⟩)
      ·have HF:=zh (HF.out.trans hf)
       have z2:=(hf.firm _ _ _ HV1.out rfl).cell 0
       have hk1:=HK.out 2 Y hj
       have HC:=zh (ts_any l A n c ts hl hn Bf (fun k=>J (k+1+1)) Jx HY.out.tail.tail Y (hf.firm _ _ _ HB1.out rfl) hj)
       clear hj hf z1 hy HRR
       go_simp
       refine hK _ _ ?_
       clear hK K
       try simp only[Act.put,zS]
       refine tkiv 11 (some 16) (.bool true) rfl rfl rfl (fun w9=>by go_simp) ?_
       try simp only[Act.put,zS]
       refine tkiv 12 (some 17) (.bool true) rfl rfl rfl (fun w9=>by go_simp) ?_
       try simp only[Act.put,zS]
       refine tkiv 14 (some 19) (.pointer (some ⟨b,o,none⟩)) rfl rfl rfl (fun w9=>by go_simp) ?_
       try simp only[Act.put,zS]
       refine tkiv 15 (some 20) (.pointer (some ⟨b,o,none⟩)) rfl rfl rfl (fun w9=>by go_simp) ?_
       try simp only[Act.put,zS]
       refine tkiv 16 (some 21) (.pointer (some ⟨b,o+3,none⟩)) rfl rfl rfl (fun w9=>by go_simp) ?_
       try simp only[Act.put,zS]
       refine wpAnyIn_ready (rs:=[13,17]) (by kernel_rfl) (by simp) ?_
       refine AllReadyIn.cons rfl (fun K hK=>?_) ?_
       ·go_simp
        refine hK _ _ ?_
        clear hK K
        try simp only[Act.put,zS]
        refine wpAnyIn_ready (rs:=[17]) (by kernel_rfl) (by simp) ?_
        refine AllReadyIn.cons rfl (fun K hK=>?_) ?_
        ·go_simp
         refine hK _ _ ?_
         clear hK K
         try simp only[Act.put,zS]
         refine wpAnyIn_ready (rs:=[18]) (by kernel_rfl) (by simp) ?_
         refine AllReadyIn.cons rfl (fun K hK=>?_) ?_
         ·go_simp
          refine⟨trivial,(callsIn_wide.2 HC.out).mono ?_⟩
          rintro e Z (⟨rfl,hj,hf⟩ | ⟨rfl,hj⟩)
          ·have HX:Hid (PushIs ((3,⟨b,o,none⟩) :: (2,⟨b,o+1,none⟩) :: plT ⟨A,n,c⟩ ts) J Jx W (.returned (.bool true)) Z):=.inl ⟨rfl,hj,HF.out.trans hf⟩
           clear hj hf z2 hk1 HC
           go_simp
           refine hK _ _ ?_
           clear hK K
           try simp only[Act.put,zS]
           refine tkiv 19 (some 24) (.bool true) rfl rfl rfl (fun w9=>by go_simp) ?_
           try simp only[Act.put,zS]
           refine tkiv 20 (some 4) (.bool true) rfl rfl rfl (fun w9=>by go_simp) ?_
           try simp only[Act.put,zS]
           refine wpAnyIn_done (by kernel_rfl) ?_ _
           gi_wp2_with fail
           go_ret
           exact HX.out
          have HX:Hid (PushIs ((3,⟨b,o,none⟩) :: (2,⟨b,o+1,none⟩) :: plT ⟨A,n,c⟩ ts) J Jx W (.returned (.bool false)) Z):=.inr ⟨rfl,hj⟩
          clear hj z2 hk1 HC
          go_simp
          refine hK _ _ ?_
          clear hK K
          try simp only[Act.put,zS]
          refine tkiv 19 (some 24) (.bool false) rfl rfl rfl (fun w9=>by go_simp) ?_
          try simp only[Act.put,zS]
          refine tkiv 20 (some 4) (.bool false) rfl rfl rfl (fun w9=>by go_simp) ?_
          try simp only[Act.put,zS]
          refine wpAnyIn_done (by kernel_rfl) ?_ _
          gi_wp2_with fail
          go_ret
          exact HX.out
         exact AllReadyIn.nil
        exact AllReadyIn.nil
       refine AllReadyIn.cons rfl (fun K hK=>?_) ?_
       ·go_simp
        refine hK _ _ ?_
        clear hK K
        try simp only[Act.put,zS]
        refine wpAnyIn_ready (rs:=[13]) (by kernel_rfl) (by simp) ?_
        refine AllReadyIn.cons rfl (fun K hK=>?_) ?_
        ·go_simp
         refine hK _ _ ?_
         clear hK K
         try simp only[Act.put,zS]
         refine wpAnyIn_ready (rs:=[18]) (by kernel_rfl) (by simp) ?_
         refine AllReadyIn.cons rfl (fun K hK=>?_) ?_
         ·go_simp
          refine⟨trivial,(callsIn_wide.2 HC.out).mono ?_⟩
          rintro e Z (⟨rfl,hj,hf⟩ | ⟨rfl,hj⟩)
          ·have HX:Hid (PushIs ((3,⟨b,o,none⟩) :: (2,⟨b,o+1,none⟩) :: plT ⟨A,n,c⟩ ts) J Jx W (.returned (.bool true)) Z):=.inl ⟨rfl,hj,HF.out.trans hf⟩
           clear hj hf z2 hk1 HC
           go_simp
           refine hK _ _ ?_
           clear hK K
           try simp only[Act.put,zS]
           refine tkiv 19 (some 24) (.bool true) rfl rfl rfl (fun w9=>by go_simp) ?_
           try simp only[Act.put,zS]
           refine tkiv 20 (some 4) (.bool true) rfl rfl rfl (fun w9=>by go_simp) ?_
           try simp only[Act.put,zS]
           refine wpAnyIn_done (by kernel_rfl) ?_ _
           gi_wp2_with fail
           go_ret
           exact HX.out
          have HX:Hid (PushIs ((3,⟨b,o,none⟩) :: (2,⟨b,o+1,none⟩) :: plT ⟨A,n,c⟩ ts) J Jx W (.returned (.bool false)) Z):=.inr ⟨rfl,hj⟩
          clear hj z2 hk1 HC
          go_simp
          refine hK _ _ ?_
          clear hK K
          try simp only[Act.put,zS]
          refine tkiv 19 (some 24) (.bool false) rfl rfl rfl (fun w9=>by go_simp) ?_
          try simp only[Act.put,zS]
          refine tkiv 20 (some 4) (.bool false) rfl rfl rfl (fun w9=>by go_simp) ?_
          try simp only[Act.put,zS]
          refine wpAnyIn_done (by kernel_rfl) ?_ _
          gi_wp2_with fail
          go_ret
          exact HX.out
         exact AllReadyIn.nil
        exact AllReadyIn.nil
       exact AllReadyIn.nil
      have HX:Hid (PushIs ((3,⟨b,o,none⟩) :: (2,⟨b,o+1,none⟩) :: plT ⟨A,n,c⟩ ts) J Jx W (.returned (.bool false)) Y):=.inr ⟨rfl,hj⟩
      clear hj z1 hy HRR
      go_simp
      refine hK _ _ ?_
      clear hK K
      try simp only[Act.put,zS]
      refine tkiv 11 (some 16) (.bool false) rfl rfl rfl (fun w9=>by go_simp) ?_
      try simp only[Act.put,zS]
      refine tkiv 12 (some 17) (.bool false) rfl rfl rfl (fun w9=>by go_simp) ?_
      try simp only[Act.put,zS]
      refine tkiu 13 (some 18) rfl rfl rfl ?_
      refine tkiu 14 (some 19) rfl rfl rfl ?_
      refine tkiu 15 (some 20) rfl rfl rfl ?_
      refine tkiu 16 (some 21) rfl rfl rfl ?_
      refine tkiu 17 (some 22) rfl rfl rfl ?_
      refine tkiu 18 (some 23) rfl rfl rfl ?_
      try simp only[Act.put,zS]
      refine tkiv 19 (some 24) (.bool false) rfl rfl rfl (fun w9=>by go_simp) ?_
      try simp only[Act.put,zS]
      refine tkiv 20 (some 4) (.bool false) rfl rfl rfl (fun w9=>by go_simp) ?_
      try simp only[Act.put,zS]
      refine wpAnyIn_done (by kernel_rfl) ?_ _
      gi_wp2_with fail
      go_ret
      exact HX.out
     exact AllReadyIn.nil
    exact AllReadyIn.nil
   have HX:Hid (PushIs ((3,⟨b,o,none⟩) :: (2,⟨b,o+1,none⟩) :: plT ⟨A,n,c⟩ ts) J Jx W (.returned (.bool false)) X):=.inr ⟨rfl,hj⟩
   clear hj z0 hy HRR
   go_simp
   refine hK _ _ ?_
   clear hK K
   try simp only[Act.put,zS]
   refine tkiv 5 (some 10) (.bool false) rfl rfl rfl (fun w9=>by go_simp) ?_
   try simp only[Act.put,zS]
   refine tkiu 6 (some 11) rfl rfl rfl ?_
   refine tkiu 7 (some 12) rfl rfl rfl ?_
   refine tkiu 8 (some 13) rfl rfl rfl ?_
   refine tkiu 9 (some 14) rfl rfl rfl ?_
   refine tkiu 10 (some 15) rfl rfl rfl ?_
   try simp only[Act.put,zS]
   refine tkiv 11 (some 16) (.bool false) rfl rfl rfl (fun w9=>by go_simp) ?_
   try simp only[Act.put,zS]
   refine tkiv 12 (some 17) (.bool false) rfl rfl rfl (fun w9=>by go_simp) ?_
   try simp only[Act.put,zS]
   refine tkiu 13 (some 18) rfl rfl rfl ?_
   refine tkiu 14 (some 19) rfl rfl rfl ?_
   refine tkiu 15 (some 20) rfl rfl rfl ?_
   refine tkiu 16 (some 21) rfl rfl rfl ?_
   refine tkiu 17 (some 22) rfl rfl rfl ?_
   refine tkiu 18 (some 23) rfl rfl rfl ?_
   try simp only[Act.put,zS]
   refine tkiv 19 (some 24) (.bool false) rfl rfl rfl (fun w9=>by go_simp) ?_
   try simp only[Act.put,zS]
   refine tkiv 20 (some 4) (.bool false) rfl rfl rfl (fun w9=>by go_simp) ?_
   try simp only[Act.put,zS]
   refine wpAnyIn_done (by kernel_rfl) ?_ _
   gi_wp2_with fail
   go_ret
   exact HX.out
  exact AllReadyIn.nil
 exact AllReadyIn.nil
theorem eg_ma:∀ args w,(callFunc 83 args).run Tryz.prog w=.ok (.enter 83 args) w:=enters_of Tryz.func83 (by kernel_rfl) rfl
end Go.Proofs.YtmkknbonmameoaaGreatDoor
namespace Go.Proofs.YtmkknbonmameoaaGreatDoor
open Go.RowKit Go.Shelf
attribute [local go_sem] Oper.semAt_some
theorem run_store_funcI {P:Program} {w:World} {a:Addr} {m:Mode} (fn:Fn) (first captured:Array Value):(store a (.func fn first captured) m).run P w=stored P w a (.func fn first captured) m:=run_store P w a _ m rfl
attribute [local go_sem] run_store_funcI
def qK (b o:Nat) (p:EvP × SH):List (Nat × Addr) :=
 if p.1.kd=1 then [(1,⟨b,o+2,none⟩)] else if p.1.kd=2∨p.1.kd=3 then (2,⟨b,o+4,none⟩) :: qV b (o+5) p.1.vk else if p.1.kd=4 then (3,⟨b,o+7,none⟩) :: flatI (plS p.2) 0 p.1.scan else []
def qE (b o:Nat) (p:EvP × SH):List (Nat × Addr):=(0,⟨b,o+1,none⟩) :: qK b o p
theorem plE_is {h:SH} {b o i:Nat} {p:EvP × SH} (e:h.A=some ⟨b,o,none⟩):plE h i p=qE b (o+i * 9) p:=by
 unfold plE qE plK qK
 rw[SH.ad_is e,SH.ad_is e,SH.ad_is e,SH.ad_is e,plV_is e]
 simp only[Nat.add_assoc]
theorem ibox (w:World) (a:Array Value) (ta:TypeId):Blk (w.alloc (.cells a ta)) w.heap.size ta a∧Below w.heap.size w (w.alloc (.cells a ta))∧(w.alloc (.cells a ta)).heap.size=w.heap.size+1 :=
 ⟨Blk.new _ _ _,(Below.refl _ _).alloc (Nat.le_refl _) _,by simp⟩
theorem itwo (w:World) (a b:Array Value) (ta tb:TypeId):Blk ((w.alloc (.cells a ta)).alloc (.cells b tb)) w.heap.size ta a∧Blk ((w.alloc (.cells a ta)).alloc (.cells b tb)) (w.heap.size+1) tb b∧Below w.heap.size w ((w.alloc (.cells a ta)).alloc (.cells b tb))∧((w.alloc (.cells a ta)).alloc (.cells b tb)).heap.size=w.heap.size+2:=by
 obtain⟨k,b0,hs⟩:=ibox w a ta
 obtain⟨k1,b1,hs1⟩:=ibox (w.alloc (.cells a ta)) b tb
 rw[hs] at k1
 exact⟨k.alloc _,k1,b0.trans (b1.mono b0.size),by rw[hs1,hs]⟩
section
variable {l : Nat} {J : Nat → World → Prop} {Jx : World → Prop}
theorem YS.part2 {x y:Nat × Addr} {c:List (Nat × Addr)} (h:YS l (x :: y :: c) J Jx):YS l c (fun k=>J (2+k)) Jx:=by
 have:=YS.mid (a:=[x,y]) (b:=c) (c:=[]) (by rw[List.append_nil];exact h)
 exact this
theorem YS.part {α:Type} {f:Nat→α→List (Nat × Addr)} {L:List α} {i:Nat} {x:α} (h:YS l (flatI f 0 L) J Jx) (hi:L[i]?=some x):YS l (f i x) (fun q=>J ((flatI f 0 (L.take i)).length+q)) Jx:=by
 rw[flatI_split hi,Nat.zero_add] at h
 exact h.mid
theorem push_each {α:Type} {f:Nat→α→List (Nat × Addr)} {L:List α} {i:Nat} {x:α} (hi:L[i]?=some x) {W X Y:World} {e:Ending} (hf:Fk W X) (h:PushIs (f i x) (fun q=>J ((flatI f 0 (L.take i)).length+q)) Jx X e Y) :
 EachIs (fun _ Z=>J ((flatI f 0 (L.take (i+1))).length) Z∧Fk W Z) Jx 0 e Y:=by
 rcases h with ⟨rfl,h1,h2⟩ | ⟨rfl,h1⟩
 ·refine .inl ⟨rfl,?_,hf.trans h2⟩
  rw[flatI_take_succ hi,List.length_append,Nat.zero_add]
  exact h1
 exact .inr ⟨rfl,h1⟩
theorem each_push {α:Type} {f:Nat→α→List (Nat × Addr)} {L:List α} {n:Nat} (hn:L.length=n) {W Y:World} {e:Ending} (h:EachIs (fun i Z=>J ((flatI f 0 (L.take i)).length) Z∧Fk W Z) Jx n e Y):PushIs (flatI f 0 L) J Jx W e Y:=by
 rcases h with ⟨rfl,h1,h2⟩ | ⟨rfl,h1⟩
 ·refine .inl ⟨rfl,?_,h2⟩
  rw[List.take_of_length_le (by omega)] at h1
  exact h1
 exact .inr ⟨rfl,h1⟩
end
theorem scan_push (l Bf Bv:Nat) (A:Option Addr) (n c:Nat) (scan:List SeenP) (hl:scan.length=n∧(0<n→∃ b o,A=some ⟨b,o,none⟩)) (hn:n≤140737488355328) (J:Nat→World→Prop) (Jx:World→Prop) (hY:YS l (flatI (plS ⟨A,n,c⟩) 0 scan) J Jx) (W:World)
 (hB:Blk W Bf 120 #[.func (.yield l) #[] #[]]) (hV:Blk W Bv 178 #[.func (.func 133) #[] #[.pointer (some ⟨Bf,0,none⟩)]])
 (hK:∀ k X,J k X→∀ j s,scan[j]?=some s→X.cell? (SH.ad ⟨A,n,c⟩ (j * 3+2))=some (.int .i64 s.k)) (h0:J 0 W) :
 Calls Tryz.prog 134 #[.slice A n c,.func (.func 135) #[] #[.pointer (some ⟨Bf,0,none⟩),.pointer (some ⟨Bv,0,none⟩)]] W (PushIs (flatI (plS ⟨A,n,c⟩) 0 scan) J Jx W):=by
 refine (each_se _ _ eg_seen A n c hl.2 (fun i X=>J ((flatI (plS ⟨A,n,c⟩) 0 (scan.take i)).length) X∧Fk W X) Jx (fun i X hi hj=>?_) hn W ⟨h0,Fk.refl W⟩).mono fun e Y h=>each_push hl.1 h
 obtain⟨b,o,rfl⟩:=hl.2 (by omega)
 have hs:scan[i]?=some scan[i]:=List.getElem?_eq_getElem (by omega)
 have hy:=hY.part hs
 rw[plS_is rfl] at hy
 rw[SH.ad_is rfl]
 refine (seen_any l b (o+i * 3) Bf Bv scan[i] _ Jx hy X (hj.2.firm _ _ _ hB rfl) (hj.2.firm _ _ _ hV rfl) (fun k X hj=>?_) hj.1).mono fun e Y h=>push_each (f:=plS ⟨some ⟨b,o,none⟩,n,c⟩) hs hj.2 (by rw[plS_is rfl];exact h)
 have:=hK _ X hj i _ hs
 rw[SH.ad_is rfl] at this
 simpa only [Nat.add_assoc] using this
set_option maxRecDepth 100000 in
set_option maxHeartbeats 16000000 in
theorem byEvent_any (l b o:Nat) (p:EvP × SH) (hsc:p.1.scan.length=p.2.n∧(0<p.2.n→∃ b o,p.2.A=some ⟨b,o,none⟩)) (hsn:p.2.n≤140737488355328) (J:Nat→World→Prop) (Jx:World→Prop) (hY:YS l (qE b o p) J Jx)
 (hK0:∀ k X,J k X→X.cell? ⟨b,o,none⟩=some (.int .i64 p.1.kd)) (hK6:∀ k X,J k X→X.cell? ⟨b,o+5+1,none⟩=some (.int .i64 p.1.vk)) (hK8:∀ k X,J k X→X.cell? ⟨b,o+8,none⟩=some (.slice p.2.A p.2.n p.2.c))
 (hKS:∀ k X,J k X→∀ j s,p.1.scan[j]?=some s→X.cell? (p.2.ad (j * 3+2))=some (.int .i64 s.k)) (W:World) (h0:J 0 W) :
 Calls Tryz.prog 79 #[.pointer (some ⟨b,o,none⟩),.func (.yield l) #[] #[]] W (PushIs (qE b o p) J Jx W):=by
 obtain⟨kf,kv,b0,-⟩:=itwo W #[.func (.yield l) #[] #[]] #[.func (.func 133) #[] #[.pointer (some ⟨W.heap.size,0,none⟩)]] 120 178
 have b1:=b0.drew
 have hj0:=hY.bel _ _ _ h0 b1
 have HF:=zh (Fk.of_below b1)
 have HB:=zh kf.drew
 have HV:=zh kv.drew
 have z0:=kf.drew.cell 0
 obtain⟨fn,tmps,assign,body,hy,hRR⟩:=hY.y 0 0 ⟨b,o+1,none⟩ _ rfl hj0 7
 rw[sn0] at hy
 have HRR:=zh hRR
 have HY:=zh hY
 have HK0:=zh hK0
 have HK6:=zh hK6
 have HK8:=zh hK8
 have HKS:=zh hKS
 clear hY h0 hj0 hRR hK0 hK6 hK8 hKS b0 b1 kf kv
 refine (callsIn_wide (n:=6)).1 (callsIn_of_wp Tryz.func79 rfl trivial ?_ rfl)
 simp only[Tryz.ntmps79,List.size_toArray,List.length_cons,List.length_nil,Nat.reduceAdd,Nat.reduceSub,Array.replicate_succ,Array.replicate_zero,List.push_toArray,List.append_toArray,List.nil_append,List.cons_append]
 gi_wp2_with fail
 refine wpIn_region_any (by kernel_rfl) ?_
 change wpAnyIn _ _ _ _ _ _ _ _ _ (World.drew _)
 generalize ((W.alloc (.cells #[.func (.yield l) #[] #[]] 120)).alloc (.cells #[.func (.func 133) #[] #[.pointer (some ⟨W.heap.size,0,none⟩)]] 178)).drew=Wd at *
 generalize W.heap.size=Bf at *
 refine tkiv 1 (some 8) (.pointer (some ⟨b,o,none⟩)) rfl rfl rfl (fun w9=>by go_simp) ?_
 try simp only[Act.put,zS]
 refine tkiv 2 (some 9) (.pointer (some ⟨b,o,none⟩)) rfl rfl rfl (fun w9=>by go_simp) ?_
 try simp only[Act.put,zS]
 refine tkiv 3 (some 10) (.pointer (some ⟨b,o+1,none⟩)) rfl rfl rfl (fun w9=>by go_simp) ?_
 try simp only[Act.put,zS]
 refine wpAnyIn_ready (rs:=[0]) (by kernel_rfl) (by simp) ?_
 refine AllReadyIn.cons rfl (fun K hK=>?_) ?_
 ·go_simp
  refine hK _ _ ?_
  clear hK K
  try simp only[Act.put,zS]
  refine wpAnyIn_ready (rs:=[4]) (by kernel_rfl) (by simp) ?_
  refine AllReadyIn.cons rfl (fun K hK=>?_) ?_
  ·go_simp
   refine (RoundIn.deep rfl HRR.out).mono ?_
   rintro e X (⟨rfl,hj,hf⟩ | ⟨rfl,hj⟩)
   ·have HF:=zh (HF.out.trans hf)
    have HBX:=zh (hf.firm _ _ _ HB.out rfl)
    have HVX:=zh (hf.firm _ _ _ HV.out rfl)
    have k0:=HK0.out 1 X hj
    clear z0 hy HRR hf
    go_simp
    refine hK _ _ ?_
    clear hK K
    try simp only[Act.put,zS]
    refine tkiv 5 (some 12) (.bool false) rfl rfl rfl (fun w9=>by go_simp) ?_
    try simp only[Act.put,zS]
    refine wpAnyIn_done (by kernel_rfl) ?_ _
    clear HB HV
    by_cases h1:p.1.kd=1
    ·have hb1:(p.1.kd==1)=true:=by simpa using h1
     have HQ:Hid ((qE b o p).length=2):=by show _=_;unfold qE qK;rw[if_pos h1];rfl
     have HYQ:Hid (YS l ((0,⟨b,o+1,none⟩) :: [(1,⟨b,o+2,none⟩)]) J Jx):=by have:=HY.out;unfold qE qK at this;rw[if_pos h1] at this;exact this
     clear h1 HY
     have y0:X.drew.cell? ⟨Bf,0,none⟩=some (.func (.yield l) #[] #[]):=HBX.out.drew.cell 0
     have hj1:=HYQ.out.bel _ _ _ hj ((Below.refl _ _).drew)
     have HF:=zh (HF.out.trans (Fk.of_below ((Below.refl _ _).drew)))
     have HBX:=zh HBX.out.drew
     have HVX:=zh HVX.out.drew
     obtain⟨fn,tmps,assign,body,hy,hRR⟩:=HYQ.out.y 1 1 ⟨b,o+2,none⟩ _ rfl hj1 7
     rw[sn1] at hy
     have HRR:=zh hRR
     clear hRR hj hj1
     gi_wp2_with fail
     refine wpIn_region_any (by kernel_rfl) ?_
     change wpAnyIn _ _ _ _ _ _ _ _ _ X.drew
     generalize X.drew=Xd at *
     refine tkiv 1 (some 20) (.pointer (some ⟨b,o,none⟩)) rfl rfl rfl (fun w9=>by go_simp) ?_
     try simp only[Act.put,zS]
     refine tkiv 2 (some 21) (.pointer (some ⟨b,o,none⟩)) rfl rfl rfl (fun w9=>by go_simp) ?_
     try simp only[Act.put,zS]
     refine tkiv 3 (some 22) (.pointer (some ⟨b,o+2,none⟩)) rfl rfl rfl (fun w9=>by go_simp) ?_
     try simp only[Act.put,zS]
     refine wpAnyIn_ready (rs:=[0]) (by kernel_rfl) (by simp) ?_
     refine AllReadyIn.cons rfl (fun K hK=>?_) ?_
     ·go_simp
      refine hK _ _ ?_
      clear hK K
      try simp only[Act.put,zS]
      refine wpAnyIn_ready (rs:=[4]) (by kernel_rfl) (by simp) ?_
      refine AllReadyIn.cons rfl (fun K hK=>?_) ?_
      ·go_simp
       refine (RoundIn.deep rfl HRR.out).mono ?_
       rintro e Y (⟨rfl,hj,hf⟩ | ⟨rfl,hj⟩)
       ·have HF:=zh (HF.out.trans hf)
        have HX:Hid (PushIs (qE b o p) J Jx W (.returned (.bool true)) Y):=.inl ⟨rfl,by rw[HQ.out];exact hj,HF.out⟩
        clear hj hf y0 hy HRR
        go_simp
        refine hK _ _ ?_
        clear hK K
        try simp only[Act.put,zS]
        refine tkiv 5 (some 4) (.bool true) rfl rfl rfl (fun w9=>by go_simp) ?_
        try simp only[Act.put,zS]
        refine wpAnyIn_done (by kernel_rfl) ?_ _
        gi_wp2_with fail
        go_ret
        exact HX.out
       have HX:Hid (PushIs (qE b o p) J Jx W (.returned (.bool false)) Y):=.inr ⟨rfl,hj⟩
       clear hj y0 hy HRR
       go_simp
       refine hK _ _ ?_
       clear hK K
       try simp only[Act.put,zS]
       refine tkiv 5 (some 4) (.bool false) rfl rfl rfl (fun w9=>by go_simp) ?_
       try simp only[Act.put,zS]
       refine wpAnyIn_done (by kernel_rfl) ?_ _
       gi_wp2_with fail
       go_ret
       exact HX.out
      exact AllReadyIn.nil
     exact AllReadyIn.nil
    have hb1:(p.1.kd==1)=false:=by simpa using h1
    by_cases h2:p.1.kd=2∨p.1.kd=3
    ·have HQ:Hid ((qE b o p).length=2+(qV b (o+5) p.1.vk).length):=by show _=_;unfold qE qK;rw[if_neg h1,if_pos h2,List.length_cons,List.length_cons];omega
     have HYQ:Hid (YS l ((0,⟨b,o+1,none⟩) :: (2,⟨b,o+4,none⟩) :: qV b (o+5) p.1.vk) J Jx):=by have:=HY.out;unfold qE qK at this;rw[if_neg h1,if_pos h2] at this;exact this
     clear HY
     rcases h2 with h2 | h2
     ·have hb2:(p.1.kd==2)=true:=by simpa using h2
      clear h1 h2
      have y0:X.drew.cell? ⟨Bf,0,none⟩=some (.func (.yield l) #[] #[]):=HBX.out.drew.cell 0
      have hj1:=HYQ.out.bel _ _ _ hj ((Below.refl _ _).drew)
      have HF:=zh (HF.out.trans (Fk.of_below ((Below.refl _ _).drew)))
      have HBX:=zh HBX.out.drew
      have HVX:=zh HVX.out.drew
      obtain⟨fn,tmps,assign,body,hy,hRR⟩:=HYQ.out.y 1 2 ⟨b,o+4,none⟩ _ rfl hj1 7
      rw[sn2] at hy
      have HRR:=zh hRR
      clear hRR hj hj1
      gi_wp2_with fail
      refine wpIn_region_any (by kernel_rfl) ?_
      change wpAnyIn _ _ _ _ _ _ _ _ _ X.drew
      generalize X.drew=Xd at *
      refine tkiv 1 (some 28) (.pointer (some ⟨b,o,none⟩)) rfl rfl rfl (fun w9=>by go_simp) ?_
      try simp only[Act.put,zS]
      refine tkiv 2 (some 29) (.pointer (some ⟨b,o,none⟩)) rfl rfl rfl (fun w9=>by go_simp) ?_
      try simp only[Act.put,zS]
      refine tkiv 3 (some 30) (.pointer (some ⟨b,o+4,none⟩)) rfl rfl rfl (fun w9=>by go_simp) ?_
      try simp only[Act.put,zS]
      refine wpAnyIn_ready (rs:=[0]) (by kernel_rfl) (by simp) ?_
      refine AllReadyIn.cons rfl (fun K hK=>?_) ?_
      ·go_simp
       refine hK _ _ ?_
       clear hK K
       try simp only[Act.put,zS]
       refine wpAnyIn_ready (rs:=[4]) (by kernel_rfl) (by simp) ?_
       refine AllReadyIn.cons rfl (fun K hK=>?_) ?_
       ·go_simp
        refine (RoundIn.deep rfl HRR.out).mono ?_
        rintro e Y (⟨rfl,hj,hf⟩ | ⟨rfl,hj⟩)
        ·have HF:=zh (HF.out.trans hf)
         have z2:=(hf.firm _ _ _ HVX.out rfl).cell 0
         have hk6:=HK6.out 2 Y hj
         have HC:=zh (ver_any l b (o+5) Bf p.1.vk (fun k=>J (2+k)) Jx (HYQ.out.part2) Y (hf.firm _ _ _ HBX.out rfl) hk6 hj)
         clear hj hf y0 hy HRR hk6
         go_simp
         refine hK _ _ ?_
         clear hK K
         try simp only[Act.put,zS]
         refine tkiv 5 (some 32) (.bool true) rfl rfl rfl (fun w9=>by go_simp) ?_
         try simp only[Act.put,zS]
         refine tkiv 7 (some 34) (.pointer (some ⟨b,o,none⟩)) rfl rfl rfl (fun w9=>by go_simp) ?_
         try simp only[Act.put,zS]
         refine tkiv 8 (some 35) (.pointer (some ⟨b,o,none⟩)) rfl rfl rfl (fun w9=>by go_simp) ?_
         try simp only[Act.put,zS]
         refine tkiv 9 (some 36) (.pointer (some ⟨b,o+5,none⟩)) rfl rfl rfl (fun w9=>by go_simp) ?_
         try simp only[Act.put,zS]
         refine wpAnyIn_ready (rs:=[6]) (by kernel_rfl) (by simp) ?_
         refine AllReadyIn.cons rfl (fun K hK=>?_) ?_
         ·go_simp
          refine hK _ _ ?_
          clear hK K
          try simp only[Act.put,zS]
          refine wpAnyIn_ready (rs:=[10]) (by kernel_rfl) (by simp) ?_
          refine AllReadyIn.cons rfl (fun K hK=>?_) ?_
          ·go_simp
           refine⟨trivial,(callsIn_wide.2 HC.out).mono ?_⟩
           rintro e Z (⟨rfl,hj,hf⟩ | ⟨rfl,hj⟩)
           ·have HX:Hid (PushIs (qE b o p) J Jx W (.returned (.bool true)) Z):=.inl ⟨rfl,by rw[HQ.out];exact hj,HF.out.trans hf⟩
            clear hj hf z2 HC
            go_simp
            refine hK _ _ ?_
            clear hK K
            try simp only[Act.put,zS]
            refine tkiv 11 (some 38) (.bool true) rfl rfl rfl (fun w9=>by go_simp) ?_
            try simp only[Act.put,zS]
            refine tkiv 12 (some 4) (.bool true) rfl rfl rfl (fun w9=>by go_simp) ?_
            try simp only[Act.put,zS]
            refine wpAnyIn_done (by kernel_rfl) ?_ _
            gi_wp2_with fail
            go_ret
            exact HX.out
           have HX:Hid (PushIs (qE b o p) J Jx W (.returned (.bool false)) Z):=.inr ⟨rfl,hj⟩
           clear hj z2 HC
           go_simp
           refine hK _ _ ?_
           clear hK K
           try simp only[Act.put,zS]
           refine tkiv 11 (some 38) (.bool false) rfl rfl rfl (fun w9=>by go_simp) ?_
           try simp only[Act.put,zS]
           refine tkiv 12 (some 4) (.bool false) rfl rfl rfl (fun w9=>by go_simp) ?_
           try simp only[Act.put,zS]
           refine wpAnyIn_done (by kernel_rfl) ?_ _
           gi_wp2_with fail
           go_ret
           exact HX.out
          exact AllReadyIn.nil
         exact AllReadyIn.nil
        have HX:Hid (PushIs (qE b o p) J Jx W (.returned (.bool false)) Y):=.inr ⟨rfl,hj⟩
        clear hj y0 hy HRR
        go_simp
        refine hK _ _ ?_
        clear hK K
        try simp only[Act.put,zS]
        refine tkiv 5 (some 32) (.bool false) rfl rfl rfl (fun w9=>by go_simp) ?_
        try simp only[Act.put,zS]
        refine tkiu 6 (some 33) rfl rfl rfl ?_
        refine tkiu 7 (some 34) rfl rfl rfl ?_
        refine tkiu 8 (some 35) rfl rfl rfl ?_
        refine tkiu 9 (some 36) rfl rfl rfl ?_
        refine tkiu 10 (some 37) rfl rfl rfl ?_
        try simp only[Act.put,zS]
        refine tkiv 11 (some 38) (.bool false) rfl rfl rfl (fun w9=>by go_simp) ?_
        try simp only[Act.put,zS]
        refine tkiv 12 (some 4) (.bool false) rfl rfl rfl (fun w9=>by go_simp) ?_
        try simp only[Act.put,zS]
        refine wpAnyIn_done (by kernel_rfl) ?_ _
        gi_wp2_with fail
        go_ret
        exact HX.out
       exact AllReadyIn.nil
      exact AllReadyIn.nil
     have hb2:(p.1.kd==2)=false:=by simp;omega
     have hb3:(p.1.kd==3)=true:=by simpa using h2
     clear h1 h2
     have y0:X.drew.cell? ⟨Bf,0,none⟩=some (.func (.yield l) #[] #[]):=HBX.out.drew.cell 0
     have hj1:=HYQ.out.bel _ _ _ hj ((Below.refl _ _).drew)
     have HF:=zh (HF.out.trans (Fk.of_below ((Below.refl _ _).drew)))
     have HBX:=zh HBX.out.drew
     have HVX:=zh HVX.out.drew
     obtain⟨fn,tmps,assign,body,hy,hRR⟩:=HYQ.out.y 1 2 ⟨b,o+4,none⟩ _ rfl hj1 7
     rw[sn2] at hy
     have HRR:=zh hRR
     clear hRR hj hj1
     gi_wp2_with fail
     refine wpIn_region_any (by kernel_rfl) ?_
     change wpAnyIn _ _ _ _ _ _ _ _ _ X.drew
     generalize X.drew=Xd at *
     refine tkiv 1 (some 28) (.pointer (some ⟨b,o,none⟩)) rfl rfl rfl (fun w9=>by go_simp) ?_
     try simp only[Act.put,zS]
     refine tkiv 2 (some 29) (.pointer (some ⟨b,o,none⟩)) rfl rfl rfl (fun w9=>by go_simp) ?_
     try simp only[Act.put,zS]
     refine tkiv 3 (some 30) (.pointer (some ⟨b,o+4,none⟩)) rfl rfl rfl (fun w9=>by go_simp) ?_
     try simp only[Act.put,zS]
     refine wpAnyIn_ready (rs:=[0]) (by kernel_rfl) (by simp) ?_
     refine AllReadyIn.cons rfl (fun K hK=>?_) ?_
     ·go_simp
      refine hK _ _ ?_
      clear hK K
      try simp only[Act.put,zS]
      refine wpAnyIn_ready (rs:=[4]) (by kernel_rfl) (by simp) ?_
      refine AllReadyIn.cons rfl (fun K hK=>?_) ?_
      ·go_simp
       refine (RoundIn.deep rfl HRR.out).mono ?_
       rintro e Y (⟨rfl,hj,hf⟩ | ⟨rfl,hj⟩)
       ·have HF:=zh (HF.out.trans hf)
        have z2:=(hf.firm _ _ _ HVX.out rfl).cell 0
        have hk6:=HK6.out 2 Y hj
        have HC:=zh (ver_any l b (o+5) Bf p.1.vk (fun k=>J (2+k)) Jx (HYQ.out.part2) Y (hf.firm _ _ _ HBX.out rfl) hk6 hj)
        clear hj hf y0 hy HRR hk6
        go_simp
        refine hK _ _ ?_
        clear hK K
        try simp only[Act.put,zS]
        refine tkiv 5 (some 32) (.bool true) rfl rfl rfl (fun w9=>by go_simp) ?_
        try simp only[Act.put,zS]
        refine tkiv 7 (some 34) (.pointer (some ⟨b,o,none⟩)) rfl rfl rfl (fun w9=>by go_simp) ?_
        try simp only[Act.put,zS]
        refine tkiv 8 (some 35) (.pointer (some ⟨b,o,none⟩)) rfl rfl rfl (fun w9=>by go_simp) ?_
        try simp only[Act.put,zS]
        refine tkiv 9 (some 36) (.pointer (some ⟨b,o+5,none⟩)) rfl rfl rfl (fun w9=>by go_simp) ?_
        try simp only[Act.put,zS]
        refine wpAnyIn_ready (rs:=[6]) (by kernel_rfl) (by simp) ?_
        refine AllReadyIn.cons rfl (fun K hK=>?_) ?_
        ·go_simp
         refine hK _ _ ?_
         clear hK K
         try simp only[Act.put,zS]
         refine wpAnyIn_ready (rs:=[10]) (by kernel_rfl) (by simp) ?_
         refine AllReadyIn.cons rfl (fun K hK=>?_) ?_
         ·go_simp
          refine⟨trivial,(callsIn_wide.2 HC.out).mono ?_⟩
          rintro e Z (⟨rfl,hj,hf⟩ | ⟨rfl,hj⟩)
          ·have HX:Hid (PushIs (qE b o p) J Jx W (.returned (.bool true)) Z):=.inl ⟨rfl,by rw[HQ.out];exact hj,HF.out.trans hf⟩
           clear hj hf z2 HC
           go_simp
           refine hK _ _ ?_
           clear hK K
           try simp only[Act.put,zS]
           refine tkiv 11 (some 38) (.bool true) rfl rfl rfl (fun w9=>by go_simp) ?_
           try simp only[Act.put,zS]
           refine tkiv 12 (some 4) (.bool true) rfl rfl rfl (fun w9=>by go_simp) ?_
           try simp only[Act.put,zS]
           refine wpAnyIn_done (by kernel_rfl) ?_ _
           gi_wp2_with fail
           go_ret
           exact HX.out
          have HX:Hid (PushIs (qE b o p) J Jx W (.returned (.bool false)) Z):=.inr ⟨rfl,hj⟩
          clear hj z2 HC
          go_simp
          refine hK _ _ ?_
          clear hK K
          try simp only[Act.put,zS]
          refine tkiv 11 (some 38) (.bool false) rfl rfl rfl (fun w9=>by go_simp) ?_
          try simp only[Act.put,zS]
          refine tkiv 12 (some 4) (.bool false) rfl rfl rfl (fun w9=>by go_simp) ?_
          try simp only[Act.put,zS]
          refine wpAnyIn_done (by kernel_rfl) ?_ _
          gi_wp2_with fail
          go_ret
          exact HX.out
         exact AllReadyIn.nil
        exact AllReadyIn.nil
       have HX:Hid (PushIs (qE b o p) J Jx W (.returned (.bool false)) Y):=.inr ⟨rfl,hj⟩
       clear hj y0 hy HRR
       go_simp
       refine hK _ _ ?_
       clear hK K
       try simp only[Act.put,zS]
       refine tkiv 5 (some 32) (.bool false) rfl rfl rfl (fun w9=>by go_simp) ?_
       try simp only[Act.put,zS]
       refine tkiu 6 (some 33) rfl rfl rfl ?_
       refine tkiu 7 (some 34) rfl rfl rfl ?_
       refine tkiu 8 (some 35) rfl rfl rfl ?_
       refine tkiu 9 (some 36) rfl rfl rfl ?_
       refine tkiu 10 (some 37) rfl rfl rfl ?_
       try simp only[Act.put,zS]
       refine tkiv 11 (some 38) (.bool false) rfl rfl rfl (fun w9=>by go_simp) ?_
       try simp only[Act.put,zS]
       refine tkiv 12 (some 4) (.bool false) rfl rfl rfl (fun w9=>by go_simp) ?_
       try simp only[Act.put,zS]
       refine wpAnyIn_done (by kernel_rfl) ?_ _
       gi_wp2_with fail
       go_ret
       exact HX.out
      exact AllReadyIn.nil
     exact AllReadyIn.nil
    have hb2:(p.1.kd==2)=false:=by simp;omega
    have hb3:(p.1.kd==3)=false:=by simp;omega
    by_cases h4:p.1.kd=4
    ·have hb4:(p.1.kd==4)=true:=by simpa using h4
     have HQ:Hid ((qE b o p).length=2+(flatI (plS p.2) 0 p.1.scan).length):=by show _=_;unfold qE qK;rw[if_neg h1,if_neg h2,if_pos h4,List.length_cons,List.length_cons];omega
     have HYQ:Hid (YS l ((0,⟨b,o+1,none⟩) :: (3,⟨b,o+7,none⟩) :: flatI (plS p.2) 0 p.1.scan) J Jx):=by have:=HY.out;unfold qE qK at this;rw[if_neg h1,if_neg h2,if_pos h4] at this;exact this
     clear h1 h2 h4 HY
     have y0:X.drew.cell? ⟨Bf,0,none⟩=some (.func (.yield l) #[] #[]):=HBX.out.drew.cell 0
     have hj1:=HYQ.out.bel _ _ _ hj ((Below.refl _ _).drew)
     have HF:=zh (HF.out.trans (Fk.of_below ((Below.refl _ _).drew)))
     have HBX:=zh HBX.out.drew
     have HVX:=zh HVX.out.drew
     obtain⟨fn,tmps,assign,body,hy,hRR⟩:=HYQ.out.y 1 3 ⟨b,o+7,none⟩ _ rfl hj1 7
     rw[sn3] at hy
     have HRR:=zh hRR
     clear hRR hj hj1
     gi_wp2_with fail
     refine wpIn_region_any (by kernel_rfl) ?_
     change wpAnyIn _ _ _ _ _ _ _ _ _ X.drew
     generalize X.drew=Xd at *
     refine tkiv 1 (some 42) (.pointer (some ⟨b,o,none⟩)) rfl rfl rfl (fun w9=>by go_simp) ?_
     try simp only[Act.put,zS]
     refine tkiv 2 (some 43) (.pointer (some ⟨b,o,none⟩)) rfl rfl rfl (fun w9=>by go_simp) ?_
     try simp only[Act.put,zS]
     refine tkiv 3 (some 44) (.pointer (some ⟨b,o+7,none⟩)) rfl rfl rfl (fun w9=>by go_simp) ?_
     try simp only[Act.put,zS]
     refine wpAnyIn_ready (rs:=[0]) (by kernel_rfl) (by simp) ?_
     refine AllReadyIn.cons rfl (fun K hK=>?_) ?_
     ·go_simp
      refine hK _ _ ?_
      clear hK K
      try simp only[Act.put,zS]
      refine wpAnyIn_ready (rs:=[4]) (by kernel_rfl) (by simp) ?_
      refine AllReadyIn.cons rfl (fun K hK=>?_) ?_
      ·go_simp
       refine (RoundIn.deep rfl HRR.out).mono ?_
       rintro e Y (⟨rfl,hj,hf⟩ | ⟨rfl,hj⟩)
       ·have HF:=zh (HF.out.trans hf)
        have z8:=HK8.out 2 Y hj
        have HC:=zh (scan_push l Bf (Bf+1) p.2.A p.2.n p.2.c p.1.scan hsc hsn (fun k=>J (2+k)) Jx HYQ.out.part2 Y (hf.firm _ _ _ HBX.out rfl) (hf.firm _ _ _ HVX.out rfl) (fun k X hj j s hs=>HKS.out (2+k) X hj j s hs) hj)
        clear hj hf y0 hy HRR
        go_simp
        refine hK _ _ ?_
        clear hK K
        try simp only[Act.put,zS]
        refine tkiv 5 (some 46) (.bool true) rfl rfl rfl (fun w9=>by go_simp) ?_
        try simp only[Act.put,zS]
        refine tkiv 6 (some 47) (.pointer (some ⟨b,o,none⟩)) rfl rfl rfl (fun w9=>by go_simp) ?_
        try simp only[Act.put,zS]
        refine tkiv 7 (some 48) (.pointer (some ⟨b,o,none⟩)) rfl rfl rfl (fun w9=>by go_simp) ?_
        try simp only[Act.put,zS]
        refine tkiv 8 (some 49) (.pointer (some ⟨b,o+8,none⟩)) rfl rfl rfl (fun w9=>by go_simp) ?_
        try simp only[Act.put,zS]
        refine tkiv 10 (some 51) (.func (.func 135) #[] #[.pointer (some ⟨Bf,0,none⟩),.pointer (some ⟨Bf+1,0,none⟩)]) rfl rfl rfl (fun w9=>by go_simp) ?_
        try simp only[Act.put,zS]
        refine wpAnyIn_ready (rs:=[9]) (by kernel_rfl) (by simp) ?_
        refine AllReadyIn.cons rfl (fun K hK=>?_) ?_
        ·go_simp
         refine hK _ _ ?_
         clear hK K
         try simp only[Act.put,zS]
         refine wpAnyIn_ready (rs:=[11]) (by kernel_rfl) (by simp) ?_
         refine AllReadyIn.cons rfl (fun K hK=>?_) ?_
         ·go_simp
          refine⟨trivial,(callsIn_wide.2 HC.out).mono ?_⟩
          rintro e Z (⟨rfl,hj,hf⟩ | ⟨rfl,hj⟩)
          ·have HX:Hid (PushIs (qE b o p) J Jx W (.returned (.bool true)) Z):=.inl ⟨rfl,by rw[HQ.out];exact hj,HF.out.trans hf⟩
           clear hj hf z8 HC
           go_simp
           refine hK _ _ ?_
           clear hK K
           try simp only[Act.put,zS]
           refine tkiv 12 (some 53) (.bool true) rfl rfl rfl (fun w9=>by go_simp) ?_
           try simp only[Act.put,zS]
           refine tkiv 13 (some 4) (.bool true) rfl rfl rfl (fun w9=>by go_simp) ?_
           try simp only[Act.put,zS]
           refine wpAnyIn_done (by kernel_rfl) ?_ _
           gi_wp2_with fail
           go_ret
           exact HX.out
          have HX:Hid (PushIs (qE b o p) J Jx W (.returned (.bool false)) Z):=.inr ⟨rfl,hj⟩
          clear hj z8 HC
          go_simp
          refine hK _ _ ?_
          clear hK K
          try simp only[Act.put,zS]
          refine tkiv 12 (some 53) (.bool false) rfl rfl rfl (fun w9=>by go_simp) ?_
          try simp only[Act.put,zS]
          refine tkiv 13 (some 4) (.bool false) rfl rfl rfl (fun w9=>by go_simp) ?_
          try simp only[Act.put,zS]
          refine wpAnyIn_done (by kernel_rfl) ?_ _
          gi_wp2_with fail
          go_ret
          exact HX.out
         exact AllReadyIn.nil
        exact AllReadyIn.nil
       have HX:Hid (PushIs (qE b o p) J Jx W (.returned (.bool false)) Y):=.inr ⟨rfl,hj⟩
       clear hj y0 hy HRR
       go_simp
       refine hK _ _ ?_
       clear hK K
       try simp only[Act.put,zS]
       refine tkiv 5 (some 46) (.bool false) rfl rfl rfl (fun w9=>by go_simp) ?_
       try simp only[Act.put,zS]
       refine tkiu 6 (some 47) rfl rfl rfl ?_
       refine tkiu 7 (some 48) rfl rfl rfl ?_
       refine tkiu 8 (some 49) rfl rfl rfl ?_
       refine tkiu 9 (some 50) rfl rfl rfl ?_
       refine tkiu 10 (some 51) rfl rfl rfl ?_
       try simp only[Act.put,zS]
       refine wpAnyIn_ready (rs:=[11]) (by kernel_rfl) (by simp) ?_
       refine AllReadyIn.cons rfl (fun K hK=>?_) ?_
       ·go_simp
        refine⟨trivial,?_⟩
        refine hK _ _ ?_
        clear hK K
        try simp only[Act.put,zS]
        refine tkiv 12 (some 53) (.bool false) rfl rfl rfl (fun w9=>by go_simp) ?_
        try simp only[Act.put,zS]
        refine tkiv 13 (some 4) (.bool false) rfl rfl rfl (fun w9=>by go_simp) ?_
        try simp only[Act.put,zS]
        refine wpAnyIn_done (by kernel_rfl) ?_ _
        gi_wp2_with fail
        go_ret
        exact HX.out
       exact AllReadyIn.nil
      exact AllReadyIn.nil
     exact AllReadyIn.nil
    have hb4:(p.1.kd==4)=false:=by simpa using h4
    have HX:Hid (PushIs (qE b o p) J Jx W (.returned (.bool true)) X):=.inl ⟨rfl,by unfold qE qK;rw[if_neg h1,if_neg h2,if_neg h4];exact hj,HF.out⟩
    clear h1 h2 h4 hj HY
    gi_wp2_with fail
    go_ret
    exact HX.out
   have HX:Hid (PushIs (qE b o p) J Jx W (.returned (.bool false)) X):=.inr ⟨rfl,hj⟩
   clear hj z0 hy HRR
   go_simp
   refine hK _ _ ?_
   clear hK K
   try simp only[Act.put,zS]
   refine tkiv 5 (some 12) (.bool true) rfl rfl rfl (fun w9=>by go_simp) ?_
   try simp only[Act.put,zS]
   refine wpAnyIn_done (by kernel_rfl) ?_ _
   gi_wp2_with fail
   go_ret
   exact HX.out
  exact AllReadyIn.nil
 exact AllReadyIn.nil
end Go.Proofs.YtmkknbonmameoaaGreatDoor
