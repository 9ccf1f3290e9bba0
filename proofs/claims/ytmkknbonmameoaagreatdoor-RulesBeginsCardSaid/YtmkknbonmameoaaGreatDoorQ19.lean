import Derived.Test.YtmkknbonmameoaaGreatDoorQ5
import Derived.Test.YtmkknbonmameoaaGreatDoorQ16
import Derived.Test.YtmkknbonmameoaaGreatDoorQ18
import Derived.Lib.AppendIntMem
import Derived.Maps.AppendAt
-- holds: YtmkknbonmameoaaGreatDoorHIg YtmkknbonmameoaaGreatDoorHIt
namespace Go.Proofs.YtmkknbonmameoaaGreatDoor
open Go.RowKit Go.Shelf
theorem run_store_funcJ {P:Program} {w:World} {a:Addr} {m:Mode} (fn:Fn) (first captured:Array Value):(store a (.func fn first captured) m).run P w=stored P w a (.func fn first captured) m:=run_store P w a _ m rfl
attribute [local go_sem] run_store_funcJ
section
variable {l : Nat} {a b : List (Nat × Addr)} {J : Nat → World → Prop} {Jx : World → Prop}
theorem YS.fst (h:YS l (a++b) J Jx):YS l a J Jx :=
 ⟨h.bel,h.belx,fun k s p X hk hj m=>h.y k s p X (by rw[List.getElem?_append_left (List.getElem?_eq_some_iff.1 hk).1,hk]) hj m⟩
theorem YS.snd (h:YS l (a++b) J Jx):YS l b (fun k=>J (a.length+k)) Jx:=YS.mid (c:=[]) (by rw[List.append_nil];exact h)
end
set_option maxHeartbeats 1000000 in
theorem evc_any (l b o Bf:Nat) (p:EvP × SH) (hsc:p.1.scan.length=p.2.n∧(0<p.2.n→∃ b o,p.2.A=some ⟨b,o,none⟩)) (hsn:p.2.n≤140737488355328) (J:Nat→World→Prop) (Jx:World→Prop) (hY:YS l (qE b o p) J Jx)
 (hK0:∀ k X,J k X→X.cell? ⟨b,o,none⟩=some (.int .i64 p.1.kd)) (hK6:∀ k X,J k X→X.cell? ⟨b,o+5+1,none⟩=some (.int .i64 p.1.vk)) (hK8:∀ k X,J k X→X.cell? ⟨b,o+8,none⟩=some (.slice p.2.A p.2.n p.2.c))
 (hKS:∀ k X,J k X→∀ j s,p.1.scan[j]?=some s→X.cell? (p.2.ad (j * 3+2))=some (.int .i64 s.k)) (W:World) (hB:Blk W Bf 120 #[.func (.yield l) #[] #[]]) (h0:J 0 W) :
 Calls Tryz.prog 78 #[.pointer (some ⟨b,o,none⟩),.pointer (some ⟨Bf,0,none⟩)] W (PushIs (qE b o p) J Jx W):=by
 have HC:=zh (byEvent_any l b o p hsc hsn J Jx hY hK0 hK6 hK8 hKS W h0)
 have z0:=hB.cell 0
 clear hY hK0 hK6 hK8 hKS hB h0
 go_enter Tryz.func78,Tryz.ntmps78
 go_wp2_with fail
 refine HC.out.mono ?_
 intro e Y h
 rcases h with ⟨rfl,h1⟩ | ⟨rfl,h1⟩
 ·have HX:Hid (PushIs (qE b o p) J Jx W (.returned (.bool true)) Y):=.inl ⟨rfl,h1⟩
  clear h1 HC z0
  go_wp2_with fail
  go_ret
  exact HX.out
 have HX:Hid (PushIs (qE b o p) J Jx W (.returned (.bool false)) Y):=.inr ⟨rfl,h1⟩
 clear h1 HC z0
 go_wp2_with fail
 go_ret
 exact HX.out
theorem eg_evc:∀ args w,(callFunc 78 args).run Tryz.prog w=.ok (.enter 78 args) w:=enters_of Tryz.func78 (by kernel_rfl) rfl
theorem plO_is {h:SH} {b o i:Nat} {p:OrdP × SH} (e:h.A=some ⟨b,o,none⟩):plO h i p=(2,⟨b,o+i * 2,none⟩) :: plT p.2 p.1.ts:=by unfold plO;rw[SH.ad_is e]
theorem plM_is {h:SH} {b o i:Nat} {p:MatP × SH} (e:h.A=some ⟨b,o,none⟩):plM h i p=(3,⟨b,o+i * 4,none⟩) :: (2,⟨b,o+i * 4+1,none⟩) :: plT p.2 p.1.ts:=by unfold plM;rw[SH.ad_is e,SH.ad_is e,Nat.add_assoc]
theorem plW_is {h:SH} {b o i:Nat} {p:WantP} (e:h.A=some ⟨b,o,none⟩):plW h i p=[(1,⟨b,o+i * 2,none⟩)]:=by unfold plW;rw[SH.ad_is e]
theorem ev_push (l Bf:Nat) (A:Option Addr) (n c:Nat) (L:List (EvP × SH)) (hl:L.length=n∧(0<n→∃ b o,A=some ⟨b,o,none⟩)) (hn:n≤140737488355328) (hsc:∀ p∈L,(p.1.scan.length=p.2.n∧(0<p.2.n→∃ b o,p.2.A=some ⟨b,o,none⟩))∧p.2.n≤140737488355328)
 (J:Nat→World→Prop) (Jx:World→Prop) (hY:YS l (flatI (plE ⟨A,n,c⟩) 0 L) J Jx) (W:World) (hB:Blk W Bf 120 #[.func (.yield l) #[] #[]]) (hK:∀ k X,J k X→∀ i p,L[i]?=some p→SkE ⟨A,n,c⟩ X i p) (h0:J 0 W) :
 Calls Tryz.prog 77 #[.slice A n c,.func (.func 78) #[] #[.pointer (some ⟨Bf,0,none⟩)]] W (PushIs (flatI (plE ⟨A,n,c⟩) 0 L) J Jx W):=by
 refine (each_ev _ _ eg_evc A n c hl.2 (fun i X=>J ((flatI (plE ⟨A,n,c⟩) 0 (L.take i)).length) X∧Fk W X) Jx (fun i X hi hj=>?_) hn W ⟨h0,Fk.refl W⟩).mono fun e Y h=>each_push hl.1 h
 obtain⟨b,o,rfl⟩:=hl.2 (by omega)
 have hs:L[i]?=some L[i]:=List.getElem?_eq_getElem (by omega)
 have hm:=hsc _ (List.getElem_mem (show i<L.length by omega))
 have hy:=hY.part hs
 rw[plE_is rfl] at hy
 rw[SH.ad_is rfl]
 refine (evc_any l b (o+i * 9) Bf L[i] hm.1 hm.2 _ Jx hy (fun k X hj=>?_) (fun k X hj=>?_) (fun k X hj=>?_) (fun k X hj=>?_) X (hj.2.firm _ _ _ hB rfl) hj.1).mono fun e Y h=>push_each (f:=plE ⟨some ⟨b,o,none⟩,n,c⟩) hs hj.2 (by rw[plE_is rfl];exact h)
 ·have:=(hK _ X hj i _ hs).k0
  rwa [SH.ad_is rfl] at this
 ·have:=(hK _ X hj i _ hs).k6
  rw[SH.ad_is rfl] at this
  simpa only [Nat.add_assoc] using this
 ·have:=(hK _ X hj i _ hs).k8
  rw[SH.ad_is rfl] at this
  simpa only [Nat.add_assoc] using this
 exact (hK _ X hj i _ hs).sc
theorem od_push (l Bf Bv:Nat) (A:Option Addr) (n c:Nat) (L:List (OrdP × SH)) (hl:L.length=n∧(0<n→∃ b o,A=some ⟨b,o,none⟩)) (hn:n≤140737488355328) (hsc:∀ p∈L,(p.1.ts.length=p.2.n∧(0<p.2.n→∃ b o,p.2.A=some ⟨b,o,none⟩))∧p.2.n≤140737488355328)
 (J:Nat→World→Prop) (Jx:World→Prop) (hY:YS l (flatI (plO ⟨A,n,c⟩) 0 L) J Jx) (W:World) (hB:Blk W Bf 120 #[.func (.yield l) #[] #[]]) (hV:Blk W Bv 52 #[.func (.func 74) #[] #[.pointer (some ⟨Bf,0,none⟩)]]) (hK:∀ k X,J k X→∀ i p,L[i]?=some p→X.cell? (SH.ad ⟨A,n,c⟩ (i * 2+1))=some (.slice p.2.A p.2.n p.2.c)) (h0:J 0 W) :
 Calls Tryz.prog 80 #[.slice A n c,.func (.func 81) #[] #[.pointer (some ⟨Bf,0,none⟩),.pointer (some ⟨Bv,0,none⟩)]] W (PushIs (flatI (plO ⟨A,n,c⟩) 0 L) J Jx W):=by
 refine (each_od _ _ eg_od A n c hl.2 (fun i X=>J ((flatI (plO ⟨A,n,c⟩) 0 (L.take i)).length) X∧Fk W X) Jx (fun i X hi hj=>?_) hn W ⟨h0,Fk.refl W⟩).mono fun e Y h=>each_push hl.1 h
 obtain⟨b,o,rfl⟩:=hl.2 (by omega)
 have hs:L[i]?=some L[i]:=List.getElem?_eq_getElem (by omega)
 have hm:=hsc _ (List.getElem_mem (show i<L.length by omega))
 have hy:=hY.part hs
 rw[plO_is rfl] at hy
 rw[SH.ad_is rfl]
 refine (od_any l b (o+i * 2) Bf Bv L[i].2.A L[i].2.n L[i].2.c L[i].1.ts hm.1 hm.2 _ Jx hy X (hj.2.firm _ _ _ hB rfl) (hj.2.firm _ _ _ hV rfl) (fun k X hj=>?_) hj.1).mono fun e Y h=>push_each (f:=plO ⟨some ⟨b,o,none⟩,n,c⟩) hs hj.2 (by rw[plO_is rfl];exact h)
 have:=hK _ X hj i _ hs
 rw[SH.ad_is rfl] at this
 simpa only [Nat.add_assoc] using this
theorem ma_push (l Bf Bv:Nat) (A:Option Addr) (n c:Nat) (L:List (MatP × SH)) (hl:L.length=n∧(0<n→∃ b o,A=some ⟨b,o,none⟩)) (hn:n≤140737488355328) (hsc:∀ p∈L,(p.1.ts.length=p.2.n∧(0<p.2.n→∃ b o,p.2.A=some ⟨b,o,none⟩))∧p.2.n≤140737488355328)
 (J:Nat→World→Prop) (Jx:World→Prop) (hY:YS l (flatI (plM ⟨A,n,c⟩) 0 L) J Jx) (W:World) (hB:Blk W Bf 120 #[.func (.yield l) #[] #[]]) (hV:Blk W Bv 52 #[.func (.func 74) #[] #[.pointer (some ⟨Bf,0,none⟩)]]) (hK:∀ k X,J k X→∀ i p,L[i]?=some p→X.cell? (SH.ad ⟨A,n,c⟩ (i * 4+3))=some (.slice p.2.A p.2.n p.2.c)) (h0:J 0 W) :
 Calls Tryz.prog 82 #[.slice A n c,.func (.func 83) #[] #[.pointer (some ⟨Bf,0,none⟩),.pointer (some ⟨Bv,0,none⟩)]] W (PushIs (flatI (plM ⟨A,n,c⟩) 0 L) J Jx W):=by
 refine (each_ma _ _ eg_ma A n c hl.2 (fun i X=>J ((flatI (plM ⟨A,n,c⟩) 0 (L.take i)).length) X∧Fk W X) Jx (fun i X hi hj=>?_) hn W ⟨h0,Fk.refl W⟩).mono fun e Y h=>each_push hl.1 h
 obtain⟨b,o,rfl⟩:=hl.2 (by omega)
 have hs:L[i]?=some L[i]:=List.getElem?_eq_getElem (by omega)
 have hm:=hsc _ (List.getElem_mem (show i<L.length by omega))
 have hy:=hY.part hs
 rw[plM_is rfl] at hy
 rw[SH.ad_is rfl]
 refine (ma_any l b (o+i * 4) Bf Bv L[i].2.A L[i].2.n L[i].2.c L[i].1.ts hm.1 hm.2 _ Jx hy X (hj.2.firm _ _ _ hB rfl) (hj.2.firm _ _ _ hV rfl) (fun k X hj=>?_) hj.1).mono fun e Y h=>push_each (f:=plM ⟨some ⟨b,o,none⟩,n,c⟩) hs hj.2 (by rw[plM_is rfl];exact h)
 have:=hK _ X hj i _ hs
 rw[SH.ad_is rfl] at this
 simpa only [Nat.add_assoc] using this
theorem wa_push (l Bf:Nat) (A:Option Addr) (n c:Nat) (L:List WantP) (hl:L.length=n∧(0<n→∃ b o,A=some ⟨b,o,none⟩)) (hn:n≤140737488355328)
 (J:Nat→World→Prop) (Jx:World→Prop) (hY:YS l (flatI (plW ⟨A,n,c⟩) 0 L) J Jx) (W:World) (hB:Blk W Bf 120 #[.func (.yield l) #[] #[]]) (h0:J 0 W) :
 Calls Tryz.prog 84 #[.slice A n c,.func (.func 85) #[] #[.pointer (some ⟨Bf,0,none⟩)]] W (PushIs (flatI (plW ⟨A,n,c⟩) 0 L) J Jx W):=by
 refine (each_wa _ _ eg_wa A n c hl.2 (fun i X=>J ((flatI (plW ⟨A,n,c⟩) 0 (L.take i)).length) X∧Fk W X) Jx (fun i X hi hj=>?_) hn W ⟨h0,Fk.refl W⟩).mono fun e Y h=>each_push hl.1 h
 obtain⟨b,o,rfl⟩:=hl.2 (by omega)
 have hs:L[i]?=some L[i]:=List.getElem?_eq_getElem (by omega)
 have hy:=hY.part hs
 rw[plW_is rfl] at hy
 rw[SH.ad_is rfl]
 exact (wa_any l b (o+i * 2) Bf _ Jx hy X (hj.2.firm _ _ _ hB rfl) hj.1).mono fun e Y h=>push_each (f:=plW ⟨some ⟨b,o,none⟩,n,c⟩) hs hj.2 (by rw[plW_is rfl];exact h)
structure Low (m:HistM):Prop where
 ev:m.ev.1.n≤140737488355328
 od:m.od.1.n≤140737488355328
 ma:m.ma.1.n≤140737488355328
 wa:m.wa.1.n≤140737488355328
 sc:∀ p∈m.ev.2,p.2.n≤140737488355328
 ot:∀ p∈m.od.2,p.2.n≤140737488355328
 mt:∀ p∈m.ma.2,p.2.n≤140737488355328
theorem Fit.low {m:HistM} (h:Fit m) (hs:Small m.pl):Low m :=
 ⟨by rw[← h.ev.1];have:=hs.ev;simp[HistM.pl] at this;omega,by rw[← h.od.1];have:=hs.od;simp[HistM.pl] at this;omega,by rw[← h.ma.1];have:=hs.ma;simp[HistM.pl] at this;omega,by rw[← h.wa.1];have:=hs.wa;simp[HistM.pl] at this;omega,
  fun p hp=>by rw[← (h.sc p hp).1];have:=hs.sc p.1 (List.mem_map.2 ⟨p,hp,rfl⟩);omega,fun p hp=>by rw[← (h.ot p hp).1];have:=hs.ot p.1 (List.mem_map.2 ⟨p,hp,rfl⟩);omega,fun p hp=>by rw[← (h.mt p hp).1];have:=hs.mt p.1 (List.mem_map.2 ⟨p,hp,rfl⟩);omega⟩
structure Mid (m:HistM):Prop where
 tr:m.tr.1.n≤140737488355328
 se:m.se.1.n≤140737488355328
 ob:m.ob.1.n≤140737488355328
 pr:m.pr.1.n≤140737488355328
 ev:m.ev.1.n≤140737488355328
 od:m.od.1.n≤140737488355328
 ma:m.ma.1.n≤140737488355328
 wa:m.wa.1.n≤140737488355328
 sc:∀ p∈m.ev.2,p.2.n≤140737488355328
 ot:∀ p∈m.od.2,p.2.n≤140737488355328
 mt:∀ p∈m.ma.2,p.2.n≤140737488355328
 tx:∀ s,s<4→∀ b∈m.pl.names s,b.size≤140737488355328
theorem Mid.low {m:HistM} (h:Mid m):Low m:=⟨h.ev,h.od,h.ma,h.wa,h.sc,h.ot,h.mt⟩
theorem Small.mid {m:HistM} {W:World} {B:Nat} (hs:Small m.pl) (h:HRd W B m):Mid m:=by
 have f:=h.fit
 have a1:=strs_len h.tr;have a2:=strs_len h.se;have a3:=strs_len h.ob;have a4:=strs_len h.pr
 have b1:=hs.tr;have b2:=hs.se;have b3:=hs.ob;have b4:=hs.pr
 have l:=f.low hs
 simp only[HistM.pl] at b1 b2 b3 b4
 exact⟨by omega,by omega,by omega,by omega,l.ev,l.od,l.ma,l.wa,l.sc,l.ot,l.mt,fun s h4 b hb=>by have:=hs.tx s h4 b hb;omega⟩
theorem HRd.limC {m:HistM} {W:World} {B:Nat} (h:HRd W B m):limC m.pl=(decide (m.ev.1.n≤3000)&&(decide (m.od.1.n≤3000)&&(decide (m.ma.1.n≤3000)&&decide (m.wa.1.n≤3000)))):=by
 have f:=h.fit
 unfold Go.Proofs.YtmkknbonmameoaaGreatDoor.limC
 rw[← f.ev.1,← f.od.1,← f.ma.1,← f.wa.1]
 unfold HistM.pl
 simp only[List.length_map]
theorem HRd.limT {m:HistM} {W:World} {B:Nat} (h:HRd W B m):limT m.pl=((m.od.2.all fun p=>decide (p.2.n≤300))&&m.ma.2.all fun p=>decide (p.2.n≤300)):=by
 have f:=h.fit
 have e1:(m.od.2.all fun p=>decide (p.2.n≤300))=m.od.2.all fun p=>decide (p.1.ts.length≤300):=by
  rw[Bool.eq_iff_iff,List.all_eq_true,List.all_eq_true]
  exact⟨fun g p hp=>by rw[(f.ot p hp).1];exact g p hp,fun g p hp=>by rw[← (f.ot p hp).1];exact g p hp⟩
 have e2:(m.ma.2.all fun p=>decide (p.2.n≤300))=m.ma.2.all fun p=>decide (p.1.ts.length≤300):=by
  rw[Bool.eq_iff_iff,List.all_eq_true,List.all_eq_true]
  exact⟨fun g p hp=>by rw[(f.mt p hp).1];exact g p hp,fun g p hp=>by rw[← (f.mt p hp).1];exact g p hp⟩
 unfold Go.Proofs.YtmkknbonmameoaaGreatDoor.limT
 rw[e1,e2]
 simp only[HistM.pl,List.all_map]
 rfl
set_option maxRecDepth 100000 in
set_option maxHeartbeats 8000000 in
theorem spoken_seq (n Bp Bh:Nat) (m:HistM) (hfit:Fit m) (hlow:Low m) (W0:World) (hP:Blk W0 Bp 92 #[.pointer (some ⟨Bh,0,none⟩)]) :
 SpSeq n Tryz.prog 73 #[.pointer (some ⟨Bp,0,none⟩)] (plcs m) (SkH m Bh) W0:=by
 intro l J Jx W hF hSk hb hbx hy h0
 refine callsIn_wide.2 ?_
 have hY:YS l (plcs m) J Jx:=⟨hb,hbx,fun k s a X h1 h2 mm=>YieldAt.deep rfl mm (hy k s a X h1 h2)⟩
 obtain⟨kf,kv,b0,-⟩:=itwo W #[.func (.yield l) #[] #[]] #[.func (.func 74) #[] #[.pointer (some ⟨W.heap.size,0,none⟩)]] 120 52
 have hP1:=hF.firm _ _ _ hP rfl
 have KP:=zh (hP1.below b0 hP1.lt)
 have hj:=hb _ _ _ h0 b0
 have KF:=zh kf
 have KV:=zh kv
 have HSK:=zh hSk
 have HB:=zh hb
 clear hb hbx hy h0 hF hP hP1 kf kv b0 hSk
 go_enter Tryz.func73,Tryz.ntmps73
 have z0:=KP.out.cell 0
 have z4:=(HSK.out 0 _ hj).b4
 have HC:=zh (ev_push l W.heap.size m.ev.1.A m.ev.1.n m.ev.1.c m.ev.2 hfit.ev (by have:=hlow.ev;omega) (fun p hp=>⟨hfit.sc p hp,by have:=hlow.sc p hp;omega⟩) J Jx hY.fst _ KF.out (fun k X hj i p hi=>(HSK.out k X hj).ev i p hi) hj)
 clear hj
 go_wp2_with fail
 refine HC.out.mono ?_
 clear HC z0 z4
 generalize (W.alloc (.cells #[.func (.yield l) #[] #[]] 120)).alloc (.cells #[.func (.func 74) #[] #[.pointer (some ⟨W.heap.size,0,none⟩)]] 52)=W1 at *
 have HY1:Hid (YS l (flatI (plO m.od.1) 0 m.od.2++(flatI (plM m.ma.1) 0 m.ma.2++flatI (plW m.wa.1) 0 m.wa.2)) (fun k=>J ((flatI (plE m.ev.1) 0 m.ev.2).length+k)) Jx):=hY.snd
 have HTOT:Hid ((plcs m).length=(flatI (plE m.ev.1) 0 m.ev.2).length+((flatI (plO m.od.1) 0 m.od.2).length+((flatI (plM m.ma.1) 0 m.ma.2).length+(flatI (plW m.wa.1) 0 m.wa.2).length))):=by show _=_;unfold plcs;rw[List.length_append,List.length_append,List.length_append]
 clear hY
 rintro e X (⟨rfl,hj,hf⟩ | ⟨rfl,hj⟩)
 ·have KP:=zh (hf.firm _ _ _ KP.out rfl)
  have KF:=zh (hf.firm _ _ _ KF.out rfl)
  have KV:=zh (hf.firm _ _ _ KV.out rfl)
  have z0:=KP.out.cell 0
  have z5:=(HSK.out _ _ hj).b5
  have HC:=zh (od_push l W.heap.size (W.heap.size+1) m.od.1.A m.od.1.n m.od.1.c m.od.2 hfit.od (by have:=hlow.od;omega) (fun p hp=>⟨hfit.ot p hp,by have:=hlow.ot p hp;omega⟩) _ Jx HY1.out.fst _ KF.out KV.out (fun k X hj i p hi=>(HSK.out _ X hj).od i p hi) hj)
  clear hj hf
  go_wp2_with fail
  refine HC.out.mono ?_
  have HY2:=zh HY1.out.snd
  clear HC z0 z5 HY1
  rintro e Y (⟨rfl,hj,hf⟩ | ⟨rfl,hj⟩)
  ·have KP:=zh (hf.firm _ _ _ KP.out rfl)
   have KF:=zh (hf.firm _ _ _ KF.out rfl)
   have KV:=zh (hf.firm _ _ _ KV.out rfl)
   have z0:=KP.out.cell 0
   have z6:=(HSK.out _ _ hj).b6
   have HC:=zh (ma_push l W.heap.size (W.heap.size+1) m.ma.1.A m.ma.1.n m.ma.1.c m.ma.2 hfit.ma (by have:=hlow.ma;omega) (fun p hp=>⟨hfit.mt p hp,by have:=hlow.mt p hp;omega⟩) _ Jx HY2.out.fst _ KF.out KV.out (fun k X hj i p hi=>(HSK.out _ X hj).ma i p hi) hj)
   clear hj hf
   go_wp2_with fail
   refine HC.out.mono ?_
   have HY3:=zh HY2.out.snd
   clear HC z0 z6 HY2
   rintro e Z (⟨rfl,hj,hf⟩ | ⟨rfl,hj⟩)
   ·have KP:=zh (hf.firm _ _ _ KP.out rfl)
    have KF:=zh (hf.firm _ _ _ KF.out rfl)
    have z0:=KP.out.cell 0
    have z7:=(HSK.out _ _ hj).b7
    have HC:=zh (wa_push l W.heap.size m.wa.1.A m.wa.1.n m.wa.1.c m.wa.2 hfit.wa (by have:=hlow.wa;omega) _ Jx HY3.out _ KF.out hj)
    clear hj hf
    go_wp2_with fail
    refine HC.out.mono ?_
    clear HC z0 z7 HY3
    rintro e V (⟨rfl,hj,hf⟩ | ⟨rfl,hj⟩)
    ·have HJ:Hid (J (plcs m).length V):=by show J _ _;rw[HTOT.out];exact hj
     clear hj hf
     go_wp2_with fail
     go_end0
     exact⟨⟨_,rfl⟩,.inl HJ.out⟩
    have HJ:=zh hj
    clear hj
    go_wp2_with fail
    go_end0
    exact⟨⟨_,rfl⟩,.inr HJ.out⟩
   have HJ:=zh hj
   clear hj
   go_wp2_with fail
   go_end0
   exact⟨⟨_,rfl⟩,.inr HJ.out⟩
  have HJ:=zh hj
  clear hj
  go_wp2_with fail
  go_end0
  exact⟨⟨_,rfl⟩,.inr HJ.out⟩
 have HJ:=zh hj
 clear hj
 go_wp2_with fail
 go_end0
 exact⟨⟨_,rfl⟩,.inr HJ.out⟩
theorem eg_spoken:∀ args w,(callFunc 73 args).run Tryz.prog w=.ok (.enter 73 args) w:=enters_of Tryz.func73 (by kernel_rfl) rfl
set_option maxHeartbeats 1000000 in
theorem spoken_any (a:Addr) (w:World):Calls Tryz.prog 39 #[.pointer (some a)] w fun e w' =>
 e=.returned (.func (.func 73) #[] #[.pointer (some ⟨w.heap.size,0,none⟩)])∧w'=w.alloc (.cells #[.pointer (some a)] 92):=by
 go_enter Tryz.func39,Tryz.ntmps39
 go_wp2_with fail
 go_ret
 exact⟨rfl,rfl⟩
end Go.Proofs.YtmkknbonmameoaaGreatDoor
namespace Go.Proofs.YtmkknbonmameoaaGreatDoor
open Go.RowKit Go.Shelf
def CopyT (t:TypeId) (s n:Nat) (xs:List Value) (w:World) (e:Ending) (w':World):Prop :=
 ∃ (A:Option Addr) (c:Nat),e=.returned (.slice A n c)∧w'.ownsRow w.heap.size t s (.slice A n c) n xs∧Below w.heap.size w w'
theorem own_newT (w:World) (t:TypeId) (s:Nat):(w.alloc (.cells #[] t)).ownsRow w.heap.size t s (.slice (some ⟨w.heap.size,0,none⟩) 0 0) 0 [] :=
 ⟨by simp,.inr ⟨w.heap.size,0,#[],rfl,Nat.le_refl _,by show (w.heap.push _)[w.heap.size]?=_;simp,Nat.le_refl _,Nat.zero_le _,by simp,by simp⟩⟩
theorem one_of {α:Type} {enc:α→List Value} (h:∀ x,∀ u∈enc x,u.oneCell'=true) (l:List α):∀ u∈l.flatMap enc,u.oneCell'=true:=by
 intro u hu
 obtain⟨x,_,hx⟩:=List.mem_flatMap.1 hu
 exact h x u hx
theorem seCs_one (x:SeenP):∀ u∈seCs x,u.oneCell'=true:=by intro u hu;unfold seCs at hu;simp at hu;rcases hu with rfl | rfl | rfl<;>rfl
theorem evCs_one (x:EvP × SH):∀ u∈evCs x,u.oneCell'=true:=by intro u hu;unfold evCs at hu;simp at hu;rcases hu with rfl | rfl | rfl | rfl | rfl | rfl | rfl | rfl | rfl<;>rfl
theorem odCs_one (x:OrdP × SH):∀ u∈odCs x,u.oneCell'=true:=by intro u hu;unfold odCs at hu;simp at hu;rcases hu with rfl | rfl<;>rfl
theorem maCs_one (x:MatP × SH):∀ u∈maCs x,u.oneCell'=true:=by intro u hu;unfold maCs at hu;simp at hu;rcases hu with rfl | rfl | rfl | rfl<;>rfl
theorem waCs_one (x:WantP):∀ u∈waCs x,u.oneCell'=true:=by intro u hu;unfold waCs at hu;simp at hu;rcases hu with rfl | rfl<;>rfl
theorem ev_info:(Tryz.prog.info? 60).map (fun i=>(i.zero,i.size,i.bytes))=some (some (.agg #[.int .i64 0,.int .i64 0,.int .i64 0,.int .i64 0,.int .i64 0,.int .i64 0,.int .i64 0,.int .i64 0,.slice none 0 0]),9,88):=by kernel_rfl
set_option maxRecDepth 100000 in
set_option maxHeartbeats 2000000 in
theorem clone_ev (A:Option Addr) (n c:Nat) (l:List (EvP × SH)) (hn:n * 88≤140737488355328) (w:World) (hR:Reads w w.heap.size 9 A n (l.flatMap evCs)) :
 Calls Tryz.prog 86 #[.slice A n c] w (CopyT 60 9 n (l.flatMap evCs) w):=by
 obtain⟨i0,hi,hz0,hz1,hz2⟩:=info_parts ev_info
 cases A with
 | none =>
  have hq:∀ w:World,(binOp .eql 23 (.slice none n c) (.slice none 0 0)).run Tryz.prog w=.ok (.bool true) w:=fun w=>Lib.run_eql_slice_nil w _ _ none n c 0 0 Tryz.underlying23
  have h0:Hid (n=0):=by
   show n=0
   rcases Nat.eq_zero_or_pos n with h | h
   ·exact h
   obtain⟨b,o,e,_⟩:=row_plain (by omega) hR h
   cases e
  have hl:=zh (reads_len_s evCs_len (by omega) hR)
  go_enter Tryz.func86,Tryz.ntmps86
  go_wp2_with fail
  go_ret
  obtain rfl:n=0:=h0.out
  obtain rfl:l=[]:=List.eq_nil_of_length_eq_zero hl.out
  exact⟨none,0,rfl,World.ownsRow_nil _ _ _ _,Below.refl _ _⟩
 | some ad =>
  have hq:∀ w:World,(binOp .eql 23 (.slice (some ad) n c) (.slice none 0 0)).run Tryz.prog w=.ok (.bool false) w:=fun w=>Lib.run_eql_slice_nil w _ _ (some ad) n c 0 0 Tryz.underlying23
  go_enter Tryz.func86,Tryz.ntmps86
  go_wp2_with (at_builtin;refine wpList_append_any _ rfl (.tmp 5) (.tmp 6) 23 rfl w.heap.size 60 i0 _ 9 88 Tryz.underlying23 hi hz0 hz1 hz2 rfl (by decide) _ 0 [] rfl (own_newT w 60 9) w.heap.size (some ad) n _ (l.flatMap evCs) rfl (hR.alloc (Nat.le_refl _) _) (one_of evCs_one _) (by unfold maxLen;omega) (by omega) (by simp) ?_;intro v' w2 hown hgrow hat)
  rw[Nat.zero_add,List.nil_append] at hown
  have b2:Below w.heap.size w w2:=((Below.refl _ _).alloc (Nat.le_refl _) _).grown hgrow (by simp) (fun j hj=>by have e:some w.heap.size=some j:=hj;injection e with e;omega)
  obtain⟨A',c',rfl,h1,h2⟩:=own_form2 hown
  go_ret
  exact⟨A',c',rfl,hown,b2⟩
theorem od_info:(Tryz.prog.info? 66).map (fun i=>(i.zero,i.size,i.bytes))=some (some (.agg #[.int .i64 0,.slice none 0 0]),2,32):=by kernel_rfl
set_option maxRecDepth 100000 in
set_option maxHeartbeats 2000000 in
theorem clone_od (A:Option Addr) (n c:Nat) (l:List (OrdP × SH)) (hn:n * 32≤140737488355328) (w:World) (hR:Reads w w.heap.size 2 A n (l.flatMap odCs)) :
 Calls Tryz.prog 87 #[.slice A n c] w (CopyT 66 2 n (l.flatMap odCs) w):=by
 obtain⟨i0,hi,hz0,hz1,hz2⟩:=info_parts od_info
 cases A with
 | none =>
  have hq:∀ w:World,(binOp .eql 24 (.slice none n c) (.slice none 0 0)).run Tryz.prog w=.ok (.bool true) w:=fun w=>Lib.run_eql_slice_nil w _ _ none n c 0 0 Tryz.underlying24
  have h0:Hid (n=0):=by
   show n=0
   rcases Nat.eq_zero_or_pos n with h | h
   ·exact h
   obtain⟨b,o,e,_⟩:=row_plain (by omega) hR h
   cases e
  have hl:=zh (reads_len_s odCs_len (by omega) hR)
  go_enter Tryz.func87,Tryz.ntmps87
  go_wp2_with fail
  go_ret
  obtain rfl:n=0:=h0.out
  obtain rfl:l=[]:=List.eq_nil_of_length_eq_zero hl.out
  exact⟨none,0,rfl,World.ownsRow_nil _ _ _ _,Below.refl _ _⟩
 | some ad =>
  have hq:∀ w:World,(binOp .eql 24 (.slice (some ad) n c) (.slice none 0 0)).run Tryz.prog w=.ok (.bool false) w:=fun w=>Lib.run_eql_slice_nil w _ _ (some ad) n c 0 0 Tryz.underlying24
  go_enter Tryz.func87,Tryz.ntmps87
  go_wp2_with (at_builtin;refine wpList_append_any _ rfl (.tmp 5) (.tmp 6) 24 rfl w.heap.size 66 i0 _ 2 32 Tryz.underlying24 hi hz0 hz1 hz2 rfl (by decide) _ 0 [] rfl (own_newT w 66 2) w.heap.size (some ad) n _ (l.flatMap odCs) rfl (hR.alloc (Nat.le_refl _) _) (one_of odCs_one _) (by unfold maxLen;omega) (by omega) (by simp) ?_;intro v' w2 hown hgrow hat)
  rw[Nat.zero_add,List.nil_append] at hown
  have b2:Below w.heap.size w w2:=((Below.refl _ _).alloc (Nat.le_refl _) _).grown hgrow (by simp) (fun j hj=>by have e:some w.heap.size=some j:=hj;injection e with e;omega)
  obtain⟨A',c',rfl,h1,h2⟩:=own_form2 hown
  go_ret
  exact⟨A',c',rfl,hown,b2⟩
theorem ma_info:(Tryz.prog.info? 69).map (fun i=>(i.zero,i.size,i.bytes))=some (some (.agg #[.int .i64 0,.int .i64 0,.bool false,.slice none 0 0]),4,48):=by kernel_rfl
set_option maxRecDepth 100000 in
set_option maxHeartbeats 2000000 in
theorem clone_ma (A:Option Addr) (n c:Nat) (l:List (MatP × SH)) (hn:n * 48≤140737488355328) (w:World) (hR:Reads w w.heap.size 4 A n (l.flatMap maCs)) :
 Calls Tryz.prog 88 #[.slice A n c] w (CopyT 69 4 n (l.flatMap maCs) w):=by
 obtain⟨i0,hi,hz0,hz1,hz2⟩:=info_parts ma_info
 cases A with
 | none =>
  have hq:∀ w:World,(binOp .eql 25 (.slice none n c) (.slice none 0 0)).run Tryz.prog w=.ok (.bool true) w:=fun w=>Lib.run_eql_slice_nil w _ _ none n c 0 0 Tryz.underlying25
  have h0:Hid (n=0):=by
   show n=0
   rcases Nat.eq_zero_or_pos n with h | h
   ·exact h
   obtain⟨b,o,e,_⟩:=row_plain (by omega) hR h
   cases e
  have hl:=zh (reads_len_s maCs_len (by omega) hR)
  go_enter Tryz.func88,Tryz.ntmps88
  go_wp2_with fail
  go_ret
  obtain rfl:n=0:=h0.out
  obtain rfl:l=[]:=List.eq_nil_of_length_eq_zero hl.out
  exact⟨none,0,rfl,World.ownsRow_nil _ _ _ _,Below.refl _ _⟩
 | some ad =>
  have hq:∀ w:World,(binOp .eql 25 (.slice (some ad) n c) (.slice none 0 0)).run Tryz.prog w=.ok (.bool false) w:=fun w=>Lib.run_eql_slice_nil w _ _ (some ad) n c 0 0 Tryz.underlying25
  go_enter Tryz.func88,Tryz.ntmps88
  go_wp2_with (at_builtin;refine wpList_append_any _ rfl (.tmp 5) (.tmp 6) 25 rfl w.heap.size 69 i0 _ 4 48 Tryz.underlying25 hi hz0 hz1 hz2 rfl (by decide) _ 0 [] rfl (own_newT w 69 4) w.heap.size (some ad) n _ (l.flatMap maCs) rfl (hR.alloc (Nat.le_refl _) _) (one_of maCs_one _) (by unfold maxLen;omega) (by omega) (by simp) ?_;intro v' w2 hown hgrow hat)
  rw[Nat.zero_add,List.nil_append] at hown
  have b2:Below w.heap.size w w2:=((Below.refl _ _).alloc (Nat.le_refl _) _).grown hgrow (by simp) (fun j hj=>by have e:some w.heap.size=some j:=hj;injection e with e;omega)
  obtain⟨A',c',rfl,h1,h2⟩:=own_form2 hown
  go_ret
  exact⟨A',c',rfl,hown,b2⟩
theorem wa_info:(Tryz.prog.info? 72).map (fun i=>(i.zero,i.size,i.bytes))=some (some (.agg #[.int .i64 0,.int .i64 0]),2,16):=by kernel_rfl
set_option maxRecDepth 100000 in
set_option maxHeartbeats 2000000 in
theorem clone_wa (A:Option Addr) (n c:Nat) (l:List (WantP)) (hn:n * 16≤140737488355328) (w:World) (hR:Reads w w.heap.size 2 A n (l.flatMap waCs)) :
 Calls Tryz.prog 28 #[.slice A n c] w (CopyT 72 2 n (l.flatMap waCs) w):=by
 obtain⟨i0,hi,hz0,hz1,hz2⟩:=info_parts wa_info
 cases A with
 | none =>
  have hq:∀ w:World,(binOp .eql 26 (.slice none n c) (.slice none 0 0)).run Tryz.prog w=.ok (.bool true) w:=fun w=>Lib.run_eql_slice_nil w _ _ none n c 0 0 Tryz.underlying26
  have h0:Hid (n=0):=by
   show n=0
   rcases Nat.eq_zero_or_pos n with h | h
   ·exact h
   obtain⟨b,o,e,_⟩:=row_plain (by omega) hR h
   cases e
  have hl:=zh (reads_len_s waCs_len (by omega) hR)
  go_enter Tryz.func28,Tryz.ntmps28
  go_wp2_with fail
  go_ret
  obtain rfl:n=0:=h0.out
  obtain rfl:l=[]:=List.eq_nil_of_length_eq_zero hl.out
  exact⟨none,0,rfl,World.ownsRow_nil _ _ _ _,Below.refl _ _⟩
 | some ad =>
  have hq:∀ w:World,(binOp .eql 26 (.slice (some ad) n c) (.slice none 0 0)).run Tryz.prog w=.ok (.bool false) w:=fun w=>Lib.run_eql_slice_nil w _ _ (some ad) n c 0 0 Tryz.underlying26
  go_enter Tryz.func28,Tryz.ntmps28
  go_wp2_with (at_builtin;refine wpList_append_any _ rfl (.tmp 5) (.tmp 6) 26 rfl w.heap.size 72 i0 _ 2 16 Tryz.underlying26 hi hz0 hz1 hz2 rfl (by decide) _ 0 [] rfl (own_newT w 72 2) w.heap.size (some ad) n _ (l.flatMap waCs) rfl (hR.alloc (Nat.le_refl _) _) (one_of waCs_one _) (by unfold maxLen;omega) (by omega) (by simp) ?_;intro v' w2 hown hgrow hat)
  rw[Nat.zero_add,List.nil_append] at hown
  have b2:Below w.heap.size w w2:=((Below.refl _ _).alloc (Nat.le_refl _) _).grown hgrow (by simp) (fun j hj=>by have e:some w.heap.size=some j:=hj;injection e with e;omega)
  obtain⟨A',c',rfl,h1,h2⟩:=own_form2 hown
  go_ret
  exact⟨A',c',rfl,hown,b2⟩
theorem se_info:(Tryz.prog.info? 64).map (fun i=>(i.zero,i.size,i.bytes))=some (some (.agg #[.int .i64 0,.int .i64 0,.int .i64 0]),3,24):=by kernel_rfl
set_option maxRecDepth 100000 in
set_option maxHeartbeats 2000000 in
theorem clone_se (A:Option Addr) (n c:Nat) (l:List (SeenP)) (hn:n * 24≤140737488355328) (w:World) (hR:Reads w w.heap.size 3 A n (l.flatMap seCs)) :
 Calls Tryz.prog 26 #[.slice A n c] w (CopyT 64 3 n (l.flatMap seCs) w):=by
 obtain⟨i0,hi,hz0,hz1,hz2⟩:=info_parts se_info
 cases A with
 | none =>
  have hq:∀ w:World,(binOp .eql 58 (.slice none n c) (.slice none 0 0)).run Tryz.prog w=.ok (.bool true) w:=fun w=>Lib.run_eql_slice_nil w _ _ none n c 0 0 Tryz.underlying58
  have h0:Hid (n=0):=by
   show n=0
   rcases Nat.eq_zero_or_pos n with h | h
   ·exact h
   obtain⟨b,o,e,_⟩:=row_plain (by omega) hR h
   cases e
  have hl:=zh (reads_len_s seCs_len (by omega) hR)
  go_enter Tryz.func26,Tryz.ntmps26
  go_wp2_with fail
  go_ret
  obtain rfl:n=0:=h0.out
  obtain rfl:l=[]:=List.eq_nil_of_length_eq_zero hl.out
  exact⟨none,0,rfl,World.ownsRow_nil _ _ _ _,Below.refl _ _⟩
 | some ad =>
  have hq:∀ w:World,(binOp .eql 58 (.slice (some ad) n c) (.slice none 0 0)).run Tryz.prog w=.ok (.bool false) w:=fun w=>Lib.run_eql_slice_nil w _ _ (some ad) n c 0 0 Tryz.underlying58
  go_enter Tryz.func26,Tryz.ntmps26
  go_wp2_with (at_builtin;refine wpList_append_any _ rfl (.tmp 5) (.tmp 6) 58 rfl w.heap.size 64 i0 _ 3 24 Tryz.underlying58 hi hz0 hz1 hz2 rfl (by decide) _ 0 [] rfl (own_newT w 64 3) w.heap.size (some ad) n _ (l.flatMap seCs) rfl (hR.alloc (Nat.le_refl _) _) (one_of seCs_one _) (by unfold maxLen;omega) (by omega) (by simp) ?_;intro v' w2 hown hgrow hat)
  rw[Nat.zero_add,List.nil_append] at hown
  have b2:Below w.heap.size w w2:=((Below.refl _ _).alloc (Nat.le_refl _) _).grown hgrow (by simp) (fun j hj=>by have e:some w.heap.size=some j:=hj;injection e with e;omega)
  obtain⟨A',c',rfl,h1,h2⟩:=own_form2 hown
  go_ret
  exact⟨A',c',rfl,hown,b2⟩
theorem clone_in (A:Option Addr) (n c:Nat) (zs:List Int) (hn:n * 8≤140737488355328) (w:World) (hR:Reads w w.heap.size 1 A n (ints zs)) :
 Calls Tryz.prog 27 #[.slice A n c] w (CopyT 3 1 n (ints zs) w):=by
 have hl:=ints_len hR
 rcases Nat.eq_zero_or_pos n with h | h
 ·subst h
  obtain rfl:zs=[]:=List.eq_nil_of_length_eq_zero hl
  cases A with
  | none =>
   refine (Tryz.slices_Clone_int_nil 0 c w).mono ?_
   rintro e w' ⟨rfl,rfl⟩
   exact⟨none,0,rfl,World.ownsRow_nil _ _ _ _,Below.refl _ _⟩
  | some ad =>
   refine (Tryz.slices_Clone_int_zero ad c w).mono ?_
   rintro e w' ⟨v',rfl,ho,_,hb⟩
   obtain⟨A',c',rfl,h1,h2⟩:=own_form2 ho
   exact⟨A',c',rfl,ho,hb⟩
 obtain⟨b,o,rfl,hb,hc⟩:=reads_plain hR h
 refine (Tryz.slices_Clone_int b o n c zs w (by omega) (by omega) (ints_get hc)).mono ?_
 rintro e w' ⟨v',rfl,ho,_,hb⟩
 rw[List.take_of_length_le (by omega)] at ho
 obtain⟨A',c',rfl,h1,h2⟩:=own_form2 ho
 exact⟨A',c',rfl,ho,hb⟩
end Go.Proofs.YtmkknbonmameoaaGreatDoor
