import Derived.Test.YtmkknbonmameoaaGreatDoorQ5
import Derived.Sort.CutIn
import Derived.Test.YtmkknbonmameoaaGreatDoorQ20
import Derived.Test.YtmkknbonmameoaaGreatDoorQ21
import Derived.Test.YtmkknbonmameoaaGreatDoorQ22
import Derived.Test.YtmkknbonmameoaaGreatDoorQ17
import Derived.Lib.AppendIntMem
import Derived.Maps.AppendAt
import Derived.Laws.StructEq
import Derived.Deep.LoopGhost
import Derived.Test.YtmkknbonmameoaaGreatDoorQ7
import Derived.Test.YtmkknbonmameoaaGreatDoorQ19
import Derived.Test.YtmkknbonmameoaaGreatDoorQ16
import Derived.Laws.Runes
import Derived.Test.YtmkknbonmameoaaGreatDoorQ2
import Derived.Test.YtmkknbonmameoaaGreatDoorQ4
import Derived.Test.YtmkknbonmameoaaGreatDoorQ5
-- holds: YtmkknbonmameoaaGreatDoorHIn YtmkknbonmameoaaGreatDoorHIq YtmkknbonmameoaaGreatDoorHIs YtmkknbonmameoaaGreatDoorHJd YtmkknbonmameoaaGreatDoorHJe YtmkknbonmameoaaGreatDoorHAb YtmkknbonmameoaaGreatDoorHAc YtmkknbonmameoaaGreatDoorHAd YtmkknbonmameoaaGreatDoorHIv YtmkknbonmameoaaGreatDoorHIva YtmkknbonmameoaaGreatDoorHJf YtmkknbonmameoaaGreatDoorHJh
namespace Go.Proofs.YtmkknbonmameoaaGreatDoor
open Go.RowKit Go.Shelf
attribute [local go_sem] Oper.semAt_some
def HistM.sort (m:HistM) (k:Nat):SH × List ByteArray:=if k=0 then m.tr else if k=1 then m.se else if k=2 then m.ob else m.pr
theorem sort_names (m:HistM) (k:Nat):(m.sort k).2=m.pl.names k:=by unfold HistM.sort Hist.names HistM.pl;(repeat' split)<;>rfl
theorem HRd.sort {W:World} {B:Nat} {m:HistM} (h:HRd W B m) (k:Nat):Reads W B 1 (m.sort k).1.A (m.sort k).1.n (strs (m.sort k).2):=by
 unfold HistM.sort
 split
 ·exact h.tr
 split
 ·exact h.se
 split
 ·exact h.ob
 exact h.pr
theorem cs_sort (m:HistM):∀ k,k<4→m.cs[k]?=some (.slice (m.sort k).1.A (m.sort k).1.n (m.sort k).1.c):=by
 intro k hk
 have:k=0∨k=1∨k=2∨k=3:=by omega
 rcases this with rfl | rfl | rfl | rfl<;>rfl
theorem nmsB_sorts (m:HistM):nmsB m.pl=(List.range 4).all fun k=>namesB (m.sort k).2:=by
 unfold nmsB
 show _=(namesB m.tr.2&&(namesB m.se.2&&(namesB m.ob.2&&(namesB m.pr.2&&true))))
 rw[Bool.and_true,Bool.and_assoc]
 rfl
theorem Small.sort {m:HistM} (h:Small m.pl) (k:Nat):(m.sort k).2.length≤60:=by
 rw[sort_names,← many_len]
 exact h.many k
theorem Small.sizes {m:HistM} (h:Small m.pl) {k:Nat} (hk:k<4):∀ s∈(m.sort k).2,s.size≤100:=by
 rw[sort_names]
 exact h.tx k hk
theorem idx4_0 (B:Nat) (W:World):(Instr.index 95 (.agg #[.pointer (some ⟨B,0,none⟩),.pointer (some ⟨B,1,none⟩),.pointer (some ⟨B,2,none⟩),.pointer (some ⟨B,3,none⟩)]) (.int .i64 0)).run Tryz.prog W=.ok (.pointer (some ⟨B,0,none⟩)) W:=by kernel_rfl
theorem idx4_1 (B:Nat) (W:World):(Instr.index 95 (.agg #[.pointer (some ⟨B,0,none⟩),.pointer (some ⟨B,1,none⟩),.pointer (some ⟨B,2,none⟩),.pointer (some ⟨B,3,none⟩)]) (.int .i64 1)).run Tryz.prog W=.ok (.pointer (some ⟨B,1,none⟩)) W:=by kernel_rfl
theorem idx4_2 (B:Nat) (W:World):(Instr.index 95 (.agg #[.pointer (some ⟨B,0,none⟩),.pointer (some ⟨B,1,none⟩),.pointer (some ⟨B,2,none⟩),.pointer (some ⟨B,3,none⟩)]) (.int .i64 2)).run Tryz.prog W=.ok (.pointer (some ⟨B,2,none⟩)) W:=by kernel_rfl
theorem idx4_3 (B:Nat) (W:World):(Instr.index 95 (.agg #[.pointer (some ⟨B,0,none⟩),.pointer (some ⟨B,1,none⟩),.pointer (some ⟨B,2,none⟩),.pointer (some ⟨B,3,none⟩)]) (.int .i64 3)).run Tryz.prog W=.ok (.pointer (some ⟨B,3,none⟩)) W:=by kernel_rfl
theorem idx4 {k:Nat} (hk:k<4) (B:Nat) (W:World):(Instr.index 95 (.agg #[.pointer (some ⟨B,0,none⟩),.pointer (some ⟨B,1,none⟩),.pointer (some ⟨B,2,none⟩),.pointer (some ⟨B,3,none⟩)]) (.int .i64 (k:Int))).run Tryz.prog W=.ok (.pointer (some ⟨B,k,none⟩)) W:=by
 have:k=0∨k=1∨k=2∨k=3:=by omega
 rcases this with rfl | rfl | rfl | rfl
 ·exact idx4_0 B W
 ·exact idx4_1 B W
 ·exact idx4_2 B W
 exact idx4_3 B W
theorem ptr4_at (B:Nat):∀ s,s<4→(#[.pointer (some ⟨B,0,none⟩),.pointer (some ⟨B,1,none⟩),.pointer (some ⟨B,2,none⟩),.pointer (some ⟨B,3,none⟩)]:Array Value)[s]?=some (.pointer (some ⟨B,s,none⟩)):=by
 intro s hs
 have:s=0∨s=1∨s=2∨s=3:=by omega
 rcases this with rfl | rfl | rfl | rfl<;>rfl
theorem all_upto {W:World} {m:HistM} (hl:Lnk W (plcs m) (refs m.pl)) (h:∀ j,j<(plcs m).length→∀ p,(refs m.pl)[j]?=some p→m.pl.inR p=true):(refs m.pl).all m.pl.inR=true:=by
 rw[List.all_eq_true]
 intro p hp
 obtain⟨j,hj⟩:=List.mem_iff_getElem?.1 hp
 exact h j (by rw[hl.len];exact (List.getElem?_eq_some_iff.1 hj).1) p hj
def nmK (m:HistM) (k:Nat):Bool:=decide ((m.sort k).1.n≤mostN k)&&namesB (m.sort k).2
theorem most_is (k:Nat) (hk:k<4):([300,60,300,60]:List Int).getD k 0=(mostN k:Int):=by
 have:k=0∨k=1∨k=2∨k=3:=by omega
 rcases this with rfl | rfl | rfl | rfl<;>rfl
theorem most_le (k:Nat) (hk:k<4):mostN k≤300:=by
 have:k=0∨k=1∨k=2∨k=3:=by omega
 rcases this with rfl | rfl | rfl | rfl<;>decide
theorem nmK_many {W:World} {B:Nat} {m:HistM} (h:HRd W B m) (k:Nat):nmK m k=(decide (m.pl.many k≤mostN k)&&namesB (m.sort k).2):=by
 unfold nmK
 rw[many_len,← sort_names,strs_len (h.sort k)]
theorem nmK_all {W:World} {B:Nat} {m:HistM} (h:HRd W B m):(List.range 4).all (nmK m)=(limN m.pl&&nmsB m.pl):=by
 rw[nmsB_sorts]
 unfold limN
 rw[Bool.eq_iff_iff,Bool.and_eq_true,List.all_eq_true,List.all_eq_true,List.all_eq_true]
 constructor
 ·intro g
  exact⟨fun k hk=>by have:=g k hk;rw[nmK_many h,Bool.and_eq_true] at this;exact this.1,fun k hk=>by have:=g k hk;rw[nmK_many h,Bool.and_eq_true] at this;exact this.2⟩
 intro g k hk
 rw[nmK_many h,Bool.and_eq_true]
 exact⟨g.1 k hk,g.2 k hk⟩
theorem nmK_up {m:HistM} {k:Nat} (h:(List.range k).all (nmK m)=true) (hs:nmK m k=true):(List.range (k+1)).all (nmK m)=true:=by
 rw[List.range_succ,List.all_append,h]
 simp[hs]
def looseW (H:Hist):Int:=if (limB H&&shapedB H)=true then 0 else 210
theorem looseW_ok {H:Hist} (h:(limB H&&shapedB H)=true):looseW H=0:=by unfold looseW;rw[if_pos h]
theorem looseW_no {H:Hist} (h:(limB H&&shapedB H)=false):looseW H=210:=by unfold looseW;rw[h];rfl
theorem limShaped {W:World} {B:Nat} {m:HistM} (h:HRd W B m):(limB m.pl&&shapedB m.pl)=((List.range 4).all (nmK m)&&(fineW m.pl&&(refs m.pl).all m.pl.inR)):=by
 rw[nmK_all h]
 unfold limB shapedB fineW
 cases limN m.pl<;>cases limC m.pl<;>cases limT m.pl<;>cases nmsB m.pl<;>cases fineH m.pl<;>cases (refs m.pl).all m.pl.inR<;>rfl
theorem looseW_nm {W:World} {B:Nat} {m:HistM} (h:HRd W B m) {k:Nat} (hk:k<4) (hs:nmK m k=false):looseW m.pl=210:=looseW_no (by
 rw[limShaped h]
 have:(List.range 4).all (nmK m)=false:=by
  rw[Bool.eq_false_iff]
  intro h
  have:=List.all_eq_true.1 h k (by simp[hk])
  rw[hs] at this
  cases this
 rw[this,Bool.false_and])
theorem looseW_fine {W:World} {B:Nat} {m:HistM} (h:HRd W B m) (hs:fineW m.pl=false):looseW m.pl=210:=looseW_no (by rw[limShaped h,hs,Bool.false_and,Bool.and_false])
theorem looseW_refs {W:World} {B:Nat} {m:HistM} (h:HRd W B m) (hs:(refs m.pl).all m.pl.inR=false):looseW m.pl=210:=looseW_no (by rw[limShaped h,hs,Bool.and_false,Bool.and_false])
theorem looseW_all {W:World} {B:Nat} {m:HistM} (h:HRd W B m) (h1:(List.range 4).all (nmK m)=true) (h2:fineW m.pl=true) (h3:(refs m.pl).all m.pl.inR=true):looseW m.pl=0:=looseW_ok (by rw[limShaped h,h1,h2,h3];rfl)
def looseE (H:Hist):Int:=if shapedB H=true then 0 else 210
theorem Small.loose {H:Hist} (h:Small H):looseW H=looseE H:=by unfold looseW looseE;rw[h.lim,Bool.true_and]
theorem looseE_ok {H:Hist} (h:shapedB H=true):looseE H=0:=by unfold looseE;rw[if_pos h]
theorem looseE_no {H:Hist} (h:shapedB H=false):looseE H=210:=by unfold looseE;rw[h];rfl
structure LooseI (m:HistM) (Bh Ba:Nat) (w X:World) (r:Int):Prop where
 below:Below w.heap.size w X
 bh:Blk X Bh 28 m.cs
 ba:Blk X Ba 95 #[.pointer (some ⟨Bh,0,none⟩),.pointer (some ⟨Bh,1,none⟩),.pointer (some ⟨Bh,2,none⟩),.pointer (some ⟨Bh,3,none⟩)]
 be:Blk X (Bh+1) 33 #[.int .i64 r]
section
variable {m : HistM} {Bh Ba : Nat} {w X Y : World} {r : Int}
theorem LooseI.on (h:LooseI m Bh Ba w X r) (hb:Below X.heap.size X Y):LooseI m Bh Ba w Y r:=⟨h.below.trans (hb.mono h.below.size),h.bh.below hb h.bh.lt,h.ba.below hb h.ba.lt,h.be.below hb h.be.lt⟩
theorem LooseI.calm {B:Nat} (h:LooseI m Bh Ba w X r) (hc:Calm B X Y) (hw:w.heap.size≤B):LooseI m Bh Ba w Y r:=⟨h.below.trans (Keep.below hc h.below.size fun k hk=>.inl (by omega)),hc.blk h.bh,hc.blk h.ba,hc.blk h.be⟩
theorem LooseI.keep {S:Nat→Prop} (h:LooseI m Bh Ba w X r) (hk:Keep S X Y) (hS:∀ k,(k<w.heap.size∨∃ t cs,Blk X k t cs)→S k):LooseI m Bh Ba w Y r :=
 ⟨h.below.trans (hk.below h.below.size fun k hk=>hS k (.inl hk)),hk.blk h.bh (hS _ (.inr ⟨_,_,h.bh⟩)),hk.blk h.ba (hS _ (.inr ⟨_,_,h.ba⟩)),hk.blk h.be (hS _ (.inr ⟨_,_,h.be⟩))⟩
theorem blk_not_mark {k D:Nat} {t:TypeId} {cs:Array Value} (hb:Blk X k t cs) (hD:X.heap[D]?=some (.deferred (some []))):k≠D:=by
 rintro rfl
 unfold Blk at hb
 rw[hb] at hD
 cases hD
theorem LooseI.wrong (h:LooseI m Bh Ba w X r) (hBh:w.heap.size≤Bh) (u:Int):LooseI m Bh Ba w (X.setCell ⟨Bh+1,0,none⟩ (.int .i64 u)) u :=
 ⟨h.below.setCell (p:=⟨Bh+1,0,none⟩) (Nat.le_succ_of_le hBh) _,h.bh.far (p:=⟨Bh+1,0,none⟩) (by show Bh≠Bh+1;omega) _,h.ba.far (p:=⟨Bh+1,0,none⟩) (Blk.ne_ h.ba h.be (by decide)) _,by have:=h.be.set_ 0 (.int .i64 u);simpa using this⟩
end
set_option maxRecDepth 100000 in
set_option maxHeartbeats 16000000 in
theorem loosew_any (m:HistM) (hS:Mid m) (w:World) (hT:Tabs w) (hm:HRd w w.heap.size m):Calls Tryz.prog 38 #[.agg #[.slice m.tr.1.A m.tr.1.n m.tr.1.c,.slice m.se.1.A m.se.1.n m.se.1.c,.slice m.ob.1.A m.ob.1.n m.ob.1.c,.slice m.pr.1.A m.pr.1.n m.pr.1.c,.slice m.ev.1.A m.ev.1.n m.ev.1.c,.slice m.od.1.A m.od.1.n m.od.1.c,.slice m.ma.1.A m.ma.1.n m.ma.1.c,.slice m.wa.1.A m.wa.1.n m.wa.1.c]] w fun e w'=>e=.returned (.int .i64 (looseW m.pl))∧Below w.heap.size w w':=by
 obtain⟨kh,ke,b0,hs0⟩:=itwo w #[.slice m.tr.1.A m.tr.1.n m.tr.1.c,.slice m.se.1.A m.se.1.n m.se.1.c,.slice m.ob.1.A m.ob.1.n m.ob.1.c,.slice m.pr.1.A m.pr.1.n m.pr.1.c,.slice m.ev.1.A m.ev.1.n m.ev.1.c,.slice m.od.1.A m.od.1.n m.od.1.c,.slice m.ma.1.A m.ma.1.n m.ma.1.c,.slice m.wa.1.A m.wa.1.n m.wa.1.c] #[.int .i64 0] 28 33
 have HN:=zh (names_any w.heap.size ((w.alloc (.cells #[.slice m.tr.1.A m.tr.1.n m.tr.1.c,.slice m.se.1.A m.se.1.n m.se.1.c,.slice m.ob.1.A m.ob.1.n m.ob.1.c,.slice m.pr.1.A m.pr.1.n m.pr.1.c,.slice m.ev.1.A m.ev.1.n m.ev.1.c,.slice m.od.1.A m.od.1.n m.od.1.c,.slice m.ma.1.A m.ma.1.n m.ma.1.c,.slice m.wa.1.A m.wa.1.n m.wa.1.c] 28)).alloc (.cells #[.int .i64 0] 33)))
 have KH:=zh kh
 have KE:=zh ke
 have B0:=zh b0
 have HS0:=zh hs0
 have HT:=zh hT
 clear kh ke b0 hs0 hT
 refine (callsIn_wide (n:=6)).1 (callsIn_of_wp_marks Tryz.func38 rfl trivial ?_ rfl)
 simp only[Tryz.ntmps38,List.size_toArray,List.length_cons,List.length_nil,Nat.reduceAdd,Nat.reduceSub,Array.replicate_succ,Array.replicate_zero,List.push_toArray,List.append_toArray,List.nil_append,List.cons_append]
 refine wpIn_wide.2 ?_
 go_wp2_with fail
 refine HN.out.mono ?_
 rintro e w1 ⟨rfl,b1⟩
 have hb1:=B0.out.trans (b1.mono B0.out.size)
 have KH:=zh (KH.out.below b1 KH.out.lt)
 have KE:=zh (KE.out.below b1 KE.out.lt)
 obtain⟨ka,ba,hsa⟩:=ibox w1 #[.pointer (some ⟨w.heap.size,0,none⟩),.pointer (some ⟨w.heap.size,1,none⟩),.pointer (some ⟨w.heap.size,2,none⟩),.pointer (some ⟨w.heap.size,3,none⟩)] 95
 have hI:LooseI m w.heap.size w1.heap.size w (w1.alloc (.cells #[.pointer (some ⟨w.heap.size,0,none⟩),.pointer (some ⟨w.heap.size,1,none⟩),.pointer (some ⟨w.heap.size,2,none⟩),.pointer (some ⟨w.heap.size,3,none⟩)] 95)) 0:=⟨hb1.trans (ba.mono hb1.size),KH.out.below ba KH.out.lt,ka,KE.out.below ba KE.out.lt⟩
 have HI:=zh hI
 have z3:=ka.cell
 clear b1 hb1 HN KH KE B0 HS0 hI ba hsa
 go_wp2_with fail
 generalize w1.alloc (.cells #[.pointer (some ⟨w.heap.size,0,none⟩),.pointer (some ⟨w.heap.size,1,none⟩),.pointer (some ⟨w.heap.size,2,none⟩),.pointer (some ⟨w.heap.size,3,none⟩)] 95)=W1 at *
 clear ka z3
 generalize w1.heap.size=Ba at *
 obtain⟨Bh,hBh⟩:∃ Bh,Bh=w.heap.size:=⟨_,rfl⟩
 have HBH:Hid (w.heap.size≤Bh):=by show _≤_;omega
 rw[← hBh] at HI ⊢
 clear hBh
 go_loopw [10] (fun v wr=>∃ k:Nat,k≤4∧v=.int .i64 k∧Hid ((List.range k).all (nmK m)=true)∧Hid (LooseI m Bh Ba w wr 0)) (fun v _=>4 - (intOf v).toNat)
 case atStart=>exact⟨0,by omega,rfl,rfl,HI⟩
 clear HI
 obtain⟨k,hk,rfl,HNM,HI⟩:=hrel
 by_cases hk4:k<4
 ·have hkl:(k:Int)<4:=by omega
  have z1:wr.cell? ⟨Bh,k,none⟩=some (.slice (m.sort k).1.A (m.sort k).1.n (m.sort k).1.c):=(HI.out.bh.cell k).trans (cs_sort m k hk4)
  have z2:=(HT.out.on HI.out.below (Nat.le_refl _)).m k hk4
  rw[most_is k hk4] at z2
  have hM:=most_le k hk4
  obtain⟨MI,hMI⟩:∃ MI:Int,(mostN k:Int)=MI:=⟨_,rfl⟩
  rw[hMI] at z2
  rcases Nat.lt_or_ge (mostN k) (m.sort k).1.n with hb | hg
  ·have hg:¬(m.sort k).1.n≤mostN k:=by omega
   have HX:=zh (looseW_nm hm hk4 (by unfold nmK;rw[decide_eq_false hg,Bool.false_and]))
   have hgt:((m.sort k).1.n:Int) > MI:=by omega
   have hix:=idx4 hk4 Bh wr
   clear hg hb hM HNM hMI
   go_wp2_with fail
   go_quiet (fail)
   have HI:=zh (HI.out.on (below_drewN (Below.refl _ _) nq))
   generalize wr.drewN nq=wq at *
   have f5:=HI.out.be.frozen 0
   have c5:=HI.out.be.cell 0
   go_wp2_with fail
   have HI:=zh (HI.out.wrong HBH.out 210)
   refine leaves_marks (B:=0) (C:=fun _=>False) [] _ (MarksAt.nil _ _ _) fun w6 hk=>?_
   have HI:=zh (HI.out.keep hk fun _ _=>by simp)
   have r0:=HI.out.be.cell 0
   refine⟨.int .i64 210,by simp[results,Tryz.results38,go_sem,r0],by rw[HX.out],HI.out.below⟩
  have HGK:Hid (decide ((m.sort k).1.n≤mostN k)=true):=decide_eq_true hg
  have hln:=strs_len (hm.sort k)
  have hgt:¬((m.sort k).1.n:Int) > MI:=by omega
  have HC:=zh (apart_any (m.sort k).1.A (m.sort k).1.n (m.sort k).1.c (m.sort k).2 (by omega) (by rw[sort_names];exact hS.tx k hk4) wr.drew (((hm.sort k).below HI.out.below.drew).more HI.out.below.drew.size))
  have hix:=idx4 hk4 Bh wr
  clear hg hM hln hMI
  go_wp2_with fail
  go_still_tail 12,(by kernel_rfl)
  change wpList _ _ _ _ _ wr.drew
  have HI:=zh (HI.out.on ((Below.refl _ _).drew))
  generalize wr.drew=wd at *
  go_wp2_with fail
  refine HC.out.mono ?_
  rintro e w5 ⟨rfl,b5⟩
  have HI:=zh (HI.out.on b5)
  clear b5 HC z1 z2
  cases hx:namesB (m.sort k).2
  ·have HX:=zh (looseW_nm hm hk4 (by unfold nmK;rw[hx,Bool.and_false]))
   have f5:=HI.out.be.frozen 0
   have c5:=HI.out.be.cell 0
   clear hx
   go_wp2_with fail
   have HI:=zh (HI.out.wrong HBH.out 210)
   refine leaves_marks (B:=0) (C:=fun _=>False) [] _ (MarksAt.nil _ _ _) fun w6 hk=>?_
   have HI:=zh (HI.out.keep hk fun _ _=>by simp)
   have r0:=HI.out.be.cell 0
   refine⟨.int .i64 210,by simp[results,Tryz.results38,go_sem,r0],by rw[HX.out],HI.out.below⟩
  have HNM:=zh (nmK_up HNM.out (by unfold nmK;rw[hx,Bool.and_true];exact HGK.out))
  clear hx
  go_wp2_with fail
  go_roundw
  case rel=>exact⟨k+1,by omega,by go_num,HNM,HI⟩
  case measure=>simp[intOf];omega
 obtain rfl:k=4:=by omega
 simp only[show ((4:Nat):Int)=4 from rfl]
 clear hk hk4
 have HC:=zh (fine11w_any Bh m hS wr (HT.out.on HI.out.below (Nat.le_refl _)) ((hm.on HI.out.below).more HI.out.below.size) HI.out.bh)
 go_wp2_with fail
 refine HC.out.mono ?_
 rintro e w5 ⟨rfl,b5⟩
 have HI:=zh (HI.out.on b5)
 clear b5 HC
 cases hx:fineW m.pl
 ·have HX:=zh (looseW_fine hm hx)
  have f5:=HI.out.be.frozen 0
  have c5:=HI.out.be.cell 0
  clear hx
  go_wp2_with fail
  have HI:=zh (HI.out.wrong HBH.out 210)
  refine leaves_marks (B:=0) (C:=fun _=>False) [] _ (MarksAt.nil _ _ _) fun w6 hk=>?_
  have HI:=zh (HI.out.keep hk fun _ _=>by simp)
  have r0:=HI.out.be.cell 0
  refine⟨.int .i64 210,by simp[results,Tryz.results38,go_sem,r0],by rw[HX.out],HI.out.below⟩
 have HFN:=zh hx
 clear hx
 go_wp2_with fail
 refine (spoken_any ⟨Bh,0,none⟩ w5).mono ?_
 rintro e w6 ⟨rfl,rfl⟩
 obtain⟨kp,bp,hsp⟩:=ibox w5 #[.pointer (some ⟨Bh,0,none⟩)] 92
 have HI:=zh (HI.out.on bp)
 have KP:=zh kp
 clear kp bp hsp
 go_wp2_with fail
 generalize w5.alloc (.cells #[.pointer (some ⟨Bh,0,none⟩)] 92)=W6 at *
 generalize w5.heap.size=Bp at *
 refine (wpIn_wide (n:=6)).1 ?_
 have HLE:Hid (w.heap.size≤W6.heap.size):=HI.out.below.size
 refine range_sp none (by omega) (gf:=73) (lb:=#[.pointer (some ⟨Bp,0,none⟩)]) rfl eg_spoken (cs:=plcs m) (Sk:=SkH m Bh) (spoken_seq _ Bp Bh m hm.fit hS.low W6 KP.out) 33 34 6 7 rfl
  (fun k X=>LooseI m Bh Ba w X 0∧∀ j,j<k→∀ p,(refs m.pl)[j]?=some p→m.pl.inR p=true) (fun X=>LooseI m Bh Ba w X 210∧(refs m.pl).all m.pl.inR=false) ?hSk ⟨HI.out,fun j hj=>absurd hj (Nat.not_lt_zero _)⟩ ?hI ?hIx ?assign ?body ?done ?stop
 case hSk =>
  rintro k X ⟨h,_⟩
  exact (hm.on h.below).skel h.bh
 case hI =>
  rintro k X Y ⟨h,h2⟩ hc
  exact⟨h.calm hc HLE.out,h2⟩
 case hIx =>
  rintro X Y ⟨h,h2⟩ hc
  exact⟨h.calm hc HLE.out,h2⟩
 case assign =>
  intro l x y W K hK
  simp only[List.setIfInBounds_toArray,List.set_cons_zero,List.set_cons_succ] at hK ⊢
  gi_wp2_with fail
  exact hK
 case body =>
  rintro l k s p X hcs ⟨hi,hk⟩ hsz
  obtain⟨n,hrf,hcell0⟩:=Lnk.at_ (hm.on hi.below).lnk hcs
  have hs4:s<4:=refs_sort (H:=m.pl) (s,n) (List.mem_of_getElem? hrf)
  have hcell:X.drew.cell? p=some (.int .i64 n):=hcell0
  have hba:X.drew.cell? ⟨Ba,s,none⟩=some (.pointer (some ⟨Bh,s,none⟩)):=(hi.ba.drew.cell s).trans (ptr4_at Bh s hs4)
  have hbh:X.drew.cell? ⟨Bh,s,none⟩=some (.slice (m.sort s).1.A (m.sort s).1.n (m.sort s).1.c):=(hi.bh.drew.cell s).trans (cs_sort m s hs4)
  have hs0:¬(s:Int)<0:=by omega
  have hs5:(s:Int)<4:=by omega
  have HI:=zh hi
  have HK:=zh hk
  have HRF:=zh hrf
  have hmany:m.pl.many s=(m.sort s).1.n:=by rw[many_len,← sort_names];exact strs_len (hm.sort s)
  have HMN:=zh hmany
  simp only[List.setIfInBounds_toArray,List.set_cons_zero,List.set_cons_succ]
  clear hcs hi hk hrf hcell0 hsz hmany
  by_cases h0:n<0
  ·have HBAD:Hid ((refs m.pl).all m.pl.inR=false):=by
    show _=_
    rw[Bool.eq_false_iff]
    intro h
    have:=isN_iff.1 (List.all_eq_true.1 h _ (List.mem_of_getElem? HRF.out))
    omega
   have f5:=HI.out.be.drew.frozen 0
   have c5:=HI.out.be.drew.cell 0
   have HX:Hid (SpPost none (fun k X=>LooseI m Bh Ba w X 0∧∀ j,j<k→∀ p,(refs m.pl)[j]?=some p→m.pl.inR p=true) (fun X=>LooseI m Bh Ba w X 210∧(refs m.pl).all m.pl.inR=false) k X .ret ⟨#[],[]⟩ (X.drew.setCell ⟨Bh+1,0,none⟩ (.int .i64 210))):=.inr ⟨rfl,⟨(HI.out.on ((Below.refl _ _).drew)).wrong HBH.out 210,HBAD.out⟩,(Rk.of_below ((Below.refl _ _).drew)).trans (Rk.set HI.out.be.drew (by decide) _ _)⟩
   clear HBAD
   gi_wp2_with fail
   refine region_round (S:=fun W=>W.cell? p=some (.int .i64 n)∧W.cell? ⟨Ba,s,none⟩=some (.pointer (some ⟨Bh,s,none⟩))∧W.cell? ⟨Bh,s,none⟩=some (.slice (m.sort s).1.A (m.sort s).1.n (m.sort s).1.c)) (by kernel_rfl) (by kernel_rfl) ⟨hcell,hba,hbh⟩ (fun hHeld=>?_)
   refine tkv 0 (some 35) (.pointer (some p)) rfl rfl (fun w' hSw=>by go_simp) ?_
   try simp only[Act.put,zS]
   refine tkv 1 (some 36) (.pointer (some p)) rfl rfl (fun w' hSw=>by go_simp) ?_
   try simp only[Act.put,zS]
   refine tkv 2 (some 37) (.int .i64 n) rfl rfl (fun w' hSw=>by (obtain⟨q1,q2,q3⟩:=hSw;go_simp)) ?_
   try simp only[Act.put,zS]
   refine tkv 3 (some 38) (.bool true) rfl rfl (fun w' hSw=>by go_simp) ?_
   try simp only[Act.put,zS]
   refine tkv 4 (some 39) (.bool true) rfl rfl (fun w' hSw=>by go_simp) ?_
   try simp only[Act.put,zS]
   refine tku 5 (some 40) rfl rfl ?_
   refine tku 6 (some 41) rfl rfl ?_
   refine tku 7 (some 42) rfl rfl ?_
   refine tku 8 (some 43) rfl rfl ?_
   refine tku 9 (some 44) rfl rfl ?_
   refine tku 10 (some 45) rfl rfl ?_
   refine tku 11 (some 46) rfl rfl ?_
   refine tku 12 (some 47) rfl rfl ?_
   refine tku 13 (some 48) rfl rfl ?_
   refine tku 14 (some 49) rfl rfl ?_
   try simp only[Act.put,zS]
   refine tkv 15 (some 50) (.bool true) rfl rfl (fun w' hSw=>by go_simp) ?_
   try simp only[Act.put,zS]
   refine wpAnyH_done (by kernel_rfl) ?_ _
   refine OnlyN.normal ?_
   gi_wp2_with fail
   exact HX.out
  by_cases h1:n≥((m.sort s).1.n:Int)
  ·have HBAD:Hid ((refs m.pl).all m.pl.inR=false):=by
    show _=_
    rw[Bool.eq_false_iff]
    intro h
    have:=isN_iff.1 (List.all_eq_true.1 h _ (List.mem_of_getElem? HRF.out))
    have:=HMN.out
    simp only at *
    omega
   have f5:=HI.out.be.drew.frozen 0
   have c5:=HI.out.be.drew.cell 0
   have HX:Hid (SpPost none (fun k X=>LooseI m Bh Ba w X 0∧∀ j,j<k→∀ p,(refs m.pl)[j]?=some p→m.pl.inR p=true) (fun X=>LooseI m Bh Ba w X 210∧(refs m.pl).all m.pl.inR=false) k X .ret ⟨#[],[]⟩ (X.drew.setCell ⟨Bh+1,0,none⟩ (.int .i64 210))):=.inr ⟨rfl,⟨(HI.out.on ((Below.refl _ _).drew)).wrong HBH.out 210,HBAD.out⟩,(Rk.of_below ((Below.refl _ _).drew)).trans (Rk.set HI.out.be.drew (by decide) _ _)⟩
   clear HBAD
   gi_wp2_with fail
   refine region_round (S:=fun W=>W.cell? p=some (.int .i64 n)∧W.cell? ⟨Ba,s,none⟩=some (.pointer (some ⟨Bh,s,none⟩))∧W.cell? ⟨Bh,s,none⟩=some (.slice (m.sort s).1.A (m.sort s).1.n (m.sort s).1.c)) (by kernel_rfl) (by kernel_rfl) ⟨hcell,hba,hbh⟩ (fun hHeld=>?_)
   refine tkv 0 (some 35) (.pointer (some p)) rfl rfl (fun w' hSw=>by go_simp) ?_
   try simp only[Act.put,zS]
   refine tkv 1 (some 36) (.pointer (some p)) rfl rfl (fun w' hSw=>by go_simp) ?_
   try simp only[Act.put,zS]
   refine tkv 2 (some 37) (.int .i64 n) rfl rfl (fun w' hSw=>by (obtain⟨q1,q2,q3⟩:=hSw;go_simp)) ?_
   try simp only[Act.put,zS]
   refine tkv 3 (some 38) (.bool false) rfl rfl (fun w' hSw=>by go_simp) ?_
   try simp only[Act.put,zS]
   refine tkv 4 (some 39) (.bool false) rfl rfl (fun w' hSw=>by go_simp) ?_
   try simp only[Act.put,zS]
   refine tkv 5 (some 40) (.pointer (some p)) rfl rfl (fun w' hSw=>by go_simp) ?_
   try simp only[Act.put,zS]
   refine tkv 6 (some 41) (.pointer (some p)) rfl rfl (fun w' hSw=>by go_simp) ?_
   try simp only[Act.put,zS]
   refine tkv 7 (some 42) (.int .i64 n) rfl rfl (fun w' hSw=>by (obtain⟨q1,q2,q3⟩:=hSw;go_simp)) ?_
   try simp only[Act.put,zS]
   refine tkv 8 (some 43) (.int .i64 (s:Nat)) rfl rfl (fun w' hSw=>by go_simp) ?_
   try simp only[Act.put,zS]
   refine tkv 9 (some 44) (.pointer (some ⟨Ba,s,none⟩)) rfl rfl (fun w' hSw=>by go_simp) ?_
   try simp only[Act.put,zS]
   refine tkv 10 (some 45) (.pointer (some ⟨Bh,s,none⟩)) rfl rfl (fun w' hSw=>by (obtain⟨q1,q2,q3⟩:=hSw;go_simp)) ?_
   try simp only[Act.put,zS]
   refine tkv 11 (some 46) (.pointer (some ⟨Bh,s,none⟩)) rfl rfl (fun w' hSw=>by go_simp) ?_
   try simp only[Act.put,zS]
   refine tkv 12 (some 47) (.slice (m.sort s).1.A (m.sort s).1.n (m.sort s).1.c) rfl rfl (fun w' hSw=>by (obtain⟨q1,q2,q3⟩:=hSw;go_simp)) ?_
   try simp only[Act.put,zS]
   refine tkv 13 (some 48) (.int .i64 ((m.sort s).1.n:Nat)) rfl rfl (fun w' hSw=>by go_simp) ?_
   try simp only[Act.put,zS]
   refine tkv 14 (some 49) (.bool true) rfl rfl (fun w' hSw=>by go_simp) ?_
   try simp only[Act.put,zS]
   refine tkv 15 (some 50) (.bool true) rfl rfl (fun w' hSw=>by go_simp) ?_
   try simp only[Act.put,zS]
   refine wpAnyH_done (by kernel_rfl) ?_ _
   refine OnlyN.normal ?_
   gi_wp2_with fail
   exact HX.out
  have HX:Hid (SpPost none (fun k X=>LooseI m Bh Ba w X 0∧∀ j,j<k→∀ p,(refs m.pl)[j]?=some p→m.pl.inR p=true) (fun X=>LooseI m Bh Ba w X 210∧(refs m.pl).all m.pl.inR=false) k X .normal ⟨#[],[]⟩ X.drew):=by
   refine .inl ⟨rfl,⟨HI.out.on ((Below.refl _ _).drew),fun j hj q hq=>?_⟩,Rk.of_below ((Below.refl _ _).drew)⟩
   rcases Nat.lt_or_ge j k with h2 | h2
   ·exact HK.out j h2 q hq
   obtain rfl:j=k:=by omega
   rw[HRF.out] at hq
   injection hq with hq
   subst hq
   refine isN_iff.2 ⟨by omega,?_⟩
   show n<(m.pl.many s:Nat)
   rw[HMN.out]
   omega
  gi_wp2_with fail
  refine region_round (S:=fun W=>W.cell? p=some (.int .i64 n)∧W.cell? ⟨Ba,s,none⟩=some (.pointer (some ⟨Bh,s,none⟩))∧W.cell? ⟨Bh,s,none⟩=some (.slice (m.sort s).1.A (m.sort s).1.n (m.sort s).1.c)) (by kernel_rfl) (by kernel_rfl) ⟨hcell,hba,hbh⟩ (fun hHeld=>?_)
  refine tkv 0 (some 35) (.pointer (some p)) rfl rfl (fun w' hSw=>by go_simp) ?_
  try simp only[Act.put,zS]
  refine tkv 1 (some 36) (.pointer (some p)) rfl rfl (fun w' hSw=>by go_simp) ?_
  try simp only[Act.put,zS]
  refine tkv 2 (some 37) (.int .i64 n) rfl rfl (fun w' hSw=>by (obtain⟨q1,q2,q3⟩:=hSw;go_simp)) ?_
  try simp only[Act.put,zS]
  refine tkv 3 (some 38) (.bool false) rfl rfl (fun w' hSw=>by go_simp) ?_
  try simp only[Act.put,zS]
  refine tkv 4 (some 39) (.bool false) rfl rfl (fun w' hSw=>by go_simp) ?_
  try simp only[Act.put,zS]
  refine tkv 5 (some 40) (.pointer (some p)) rfl rfl (fun w' hSw=>by go_simp) ?_
  try simp only[Act.put,zS]
  refine tkv 6 (some 41) (.pointer (some p)) rfl rfl (fun w' hSw=>by go_simp) ?_
  try simp only[Act.put,zS]
  refine tkv 7 (some 42) (.int .i64 n) rfl rfl (fun w' hSw=>by (obtain⟨q1,q2,q3⟩:=hSw;go_simp)) ?_
  try simp only[Act.put,zS]
  refine tkv 8 (some 43) (.int .i64 (s:Nat)) rfl rfl (fun w' hSw=>by go_simp) ?_
  try simp only[Act.put,zS]
  refine tkv 9 (some 44) (.pointer (some ⟨Ba,s,none⟩)) rfl rfl (fun w' hSw=>by go_simp) ?_
  try simp only[Act.put,zS]
  refine tkv 10 (some 45) (.pointer (some ⟨Bh,s,none⟩)) rfl rfl (fun w' hSw=>by (obtain⟨q1,q2,q3⟩:=hSw;go_simp)) ?_
  try simp only[Act.put,zS]
  refine tkv 11 (some 46) (.pointer (some ⟨Bh,s,none⟩)) rfl rfl (fun w' hSw=>by go_simp) ?_
  try simp only[Act.put,zS]
  refine tkv 12 (some 47) (.slice (m.sort s).1.A (m.sort s).1.n (m.sort s).1.c) rfl rfl (fun w' hSw=>by (obtain⟨q1,q2,q3⟩:=hSw;go_simp)) ?_
  try simp only[Act.put,zS]
  refine tkv 13 (some 48) (.int .i64 ((m.sort s).1.n:Nat)) rfl rfl (fun w' hSw=>by go_simp) ?_
  try simp only[Act.put,zS]
  refine tkv 14 (some 49) (.bool false) rfl rfl (fun w' hSw=>by go_simp) ?_
  try simp only[Act.put,zS]
  refine tkv 15 (some 50) (.bool false) rfl rfl (fun w' hSw=>by go_simp) ?_
  try simp only[Act.put,zS]
  refine wpAnyH_done (by kernel_rfl) ?_ _
  refine OnlyN.normal ?_
  gi_wp2_with fail
  exact HX.out
 case done =>
  rintro D W hD ⟨hi,hk⟩ hdef
  have HX:=zh (looseW_all hm HNM.out HFN.out (all_upto hm.lnk hk))
  have HI:=zh hi
  have HDF:=zh hdef
  have HDL:Hid (w.heap.size≤D):=Nat.le_trans HLE.out hD
  have f5:=hi.be.frozen 0
  have c5:=hi.be.cell 0
  clear hi hk hdef hD
  unfold mkMark
  gi_wp2_with fail
  go_wp2_with fail
  have HI2:=zh (HI.out.wrong HBH.out 0)
  have hmk:MarksAt w.heap.size (fun _=>False) [D] (W.setCell ⟨Bh+1,0,none⟩ (.int .i64 0)):=⟨by simp,fun E hE=>by
   rw[List.mem_singleton] at hE
   subst hE
   exact⟨HDL.out,id,(((Keep.refl (fun j=>j≠Bh+1) W).set (.inr fun h=>h rfl) 0 (.int .i64 0)).obj HDF.out (Ne.symm (blk_not_mark HI.out.be HDF.out)))⟩⟩
  refine leaves_marks [D] _ hmk fun w9 hk=>?_
  have HI:=zh (HI2.out.keep hk fun k h=>by
   rw[List.mem_singleton]
   rcases h with h | ⟨t,cs,h⟩
   ·have:=HDL.out;omega
   ·exact blk_not_mark h (hmk.all D (.head _)).2.2)
  have r0:=HI.out.be.cell 0
  refine⟨.int .i64 0,by simp[results,Tryz.results38,go_sem,r0],by rw[HX.out],HI.out.below⟩
 rintro D W hD ⟨hi,hb⟩ hdef
 have HX:=zh (looseW_refs hm hb)
 have HI:=zh hi
 have HDF:=zh hdef
 have HDL:Hid (w.heap.size≤D):=Nat.le_trans HLE.out hD
 clear hi hb hdef hD
 show Code.wpIn _ _ _ Code.ret _ _ _
 unfold mkMark
 gi_wp2_with fail
 have hmk:MarksAt w.heap.size (fun _=>False) [D] W:=⟨by simp,fun E hE=>by
  rw[List.mem_singleton] at hE
  subst hE
  exact⟨HDL.out,id,HDF.out⟩⟩
 refine leaves_marks [D] _ hmk fun w9 hk=>?_
 have HI:=zh (HI.out.keep hk fun k h=>by
  rw[List.mem_singleton]
  rcases h with h | ⟨t,cs,h⟩
  ·have:=HDL.out;omega
  ·exact blk_not_mark h HDF.out)
 have r0:=HI.out.be.cell 0
 refine⟨.int .i64 210,by simp[results,Tryz.results38,go_sem,r0],by rw[HX.out],HI.out.below⟩
theorem loose_any (m:HistM) (hS:Small m.pl) (w:World) (hT:Tabs w) (hm:HRd w w.heap.size m):Calls Tryz.prog 38 #[.agg #[.slice m.tr.1.A m.tr.1.n m.tr.1.c,.slice m.se.1.A m.se.1.n m.se.1.c,.slice m.ob.1.A m.ob.1.n m.ob.1.c,.slice m.pr.1.A m.pr.1.n m.pr.1.c,.slice m.ev.1.A m.ev.1.n m.ev.1.c,.slice m.od.1.A m.od.1.n m.od.1.c,.slice m.ma.1.A m.ma.1.n m.ma.1.c,.slice m.wa.1.A m.wa.1.n m.wa.1.c]] w fun e w'=>e=.returned (.int .i64 (looseE m.pl))∧Below w.heap.size w w':=by
 rw[← hS.loose]
 exact loosew_any m (hS.mid hm) w hT hm
end Go.Proofs.YtmkknbonmameoaaGreatDoor
namespace Go.Proofs.YtmkknbonmameoaaGreatDoor
open Go.RowKit Go.Shelf
attribute [local go_sem] Oper.semAt_some
def checkE (H:Hist):Int:=if rightB H=true then 0 else 210
theorem checkE_ok {H:Hist} (h:rightB H=true):checkE H=0:=by unfold checkE;rw[if_pos h]
theorem checkE_no {H:Hist} (h:rightB H=false):checkE H=210:=by unfold checkE;rw[h];rfl
def checkW (H:Hist):Int:=if rightW H=true then 0 else 210
theorem checkW_ok {H:Hist} (hl:limB H=true) (h:rightB H=true):checkW H=0:=by unfold checkW rightW;rw[hl,h];rfl
theorem checkW_no {H:Hist} (h:rightB H=false):checkW H=210:=by unfold checkW rightW;rw[h,Bool.and_false];rfl
theorem checkW_shaped {H:Hist} (h:(limB H&&shapedB H)=false):checkW H=210:=by
 unfold checkW rightW rightB
 rw[← Bool.and_assoc,h]
 rfl
theorem Small.check {H:Hist} (h:Small H):checkW H=checkE H:=by unfold checkW checkE;rw[h.right]
theorem lim_many {H:Hist} (h:limB H=true) (s:Nat):H.many s≤300:=by
 have:=(limB_iff.1 h).1
 unfold Hist.many
 (repeat' split)<;>omega
structure MetI (m:HistM) (Bh Bm:Nat) (mt:Nat→Nat) (w X:World):Prop where
 below:Below w.heap.size w X
 bh:Blk X Bh 28 m.cs
 bm:Blk X Bm 82 #[.int .i64 (mt 0:Nat),.int .i64 (mt 1:Nat),.int .i64 (mt 2:Nat),.int .i64 (mt 3:Nat)]
section
variable {m : HistM} {Bh Bm : Nat} {mt : Nat → Nat} {w X Y : World}
theorem MetI.on (h:MetI m Bh Bm mt w X) (hb:Below X.heap.size X Y):MetI m Bh Bm mt w Y:=⟨h.below.trans (hb.mono h.below.size),h.bh.below hb h.bh.lt,h.bm.below hb h.bm.lt⟩
theorem MetI.calm {B:Nat} (h:MetI m Bh Bm mt w X) (hc:Calm B X Y) (hw:w.heap.size≤B):MetI m Bh Bm mt w Y:=⟨h.below.trans (Keep.below hc h.below.size fun k hk=>.inl (by omega)),hc.blk h.bh,hc.blk h.bm⟩
theorem MetI.keep {S:Nat→Prop} (h:MetI m Bh Bm mt w X) (hk:Keep S X Y) (hS:∀ k,(k<w.heap.size∨∃ t cs,Blk X k t cs)→S k):MetI m Bh Bm mt w Y :=
 ⟨h.below.trans (hk.below h.below.size fun k hk=>hS k (.inl hk)),hk.blk h.bh (hS _ (.inr ⟨_,_,h.bh⟩)),hk.blk h.bm (hS _ (.inr ⟨_,_,h.bm⟩))⟩
def upd (mt:Nat→Nat) (s:Nat):Nat→Nat:=fun q=>if q=s then mt q+1 else mt q
theorem mt_at (mt:Nat→Nat):∀ s,s<4→(#[.int .i64 (mt 0:Nat),.int .i64 (mt 1:Nat),.int .i64 (mt 2:Nat),.int .i64 (mt 3:Nat)]:Array Value)[s]?=some (.int .i64 (mt s:Nat)):=by
 intro s hs
 have:s=0∨s=1∨s=2∨s=3:=by omega
 rcases this with rfl | rfl | rfl | rfl<;>rfl
theorem mt_set (mt:Nat→Nat):∀ s,s<4→(#[.int .i64 (mt 0:Nat),.int .i64 (mt 1:Nat),.int .i64 (mt 2:Nat),.int .i64 (mt 3:Nat)]:Array Value).setIfInBounds s (.int .i64 ((mt s:Nat)+1))=(let mt:=upd mt s;#[.int .i64 (mt 0:Nat),.int .i64 (mt 1:Nat),.int .i64 (mt 2:Nat),.int .i64 (mt 3:Nat)]):=by
 intro s hs
 have:s=0∨s=1∨s=2∨s=3:=by omega
 rcases this with rfl | rfl | rfl | rfl<;>simp[upd]
theorem MetI.step (h:MetI m Bh Bm mt w X) (hBm:w.heap.size≤Bm) {s:Nat} (hs:s<4):MetI m Bh Bm (upd mt s) w (X.setCell ⟨Bm,s,none⟩ (.int .i64 ((mt s:Nat)+1))) :=
 ⟨h.below.setCell (p:=⟨Bm,s,none⟩) hBm _,h.bh.far (p:=⟨Bm,s,none⟩) (Blk.ne_ h.bh h.bm (by decide)) _,by have:=h.bm.set_ s (.int .i64 ((mt s:Nat)+1));rw[mt_set mt s hs] at this;exact this⟩
end
def Met (H:Hist) (k:Nat) (mt:Nat→Nat):Prop:=∀ s,s<4→spk s ((refs H).take k)=upI (mt s)
section
variable {H : Hist} {k s : Nat} {n : Int} {mt : Nat → Nat}
theorem Met.zero:Met H 0 (fun _=>0):=fun s _=>by simp;rfl
theorem Met.next (h:Met H k mt) (hk:(refs H)[k]?=some (s,n)) (hn:n=mt s):Met H (k+1) (upd mt s):=by
 intro q hq
 rw[List.take_add_one,hk]
 show spk q ((refs H).take k++[(s,n)])=_
 rw[spk_snoc]
 unfold upd
 by_cases e:s=q
 ·subst e
  rw[if_pos rfl,if_pos rfl,h s hq,addI_out (fun hm=>by have:=(mem_upI.1 hm).2;omega),upI_succ,hn]
 rw[if_neg e,if_neg (fun e2=>e e2.symm),h q hq]
theorem Met.same (h:Met H k mt) (hk:(refs H)[k]?=some (s,n)) (h0:0≤n) (hn:n<mt s):Met H (k+1) mt:=by
 intro q hq
 rw[List.take_add_one,hk]
 show spk q ((refs H).take k++[(s,n)])=_
 rw[spk_snoc]
 by_cases e:s=q
 ·subst e
  rw[if_pos rfl,h s hq,addI_in (mem_upI.2 ⟨h0,hn⟩)]
 rw[if_neg e,h q hq]
theorem Met.wrong (h:Met H k mt) (hk:(refs H)[k]?=some (s,n)) (hs:s<4) (hn:(mt s:Int)<n):¬ordP H:=by
 intro ho
 have h1:=ho s hs
 have e:refs H=((refs H).take k++[(s,n)])++(refs H).drop (k+1):=by
  have:=(List.take_append_drop (k+1) (refs H)).symm
  rw[List.take_add_one,hk] at this
  exact this
 obtain⟨t,ht⟩:=spk_pre s ((refs H).take k++[(s,n)]) ((refs H).drop (k+1))
 rw[← e,spk_snoc,if_pos rfl,h s hs,addI_out (fun hm=>by have:=(mem_upI.1 hm).2;omega),List.append_assoc] at ht
 rw[h1] at ht
 have hl:mt s<H.many s:=by
  have:=congrArg List.length ht
  rw[upI_len,List.length_append,upI_len] at this
  simp at this
  omega
 have h2:(upI (H.many s))[mt s]?=(upI (mt s)++([n]++t))[mt s]?:=by rw[ht]
 rw[upI_at hl,List.getElem?_append_right (by rw[upI_len];omega),upI_len,Nat.sub_self] at h2
 simp at h2
 omega
theorem Met.all (h:Met H (refs H).length mt) (hs:shapedB H=true):rightB H=true↔∀ s,s<4→mt s=H.many s:=by
 have e:(refs H).take (refs H).length=refs H:=List.take_length
 unfold Met at h
 rw[e] at h
 unfold rightB
 rw[hs,Bool.true_and,ordB_iff]
 constructor
 ·intro ho s hs
  have:=congrArg List.length ((h s hs).symm.trans (ho s hs))
  rwa [upI_len,upI_len] at this
 intro hm s hs
 rw[h s hs,hm s hs]
theorem right_not (h:¬ordP H):rightB H=false:=by
 unfold rightB
 cases hb:ordB H
 ·rw[Bool.and_false]
 exact absurd (ordB_iff.1 hb) h
end
theorem mt4_at (mt:Nat→Nat):∀ k,k<4→(#[.int .i64 (mt 0:Nat),.int .i64 (mt 1:Nat),.int .i64 (mt 2:Nat),.int .i64 (mt 3:Nat)]:Array Value)[k]?=some (.int .i64 (mt k:Nat)):=by
 intro k hk
 have:k=0∨k=1∨k=2∨k=3:=by omega
 rcases this with rfl | rfl | rfl | rfl<;>rfl
set_option maxRecDepth 100000 in
set_option maxHeartbeats 16000000 in
theorem check11w_any (m:HistM) (hS:Mid m) (w:World) (hT:Tabs w) (hm:HRd w w.heap.size m):Calls Tryz.prog 20 #[.agg #[.slice m.tr.1.A m.tr.1.n m.tr.1.c,.slice m.se.1.A m.se.1.n m.se.1.c,.slice m.ob.1.A m.ob.1.n m.ob.1.c,.slice m.pr.1.A m.pr.1.n m.pr.1.c,.slice m.ev.1.A m.ev.1.n m.ev.1.c,.slice m.od.1.A m.od.1.n m.od.1.c,.slice m.ma.1.A m.ma.1.n m.ma.1.c,.slice m.wa.1.A m.wa.1.n m.wa.1.c]] w fun e w'=>e=.returned (.int .i64 (checkW m.pl))∧Below w.heap.size w w':=by
 obtain⟨kh,b0,hs0⟩:=ibox w #[.slice m.tr.1.A m.tr.1.n m.tr.1.c,.slice m.se.1.A m.se.1.n m.se.1.c,.slice m.ob.1.A m.ob.1.n m.ob.1.c,.slice m.pr.1.A m.pr.1.n m.pr.1.c,.slice m.ev.1.A m.ev.1.n m.ev.1.c,.slice m.od.1.A m.od.1.n m.od.1.c,.slice m.ma.1.A m.ma.1.n m.ma.1.c,.slice m.wa.1.A m.wa.1.n m.wa.1.c] 28
 have HC:=zh (loosew_any m hS _ (hT.on b0 (Nat.le_refl _)) ((hm.on b0).more b0.size))
 have KH:=zh kh
 have B0:=zh b0
 clear kh b0 hs0 hT
 refine (callsIn_wide (n:=6)).1 (callsIn_of_wp_marks Tryz.func20 rfl trivial ?_ rfl)
 simp only[Tryz.ntmps20,List.size_toArray,List.length_cons,List.length_nil,Nat.reduceAdd,Nat.reduceSub,Array.replicate_succ,Array.replicate_zero,List.push_toArray,List.append_toArray,List.nil_append,List.cons_append]
 gi_wp2_with fail
 refine wpIn_wide.2 (wp_scope_straight ?_)
 go_wp2_with fail
 refine HC.out.mono ?_
 rintro e w1 ⟨rfl,b1⟩
 have KH:=zh (KH.out.below b1 KH.out.lt)
 have B1:=zh (B0.out.trans (b1.mono B0.out.size))
 clear b1 HC B0
 cases hx:(limB m.pl&&shapedB m.pl)
 ·have HX:=zh (checkW_shaped hx)
  rw[looseW_no hx]
  clear hx
  go_wp2_with fail
  rw[Exit.noGoto_ret]
  refine leaves_marks (B:=0) (C:=fun _=>False) [] _ (MarksAt.nil _ _ _) fun w6 hk=>?_
  exact⟨.int .i64 210,by simp[results,Tryz.results20,go_sem],by rw[HX.out],B1.out.trans (hk.below B1.out.size fun _ _=>by simp)⟩
 rw[looseW_ok hx]
 have HSH:=zh ((Bool.and_eq_true _ _).mp hx).2
 have HLB:=zh ((Bool.and_eq_true _ _).mp hx).1
 obtain⟨km,bm,hsm⟩:=ibox w1 #[.int .i64 0,.int .i64 0,.int .i64 0,.int .i64 0] 82
 have hI:MetI m w.heap.size w1.heap.size (fun _=>0) w (w1.alloc (.cells #[.int .i64 0,.int .i64 0,.int .i64 0,.int .i64 0] 82)):=⟨B1.out.trans (bm.mono B1.out.size),KH.out.below bm KH.out.lt,km⟩
 have HI:=zh hI
 have HBM:Hid (w.heap.size≤w1.heap.size):=B1.out.size
 clear hx km bm hsm hI KH
 go_wp2_with fail
 refine (wpIn_wide (n:=6)).1 (wpIn_label ?_)
 generalize w1.alloc (.cells #[.int .i64 0,.int .i64 0,.int .i64 0,.int .i64 0] 82)=W1 at *
 clear B1
 generalize w1.heap.size=Bm at *
 obtain⟨Bh,hBh⟩:∃ Bh,Bh=w.heap.size:=⟨_,rfl⟩
 rw[← hBh] at HI ⊢
 clear hBh
 go_wp2_with fail
 refine (spoken_any ⟨Bh,0,none⟩ W1).mono ?_
 rintro e w6 ⟨rfl,rfl⟩
 obtain⟨kp,bp,hsp⟩:=ibox W1 #[.pointer (some ⟨Bh,0,none⟩)] 92
 have HI:=zh (HI.out.on bp)
 have KP:=zh kp
 clear kp bp hsp
 go_wp2_with fail
 generalize W1.alloc (.cells #[.pointer (some ⟨Bh,0,none⟩)] 92)=W6 at *
 generalize W1.heap.size=Bp at *
 refine (wpIn_wide (n:=6)).1 ?_
 have HLE:Hid (w.heap.size≤W6.heap.size):=HI.out.below.size
 refine range_sp (some 0) (by omega) (gf:=73) (lb:=#[.pointer (some ⟨Bp,0,none⟩)]) rfl eg_spoken (cs:=plcs m) (Sk:=SkH m Bh) (spoken_seq _ Bp Bh m hm.fit hS.low W6 KP.out) 15 16 5 6 rfl
  (fun k X=>∃ mt,MetI m Bh Bm mt w X∧Met m.pl k mt) (fun X=>∃ mt,MetI m Bh Bm mt w X∧(∃ s,s<4∧mt s≠m.pl.many s)∧rightB m.pl=false) ?hSk ⟨_,HI.out,Met.zero⟩ ?hI ?hIx ?assign ?body ?done ?stop
 case hSk =>
  rintro k X ⟨mt,h,_⟩
  exact (hm.on h.below).skel h.bh
 case hI =>
  rintro k X Y ⟨mt,h,h2⟩ hc
  exact⟨mt,h.calm hc HLE.out,h2⟩
 case hIx =>
  rintro X Y ⟨mt,h,h2⟩ hc
  exact⟨mt,h.calm hc HLE.out,h2⟩
 case assign =>
  intro l x y W K hK
  simp only[List.setIfInBounds_toArray,List.set_cons_zero,List.set_cons_succ] at hK ⊢
  gi_wp2_with fail
  exact hK
 case body =>
  rintro l k s p X hcs ⟨mt,hi,hk⟩ hsz
  obtain⟨n,hrf,hcell0⟩:=Lnk.at_ (hm.on hi.below).lnk hcs
  have hs4:s<4:=refs_sort (H:=m.pl) (s,n) (List.mem_of_getElem? hrf)
  have hin:=shaped_in HSH.out (List.mem_of_getElem? hrf)
  have hm60:=lim_many HLB.out s
  simp only at hin
  have hc1:X.drew.cell? p=some (.int .i64 n):=hcell0
  have hm1:X.drew.cell? ⟨Bm,s,none⟩=some (.int .i64 (mt s:Nat)):=(hi.bm.drew.cell s).trans (mt_at mt s hs4)
  have hs0:¬(s:Int)<0:=by omega
  have hs5:(s:Int)<4:=by omega
  have HI:=zh hi
  have HK:=zh hk
  have HRF:=zh hrf
  have HIN:=zh hin
  simp only[List.setIfInBounds_toArray,List.set_cons_zero,List.set_cons_succ]
  clear hcs hi hk hrf hcell0 hsz hin
  by_cases h0:n=mt s
  ·have hb:(n==(mt s:Int))=true:=by simp[h0]
   have hmtb:(mt s:Int)<1000:=by have:=HIN.out;omega
   have hw1:IntKind.i64.wrap ((mt s:Int)+1)=(mt s:Int)+1:=by rw[IntKind.wrap_i64];omega
   have f5:=HI.out.bm.drew.frozen s
   have HX:Hid (SpPost (some 0) (fun k X=>∃ mt,MetI m Bh Bm mt w X∧Met m.pl k mt) (fun X=>∃ mt,MetI m Bh Bm mt w X∧(∃ s,s<4∧mt s≠m.pl.many s)∧rightB m.pl=false) k X .normal ⟨#[],[]⟩ (X.drew.setCell ⟨Bm,s,none⟩ (.int .i64 ((mt s:Nat)+1)))) :=
    .inl ⟨rfl,⟨upd mt s,(HI.out.on ((Below.refl _ _).drew)).step HBM.out hs4,HK.out.next HRF.out h0⟩,(Rk.of_below ((Below.refl _ _).drew)).trans (Rk.set HI.out.bm.drew (by decide) _ _)⟩
   clear h0
   gi_wp2_with fail
   refine region_round (S:=fun W=>W.cell? p=some (.int .i64 n)∧W.cell? ⟨Bm,s,none⟩=some (.int .i64 (mt s:Nat))) (by kernel_rfl) (by kernel_rfl) ⟨hc1,hm1⟩ (fun hHeld=>?_)
   refine tkv 0 (some 18) (.pointer (some p)) rfl rfl (fun w' hSw=>by go_simp) ?_
   try simp only[Act.put,zS]
   refine tkv 1 (some 19) (.pointer (some p)) rfl rfl (fun w' hSw=>by go_simp) ?_
   try simp only[Act.put,zS]
   refine tkv 2 (some 20) (.int .i64 n) rfl rfl (fun w' hSw=>by (obtain⟨q1,q2⟩:=hSw;go_simp)) ?_
   try simp only[Act.put,zS]
   refine tkv 3 (some 21) (.int .i64 (s:Nat)) rfl rfl (fun w' hSw=>by go_simp) ?_
   try simp only[Act.put,zS]
   refine tkv 4 (some 22) (.pointer (some ⟨Bm,s,none⟩)) rfl rfl (fun w' hSw=>by go_simp) ?_
   try simp only[Act.put,zS]
   refine tkv 5 (some 23) (.int .i64 (mt s:Nat)) rfl rfl (fun w' hSw=>by (obtain⟨q1,q2⟩:=hSw;go_simp)) ?_
   try simp only[Act.put,zS]
   refine tkv 6 (some 24) (.bool true) rfl rfl (fun w' hSw=>by go_simp) ?_
   try simp only[Act.put,zS]
   refine tkv 7 (some 17) (.bool true) rfl rfl (fun w' hSw=>by go_simp) ?_
   try simp only[Act.put,zS]
   refine wpAnyH_done (by kernel_rfl) ?_ _
   refine OnlyN.normal ?_
   gi_wp2_with fail
   exact HX.out
  have hb:(n==(mt s:Int))=false:=by simpa using h0
  by_cases h1:n > (mt s:Int)
  ·have HX:Hid (SpPost (some 0) (fun k X=>∃ mt,MetI m Bh Bm mt w X∧Met m.pl k mt) (fun X=>∃ mt,MetI m Bh Bm mt w X∧(∃ s,s<4∧mt s≠m.pl.many s)∧rightB m.pl=false) k X (.exit 0) ⟨#[],[]⟩ X.drew.drew) :=
    .inr ⟨rfl,⟨mt,HI.out.on (((Below.refl _ _).drew).drew),⟨s,hs4,by have:=HIN.out;omega⟩,right_not (HK.out.wrong HRF.out hs4 h1)⟩,Rk.of_below (((Below.refl _ _).drew).drew)⟩
   clear h0
   gi_wp2_with fail
   refine region_round (S:=fun W=>W.cell? p=some (.int .i64 n)∧W.cell? ⟨Bm,s,none⟩=some (.int .i64 (mt s:Nat))) (by kernel_rfl) (by kernel_rfl) ⟨hc1,hm1⟩ (fun hHeld=>?_)
   refine tkv 0 (some 18) (.pointer (some p)) rfl rfl (fun w' hSw=>by go_simp) ?_
   try simp only[Act.put,zS]
   refine tkv 1 (some 19) (.pointer (some p)) rfl rfl (fun w' hSw=>by go_simp) ?_
   try simp only[Act.put,zS]
   refine tkv 2 (some 20) (.int .i64 n) rfl rfl (fun w' hSw=>by (obtain⟨q1,q2⟩:=hSw;go_simp)) ?_
   try simp only[Act.put,zS]
   refine tkv 3 (some 21) (.int .i64 (s:Nat)) rfl rfl (fun w' hSw=>by go_simp) ?_
   try simp only[Act.put,zS]
   refine tkv 4 (some 22) (.pointer (some ⟨Bm,s,none⟩)) rfl rfl (fun w' hSw=>by go_simp) ?_
   try simp only[Act.put,zS]
   refine tkv 5 (some 23) (.int .i64 (mt s:Nat)) rfl rfl (fun w' hSw=>by (obtain⟨q1,q2⟩:=hSw;go_simp)) ?_
   try simp only[Act.put,zS]
   refine tkv 6 (some 24) (.bool false) rfl rfl (fun w' hSw=>by go_simp) ?_
   try simp only[Act.put,zS]
   refine tkv 7 (some 17) (.bool false) rfl rfl (fun w' hSw=>by go_simp) ?_
   try simp only[Act.put,zS]
   refine wpAnyH_done (by kernel_rfl) ?_ _
   refine OnlyN.normal ?_
   have hc2:X.drew.drew.cell? p=some (.int .i64 n):=hc1
   have hm2:X.drew.drew.cell? ⟨Bm,s,none⟩=some (.int .i64 (mt s:Nat)):=hm1
   gi_wp2_with fail
   refine region_round (S:=fun W=>W.cell? p=some (.int .i64 n)∧W.cell? ⟨Bm,s,none⟩=some (.int .i64 (mt s:Nat))) (by kernel_rfl) (by kernel_rfl) ⟨hc2,hm2⟩ (fun hHeld=>?_)
   refine tkv 0 (some 31) (.pointer (some p)) rfl rfl (fun w' hSw=>by go_simp) ?_
   try simp only[Act.put,zS]
   refine tkv 1 (some 32) (.pointer (some p)) rfl rfl (fun w' hSw=>by go_simp) ?_
   try simp only[Act.put,zS]
   refine tkv 2 (some 33) (.int .i64 n) rfl rfl (fun w' hSw=>by (obtain⟨q1,q2⟩:=hSw;go_simp)) ?_
   try simp only[Act.put,zS]
   refine tkv 3 (some 34) (.int .i64 (s:Nat)) rfl rfl (fun w' hSw=>by go_simp) ?_
   try simp only[Act.put,zS]
   refine tkv 4 (some 35) (.pointer (some ⟨Bm,s,none⟩)) rfl rfl (fun w' hSw=>by go_simp) ?_
   try simp only[Act.put,zS]
   refine tkv 5 (some 36) (.int .i64 (mt s:Nat)) rfl rfl (fun w' hSw=>by (obtain⟨q1,q2⟩:=hSw;go_simp)) ?_
   try simp only[Act.put,zS]
   refine tkv 6 (some 37) (.bool true) rfl rfl (fun w' hSw=>by go_simp) ?_
   try simp only[Act.put,zS]
   refine tkv 7 (some 30) (.bool true) rfl rfl (fun w' hSw=>by go_simp) ?_
   try simp only[Act.put,zS]
   refine wpAnyH_done (by kernel_rfl) ?_ _
   refine OnlyN.normal ?_
   gi_wp2_with fail
   exact HX.out
  have HX:Hid (SpPost (some 0) (fun k X=>∃ mt,MetI m Bh Bm mt w X∧Met m.pl k mt) (fun X=>∃ mt,MetI m Bh Bm mt w X∧(∃ s,s<4∧mt s≠m.pl.many s)∧rightB m.pl=false) k X .normal ⟨#[],[]⟩ X.drew.drew) :=
   .inl ⟨rfl,⟨mt,HI.out.on (((Below.refl _ _).drew).drew),HK.out.same HRF.out HIN.out.1 (by omega)⟩,Rk.of_below (((Below.refl _ _).drew).drew)⟩
  clear h0
  gi_wp2_with fail
  refine region_round (S:=fun W=>W.cell? p=some (.int .i64 n)∧W.cell? ⟨Bm,s,none⟩=some (.int .i64 (mt s:Nat))) (by kernel_rfl) (by kernel_rfl) ⟨hc1,hm1⟩ (fun hHeld=>?_)
  refine tkv 0 (some 18) (.pointer (some p)) rfl rfl (fun w' hSw=>by go_simp) ?_
  try simp only[Act.put,zS]
  refine tkv 1 (some 19) (.pointer (some p)) rfl rfl (fun w' hSw=>by go_simp) ?_
  try simp only[Act.put,zS]
  refine tkv 2 (some 20) (.int .i64 n) rfl rfl (fun w' hSw=>by (obtain⟨q1,q2⟩:=hSw;go_simp)) ?_
  try simp only[Act.put,zS]
  refine tkv 3 (some 21) (.int .i64 (s:Nat)) rfl rfl (fun w' hSw=>by go_simp) ?_
  try simp only[Act.put,zS]
  refine tkv 4 (some 22) (.pointer (some ⟨Bm,s,none⟩)) rfl rfl (fun w' hSw=>by go_simp) ?_
  try simp only[Act.put,zS]
  refine tkv 5 (some 23) (.int .i64 (mt s:Nat)) rfl rfl (fun w' hSw=>by (obtain⟨q1,q2⟩:=hSw;go_simp)) ?_
  try simp only[Act.put,zS]
  refine tkv 6 (some 24) (.bool false) rfl rfl (fun w' hSw=>by go_simp) ?_
  try simp only[Act.put,zS]
  refine tkv 7 (some 17) (.bool false) rfl rfl (fun w' hSw=>by go_simp) ?_
  try simp only[Act.put,zS]
  refine wpAnyH_done (by kernel_rfl) ?_ _
  refine OnlyN.normal ?_
  have hc2:X.drew.drew.cell? p=some (.int .i64 n):=hc1
  have hm2:X.drew.drew.cell? ⟨Bm,s,none⟩=some (.int .i64 (mt s:Nat)):=hm1
  gi_wp2_with fail
  refine region_round (S:=fun W=>W.cell? p=some (.int .i64 n)∧W.cell? ⟨Bm,s,none⟩=some (.int .i64 (mt s:Nat))) (by kernel_rfl) (by kernel_rfl) ⟨hc2,hm2⟩ (fun hHeld=>?_)
  refine tkv 0 (some 31) (.pointer (some p)) rfl rfl (fun w' hSw=>by go_simp) ?_
  try simp only[Act.put,zS]
  refine tkv 1 (some 32) (.pointer (some p)) rfl rfl (fun w' hSw=>by go_simp) ?_
  try simp only[Act.put,zS]
  refine tkv 2 (some 33) (.int .i64 n) rfl rfl (fun w' hSw=>by (obtain⟨q1,q2⟩:=hSw;go_simp)) ?_
  try simp only[Act.put,zS]
  refine tkv 3 (some 34) (.int .i64 (s:Nat)) rfl rfl (fun w' hSw=>by go_simp) ?_
  try simp only[Act.put,zS]
  refine tkv 4 (some 35) (.pointer (some ⟨Bm,s,none⟩)) rfl rfl (fun w' hSw=>by go_simp) ?_
  try simp only[Act.put,zS]
  refine tkv 5 (some 36) (.int .i64 (mt s:Nat)) rfl rfl (fun w' hSw=>by (obtain⟨q1,q2⟩:=hSw;go_simp)) ?_
  try simp only[Act.put,zS]
  refine tkv 6 (some 37) (.bool false) rfl rfl (fun w' hSw=>by go_simp) ?_
  try simp only[Act.put,zS]
  refine tkv 7 (some 30) (.bool false) rfl rfl (fun w' hSw=>by go_simp) ?_
  try simp only[Act.put,zS]
  refine wpAnyH_done (by kernel_rfl) ?_ _
  refine OnlyN.normal ?_
  gi_wp2_with fail
  exact HX.out
 case done =>
  rintro D W hD ⟨mt,hi,hk⟩ hdef
  have HALL:Hid (rightB m.pl=true↔∀ s,s<4→mt s=m.pl.many s):=Met.all (by have:=hk;rwa [(hm.lnk).len] at this) HSH.out
  have HI:=zh hi
  have HDF:=zh hdef
  have HDL:Hid (w.heap.size≤D):=Nat.le_trans HLE.out hD
  clear hi hk hdef hD
  unfold mkMark
  gi_wp2_with fail
  go_wp2_with fail
  refine (names_any Bh W).mono ?_
  rintro e w7 ⟨rfl,b7⟩
  have HI:=zh (HI.out.on b7)
  have HDF:=zh ((Keep.of_all (fun _=>True) b7).obj HDF.out trivial)
  clear b7
  go_wp2_with fail
  go_loopw [39] (fun v wr=>∃ k:Nat,k≤4∧v=.int .i64 k∧Hid (∀ s,s<k→mt s=m.pl.many s)∧Hid (MetI m Bh Bm mt w wr)∧Hid (wr.heap[D]?=some (.deferred (some [])))) (fun v _=>4 - (intOf v).toNat)
  case atStart=>exact⟨0,by omega,rfl,fun s hs=>absurd hs (Nat.not_lt_zero _),HI,HDF⟩
  clear HI HDF
  obtain⟨k,hk,rfl,HEQ,HI,HDF⟩:=hrel
  by_cases hk4:k<4
  ·have hkl:(k:Int)<4:=by omega
   have z1:wr.cell? ⟨Bh,k,none⟩=some (.slice (m.sort k).1.A (m.sort k).1.n (m.sort k).1.c):=(HI.out.bh.cell k).trans (cs_sort m k hk4)
   have z2:wr.cell? ⟨Bm,k,none⟩=some (.int .i64 (mt k:Nat)):=(HI.out.bm.cell k).trans (mt4_at mt k hk4)
   have hix:=idx4 hk4 Bh wr
   have HMN:Hid (m.pl.many k=(m.sort k).1.n):=by show _=_;rw[many_len,← sort_names];exact strs_len (hm.sort k)
   by_cases hq:mt k=(m.sort k).1.n
   ·have hb:((mt k:Int) != ((m.sort k).1.n:Int))=false:=by simp;omega
    have HEQ:Hid (∀ s,s<k+1→mt s=m.pl.many s):=fun s hs=>by
     rcases Nat.lt_or_ge s k with h | h
     ·exact HEQ.out s h
     obtain rfl:s=k:=by omega
     rw[HMN.out]
     exact hq
    clear hq
    go_wp2_with fail
    go_quiet (fail)
    go_wp2_with fail
    go_roundw
    case rel=>exact⟨k+1,by omega,by go_num,HEQ,HI.out.on (below_drewN (Below.refl _ _) _),HDF⟩
    case measure=>simp[intOf];omega
   have hb:((mt k:Int) != ((m.sort k).1.n:Int))=true:=by simp;omega
   have HX:Hid (checkW m.pl=210):=checkW_no (by
    rw[Bool.eq_false_iff]
    intro h
    have:=HALL.out.1 h k hk4
    rw[HMN.out] at this
    exact hq this)
   clear hq
   go_wp2_with fail
   go_quiet (fail)
   go_wp2_with fail
   have HI:=zh (HI.out.on (below_drewN (Below.refl _ _) nq))
   have HDF:Hid ((wr.drewN nq).heap[D]?=some (.deferred (some []))):=HDF.out
   have hmk:MarksAt w.heap.size (fun _=>False) [D] (wr.drewN nq):=⟨by simp,fun E hE=>by
    rw[List.mem_singleton] at hE
    subst hE
    exact⟨HDL.out,id,HDF.out⟩⟩
   rw[Exit.noGoto_ret]
   refine leaves_marks [D] _ hmk fun w9 hk=>?_
   have HI:=zh (HI.out.keep hk fun k h=>by
    rw[List.mem_singleton]
    rcases h with h | ⟨t,cs,h⟩
    ·have:=HDL.out;omega
    ·exact blk_not_mark h HDF.out)
   exact⟨.int .i64 210,by simp[results,Tryz.results20,go_sem],by rw[HX.out],HI.out.below⟩
  obtain rfl:k=4:=by omega
  simp only[show ((4:Nat):Int)=4 from rfl]
  clear hk hk4
  have HX:Hid (checkW m.pl=0):=checkW_ok HLB.out (HALL.out.2 HEQ.out)
  go_wp2_with fail
  have hmk:MarksAt w.heap.size (fun _=>False) [D] wr:=⟨by simp,fun E hE=>by
   rw[List.mem_singleton] at hE
   subst hE
   exact⟨HDL.out,id,HDF.out⟩⟩
  rw[Exit.noGoto_ret]
  refine leaves_marks [D] _ hmk fun w9 hk=>?_
  have HI:=zh (HI.out.keep hk fun k h=>by
   rw[List.mem_singleton]
   rcases h with h | ⟨t,cs,h⟩
   ·have:=HDL.out;omega
   ·exact blk_not_mark h HDF.out)
  exact⟨.int .i64 0,by simp[results,Tryz.results20,go_sem],by rw[HX.out],HI.out.below⟩
 rintro D W hD ⟨mt,hi,⟨s0,hs0,hne⟩,hb⟩ hdef
 have HALL:Hid (rightB m.pl=true↔∀ s,s<4→mt s=m.pl.many s):=⟨fun h=>(by rw[hb] at h;cases h),fun h=>absurd (h s0 hs0) hne⟩
 have HI:=zh hi
 have HDF:=zh hdef
 have HDL:Hid (w.heap.size≤D):=Nat.le_trans HLE.out hD
 clear hi hb hne hs0 hdef hD
 show Code.wpIn _ _ _ (Code.exit 0) _ _ _
 unfold mkMark
 gi_wp2_with fail
 go_wp2_with fail
 refine (names_any Bh W).mono ?_
 rintro e w7 ⟨rfl,b7⟩
 have HI:=zh (HI.out.on b7)
 have HDF:=zh ((Keep.of_all (fun _=>True) b7).obj HDF.out trivial)
 clear b7
 go_wp2_with fail
 go_loopw [39] (fun v wr=>∃ k:Nat,k≤4∧v=.int .i64 k∧Hid (∀ s,s<k→mt s=m.pl.many s)∧Hid (MetI m Bh Bm mt w wr)∧Hid (wr.heap[D]?=some (.deferred (some [])))) (fun v _=>4 - (intOf v).toNat)
 case atStart=>exact⟨0,by omega,rfl,fun s hs=>absurd hs (Nat.not_lt_zero _),HI,HDF⟩
 clear HI HDF
 obtain⟨k,hk,rfl,HEQ,HI,HDF⟩:=hrel
 by_cases hk4:k<4
 ·have hkl:(k:Int)<4:=by omega
  have z1:wr.cell? ⟨Bh,k,none⟩=some (.slice (m.sort k).1.A (m.sort k).1.n (m.sort k).1.c):=(HI.out.bh.cell k).trans (cs_sort m k hk4)
  have z2:wr.cell? ⟨Bm,k,none⟩=some (.int .i64 (mt k:Nat)):=(HI.out.bm.cell k).trans (mt4_at mt k hk4)
  have hix:=idx4 hk4 Bh wr
  have HMN:Hid (m.pl.many k=(m.sort k).1.n):=by show _=_;rw[many_len,← sort_names];exact strs_len (hm.sort k)
  by_cases hq:mt k=(m.sort k).1.n
  ·have hb:((mt k:Int) != ((m.sort k).1.n:Int))=false:=by simp;omega
   have HEQ:Hid (∀ s,s<k+1→mt s=m.pl.many s):=fun s hs=>by
    rcases Nat.lt_or_ge s k with h | h
    ·exact HEQ.out s h
    obtain rfl:s=k:=by omega
    rw[HMN.out]
    exact hq
   clear hq
   go_wp2_with fail
   go_quiet (fail)
   go_wp2_with fail
   go_roundw
   case rel=>exact⟨k+1,by omega,by go_num,HEQ,HI.out.on (below_drewN (Below.refl _ _) _),HDF⟩
   case measure=>simp[intOf];omega
  have hb:((mt k:Int) != ((m.sort k).1.n:Int))=true:=by simp;omega
  have HX:Hid (checkW m.pl=210):=checkW_no (by
   rw[Bool.eq_false_iff]
   intro h
   have:=HALL.out.1 h k hk4
   rw[HMN.out] at this
   exact hq this)
  clear hq
  go_wp2_with fail
  go_quiet (fail)
  go_wp2_with fail
  have HI:=zh (HI.out.on (below_drewN (Below.refl _ _) nq))
  have HDF:Hid ((wr.drewN nq).heap[D]?=some (.deferred (some []))):=HDF.out
  have hmk:MarksAt w.heap.size (fun _=>False) [D] (wr.drewN nq):=⟨by simp,fun E hE=>by
   rw[List.mem_singleton] at hE
   subst hE
   exact⟨HDL.out,id,HDF.out⟩⟩
  rw[Exit.noGoto_ret]
  refine leaves_marks [D] _ hmk fun w9 hk=>?_
  have HI:=zh (HI.out.keep hk fun k h=>by
   rw[List.mem_singleton]
   rcases h with h | ⟨t,cs,h⟩
   ·have:=HDL.out;omega
   ·exact blk_not_mark h HDF.out)
  exact⟨.int .i64 210,by simp[results,Tryz.results20,go_sem],by rw[HX.out],HI.out.below⟩
 obtain rfl:k=4:=by omega
 simp only[show ((4:Nat):Int)=4 from rfl]
 clear hk hk4
 have HX:Hid (checkW m.pl=0):=checkW_ok HLB.out (HALL.out.2 HEQ.out)
 go_wp2_with fail
 have hmk:MarksAt w.heap.size (fun _=>False) [D] wr:=⟨by simp,fun E hE=>by
  rw[List.mem_singleton] at hE
  subst hE
  exact⟨HDL.out,id,HDF.out⟩⟩
 rw[Exit.noGoto_ret]
 refine leaves_marks [D] _ hmk fun w9 hk=>?_
 have HI:=zh (HI.out.keep hk fun k h=>by
  rw[List.mem_singleton]
  rcases h with h | ⟨t,cs,h⟩
  ·have:=HDL.out;omega
  ·exact blk_not_mark h HDF.out)
 exact⟨.int .i64 0,by simp[results,Tryz.results20,go_sem],by rw[HX.out],HI.out.below⟩
theorem check11_any (m:HistM) (hS:Small m.pl) (w:World) (hT:Tabs w) (hm:HRd w w.heap.size m):Calls Tryz.prog 20 #[.agg #[.slice m.tr.1.A m.tr.1.n m.tr.1.c,.slice m.se.1.A m.se.1.n m.se.1.c,.slice m.ob.1.A m.ob.1.n m.ob.1.c,.slice m.pr.1.A m.pr.1.n m.pr.1.c,.slice m.ev.1.A m.ev.1.n m.ev.1.c,.slice m.od.1.A m.od.1.n m.od.1.c,.slice m.ma.1.A m.ma.1.n m.ma.1.c,.slice m.wa.1.A m.wa.1.n m.wa.1.c]] w fun e w'=>e=.returned (.int .i64 (checkE m.pl))∧Below w.heap.size w w':=by
 rw[← hS.check]
 exact check11w_any m (hS.mid hm) w hT hm
end Go.Proofs.YtmkknbonmameoaaGreatDoor
namespace Go.Proofs.YtmkknbonmameoaaGreatDoor
open Go.RowKit Go.Shelf
structure GotI (w:World) (xs:List Int) (v:Value) (X:World):Prop where
 own:X.ownsRow w.heap.size 3 1 v xs.length (ints xs)
 below:Below w.heap.size w X
section
variable {w X Y : World} {xs : List Int} {v v' : Value} {x : Int} {o : Obj}
theorem GotI.cast {ys:List Int} (h:GotI w xs v X) (e:ys=xs):GotI w ys v X:=by rw[e];exact h
theorem GotI.on (h:GotI w xs v X) (hb:Below X.heap.size X Y):GotI w xs v Y:=⟨own_on h.own hb,h.below.trans (hb.mono h.below.size)⟩
theorem GotI.alloc (h:GotI w xs v X) (o:Obj):GotI w xs v (X.alloc o):=h.on ((Below.refl _ _).alloc (Nat.le_refl _) o)
theorem GotI.more (h:GotI w xs v X) (hown:Y.ownsRow w.heap.size 3 1 v' (xs.length+1) (ints xs++[.int .i64 x])) (hg:X.grownBy Y v.ownBlock):GotI w (xs++[x]) v' Y :=
 ⟨by rw[List.length_append,ints_append];exact hown,h.below.grown hg h.below.size fun k hk=>own_block11 h.own k hk⟩
end
theorem int_info11:(Tryz.prog.info? 3).map (fun i=>(i.zero,i.size,i.bytes))=some (some (.int .i64 0),1,8):=by kernel_rfl
def madeL (zs:List Int) (t k:Int):List Int:=if k=0 then zs else addI zs t
def noneK (H:Hist) (t kd:Int) (i:Nat):Prop:=∀ e∈H.ev.take i,¬(e.t=t∧e.kd=kd)
theorem noneK.next {H:Hist} {t kd:Int} {i:Nat} {e:EvP} (h:noneK H t kd i) (he:H.ev[i]?=some e) (hn:¬(e.t=t∧e.kd=kd)):noneK H t kd (i+1):=by
 intro x hx
 rw[List.take_add_one,he] at hx
 rcases List.mem_append.1 hx with hx | hx
 ·exact h x hx
 simp at hx
 subst hx
 exact hn
theorem noneK.all {H:Hist} {t kd:Int} {i:Nat} (h:noneK H t kd i) (hi:H.ev.length=i):hasB H t kd=false:=by
 rw[Bool.eq_false_iff]
 intro hh
 obtain⟨e,he,h1,h2⟩:=hasB_iff.1 hh
 exact h e (by rw[List.take_of_length_le (Nat.le_of_eq hi)];exact he) ⟨h1,h2⟩
structure Fair (m:HistM):Prop where
 tr:m.tr.1.n≤1000000
 se:m.se.1.n≤1000000
 ob:m.ob.1.n≤1000000
 pr:m.pr.1.n≤1000000
 ev:m.ev.1.n≤1000000
 od:m.od.1.n≤1000000
 ma:m.ma.1.n≤1000000
 wa:m.wa.1.n≤1000000
 sc:∀ p∈m.ev.2,p.2.n≤1000000
 ot:∀ p∈m.od.2,p.2.n≤1000000
 mt:∀ p∈m.ma.2,p.2.n≤1000000
theorem HRd.fair {m:HistM} {W:World} {B:Nat} (h:HRd W B m) (hl:limB m.pl=true) (hs:shapedB m.pl=true):Fair m:=by
 have f:=h.fit
 have a1:=strs_len h.tr;have a2:=strs_len h.se;have a3:=strs_len h.ob;have a4:=strs_len h.pr
 have c5:=f.ev.1;have c6:=f.od.1;have c7:=f.ma.1;have c8:=f.wa.1
 obtain⟨⟨l1,l2,l3,l4⟩,⟨l5,l6,l7,l8⟩,l9,l10⟩:=limB_iff.1 hl
 simp only[HistM.pl,List.length_map] at l1 l2 l3 l4 l5 l6 l7 l8
 refine⟨by omega,by omega,by omega,by omega,by omega,by omega,by omega,by omega,fun p hp=>?_,fun p hp=>?_,fun p hp=>?_⟩
 ·rw[← (f.sc p hp).1];have:=fine_len (shaped_ev hs (List.mem_map.2 ⟨p,hp,rfl⟩));omega
 ·rw[← (f.ot p hp).1];have:=l9 p.1 (List.mem_map.2 ⟨p,hp,rfl⟩);omega
 rw[← (f.mt p hp).1];have:=l10 p.1 (List.mem_map.2 ⟨p,hp,rfl⟩);omega
theorem Small.fair {m:HistM} {W:World} {B:Nat} (hs:Small m.pl) (h:HRd W B m):Fair m:=by
 have f:=h.fit
 have a1:=strs_len h.tr;have a2:=strs_len h.se;have a3:=strs_len h.ob;have a4:=strs_len h.pr
 have b1:=hs.tr;have b2:=hs.se;have b3:=hs.ob;have b4:=hs.pr;have b5:=hs.ev;have b6:=hs.od;have b7:=hs.ma;have b8:=hs.wa
 have c5:=f.ev.1;have c6:=f.od.1;have c7:=f.ma.1;have c8:=f.wa.1
 simp only[HistM.pl,List.length_map] at b1 b2 b3 b4 b5 b6 b7 b8
 refine⟨by omega,by omega,by omega,by omega,by omega,by omega,by omega,by omega,fun p hp=>?_,fun p hp=>?_,fun p hp=>?_⟩
 ·rw[← (f.sc p hp).1];have:=hs.sc p.1 (List.mem_map.2 ⟨p,hp,rfl⟩);omega
 ·rw[← (f.ot p hp).1];have:=hs.ot p.1 (List.mem_map.2 ⟨p,hp,rfl⟩);omega
 rw[← (f.mt p hp).1];have:=hs.mt p.1 (List.mem_map.2 ⟨p,hp,rfl⟩);omega
theorem HRd.tr_len {m:HistM} {W:World} {B:Nat} (h:HRd W B m):m.pl.tr.length=m.tr.1.n:=strs_len h.tr
theorem HRd.ob_len {m:HistM} {W:World} {B:Nat} (h:HRd W B m):m.pl.ob.length=m.ob.1.n:=strs_len h.ob
theorem HRd.ev_len {m:HistM} {W:World} {B:Nat} (h:HRd W B m):m.pl.ev.length=m.ev.1.n:=by rw[← h.fit.ev.1];unfold HistM.pl;simp
theorem HRd.od_len {m:HistM} {W:World} {B:Nat} (h:HRd W B m):m.pl.od.length=m.od.1.n:=by rw[← h.fit.od.1];unfold HistM.pl;simp
theorem HRd.ma_len {m:HistM} {W:World} {B:Nat} (h:HRd W B m):m.pl.ma.length=m.ma.1.n:=by rw[← h.fit.ma.1];unfold HistM.pl;simp
theorem HRd.wa_len {m:HistM} {W:World} {B:Nat} (h:HRd W B m):m.pl.wa.length=m.wa.1.n:=by rw[← h.fit.wa.1];rfl
theorem lit15 (w:World) (t:TypeId) (s:Nat) (xs:List Value) (cs:Array Value) (h:cs=xs.toArray) (hl:xs.length=1 * s):Reads (w.alloc (.cells cs t)) (w.alloc (.cells cs t)).heap.size s (some ⟨w.heap.size,0,none⟩) 1 xs:=by
 subst h
 exact⟨hl,fun _=>⟨_,rfl,by simp,fun j u hu=>by
  rw[Go.WideShapes.add_plain,Nat.zero_add,(Blk.new w t xs.toArray).cell,List.getElem?_toArray];exact hu⟩⟩
structure GotE (w:World) (xs:List (EvP × SH)) (v:Value) (X:World):Prop where
 own:X.ownsRow w.heap.size 60 9 v xs.length (xs.flatMap evCs)
 below:Below w.heap.size w X
section
variable {w X Y : World} {xs : List (EvP × SH)} {v v' : Value} {x : EvP × SH} {o : Obj}
theorem GotE.cast {ys:List (EvP × SH)} (h:GotE w xs v X) (e:ys=xs):GotE w ys v X:=by rw[e];exact h
theorem GotE.on (h:GotE w xs v X) (hb:Below X.heap.size X Y):GotE w xs v Y:=⟨own_on h.own hb,h.below.trans (hb.mono h.below.size)⟩
theorem GotE.alloc (h:GotE w xs v X) (o:Obj):GotE w xs v (X.alloc o):=h.on ((Below.refl _ _).alloc (Nat.le_refl _) o)
theorem GotE.more (h:GotE w xs v X) (hown:Y.ownsRow w.heap.size 60 9 v' (xs.length+1) (xs.flatMap evCs++evCs x)) (hg:X.grownBy Y v.ownBlock):GotE w (xs++[x]) v' Y :=
 ⟨by rw[List.length_append,List.flatMap_append];simpa using hown,h.below.grown hg h.below.size fun k hk=>(own_in_block h.own hk).1⟩
end
theorem relem_ev (W:World):(sizeOf (Tryz.prog.elem 23)).run Tryz.prog W=.ok 9 W:=by kernel_rfl
theorem rcut_ev (A:Option Addr) (len cap h:Nat) (hh:h≤cap) (W:World) :
 (Instr.slice 23 (.slice A len cap) none (some (.int .i64 (h:Int))) none).run Tryz.prog W=.ok (.slice A h cap) W:=by
 have e0:Value.slice (if cap=0 then A else A.map (·.add (0 * 9))) (h - 0) (cap - 0)=.slice A h cap:=by
  have:(if cap=0 then A else A.map (·.add (0 * 9)))=A:=by
   split
   ·rfl
   cases A<;>simp[Addr.add]
  rw[this,Nat.sub_zero,Nat.sub_zero]
 rw[run_slice_h W 23 A len cap (show Tryz.prog.underlying 23=some (.slice (Tryz.prog.elem 23)) by kernel_rfl) .i64 h (by omega) (by omega),relem_ev]
 exact congrArg (fun v=>Result.ok v W) e0
section
variable {α : Type} {enc : α → List Value} {s : Nat}
theorem reads_cutR {B n q:Nat} {W:World} {A:Option Addr} {l:List α} (hs:∀ x,(enc x).length=s) (h:Reads W B s A n (l.flatMap enc)) (hq:q≤n):Reads W B s A q ((l.take q).flatMap enc):=by
 have:=reads_take h hq
 rwa [show (l.flatMap enc).take (q * s)=(l.take q).flatMap enc from ?_] at this
 have e:l.flatMap enc=(l.take q).flatMap enc++(l.drop q).flatMap enc:=by rw[← List.flatMap_append,List.take_append_drop]
 rcases Nat.le_total l.length q with h1 | h1
 ·rw[List.take_of_length_le (l:=l) h1,List.take_of_length_le]
  rw[fm_len hs]
  exact Nat.mul_le_mul_right _ h1
 rw[e,List.take_append_of_le_length (by rw[fm_len hs,List.length_take,Nat.min_eq_left h1];exact Nat.le_refl _),List.take_of_length_le (by rw[fm_len hs,List.length_take,Nat.min_eq_left h1];exact Nat.le_refl _)]
end
def somK (a b:List Int) (i:Nat):Prop:=(a.take i).Nodup∧∀ t∈a.take i,t∈b
theorem somK.next {a b:List Int} {i:Nat} {z:Int} (h:somK a b i) (hz:a[i]?=some z) (h1:z∈b) (h2:z ∉ a.take i):somK a b (i+1):=by
 unfold somK
 rw[List.take_add_one,hz]
 refine⟨?_,fun t ht=>?_⟩
 ·rw[List.nodup_append]
  exact⟨h.1,by simp,fun x hx y hy=>by simp at hy;subst hy;exact fun e=>h2 (e▸hx)⟩
 rcases List.mem_append.1 ht with ht | ht
 ·exact h.2 t ht
 simp at ht
 subst ht
 exact h1
theorem some_all {a b:List Int} {i:Nat} (h:somK a b i) (hi:a.length=i):ruSome a b=true:=by
 unfold somK at h
 rw[List.take_of_length_le (Nat.le_of_eq hi)] at h
 unfold ruSome
 exact decide_eq_true h
theorem some_out {a b:List Int} {i:Nat} {z:Int} (hz:a[i]?=some z) (h:z ∉ b):ruSome a b=false:=by
 unfold ruSome
 exact decide_eq_false fun hh=>h (hh.2 z (List.mem_of_getElem? hz))
theorem some_twice {a b:List Int} {i:Nat} {z:Int} (hz:a[i]?=some z) (h:z∈a.take i):ruSome a b=false:=by
 unfold ruSome
 refine decide_eq_false fun hh=>?_
 obtain⟨j,hj,e⟩:=List.mem_iff_getElem.1 h
 rw[List.getElem_take] at e
 have hi:=(List.getElem?_eq_some_iff.1 hz).1
 have h2:=(List.getElem?_eq_some_iff.1 hz).2
 have hj2:j<i:=by simp at hj;omega
 have:=nodup_at hh.1 (by omega) hi (e.trans h2.symm)
 omega
theorem writers_len (H:Hist) (x:Int):(ruWriters H x).length≤H.tr.length:=by
 unfold ruWriters
 have:=List.length_filter_le (ruWr H x) (upI H.tr.length)
 rwa [upI_len] at this
theorem ord_at {H:Hist} {i:Nat} {r:OrdP} (h:H.od[i]?=some r):ruOrd H i=((H.od.take i).any (fun p=>decide (p.o=r.o)) || (!ruSome r.ts (ruWriters H r.o) || !ruSome (ruWriters H r.o) r.ts)):=by unfold ruOrd;rw[h]
theorem mat_at {H:Hist} {i:Nat} {r:MatP} (h:H.ma[i]?=some r):ruMat H i=((H.ma.take i).any (fun p=>decide (p.p=r.p)&&decide (p.o=r.o)) || !ruSome r.ts (ruWriters H r.o)):=by unfold ruMat;rw[h]
theorem wan_at {H:Hist} {i:Nat} {r:WantP} (h:H.wa[i]?=some r):ruWan H i=((H.wa.take i).any (fun p=>decide (p.s=r.s)) || !(H.ev.any fun e=>decide (e.kd=1)&&decide (e.s=r.s))):=by unfold ruWan;rw[h]
def setSort (h:HistM) (k:Nat) (x:SH × List ByteArray):HistM :=
 if k=0 then {h with tr:=x} else if k=1 then {h with se:=x} else if k=2 then {h with ob:=x} else {h with pr:=x}
def HistM.nms (h:HistM):List (List Value × SH):=[(strs h.tr.2,h.tr.1),(strs h.se.2,h.se.1),(strs h.ob.2,h.ob.1),(strs h.pr.2,h.pr.1)]
section
variable {h : HistM} {k s : Nat} {x : SH × List ByteArray}
theorem set_sort (hk:k<4):(setSort h k x).sort k=x:=by
 have:k=0∨k=1∨k=2∨k=3:=by omega
 rcases this with rfl | rfl | rfl | rfl<;>rfl
theorem set_other (hk:k<4) (hs:s<4) (hne:s≠k):(setSort h k x).sort s=h.sort s:=by
 have h1:k=0∨k=1∨k=2∨k=3:=by omega
 have h2:s=0∨s=1∨s=2∨s=3:=by omega
 rcases h1 with rfl | rfl | rfl | rfl<;>rcases h2 with rfl | rfl | rfl | rfl<;>first | rfl | omega
theorem set_rest (hk:k<4):(setSort h k x).ev=h.ev∧(setSort h k x).od=h.od∧(setSort h k x).ma=h.ma∧(setSort h k x).wa=h.wa:=by
 have:k=0∨k=1∨k=2∨k=3:=by omega
 rcases this with rfl | rfl | rfl | rfl<;>exact⟨rfl,rfl,rfl,rfl⟩
theorem set_cs (hk:k<4):(setSort h k x).cs=h.cs.setIfInBounds k (.slice x.1.A x.1.n x.1.c):=by
 have:k=0∨k=1∨k=2∨k=3:=by omega
 rcases this with rfl | rfl | rfl | rfl<;>rfl
theorem set_nms (hk:k<4):(setSort h k x).nms=h.nms.set k (strs x.2,x.1):=by
 have:k=0∨k=1∨k=2∨k=3:=by omega
 rcases this with rfl | rfl | rfl | rfl<;>rfl
theorem nms_at (hk:k<4):h.nms[k]?=some (strs (h.sort k).2,(h.sort k).1):=by
 have:k=0∨k=1∨k=2∨k=3:=by omega
 rcases this with rfl | rfl | rfl | rfl<;>rfl
end
def zeroH:Array Value:=#[.slice none 0 0,.slice none 0 0,.slice none 0 0,.slice none 0 0,.slice none 0 0,.slice none 0 0,.slice none 0 0,.slice none 0 0]
structure CpI (Bh B3:Nat) (w X:World) (h:HistM) (scs its:List (List Value × SH)):Prop where
 below:Below w.heap.size w X
 b3:Blk X B3 28 h.cs
 br:Blk X (Bh+1) 28 zeroH
 ne:B3≠Bh∧B3≠Bh+1∧w.heap.size≤B3∧w.heap.size≤Bh
 nm:RG 9 1 w.heap.size X h.nms
 ev:X.ownsRow w.heap.size 60 9 (.slice h.ev.1.A h.ev.1.n h.ev.1.c) h.ev.1.n (h.ev.2.flatMap evCs)
 od:X.ownsRow w.heap.size 66 2 (.slice h.od.1.A h.od.1.n h.od.1.c) h.od.1.n (h.od.2.flatMap odCs)
 ma:X.ownsRow w.heap.size 69 4 (.slice h.ma.1.A h.ma.1.n h.ma.1.c) h.ma.1.n (h.ma.2.flatMap maCs)
 wa:X.ownsRow w.heap.size 72 2 (.slice h.wa.1.A h.wa.1.n h.wa.1.c) h.wa.1.n (h.wa.2.flatMap waCs)
 sc:RG 64 3 w.heap.size X scs
 it:RG 3 1 w.heap.size X its
section
variable {Bh B3 k i : Nat} {w X Y : World} {h : HistM} {scs its : List (List Value × SH)} {t : TypeId}
theorem CpI.on (c:CpI Bh B3 w X h scs its) (hb:Below X.heap.size X Y):CpI Bh B3 w Y h scs its :=
 ⟨c.below.trans (hb.mono c.below.size),c.b3.below hb c.b3.lt,c.br.below hb c.br.lt,c.ne,c.nm.on hb,own_on c.ev hb,own_on c.od hb,own_on c.ma hb,own_on c.wa hb,c.sc.on hb,c.it.on hb⟩
theorem CpI.done (c:CpI Bh B3 w X h (h.ev.2.map fun p=>(p.1.scan.flatMap seCs,p.2)) ((h.od.2.map fun p=>(ints p.1.ts,p.2))++h.ma.2.map fun p=>(ints p.1.ts,p.2))):HOwn w.heap.size X h:=⟨c.nm,c.ev,c.od,c.ma,c.wa,c.sc,c.it⟩
theorem box_turn {g:Nat} {cs:Array Value} (hb:Blk X g t cs) (j:Nat) (u:Value):KeepT t X (X.setCell ⟨g,j,none⟩ u):=KeepT.set hb j u
theorem CpI.text (c:CpI Bh B3 w X h scs its) (hk:k<4) {A':Option Addr} {c':Nat} {us:List ByteArray}
 (ho:Y.ownsRow w.heap.size 9 1 (.slice A' ((h.sort k).1.n+us.length) c') ((h.sort k).1.n+us.length) (strs (h.sort k).2++strs us)) (hg:X.grownBy Y (Value.slice (h.sort k).1.A (h.sort k).1.n (h.sort k).1.c).ownBlock)
 (hat:(Value.slice A' ((h.sort k).1.n+us.length) c').ownBlock=(Value.slice (h.sort k).1.A (h.sort k).1.n (h.sort k).1.c).ownBlock∨(Value.slice A' ((h.sort k).1.n+us.length) c').ownBlock=some X.heap.size) :
 CpI Bh B3 w (Y.setCell ⟨B3,k,none⟩ (.slice A' ((h.sort k).1.n+us.length) c')) (setSort h k (⟨A',(h.sort k).1.n+us.length,c'⟩,(h.sort k).2++us)) scs its:=by
 have hold:=c.nm.own k _ (nms_at hk)
 have k1:KeepT 9 X Y:=KeepT.grown hold hg
 have b3Y:=k1.blk c.b3 (by decide)
 have k2:=box_turn b3Y k (.slice A' ((h.sort k).1.n+us.length) c')
 obtain⟨e1,e2,e3,e4⟩:=set_rest (h:=h) (x:=(⟨A',(h.sort k).1.n+us.length,c'⟩,(h.sort k).2++us)) hk
 have hnm:=c.nm.grow (nms_at hk) ho hg hat
 constructor
 ·exact (c.below.grown hg c.below.size fun g hg2=>(own_in_block hold hg2).1).setCell (p:=⟨B3,k,none⟩) c.ne.2.2.1 _
 ·rw[set_cs hk]
  exact b3Y.set_ k _
 ·exact (k1.blk c.br (by decide)).far (p:=⟨B3,k,none⟩) (Ne.symm c.ne.2.1) _
 ·exact c.ne
 ·rw[set_nms hk]
  rw[← strs_append] at hnm
  exact hnm.keepT k2 (by decide)
 ·rw[e1];exact k2.own (k1.own c.ev (by decide)) (by decide)
 ·rw[e2];exact k2.own (k1.own c.od (by decide)) (by decide)
 ·rw[e3];exact k2.own (k1.own c.ma (by decide)) (by decide)
 ·rw[e4];exact k2.own (k1.own c.wa (by decide)) (by decide)
 ·exact (c.sc.keepT k1 (by decide)).keepT k2 (by decide)
 exact (c.it.keepT k1 (by decide)).keepT k2 (by decide)
theorem CpI.scan (c:CpI Bh B3 w X h scs its) {g n cc:Nat} (hA:h.ev.1=⟨some ⟨g,0,none⟩,n,cc⟩) {e:EvP} {h0 hd:SH} (hi:h.ev.2[i]?=some (e,h0)) (hb:Below X.heap.size X Y)
 (ho:Y.ownsRow X.heap.size 64 3 (.slice hd.A hd.n hd.c) hd.n (e.scan.flatMap seCs)) :
 CpI Bh B3 w (Y.setCell ⟨g,i * 9+8,none⟩ (.slice hd.A hd.n hd.c)) {h with ev:=(h.ev.1,h.ev.2.set i (e,hd))} (scs++[(e.scan.flatMap seCs,hd)]) its:=by
 have d:=c.on hb
 have hev:=d.ev
 rw[hA] at hev
 have st:=(hev.stored (i * 9+8) (.slice hd.A hd.n hd.c)).1
 rw[fm_set evCs_len hi (by omega) (x':=(e,hd)) rfl] at st
 obtain⟨hB,_,cur,hbk⟩:=own_in hev (g:=g) rfl
 have k2:KeepT 60 Y (Y.setCell ⟨g,i * 9+8,none⟩ (.slice hd.A hd.n hd.c)):=box_turn hbk _ _
 constructor
 ·exact d.below.setCell (p:=⟨g,i * 9+8,none⟩) hB _
 ·exact k2.blk d.b3 (by decide)
 ·exact k2.blk d.br (by decide)
 ·exact c.ne
 ·exact d.nm.keepT k2 (by decide)
 ·rw[hA];exact st
 ·exact k2.own d.od (by decide)
 ·exact k2.own d.ma (by decide)
 ·exact k2.own d.wa (by decide)
 ·exact (c.sc.add hb c.below.size ho).keepT k2 (by decide)
 exact d.it.keepT k2 (by decide)
theorem CpI.ord (c:CpI Bh B3 w X h scs its) {g n cc:Nat} (hA:h.od.1=⟨some ⟨g,0,none⟩,n,cc⟩) {e:OrdP} {h0 hd:SH} (hi:h.od.2[i]?=some (e,h0)) (hb:Below X.heap.size X Y)
 (ho:Y.ownsRow X.heap.size 3 1 (.slice hd.A hd.n hd.c) hd.n (ints e.ts)) :
 CpI Bh B3 w (Y.setCell ⟨g,i * 2+1,none⟩ (.slice hd.A hd.n hd.c)) {h with od:=(h.od.1,h.od.2.set i (e,hd))} scs (its++[(ints e.ts,hd)]):=by
 have d:=c.on hb
 have hev:=d.od
 rw[hA] at hev
 have st:=(hev.stored (i * 2+1) (.slice hd.A hd.n hd.c)).1
 rw[fm_set odCs_len hi (by omega) (x':=(e,hd)) rfl] at st
 obtain⟨hB,_,cur,hbk⟩:=own_in hev (g:=g) rfl
 have k2:KeepT 66 Y (Y.setCell ⟨g,i * 2+1,none⟩ (.slice hd.A hd.n hd.c)):=box_turn hbk _ _
 constructor
 ·exact d.below.setCell (p:=⟨g,i * 2+1,none⟩) hB _
 ·exact k2.blk d.b3 (by decide)
 ·exact k2.blk d.br (by decide)
 ·exact c.ne
 ·exact d.nm.keepT k2 (by decide)
 ·exact k2.own d.ev (by decide)
 ·rw[hA];exact st
 ·exact k2.own d.ma (by decide)
 ·exact k2.own d.wa (by decide)
 ·exact d.sc.keepT k2 (by decide)
 exact (c.it.add hb c.below.size ho).keepT k2 (by decide)
theorem CpI.mat (c:CpI Bh B3 w X h scs its) {g n cc:Nat} (hA:h.ma.1=⟨some ⟨g,0,none⟩,n,cc⟩) {e:MatP} {h0 hd:SH} (hi:h.ma.2[i]?=some (e,h0)) (hb:Below X.heap.size X Y)
 (ho:Y.ownsRow X.heap.size 3 1 (.slice hd.A hd.n hd.c) hd.n (ints e.ts)) :
 CpI Bh B3 w (Y.setCell ⟨g,i * 4+3,none⟩ (.slice hd.A hd.n hd.c)) {h with ma:=(h.ma.1,h.ma.2.set i (e,hd))} scs (its++[(ints e.ts,hd)]):=by
 have d:=c.on hb
 have hev:=d.ma
 rw[hA] at hev
 have st:=(hev.stored (i * 4+3) (.slice hd.A hd.n hd.c)).1
 rw[fm_set maCs_len hi (by omega) (x':=(e,hd)) rfl] at st
 obtain⟨hB,_,cur,hbk⟩:=own_in hev (g:=g) rfl
 have k2:KeepT 69 Y (Y.setCell ⟨g,i * 4+3,none⟩ (.slice hd.A hd.n hd.c)):=box_turn hbk _ _
 constructor
 ·exact d.below.setCell (p:=⟨g,i * 4+3,none⟩) hB _
 ·exact k2.blk d.b3 (by decide)
 ·exact k2.blk d.br (by decide)
 ·exact c.ne
 ·exact d.nm.keepT k2 (by decide)
 ·exact k2.own d.ev (by decide)
 ·exact k2.own d.od (by decide)
 ·rw[hA];exact st
 ·exact k2.own d.wa (by decide)
 ·exact d.sc.keepT k2 (by decide)
 exact (c.it.add hb c.below.size ho).keepT k2 (by decide)
end
def scOf (p:EvP × SH):List Value × SH:=(p.1.scan.flatMap seCs,p.2)
def toOf (p:OrdP × SH):List Value × SH:=(ints p.1.ts,p.2)
def tmOf (p:MatP × SH):List Value × SH:=(ints p.1.ts,p.2)
def PlL (m h:HistM):Prop:=h.pl=m.pl∧h.ev.1.n=m.ev.1.n∧h.od.1.n=m.od.1.n∧h.ma.1.n=m.ma.1.n∧h.wa.1.n=m.wa.1.n
theorem take_set {α:Type} {l:List α} {i:Nat} {x y:α} (h:l[i]?=some y):(l.set i x).take (i+1)=l.take i++[x]:=by
 have hi:=(List.getElem?_eq_some_iff.1 h).1
 rw[List.take_add_one,List.getElem?_set_self hi,List.take_set_of_le (Nat.le_refl _)]
 rfl
theorem map_set_same {α β:Type} {f:α→β} {l:List α} {i:Nat} {x y:α} (h:l[i]?=some y) (hf:f x=f y):(l.set i x).map f=l.map f:=by
 rw[List.map_set]
 obtain⟨hi,rfl⟩:=List.getElem?_eq_some_iff.1 h
 rw[hf]
 refine List.ext_getElem? fun k=>?_
 rw[List.getElem?_set]
 split
 ·rename_i e
  subst e
  rw[if_pos (by simpa using hi),List.getElem?_map,List.getElem?_eq_getElem hi]
  rfl
 rfl
theorem fst_at {α β:Type} {l:List (α × β)} {l':List (α × β)} (h:l.map (·.1)=l'.map (·.1)) {i:Nat} {x:α} {y:β} (hi:l'[i]?=some (x,y)):∃ z,l[i]?=some (x,z):=by
 have e:(l.map (·.1))[i]?=some x:=by rw[h,List.getElem?_map,hi];rfl
 rw[List.getElem?_map] at e
 cases hl:l[i]? with
 | none=>rw[hl] at e;cases e
 | some p =>
  rw[hl] at e
  injection e with e
  obtain⟨a,b⟩:=p
  subst e
  exact⟨b,rfl⟩
theorem own_pos {w:World} {base s n c:Nat} {t:TypeId} {A:Option Addr} {xs:List Value} (h:w.ownsRow base t s (.slice A n c) n xs) (hn:0<n):∃ g,A=some ⟨g,0,none⟩:=by
 rcases h.2 with ⟨_,e⟩ | ⟨g,cap,cur,e,_⟩
 ·omega
 injection e with e1 _ _
 exact⟨g,e1⟩
theorem own_long {α:Type} {enc:α→List Value} {w:World} {base s n c:Nat} {t:TypeId} {A:Option Addr} {l:List α} (hs:∀ x,(enc x).length=s) (hp:0<s) (h:w.ownsRow base t s (.slice A n c) n (l.flatMap enc)):l.length=n:=by
 have:=h.1
 rw[fm_len hs] at this
 exact Nat.eq_of_mul_eq_mul_right hp this
def BoxC (m:HistM) (Bh B3 B4:Nat) (X:World):Prop:=Blk X Bh 28 m.cs∧Blk X B4 95 #[.pointer (some ⟨B3,0,none⟩),.pointer (some ⟨B3,1,none⟩),.pointer (some ⟨B3,2,none⟩),.pointer (some ⟨B3,3,none⟩)]
theorem BoxC.on {m:HistM} {Bh B3 B4:Nat} {X Y:World} (h:BoxC m Bh B3 B4 X) (hb:Below X.heap.size X Y):BoxC m Bh B3 B4 Y:=⟨h.1.below hb h.1.lt,h.2.below hb h.2.lt⟩
theorem BoxC.keepT {m:HistM} {Bh B3 B4:Nat} {X Y:World} {t:TypeId} (h:BoxC m Bh B3 B4 X) (hk:KeepT t X Y) (h1:28≠t) (h2:95≠t):BoxC m Bh B3 B4 Y:=⟨hk.blk h.1 h1,hk.blk h.2 h2⟩
theorem BoxC.far {m:HistM} {Bh B3 B4:Nat} {X:World} (h:BoxC m Bh B3 B4 X) {h3:Array Value} (hb:Blk X B3 28 h3) (hne:B3≠Bh) (i:Nat) (u:Value):BoxC m Bh B3 B4 (X.setCell ⟨B3,i,none⟩ u):=⟨h.1.far (p:=⟨B3,i,none⟩) (Ne.symm hne) _,h.2.far (p:=⟨B3,i,none⟩) (Blk.ne_ h.2 hb (by decide)) _⟩
def CpS (Bh B3:Nat) (w X:World) (h:HistM) (i:Nat):Prop:=CpI Bh B3 w X h ((h.ev.2.take i).map scOf) []
def CpO (Bh B3:Nat) (w X:World) (h:HistM) (i:Nat):Prop:=CpI Bh B3 w X h (h.ev.2.map scOf) ((h.od.2.take i).map toOf)
def CpM (Bh B3:Nat) (w X:World) (h:HistM) (i:Nat):Prop:=CpI Bh B3 w X h (h.ev.2.map scOf) (h.od.2.map toOf++(h.ma.2.take i).map tmOf)
section
variable {Bh B3 B4 i : Nat} {w X : World} {m h : HistM} {scs its : List (List Value × SH)}
theorem CpI.scan_next (c:CpI Bh B3 w X h ((h.ev.2.take i).map scOf) its) (hp:PlL m h) {e:EvP} {hd0:SH} (hi:m.ev.2[i]?=some (e,hd0)) :
 ∃ (g:Nat) (h0:SH),h.ev.1.A=some ⟨g,0,none⟩∧∀ Y,Below X.heap.size X Y→Y.cell? ⟨g,i * 9+8,none⟩=some (.slice h0.A h0.n h0.c)∧Y.frozen? ⟨g,i * 9+8,none⟩=false∧∀ hd:SH,Y.ownsRow X.heap.size 64 3 (.slice hd.A hd.n hd.c) hd.n (e.scan.flatMap seCs)→BoxC m Bh B3 B4 Y →
  BoxC m Bh B3 B4 (Y.setCell ⟨g,i * 9+8,none⟩ (.slice hd.A hd.n hd.c))∧∃ h':HistM,CpI Bh B3 w (Y.setCell ⟨g,i * 9+8,none⟩ (.slice hd.A hd.n hd.c)) h' ((h'.ev.2.take (i+1)).map scOf) its∧PlL m h'∧h'.cs=h.cs∧h'.od=h.od∧h'.ma=h.ma:=by
 have hq:h.ev.2.map (·.1)=m.ev.2.map (·.1):=congrArg Hist.ev hp.1
 obtain⟨h0,hk⟩:=fst_at hq hi
 have hkl:=(List.getElem?_eq_some_iff.1 hk).1
 have hl:=own_long evCs_len (by omega) c.ev
 obtain⟨g,hA⟩:=own_pos c.ev (by omega)
 have hA':h.ev.1=⟨some ⟨g,0,none⟩,h.ev.1.n,h.ev.1.c⟩:=by rw[← hA]
 refine⟨g,h0,hA,fun Y hb=>?_⟩
 have d:=(c.on hb).ev
 rw[hA] at d
 refine⟨?_,d.frozenAt _,fun hd ho hx=>?_⟩
 ·rw[d.cellAt _ (by omega)]
  exact fm_at evCs_len hk (j:=8) rfl
 obtain⟨hB,_,cur,hbk⟩:=own_in d (g:=g) rfl
 have k2:KeepT 60 Y (Y.setCell ⟨g,i * 9+8,none⟩ (.slice hd.A hd.n hd.c)):=box_turn hbk _ _
 refine⟨hx.keepT k2 (by decide) (by decide),{h with ev:=(h.ev.1,h.ev.2.set i (e,hd))},?_,⟨?_,hp.2⟩,rfl,rfl,rfl⟩
 ·have:=c.scan hA' hk hb ho
  show CpI Bh B3 w _ _ (((h.ev.2.set i (e,hd)).take (i+1)).map scOf) its
  rw[take_set hk,List.map_append]
  exact this
 rw[← hp.1]
 unfold HistM.pl
 simp only[Hist.mk.injEq,true_and,and_true]
 exact map_set_same hk rfl
theorem CpI.ord_next (c:CpI Bh B3 w X h scs ((h.od.2.take i).map toOf)) (hp:PlL m h) {e:OrdP} {hd0:SH} (hi:m.od.2[i]?=some (e,hd0)) :
 ∃ (g:Nat) (h0:SH),h.od.1.A=some ⟨g,0,none⟩∧∀ Y,Below X.heap.size X Y→Y.cell? ⟨g,i * 2+1,none⟩=some (.slice h0.A h0.n h0.c)∧Y.frozen? ⟨g,i * 2+1,none⟩=false∧∀ hd:SH,Y.ownsRow X.heap.size 3 1 (.slice hd.A hd.n hd.c) hd.n (ints e.ts)→BoxC m Bh B3 B4 Y →
  BoxC m Bh B3 B4 (Y.setCell ⟨g,i * 2+1,none⟩ (.slice hd.A hd.n hd.c))∧∃ h':HistM,CpI Bh B3 w (Y.setCell ⟨g,i * 2+1,none⟩ (.slice hd.A hd.n hd.c)) h' scs ((h'.od.2.take (i+1)).map toOf)∧PlL m h'∧h'.cs=h.cs∧h'.ev=h.ev∧h'.ma=h.ma:=by
 have hq:h.od.2.map (·.1)=m.od.2.map (·.1):=congrArg Hist.od hp.1
 obtain⟨h0,hk⟩:=fst_at hq hi
 have hkl:=(List.getElem?_eq_some_iff.1 hk).1
 have hl:=own_long odCs_len (by omega) c.od
 obtain⟨g,hA⟩:=own_pos c.od (by omega)
 have hA':h.od.1=⟨some ⟨g,0,none⟩,h.od.1.n,h.od.1.c⟩:=by rw[← hA]
 refine⟨g,h0,hA,fun Y hb=>?_⟩
 have d:=(c.on hb).od
 rw[hA] at d
 refine⟨?_,d.frozenAt _,fun hd ho hx=>?_⟩
 ·rw[d.cellAt _ (by omega)]
  exact fm_at odCs_len hk (j:=1) rfl
 obtain⟨hB,_,cur,hbk⟩:=own_in d (g:=g) rfl
 have k2:KeepT 66 Y (Y.setCell ⟨g,i * 2+1,none⟩ (.slice hd.A hd.n hd.c)):=box_turn hbk _ _
 refine⟨hx.keepT k2 (by decide) (by decide),{h with od:=(h.od.1,h.od.2.set i (e,hd))},?_,⟨?_,hp.2⟩,rfl,rfl,rfl⟩
 ·have:=c.ord hA' hk hb ho
  show CpI Bh B3 w _ _ scs (((h.od.2.set i (e,hd)).take (i+1)).map toOf)
  rw[take_set hk,List.map_append]
  exact this
 rw[← hp.1]
 unfold HistM.pl
 simp only[Hist.mk.injEq,true_and,and_true]
 exact map_set_same hk rfl
theorem CpI.mat_next (c:CpI Bh B3 w X h scs (its++(h.ma.2.take i).map tmOf)) (hp:PlL m h) {e:MatP} {hd0:SH} (hi:m.ma.2[i]?=some (e,hd0)) :
 ∃ (g:Nat) (h0:SH),h.ma.1.A=some ⟨g,0,none⟩∧∀ Y,Below X.heap.size X Y→Y.cell? ⟨g,i * 4+3,none⟩=some (.slice h0.A h0.n h0.c)∧Y.frozen? ⟨g,i * 4+3,none⟩=false∧∀ hd:SH,Y.ownsRow X.heap.size 3 1 (.slice hd.A hd.n hd.c) hd.n (ints e.ts)→BoxC m Bh B3 B4 Y →
  BoxC m Bh B3 B4 (Y.setCell ⟨g,i * 4+3,none⟩ (.slice hd.A hd.n hd.c))∧∃ h':HistM,CpI Bh B3 w (Y.setCell ⟨g,i * 4+3,none⟩ (.slice hd.A hd.n hd.c)) h' scs (its++(h'.ma.2.take (i+1)).map tmOf)∧PlL m h'∧h'.cs=h.cs∧h'.ev=h.ev∧h'.od=h.od:=by
 have hq:h.ma.2.map (·.1)=m.ma.2.map (·.1):=congrArg Hist.ma hp.1
 obtain⟨h0,hk⟩:=fst_at hq hi
 have hkl:=(List.getElem?_eq_some_iff.1 hk).1
 have hl:=own_long maCs_len (by omega) c.ma
 obtain⟨g,hA⟩:=own_pos c.ma (by omega)
 have hA':h.ma.1=⟨some ⟨g,0,none⟩,h.ma.1.n,h.ma.1.c⟩:=by rw[← hA]
 refine⟨g,h0,hA,fun Y hb=>?_⟩
 have d:=(c.on hb).ma
 rw[hA] at d
 refine⟨?_,d.frozenAt _,fun hd ho hx=>?_⟩
 ·rw[d.cellAt _ (by omega)]
  exact fm_at maCs_len hk (j:=3) rfl
 obtain⟨hB,_,cur,hbk⟩:=own_in d (g:=g) rfl
 have k2:KeepT 69 Y (Y.setCell ⟨g,i * 4+3,none⟩ (.slice hd.A hd.n hd.c)):=box_turn hbk _ _
 refine⟨hx.keepT k2 (by decide) (by decide),{h with ma:=(h.ma.1,h.ma.2.set i (e,hd))},?_,⟨?_,hp.2⟩,rfl,rfl,rfl⟩
 ·have:=c.mat hA' hk hb ho
  show CpI Bh B3 w _ _ scs (its++((h.ma.2.set i (e,hd)).take (i+1)).map tmOf)
  rw[take_set hk,List.map_append]
  rw[← List.append_assoc]
  exact this
 rw[← hp.1]
 unfold HistM.pl
 simp only[Hist.mk.injEq,true_and,and_true]
 exact map_set_same hk rfl
end
def fineK (ss:List ByteArray) (i:Nat):Prop:=(∀ x∈ss.take i,wrdB x=true)∧(ss.take i).Nodup
theorem fineK.next {ss:List ByteArray} {i:Nat} {s:ByteArray} (h:fineK ss i) (hs:ss[i]?=some s) (hw:wrdB s=true) (hn:s ∉ ss.take i):fineK ss (i+1):=by
 unfold fineK
 rw[List.take_add_one,hs]
 refine⟨fun x hx=>?_,?_⟩
 ·rcases List.mem_append.1 hx with hx | hx
  ·exact h.1 x hx
  simp at hx
  subst hx
  exact hw
 rw[List.nodup_append]
 refine⟨h.2,by simp,fun a ha b hb e=>?_⟩
 simp at hb
 subst hb
 exact hn (e▸ha)
theorem fineK.all {ss:List ByteArray} {i:Nat} (h:fineK ss i) (hi:ss.length=i):namesB ss=true:=by
 unfold fineK at h
 rw[List.take_of_length_le (Nat.le_of_eq hi)] at h
 exact namesB_iff.2 h
structure GotS (w:World) (xs:List ByteArray) (v:Value) (X:World):Prop where
 own:X.ownsRow w.heap.size 9 1 v xs.length (strs xs)
 below:Below w.heap.size w X
section
variable {w X Y : World} {xs : List ByteArray} {v v' : Value} {x : ByteArray} {o : Obj}
theorem GotS.on (h:GotS w xs v X) (hb:Below X.heap.size X Y):GotS w xs v Y:=⟨own_on h.own hb,h.below.trans (hb.mono h.below.size)⟩
theorem GotS.alloc (h:GotS w xs v X) (o:Obj):GotS w xs v (X.alloc o):=h.on ((Below.refl _ _).alloc (Nat.le_refl _) o)
theorem GotS.more (h:GotS w xs v X) (hown:Y.ownsRow w.heap.size 9 1 v' (xs.length+1) (strs xs++[.string x])) (hg:X.grownBy Y v.ownBlock):GotS w (xs++[x]) v' Y :=
 ⟨by rw[List.length_append,strs_append];exact hown,h.below.grown hg h.below.size fun k hk=>(own_in_block h.own hk).1⟩
end
end Go.Proofs.YtmkknbonmameoaaGreatDoor
