import Derived.Test.YtmkknbonmameoaaGreatDoorQ5
import Derived.Test.YtmkknbonmameoaaGreatDoorQ33
import Derived.Test.YtmkknbonmameoaaGreatDoorQ20
import Derived.Test.YtmkknbonmameoaaGreatDoorQ23
import Derived.Test.YtmkknbonmameoaaGreatDoorQ35
import Derived.Test.YtmkknbonmameoaaGreatDoorQ17
-- holds: YtmkknbonmameoaaGreatDoorHZu YtmkknbonmameoaaGreatDoorHZv YtmkknbonmameoaaGreatDoorHZx YtmkknbonmameoaaGreatDoorHZw
namespace Go.Proofs.YtmkknbonmameoaaGreatDoor
open Go.RowKit Go.Shelf
attribute [local go_sem] run_store_nilFunc run_store_funcJ
def ruF:Nat→FuncId
 | 1=>46
 | 2=>47
 | 3=>48
 | 4=>49
 | 5=>50
 | 6=>51
 | 7=>52
 | 8=>53
 | 9=>54
 | 10=>55
 | _=>0
set_option maxRecDepth 100000 in
theorem eg_ruF {r:Nat} (h1:1≤r) (h2:r≤10):∀ args w,(callFunc (ruF r) args).run Tryz.prog w=.ok (.enter (ruF r) args) w:=by
 have:r=1∨r=2∨r=3∨r=4∨r=5∨r=6∨r=7∨r=8∨r=9∨r=10:=by omega
 rcases this with rfl | rfl | rfl | rfl | rfl | rfl | rfl | rfl | rfl | rfl
 ·exact enters_of Tryz.func46 (by kernel_rfl) rfl
 ·exact enters_of Tryz.func47 (by kernel_rfl) rfl
 ·exact enters_of Tryz.func48 (by kernel_rfl) rfl
 ·exact enters_of Tryz.func49 (by kernel_rfl) rfl
 ·exact enters_of Tryz.func50 (by kernel_rfl) rfl
 ·exact enters_of Tryz.func51 (by kernel_rfl) rfl
 ·exact enters_of Tryz.func52 (by kernel_rfl) rfl
 ·exact enters_of Tryz.func53 (by kernel_rfl) rfl
 ·exact enters_of Tryz.func54 (by kernel_rfl) rfl
 exact enters_of Tryz.func55 (by kernel_rfl) rfl
theorem ruF_any {r:Nat} (h1:1≤r) (h2:r≤10) (m:HistM) (wr:SH) (rows:List SH) (Bl:Nat) (w:World) (hI:InZ m.pl) (hF:Fair m) (hL:LookZ m wr rows Bl w.heap.size w):Calls Tryz.prog (ruF r) #[.pointer (some ⟨Bl,0,none⟩)] w (RuleIs r m.pl w):=by
 have:r=1∨r=2∨r=3∨r=4∨r=5∨r=6∨r=7∨r=8∨r=9∨r=10:=by omega
 rcases this with rfl | rfl | rfl | rfl | rfl | rfl | rfl | rfl | rfl | rfl
 ·exact begunM_any m wr rows Bl w hI hF hL
 ·exact endedM_any m wr rows Bl w hI hF hL
 ·exact countedM_any m wr rows Bl w hI hF hL
 ·exact writtenM_any m wr rows Bl w hI hF hL
 ·exact ownM_any m wr rows Bl w hI hF hL
 ·exact scannedM_any m wr rows Bl w hI hF hL
 ·exact orderedM_any m wr rows Bl w hI hF hL
 ·exact missingM_any m wr rows Bl w hI hF hL
 ·exact matchedM_any m wr rows Bl w hI hF hL
 exact wantedM_any m wr rows Bl w hI hF hL
def ruArr:Array Value:=#[.nilFunc,.func (.func 46) #[] #[],.func (.func 47) #[] #[],.func (.func 48) #[] #[],.func (.func 49) #[] #[],.func (.func 50) #[] #[],.func (.func 51) #[] #[],.func (.func 52) #[] #[],.func (.func 53) #[] #[],.func (.func 54) #[] #[],.func (.func 55) #[] #[]]
theorem ruArr_at {r:Nat} (h1:1≤r) (h2:r≤10):ruArr[r]?=some (.func (.func (ruF r)) #[] #[]):=by
 have:r=1∨r=2∨r=3∨r=4∨r=5∨r=6∨r=7∨r=8∨r=9∨r=10:=by omega
 rcases this with rfl | rfl | rfl | rfl | rfl | rfl | rfl | rfl | rfl | rfl<;>rfl
theorem ruIdx1 (W:World):(Instr.index 74 (.agg ruArr) (.int .i64 1)).run Tryz.prog W=.ok (.func (.func 46) #[] #[]) W:=by kernel_rfl
theorem ruIdx2 (W:World):(Instr.index 74 (.agg ruArr) (.int .i64 2)).run Tryz.prog W=.ok (.func (.func 47) #[] #[]) W:=by kernel_rfl
theorem ruIdx3 (W:World):(Instr.index 74 (.agg ruArr) (.int .i64 3)).run Tryz.prog W=.ok (.func (.func 48) #[] #[]) W:=by kernel_rfl
theorem ruIdx4 (W:World):(Instr.index 74 (.agg ruArr) (.int .i64 4)).run Tryz.prog W=.ok (.func (.func 49) #[] #[]) W:=by kernel_rfl
theorem ruIdx5 (W:World):(Instr.index 74 (.agg ruArr) (.int .i64 5)).run Tryz.prog W=.ok (.func (.func 50) #[] #[]) W:=by kernel_rfl
theorem ruIdx6 (W:World):(Instr.index 74 (.agg ruArr) (.int .i64 6)).run Tryz.prog W=.ok (.func (.func 51) #[] #[]) W:=by kernel_rfl
theorem ruIdx7 (W:World):(Instr.index 74 (.agg ruArr) (.int .i64 7)).run Tryz.prog W=.ok (.func (.func 52) #[] #[]) W:=by kernel_rfl
theorem ruIdx8 (W:World):(Instr.index 74 (.agg ruArr) (.int .i64 8)).run Tryz.prog W=.ok (.func (.func 53) #[] #[]) W:=by kernel_rfl
theorem ruIdx9 (W:World):(Instr.index 74 (.agg ruArr) (.int .i64 9)).run Tryz.prog W=.ok (.func (.func 54) #[] #[]) W:=by kernel_rfl
theorem ruIdx10 (W:World):(Instr.index 74 (.agg ruArr) (.int .i64 10)).run Tryz.prog W=.ok (.func (.func 55) #[] #[]) W:=by kernel_rfl
theorem ruIdx {r:Nat} (h1:1≤r) (h2:r≤10) (W:World):(Instr.index 74 (.agg ruArr) (.int .i64 (r:Int))).run Tryz.prog W=.ok (.func (.func (ruF r)) #[] #[]) W:=by
 have:r=1∨r=2∨r=3∨r=4∨r=5∨r=6∨r=7∨r=8∨r=9∨r=10:=by omega
 rcases this with rfl | rfl | rfl | rfl | rfl | rfl | rfl | rfl | rfl | rfl
 ·exact ruIdx1 W
 ·exact ruIdx2 W
 ·exact ruIdx3 W
 ·exact ruIdx4 W
 ·exact ruIdx5 W
 ·exact ruIdx6 W
 ·exact ruIdx7 W
 ·exact ruIdx8 W
 ·exact ruIdx9 W
 exact ruIdx10 W
set_option maxHeartbeats 1000000 in
theorem asks_any (w:World):Calls Tryz.prog 29 #[] w fun e w'=>e=.returned (.agg ruArr)∧Below w.heap.size w w':=by
 go_enter Tryz.func29,Tryz.ntmps29
 go_wp2_with fail
 refine bodyPost_ret (v:=.agg #[.nilFunc,.func (.func 46) #[] #[],.func (.func 47) #[] #[],.func (.func 48) #[] #[],.func (.func 49) #[] #[],.func (.func 50) #[] #[],.func (.func 51) #[] #[],.func (.func 52) #[] #[],.func (.func 53) #[] #[],.func (.func 54) #[] #[],.func (.func 55) #[] #[]]) (by simp[results,Tryz.results29,go_sem]) rfl ?_
 exact⟨rfl,(Below.refl _ _).alloc (Nat.le_refl _) _⟩
end Go.Proofs.YtmkknbonmameoaaGreatDoor
namespace Go.Proofs.YtmkknbonmameoaaGreatDoor
open Go.RowKit Go.Shelf
attribute [local go_sem] run_store_nilFunc run_store_funcJ Oper.semAt_some
theorem put11 {W:World} {g:Nat} {t:TypeId} {a0 a1 a2 a3 a4 a5 a6 a7 a8 a9 a10:Value} (hb:Blk W g t #[a0,a1,a2,a3,a4,a5,a6,a7,a8,a9,a10]) (x0 x1 x2 x3 x4 x5 x6 x7 x8 x9 x10:Value) :
 Blk (((((((((((W.setCell ⟨g,0,none⟩ x0).setCell ⟨g,1,none⟩ x1).setCell ⟨g,2,none⟩ x2).setCell ⟨g,3,none⟩ x3).setCell ⟨g,4,none⟩ x4).setCell ⟨g,5,none⟩ x5).setCell ⟨g,6,none⟩ x6).setCell ⟨g,7,none⟩ x7).setCell ⟨g,8,none⟩ x8).setCell ⟨g,9,none⟩ x9).setCell ⟨g,10,none⟩ x10) g t #[x0,x1,x2,x3,x4,x5,x6,x7,x8,x9,x10] ∧
 ∀ {S:Nat→Prop} {V:World},Keep S V W→(V.heap.size≤g∨¬S g)→Keep S V (((((((((((W.setCell ⟨g,0,none⟩ x0).setCell ⟨g,1,none⟩ x1).setCell ⟨g,2,none⟩ x2).setCell ⟨g,3,none⟩ x3).setCell ⟨g,4,none⟩ x4).setCell ⟨g,5,none⟩ x5).setCell ⟨g,6,none⟩ x6).setCell ⟨g,7,none⟩ x7).setCell ⟨g,8,none⟩ x8).setCell ⟨g,9,none⟩ x9).setCell ⟨g,10,none⟩ x10):=by
 refine⟨?_,fun hk hg=>((((((((((hk.set hg 0 x0).set hg 1 x1).set hg 2 x2).set hg 3 x3).set hg 4 x4).set hg 5 x5).set hg 6 x6).set hg 7 x7).set hg 8 x8).set hg 9 x9).set hg 10 x10⟩
 have:=((((((((((hb.set_ 0 x0).set_ 1 x1).set_ 2 x2).set_ 3 x3).set_ 4 x4).set_ 5 x5).set_ 6 x6).set_ 7 x7).set_ 8 x8).set_ 9 x9).set_ 10 x10
 simpa using this
section
variable {P : Program} {ops : Array Oper} {Q : Exit → Act → World → Prop} {md : Region.Mode} {S : World → Prop} {k : Nat}
theorem kz2 {fuel:Nat} {listed:Array Bool} {a:Act} {w:World} {o:Oper} {rs:List Nat} (ho:ops[k]?=some o)
 (h:∀ K':Act→World→Prop,Shut (∀ a w,wpAnyK P md ops Q S k fuel (listed.setIfInBounds k true) a w→K' a w)→if Region.wanted o (yielded ops a.tmps)=true then Oper.wp P o a w K' Q else K' (a.put o.dst undef) w) (hs:AllReadyK P md ops Q S k fuel listed a w rs) (hl:(listed.setIfInBounds k true).getD k false=true:=by kernel_rfl):AllReadyK P md ops Q S k fuel listed a w (k :: rs):=fun j hj=>by
 rcases List.mem_cons.1 hj with rfl | hj
 ·exact wpOp_step ho (fun K' hK=>h K' (fun a w hW=>hK a w ⟨fun e=>(by rw[hl] at e;cases e),hW⟩))
 exact hs j hj
end
theorem putK2 (W:World) (g:Nat) (x y:Value):Keep (fun j=>j≠g) W ((W.setCell ⟨g,0,none⟩ x).setCell ⟨g,1,none⟩ y) :=
 ((Keep.refl (fun j=>j≠g) W).set (.inr fun h=>h rfl) 0 x).set (.inr fun h=>h rfl) 1 y
def FirstZ (m:HistM) (w:World):Ending→World→Prop:=fun e w'=>e=.returned (.tuple #[.agg #[.int .i64 (frR (frX m.pl)),.int .i64 (frP (frX m.pl))],.bool (frX m.pl).isSome,.int .i64 (checkW m.pl)])∧Below w.heap.size w w'
structure FsI (m:HistM) (w:World) (B7 Bl:Nat) (X:World):Prop where
 kh:Blk X w.heap.size 28 m.cs
 kb:Blk X (w.heap.size+1) 32 #[.int .i64 0,.int .i64 0]
 ka:Blk X B7 74 ruArr
 lk:∃ wr rows,LookZ m wr rows Bl X.heap.size X
 below:Below w.heap.size w X
theorem FsI.on {m:HistM} {w X Y:World} {B7 Bl:Nat} (h:FsI m w B7 Bl X) (hb:Below X.heap.size X Y):FsI m w B7 Bl Y :=
 ⟨h.kh.below hb h.kh.lt,h.kb.below hb h.kb.lt,h.ka.below hb h.ka.lt,(by obtain⟨wr,rows,h1⟩:=h.lk;exact⟨wr,rows,(h1.on hb).more hb.size⟩),h.below.trans (hb.mono h.below.size)⟩
def FdI (G6:Nat) (r:Nat) (f:Option Nat) (wr X:World):Prop:=∃ p:Nat,f=some p∧Keep (fun j=>j<wr.heap.size∧j≠G6) wr X∧Blk X G6 32 #[.int .i64 (r:Int),.int .i64 (p:Int)]
set_option maxRecDepth 100000 in
set_option maxHeartbeats 32000000 in
theorem ruFirst_any (m:HistM) (w:World) (hT:Tabs w) (ha:Askd w m):Calls Tryz.prog 10 #[.agg #[.slice m.tr.1.A m.tr.1.n m.tr.1.c,.slice m.se.1.A m.se.1.n m.se.1.c,.slice m.ob.1.A m.ob.1.n m.ob.1.c,.slice m.pr.1.A m.pr.1.n m.pr.1.c,.slice m.ev.1.A m.ev.1.n m.ev.1.c,.slice m.od.1.A m.od.1.n m.od.1.c,.slice m.ma.1.A m.ma.1.n m.ma.1.c,.slice m.wa.1.A m.wa.1.n m.wa.1.c]] w (FirstZ m w):=by
 obtain⟨k0,b0,hs0⟩:=ibox w #[.slice m.tr.1.A m.tr.1.n m.tr.1.c,.slice m.se.1.A m.se.1.n m.se.1.c,.slice m.ob.1.A m.ob.1.n m.ob.1.c,.slice m.pr.1.A m.pr.1.n m.pr.1.c,.slice m.ev.1.A m.ev.1.n m.ev.1.c,.slice m.od.1.A m.od.1.n m.od.1.c,.slice m.ma.1.A m.ma.1.n m.ma.1.c,.slice m.wa.1.A m.wa.1.n m.wa.1.c] 28
 have b1:Below w.heap.size w ((w.alloc (.cells #[.slice m.tr.1.A m.tr.1.n m.tr.1.c,.slice m.se.1.A m.se.1.n m.se.1.c,.slice m.ob.1.A m.ob.1.n m.ob.1.c,.slice m.pr.1.A m.pr.1.n m.pr.1.c,.slice m.ev.1.A m.ev.1.n m.ev.1.c,.slice m.od.1.A m.od.1.n m.od.1.c,.slice m.ma.1.A m.ma.1.n m.ma.1.c,.slice m.wa.1.A m.wa.1.n m.wa.1.c] 28)).alloc (.cells #[.int .i64 0,.int .i64 0] 32)):=b0.alloc (by rw[hs0];exact Nat.le_succ _) _
 have KH:Hid (Blk ((w.alloc (.cells #[.slice m.tr.1.A m.tr.1.n m.tr.1.c,.slice m.se.1.A m.se.1.n m.se.1.c,.slice m.ob.1.A m.ob.1.n m.ob.1.c,.slice m.pr.1.A m.pr.1.n m.pr.1.c,.slice m.ev.1.A m.ev.1.n m.ev.1.c,.slice m.od.1.A m.od.1.n m.od.1.c,.slice m.ma.1.A m.ma.1.n m.ma.1.c,.slice m.wa.1.A m.wa.1.n m.wa.1.c] 28)).alloc (.cells #[.int .i64 0,.int .i64 0] 32)) w.heap.size 28 m.cs):=k0.alloc _
 have KB:Hid (Blk ((w.alloc (.cells #[.slice m.tr.1.A m.tr.1.n m.tr.1.c,.slice m.se.1.A m.se.1.n m.se.1.c,.slice m.ob.1.A m.ob.1.n m.ob.1.c,.slice m.pr.1.A m.pr.1.n m.pr.1.c,.slice m.ev.1.A m.ev.1.n m.ev.1.c,.slice m.od.1.A m.od.1.n m.od.1.c,.slice m.ma.1.A m.ma.1.n m.ma.1.c,.slice m.wa.1.A m.wa.1.n m.wa.1.c] 28)).alloc (.cells #[.int .i64 0,.int .i64 0] 32)) (w.heap.size+1) 32 #[.int .i64 0,.int .i64 0]):=by
  have h9:=Blk.new (w.alloc (.cells #[.slice m.tr.1.A m.tr.1.n m.tr.1.c,.slice m.se.1.A m.se.1.n m.se.1.c,.slice m.ob.1.A m.ob.1.n m.ob.1.c,.slice m.pr.1.A m.pr.1.n m.pr.1.c,.slice m.ev.1.A m.ev.1.n m.ev.1.c,.slice m.od.1.A m.od.1.n m.od.1.c,.slice m.ma.1.A m.ma.1.n m.ma.1.c,.slice m.wa.1.A m.wa.1.n m.wa.1.c] 28)) 32 #[.int .i64 0,.int .i64 0]
  rwa [hs0] at h9
 have B1:=zh b1
 have HA:=zh ha
 have HTB:=zh hT
 have HMID:=zh ha.mid
 clear k0 b0 hs0 b1 hT ha
 refine (callsIn_wide (n:=6)).1 (callsIn_of_wp_marks Tryz.func10 rfl trivial ?_ rfl)
 simp only[Tryz.ntmps10,List.size_toArray,List.length_cons,List.length_nil,Nat.reduceAdd,Nat.reduceSub,Array.replicate_succ,Array.replicate_zero,List.push_toArray,List.append_toArray,List.nil_append,List.cons_append]
 gi_wp2_with fail
 generalize ((w.alloc (.cells #[.slice m.tr.1.A m.tr.1.n m.tr.1.c,.slice m.se.1.A m.se.1.n m.se.1.c,.slice m.ob.1.A m.ob.1.n m.ob.1.c,.slice m.pr.1.A m.pr.1.n m.pr.1.c,.slice m.ev.1.A m.ev.1.n m.ev.1.c,.slice m.od.1.A m.od.1.n m.od.1.c,.slice m.ma.1.A m.ma.1.n m.ma.1.c,.slice m.wa.1.A m.wa.1.n m.wa.1.c] 28)).alloc (.cells #[.int .i64 0,.int .i64 0] 32))=W1 at *
 refine wpIn_wide.2 (wp_scope_straight ?_)
 obtain⟨z0,z1,z2,z3,z4,z5,z6,z7⟩:=c8 KH.out
 go_wp2_with fail
 refine (check11w_any m HMID.out W1 (HTB.out.on B1.out (Nat.le_refl _)) (HA.out.rd.on B1.out |>.more B1.out.size)).mono ?_
 rintro e w2 ⟨rfl,b2⟩
 have KH:=zh (KH.out.below b2 KH.out.lt)
 have KB:=zh (KB.out.below b2 KB.out.lt)
 have B2:=zh (B1.out.trans (b2.mono B1.out.size))
 clear b2 B1 z0 z1 z2 z3 z4 z5 z6 z7
 cases hw:rightW m.pl
 ·have HE:Hid (checkW m.pl=210):=by show _=_;unfold checkW;rw[hw];rfl
  have HX:Hid (frX m.pl=none):=by show _=_;unfold frX;rw[hw];rfl
  rw[HE.out]
  clear hw
  have y0:=KB.out.cell 0
  have y1:=KB.out.cell 1
  have f0:=KB.out.frozen 0
  have f1:=KB.out.frozen 1
  have HPUT:=zh (put15 KB.out (.int .i64 0) (.int .i64 0))
  have BF:Hid (Below w.heap.size w ((w2.setCell ⟨w.heap.size+1,0,none⟩ (.int .i64 0)).setCell ⟨w.heap.size+1,1,none⟩ (.int .i64 0))):=(B2.out.setCell (p:=⟨w.heap.size+1,0,none⟩) (Nat.le_succ _) _).setCell (p:=⟨w.heap.size+1,1,none⟩) (Nat.le_succ _) _
  go_wp2_with fail
  rw[Exit.noGoto_ret]
  refine leaves_marks (B:=0) (C:=fun _=>False) [] _ (MarksAt.nil _ _ _) fun w6 hk=>?_
  have p0:=(hk.blk HPUT.out (by simp)).cell 0
  have p1:=(hk.blk HPUT.out (by simp)).cell 1
  exact⟨.tuple #[.agg #[.int .i64 0,.int .i64 0],.bool false,.int .i64 210],by simp[results,Tryz.results10,go_sem,p0,p1],by rw[HX.out,HE.out];rfl,BF.out.trans (hk.below BF.out.size fun _ _=>by simp)⟩
 have HE:Hid (checkW m.pl=0):=by show _=_;unfold checkW;rw[hw];rfl
 have HX:Hid (frX m.pl=ruFirst m.pl):=by show _=_;unfold frX;rw[hw];rfl
 have HIZ:=zh (inZ hw)
 have HFA:=zh (HA.out.fair hw)
 rw[HE.out]
 clear hw
 have b3:Below w2.heap.size w2 (w2.alloc (.cells #[.int .i64 0,.int .i64 0] 32)):=(Below.refl _ _).alloc (Nat.le_refl _) _
 have KG:=zh (Blk.new w2 32 #[.int .i64 0,.int .i64 0])
 have KH:=zh (KH.out.below b3 KH.out.lt)
 have HG6:Hid (w.heap.size+1<w2.heap.size):=KB.out.lt
 have KB:=zh (KB.out.below b3 KB.out.lt)
 have B2:=zh (B2.out.trans (b3.mono B2.out.size))
 clear b3
 go_upto_region 5 with fail
 obtain⟨G6,hG6⟩:∃ G6,w2.heap.size=G6:=⟨_,rfl⟩
 rw[hG6] at KG HG6 ⊢
 clear hG6
 generalize (w2.alloc (.cells #[.int .i64 0,.int .i64 0] 32))=w4 at *
 go_cut [7,8] from 17 to 37 (fun s7 s8 wx=>∃ B7 Bl:Nat,s7=.pointer (some ⟨B7,0,none⟩)∧s8=.pointer (some ⟨Bl,0,none⟩)∧Hid (FsI m w B7 Bl wx)∧Hid (Blk wx G6 32 #[.int .i64 0,.int .i64 0]))
 case first =>
  refine wp_region_noPanic ?_
  refine wp_region_K (S:=(fun W=>Blk W w.heap.size 28 m.cs)) 2 (by kernel_rfl) (Blk.drew KH.out) (fun hHeld=>?_)
  have KH:=zh KH.out.drew
  have KB:=zh KB.out.drew
  have KG:=zh KG.out.drew
  have B2:=zh B2.out.drew
  generalize w4.drew=wd at *
  refine kv 1 (some 18) (.agg #[.slice m.tr.1.A m.tr.1.n m.tr.1.c,.slice m.se.1.A m.se.1.n m.se.1.c,.slice m.ob.1.A m.ob.1.n m.ob.1.c,.slice m.pr.1.A m.pr.1.n m.pr.1.c,.slice m.ev.1.A m.ev.1.n m.ev.1.c,.slice m.od.1.A m.od.1.n m.od.1.c,.slice m.ma.1.A m.ma.1.n m.ma.1.c,.slice m.wa.1.A m.wa.1.n m.wa.1.c]) rfl rfl (fun w' hSw=>by have c0:w'.cell? ⟨w.heap.size,0,none⟩=some (.slice m.tr.1.A m.tr.1.n m.tr.1.c):=Blk.cell (w:=w') hSw 0;have c1:w'.cell? ⟨w.heap.size,1,none⟩=some (.slice m.se.1.A m.se.1.n m.se.1.c):=Blk.cell (w:=w') hSw 1;have c2:w'.cell? ⟨w.heap.size,2,none⟩=some (.slice m.ob.1.A m.ob.1.n m.ob.1.c):=Blk.cell (w:=w') hSw 2;have c3:w'.cell? ⟨w.heap.size,3,none⟩=some (.slice m.pr.1.A m.pr.1.n m.pr.1.c):=Blk.cell (w:=w') hSw 3;have c4:w'.cell? ⟨w.heap.size,4,none⟩=some (.slice m.ev.1.A m.ev.1.n m.ev.1.c):=Blk.cell (w:=w') hSw 4;have c5:w'.cell? ⟨w.heap.size,5,none⟩=some (.slice m.od.1.A m.od.1.n m.od.1.c):=Blk.cell (w:=w') hSw 5;have c6:w'.cell? ⟨w.heap.size,6,none⟩=some (.slice m.ma.1.A m.ma.1.n m.ma.1.c):=Blk.cell (w:=w') hSw 6;have c7:w'.cell? ⟨w.heap.size,7,none⟩=some (.slice m.wa.1.A m.wa.1.n m.wa.1.c):=Blk.cell (w:=w') hSw 7;go_simp) ?_
  try simp only[Act.put,zK]
  refine kr [0,3] ?_
  refine kc rfl (fun K hK=>?_) ?_
  ·go_simp
   refine (asks_any wd).mono ?_
   rintro r3 u0 ⟨rfl,bb⟩
   have KH:=zh (KH.out.below bb KH.out.lt)
   have KB:=zh (KB.out.below bb KB.out.lt)
   have KG:=zh (KG.out.below bb KG.out.lt)
   have B2:=zh (B2.out.trans (bb.mono B2.out.size))
   clear bb hHeld
   go_simp
   refine hK.out _ _ KH.out (fun hHeld=>?_)
   clear hK K
   try simp only[Act.put,zK]
   refine kr [2,3] ?_
   refine kz2 rfl (fun K hK=>?_) ?_
   ·go_simp
    obtain⟨CB,hCB⟩:∃ CB,u0.heap.size=CB:=⟨_,rfl⟩
    refine (lookAt_any m w.heap.size u0 HIZ.out HFA.out B2.out.size (HA.out.rd.on B2.out)).mono ?_
    rintro r4 u1 ⟨Bl,wrr,rows,rfl,hlk,bb⟩
    rw[hCB] at hlk
    have KH:=zh (KH.out.below bb KH.out.lt)
    have KB:=zh (KB.out.below bb KB.out.lt)
    have KG:=zh (KG.out.below bb KG.out.lt)
    have B2:=zh (B2.out.trans (bb.mono B2.out.size))
    have LK:=zh hlk
    have KU:Hid (Keep (fun j=>j<w.heap.size∨CB≤j) u1 u1):=Keep.refl _ _
    clear bb hlk hCB hHeld
    go_simp
    refine hK.out _ _ ?_
    clear hK K
    try simp only[Act.put]
    have hHeld:=KH.out
    refine kr [3] ?_
    refine kc rfl (fun K hK=>?_) kn
    go_simp
    refine hK.out _ _ (Blk.alloc KH.out _) (fun hHeld=>?_)
    clear hK K
    try simp only[Act.put,zK]
    have hal:Below u1.heap.size u1 (u1.alloc (.cells #[.nilFunc,.nilFunc,.nilFunc,.nilFunc,.nilFunc,.nilFunc,.nilFunc,.nilFunc,.nilFunc,.nilFunc,.nilFunc] 74)):=(Below.refl _ _).alloc (Nat.le_refl _) _
    have HN7:Hid (w.heap.size+1<u1.heap.size∧G6<u1.heap.size):=⟨KB.out.lt,KG.out.lt⟩
    have H7:Hid (u1.heap.size<CB∨u1.heap.size≤u1.heap.size):=.inr KU.out.size
    have KH:=zh (KH.out.below hal KH.out.lt)
    have KB:=zh (KB.out.below hal KB.out.lt)
    have KG:=zh (KG.out.below hal KG.out.lt)
    have B2:=zh (B2.out.trans (hal.mono B2.out.size))
    have KU:=zh (KU.out.trans (Keep.of_all _ hal))
    have KA:Hid (Blk (u1.alloc (.cells #[.nilFunc,.nilFunc,.nilFunc,.nilFunc,.nilFunc,.nilFunc,.nilFunc,.nilFunc,.nilFunc,.nilFunc,.nilFunc] 74)) u1.heap.size 74 #[.nilFunc,.nilFunc,.nilFunc,.nilFunc,.nilFunc,.nilFunc,.nilFunc,.nilFunc,.nilFunc,.nilFunc,.nilFunc]):=Blk.new _ _ _
    clear hal hHeld
    generalize u1.alloc (.cells #[.nilFunc,.nilFunc,.nilFunc,.nilFunc,.nilFunc,.nilFunc,.nilFunc,.nilFunc,.nilFunc,.nilFunc,.nilFunc] 74)=ua at *
    obtain⟨B7,hB7⟩:∃ B7,u1.heap.size=B7:=⟨_,rfl⟩
    rw[hB7] at KA HN7 ⊢
    have H7:Hid (B7<CB∨u1.heap.size≤B7):=.inr (Nat.le_of_eq hB7)
    clear hB7
    have hHeld:=KH.out
    refine kr [4] ?_
    refine kc (o:={dst:=none,op:=Op.store 74 (Operand.tmp 7) (Operand.tmp 17),type:=0,pos:="rules.go:15",after:=#[⟨3,.data⟩,⟨0,.data⟩,⟨2,.chain⟩,⟨0,.phase⟩,⟨1,.textOnly .lateStores⟩,⟨2,.textOnly .lateStoresUnsure⟩,⟨3,.phase⟩],guard:=none}) rfl (fun K hK=>?_) kn
    unfold ruArr
    have y0:=KA.out.cell 0
    have y1:=KA.out.cell 1
    have y2:=KA.out.cell 2
    have y3:=KA.out.cell 3
    have y4:=KA.out.cell 4
    have y5:=KA.out.cell 5
    have y6:=KA.out.cell 6
    have y7:=KA.out.cell 7
    have y8:=KA.out.cell 8
    have y9:=KA.out.cell 9
    have y10:=KA.out.cell 10
    have f0:=KA.out.frozen 0
    have f1:=KA.out.frozen 1
    have f2:=KA.out.frozen 2
    have f3:=KA.out.frozen 3
    have f4:=KA.out.frozen 4
    have f5:=KA.out.frozen 5
    have f6:=KA.out.frozen 6
    have f7:=KA.out.frozen 7
    have f8:=KA.out.frozen 8
    have f9:=KA.out.frozen 9
    have f10:=KA.out.frozen 10
    go_simp
    clear hHeld y0 f0 y1 f1 y2 f2 y3 f3 y4 f4 y5 f5 y6 f6 y7 f7 y8 f8 y9 f9 y10 f10
    refine hK.out _ _ (((put11 KA.out (.nilFunc) (.func (.func 46) #[] #[]) (.func (.func 47) #[] #[]) (.func (.func 48) #[] #[]) (.func (.func 49) #[] #[]) (.func (.func 50) #[] #[]) (.func (.func 51) #[] #[]) (.func (.func 52) #[] #[]) (.func (.func 53) #[] #[]) (.func (.func 54) #[] #[]) (.func (.func 55) #[] #[])).2 (Keep.refl (fun j=>j≠B7) _) (.inr fun h=>h rfl)).blk KH.out (by have:=HN7.out;omega)) (fun hHeld=>?_)
    clear hK K
    try simp only[Act.put,zK]
    refine ka 5 (some 8) (.pointer (some ⟨Bl,0,none⟩)) rfl rfl (fun w'=>by go_simp) ?_
    try simp only[Act.put,zK]
    refine kd (by kernel_rfl) ?_ _
    refine NoPanic.normal ?_
    have hput:=put11 KA.out (.nilFunc) (.func (.func 46) #[] #[]) (.func (.func 47) #[] #[]) (.func (.func 48) #[] #[]) (.func (.func 49) #[] #[]) (.func (.func 50) #[] #[]) (.func (.func 51) #[] #[]) (.func (.func 52) #[] #[]) (.func (.func 53) #[] #[]) (.func (.func 54) #[] #[]) (.func (.func 55) #[] #[])
    have HF:Hid (FsI m w B7 Bl _∧Blk _ G6 32 #[.int .i64 0,.int .i64 0]):=⟨⟨(hput.2 (Keep.refl (fun j=>j≠B7) _) (.inr fun h=>h rfl)).blk KH.out (by have:=HN7.out;omega),(hput.2 (Keep.refl (fun j=>j≠B7) _) (.inr fun h=>h rfl)).blk KB.out (by have:=HN7.out;omega),hput.1,⟨wrr,rows,LK.out _ (hput.2 KU.out (H7.out.elim (fun h=>.inr (by have:=HN7.out;omega)) .inl))⟩,B2.out.trans ((hput.2 (Keep.refl (fun j=>j≠B7) _) (.inr fun h=>h rfl)).below B2.out.size fun j hj=>by have:=HN7.out;omega)⟩,(hput.2 (Keep.refl (fun j=>j≠B7) _) (.inr fun h=>h rfl)).blk KG.out (by have:=HN7.out;omega)⟩
    clear hput
    go_wp2_with fail
    go_meet
    exact⟨B7,Bl,rfl,rfl,HF.out.1,HF.out.2⟩
   refine kc rfl (fun K hK=>?_) ?_
   ·go_simp
    refine hK.out _ _ (Blk.alloc KH.out _) (fun hHeld=>?_)
    clear hK K
    try simp only[Act.put,zK]
    have hal:Below u0.heap.size u0 (u0.alloc (.cells #[.nilFunc,.nilFunc,.nilFunc,.nilFunc,.nilFunc,.nilFunc,.nilFunc,.nilFunc,.nilFunc,.nilFunc,.nilFunc] 74)):=(Below.refl _ _).alloc (Nat.le_refl _) _
    have HN7:Hid (w.heap.size+1<u0.heap.size∧G6<u0.heap.size):=⟨KB.out.lt,KG.out.lt⟩
    have KH:=zh (KH.out.below hal KH.out.lt)
    have KB:=zh (KB.out.below hal KB.out.lt)
    have KG:=zh (KG.out.below hal KG.out.lt)
    have B2:=zh (B2.out.trans (hal.mono B2.out.size))
    have KA:Hid (Blk (u0.alloc (.cells #[.nilFunc,.nilFunc,.nilFunc,.nilFunc,.nilFunc,.nilFunc,.nilFunc,.nilFunc,.nilFunc,.nilFunc,.nilFunc] 74)) u0.heap.size 74 #[.nilFunc,.nilFunc,.nilFunc,.nilFunc,.nilFunc,.nilFunc,.nilFunc,.nilFunc,.nilFunc,.nilFunc,.nilFunc]):=Blk.new _ _ _
    clear hal hHeld
    generalize u0.alloc (.cells #[.nilFunc,.nilFunc,.nilFunc,.nilFunc,.nilFunc,.nilFunc,.nilFunc,.nilFunc,.nilFunc,.nilFunc,.nilFunc] 74)=ua at *
    generalize u0.heap.size=B7 at *
    have hHeld:=KH.out
    refine kr [2] ?_
    refine kz2 rfl (fun K hK=>?_) kn
    go_simp
    obtain⟨CB,hCB⟩:∃ CB,ua.heap.size=CB:=⟨_,rfl⟩
    refine (lookAt_any m w.heap.size ua HIZ.out HFA.out B2.out.size (HA.out.rd.on B2.out)).mono ?_
    rintro r4 u1 ⟨Bl,wrr,rows,rfl,hlk,bb⟩
    rw[hCB] at hlk
    have H7:Hid (B7<CB∨u1.heap.size≤B7):=.inl (by rw[← hCB];exact KA.out.lt)
    have KH:=zh (KH.out.below bb KH.out.lt)
    have KB:=zh (KB.out.below bb KB.out.lt)
    have KG:=zh (KG.out.below bb KG.out.lt)
    have B2:=zh (B2.out.trans (bb.mono B2.out.size))
    have KA:=zh (KA.out.below bb KA.out.lt)
    have LK:=zh hlk
    have KU:Hid (Keep (fun j=>j<w.heap.size∨CB≤j) u1 u1):=Keep.refl _ _
    clear bb hlk hCB hHeld
    go_simp
    refine hK.out _ _ ?_
    clear hK K
    try simp only[Act.put]
    have hHeld:=KH.out
    refine kr [4] ?_
    refine kc (o:={dst:=none,op:=Op.store 74 (Operand.tmp 7) (Operand.tmp 17),type:=0,pos:="rules.go:15",after:=#[⟨3,.data⟩,⟨0,.data⟩,⟨2,.chain⟩,⟨0,.phase⟩,⟨1,.textOnly .lateStores⟩,⟨2,.textOnly .lateStoresUnsure⟩,⟨3,.phase⟩],guard:=none}) rfl (fun K hK=>?_) kn
    unfold ruArr
    have y0:=KA.out.cell 0
    have y1:=KA.out.cell 1
    have y2:=KA.out.cell 2
    have y3:=KA.out.cell 3
    have y4:=KA.out.cell 4
    have y5:=KA.out.cell 5
    have y6:=KA.out.cell 6
    have y7:=KA.out.cell 7
    have y8:=KA.out.cell 8
    have y9:=KA.out.cell 9
    have y10:=KA.out.cell 10
    have f0:=KA.out.frozen 0
    have f1:=KA.out.frozen 1
    have f2:=KA.out.frozen 2
    have f3:=KA.out.frozen 3
    have f4:=KA.out.frozen 4
    have f5:=KA.out.frozen 5
    have f6:=KA.out.frozen 6
    have f7:=KA.out.frozen 7
    have f8:=KA.out.frozen 8
    have f9:=KA.out.frozen 9
    have f10:=KA.out.frozen 10
    go_simp
    clear hHeld y0 f0 y1 f1 y2 f2 y3 f3 y4 f4 y5 f5 y6 f6 y7 f7 y8 f8 y9 f9 y10 f10
    refine hK.out _ _ (((put11 KA.out (.nilFunc) (.func (.func 46) #[] #[]) (.func (.func 47) #[] #[]) (.func (.func 48) #[] #[]) (.func (.func 49) #[] #[]) (.func (.func 50) #[] #[]) (.func (.func 51) #[] #[]) (.func (.func 52) #[] #[]) (.func (.func 53) #[] #[]) (.func (.func 54) #[] #[]) (.func (.func 55) #[] #[])).2 (Keep.refl (fun j=>j≠B7) _) (.inr fun h=>h rfl)).blk KH.out (by have:=HN7.out;omega)) (fun hHeld=>?_)
    clear hK K
    try simp only[Act.put,zK]
    refine ka 5 (some 8) (.pointer (some ⟨Bl,0,none⟩)) rfl rfl (fun w'=>by go_simp) ?_
    try simp only[Act.put,zK]
    refine kd (by kernel_rfl) ?_ _
    refine NoPanic.normal ?_
    have hput:=put11 KA.out (.nilFunc) (.func (.func 46) #[] #[]) (.func (.func 47) #[] #[]) (.func (.func 48) #[] #[]) (.func (.func 49) #[] #[]) (.func (.func 50) #[] #[]) (.func (.func 51) #[] #[]) (.func (.func 52) #[] #[]) (.func (.func 53) #[] #[]) (.func (.func 54) #[] #[]) (.func (.func 55) #[] #[])
    have HF:Hid (FsI m w B7 Bl _∧Blk _ G6 32 #[.int .i64 0,.int .i64 0]):=⟨⟨(hput.2 (Keep.refl (fun j=>j≠B7) _) (.inr fun h=>h rfl)).blk KH.out (by have:=HN7.out;omega),(hput.2 (Keep.refl (fun j=>j≠B7) _) (.inr fun h=>h rfl)).blk KB.out (by have:=HN7.out;omega),hput.1,⟨wrr,rows,LK.out _ (hput.2 KU.out (H7.out.elim (fun h=>.inr (by have:=HN7.out;omega)) .inl))⟩,B2.out.trans ((hput.2 (Keep.refl (fun j=>j≠B7) _) (.inr fun h=>h rfl)).below B2.out.size fun j hj=>by have:=HN7.out;omega)⟩,(hput.2 (Keep.refl (fun j=>j≠B7) _) (.inr fun h=>h rfl)).blk KG.out (by have:=HN7.out;omega)⟩
    clear hput
    go_wp2_with fail
    go_meet
    exact⟨B7,Bl,rfl,rfl,HF.out.1,HF.out.2⟩
   exact kn
  refine kc rfl (fun K hK=>?_) ?_
  ·go_simp
   refine hK.out _ _ (Blk.alloc KH.out _) (fun hHeld=>?_)
   clear hK K
   try simp only[Act.put,zK]
   have hal:Below wd.heap.size wd (wd.alloc (.cells #[.nilFunc,.nilFunc,.nilFunc,.nilFunc,.nilFunc,.nilFunc,.nilFunc,.nilFunc,.nilFunc,.nilFunc,.nilFunc] 74)):=(Below.refl _ _).alloc (Nat.le_refl _) _
   have HN7:Hid (w.heap.size+1<wd.heap.size∧G6<wd.heap.size):=⟨KB.out.lt,KG.out.lt⟩
   have KH:=zh (KH.out.below hal KH.out.lt)
   have KB:=zh (KB.out.below hal KB.out.lt)
   have KG:=zh (KG.out.below hal KG.out.lt)
   have B2:=zh (B2.out.trans (hal.mono B2.out.size))
   have KA:Hid (Blk (wd.alloc (.cells #[.nilFunc,.nilFunc,.nilFunc,.nilFunc,.nilFunc,.nilFunc,.nilFunc,.nilFunc,.nilFunc,.nilFunc,.nilFunc] 74)) wd.heap.size 74 #[.nilFunc,.nilFunc,.nilFunc,.nilFunc,.nilFunc,.nilFunc,.nilFunc,.nilFunc,.nilFunc,.nilFunc,.nilFunc]):=Blk.new _ _ _
   clear hal hHeld
   generalize wd.alloc (.cells #[.nilFunc,.nilFunc,.nilFunc,.nilFunc,.nilFunc,.nilFunc,.nilFunc,.nilFunc,.nilFunc,.nilFunc,.nilFunc] 74)=ua at *
   generalize wd.heap.size=B7 at *
   have hHeld:=KH.out
   refine kr [0] ?_
   refine kc rfl (fun K hK=>?_) kn
   go_simp
   refine (asks_any ua).mono ?_
   rintro r3 u0 ⟨rfl,bb⟩
   have KH:=zh (KH.out.below bb KH.out.lt)
   have KB:=zh (KB.out.below bb KB.out.lt)
   have KG:=zh (KG.out.below bb KG.out.lt)
   have B2:=zh (B2.out.trans (bb.mono B2.out.size))
   have KA:=zh (KA.out.below bb KA.out.lt)
   clear bb hHeld
   go_simp
   refine hK.out _ _ KH.out (fun hHeld=>?_)
   clear hK K
   try simp only[Act.put,zK]
   refine kr [2] ?_
   refine kz2 rfl (fun K hK=>?_) kn
   go_simp
   obtain⟨CB,hCB⟩:∃ CB,u0.heap.size=CB:=⟨_,rfl⟩
   refine (lookAt_any m w.heap.size u0 HIZ.out HFA.out B2.out.size (HA.out.rd.on B2.out)).mono ?_
   rintro r4 u1 ⟨Bl,wrr,rows,rfl,hlk,bb⟩
   rw[hCB] at hlk
   have H7:Hid (B7<CB∨u1.heap.size≤B7):=.inl (by rw[← hCB];exact KA.out.lt)
   have KH:=zh (KH.out.below bb KH.out.lt)
   have KB:=zh (KB.out.below bb KB.out.lt)
   have KG:=zh (KG.out.below bb KG.out.lt)
   have B2:=zh (B2.out.trans (bb.mono B2.out.size))
   have KA:=zh (KA.out.below bb KA.out.lt)
   have LK:=zh hlk
   have KU:Hid (Keep (fun j=>j<w.heap.size∨CB≤j) u1 u1):=Keep.refl _ _
   clear bb hlk hCB hHeld
   go_simp
   refine hK.out _ _ ?_
   clear hK K
   try simp only[Act.put]
   have hHeld:=KH.out
   refine kr [4] ?_
   refine kc (o:={dst:=none,op:=Op.store 74 (Operand.tmp 7) (Operand.tmp 17),type:=0,pos:="rules.go:15",after:=#[⟨3,.data⟩,⟨0,.data⟩,⟨2,.chain⟩,⟨0,.phase⟩,⟨1,.textOnly .lateStores⟩,⟨2,.textOnly .lateStoresUnsure⟩,⟨3,.phase⟩],guard:=none}) rfl (fun K hK=>?_) kn
   unfold ruArr
   have y0:=KA.out.cell 0
   have y1:=KA.out.cell 1
   have y2:=KA.out.cell 2
   have y3:=KA.out.cell 3
   have y4:=KA.out.cell 4
   have y5:=KA.out.cell 5
   have y6:=KA.out.cell 6
   have y7:=KA.out.cell 7
   have y8:=KA.out.cell 8
   have y9:=KA.out.cell 9
   have y10:=KA.out.cell 10
   have f0:=KA.out.frozen 0
   have f1:=KA.out.frozen 1
   have f2:=KA.out.frozen 2
   have f3:=KA.out.frozen 3
   have f4:=KA.out.frozen 4
   have f5:=KA.out.frozen 5
   have f6:=KA.out.frozen 6
   have f7:=KA.out.frozen 7
   have f8:=KA.out.frozen 8
   have f9:=KA.out.frozen 9
   have f10:=KA.out.frozen 10
   go_simp
   clear hHeld y0 f0 y1 f1 y2 f2 y3 f3 y4 f4 y5 f5 y6 f6 y7 f7 y8 f8 y9 f9 y10 f10
   refine hK.out _ _ (((put11 KA.out (.nilFunc) (.func (.func 46) #[] #[]) (.func (.func 47) #[] #[]) (.func (.func 48) #[] #[]) (.func (.func 49) #[] #[]) (.func (.func 50) #[] #[]) (.func (.func 51) #[] #[]) (.func (.func 52) #[] #[]) (.func (.func 53) #[] #[]) (.func (.func 54) #[] #[]) (.func (.func 55) #[] #[])).2 (Keep.refl (fun j=>j≠B7) _) (.inr fun h=>h rfl)).blk KH.out (by have:=HN7.out;omega)) (fun hHeld=>?_)
   clear hK K
   try simp only[Act.put,zK]
   refine ka 5 (some 8) (.pointer (some ⟨Bl,0,none⟩)) rfl rfl (fun w'=>by go_simp) ?_
   try simp only[Act.put,zK]
   refine kd (by kernel_rfl) ?_ _
   refine NoPanic.normal ?_
   have hput:=put11 KA.out (.nilFunc) (.func (.func 46) #[] #[]) (.func (.func 47) #[] #[]) (.func (.func 48) #[] #[]) (.func (.func 49) #[] #[]) (.func (.func 50) #[] #[]) (.func (.func 51) #[] #[]) (.func (.func 52) #[] #[]) (.func (.func 53) #[] #[]) (.func (.func 54) #[] #[]) (.func (.func 55) #[] #[])
   have HF:Hid (FsI m w B7 Bl _∧Blk _ G6 32 #[.int .i64 0,.int .i64 0]):=⟨⟨(hput.2 (Keep.refl (fun j=>j≠B7) _) (.inr fun h=>h rfl)).blk KH.out (by have:=HN7.out;omega),(hput.2 (Keep.refl (fun j=>j≠B7) _) (.inr fun h=>h rfl)).blk KB.out (by have:=HN7.out;omega),hput.1,⟨wrr,rows,LK.out _ (hput.2 KU.out (H7.out.elim (fun h=>.inr (by have:=HN7.out;omega)) .inl))⟩,B2.out.trans ((hput.2 (Keep.refl (fun j=>j≠B7) _) (.inr fun h=>h rfl)).below B2.out.size fun j hj=>by have:=HN7.out;omega)⟩,(hput.2 (Keep.refl (fun j=>j≠B7) _) (.inr fun h=>h rfl)).blk KG.out (by have:=HN7.out;omega)⟩
   clear hput
   go_wp2_with fail
   go_meet
   exact⟨B7,Bl,rfl,rfl,HF.out.1,HF.out.2⟩
  exact kn
 clear KH KB KG B2
 obtain⟨B7,Bl,rfl,rfl,FI,KG⟩:=hcut
 go_wp2_with fail
 refine (wpIn_wide (n:=6)).1 (wpIn_label ?_)
 have b5:Below wc.heap.size wc (wc.alloc (.cells #[.int .i64 1] 3)):=(Below.refl _ _).alloc (Nat.le_refl _) _
 have KK:Hid (Blk (wc.alloc (.cells #[.int .i64 1] 3)) wc.heap.size 3 #[.int .i64 ((1:Nat):Int)]):=Blk.new _ _ _
 have HGW:Hid (G6<wc.heap.size):=KG.out.lt
 have FI:=zh (FI.out.on b5)
 have KG:=zh (KG.out.below b5 KG.out.lt)
 clear b5
 go_wp2_with fail
 obtain⟨K0,hK0⟩:∃ K0,wc.heap.size=K0:=⟨_,rfl⟩
 rw[hK0] at KK HGW ⊢
 clear hK0
 generalize (wc.alloc (.cells #[.int .i64 1] 3))=wl at *
 refine wp_loop_ghost_k (fun n a wr=>∃ (K r:Nat) (Ds:List Nat) (v10 v11 v12 v13 v14 v15 v16 v17 v18 v19 v20 v21 v22 v23 v24 v25 v26 v27 v28 v29 v30 v31 v32 v33 v34 v35 v36 v37:Value),a={tmps:=#[.agg #[.slice m.tr.1.A m.tr.1.n m.tr.1.c,.slice m.se.1.A m.se.1.n m.se.1.c,.slice m.ob.1.A m.ob.1.n m.ob.1.c,.slice m.pr.1.A m.pr.1.n m.pr.1.c,.slice m.ev.1.A m.ev.1.n m.ev.1.c,.slice m.od.1.A m.od.1.n m.od.1.c,.slice m.ma.1.A m.ma.1.n m.ma.1.c,.slice m.wa.1.A m.wa.1.n m.wa.1.c],.pointer (some ⟨w.heap.size,0,none⟩),.pointer (some ⟨w.heap.size+1,0,none⟩),.bool false,.int .i64 0,.int .i64 0,.pointer (some ⟨G6,0,none⟩),.pointer (some ⟨B7,0,none⟩),.pointer (some ⟨Bl,0,none⟩),.pointer (some ⟨K,0,none⟩),v10,v11,v12,v13,v14,v15,v16,v17,v18,v19,v20,v21,v22,v23,v24,v25,v26,v27,v28,v29,v30,v31,v32,v33,v34,v35,v36,v37],defers:=Ds.map mkMark}∧n+r=11∧Hid (1≤r)∧Hid (G6<K)∧Hid (Blk wr K 3 #[.int .i64 (r:Int)])∧Hid (FsI m w B7 Bl wr)∧Hid (Blk wr G6 32 #[.int .i64 0,.int .i64 0])∧Hid (MarksAt w.heap.size (fun _=>False) Ds wr)∧Hid (∀ q,1≤q→q<r→ruPlace m.pl q=none)) 10 ?_ ?_
 ·exact⟨K0,1,[],_,_,_,_,_,_,_,_,_,_,_,_,_,_,_,_,_,_,_,_,_,_,_,_,_,_,_,_,rfl,rfl,Nat.le_refl _,HGW.out,KK.out,FI.out,KG.out,MarksAt.nil _ _ _,fun q h1 h2=>by omega⟩
 clear KK FI KG HGW
 rintro n a wr ⟨K,r,Ds,v10,v11,v12,v13,v14,v15,v16,v17,v18,v19,v20,v21,v22,v23,v24,v25,v26,v27,v28,v29,v30,v31,v32,v33,v34,v35,v36,v37,rfl,hnr,HR1,HGK,KK,FI,KG,MK,HNO⟩ J KQ hJ hKQ
 have HNR:Hid (n+r=11):=hnr
 have HJ:=zh hJ
 have HQ:=zh hKQ
 clear hnr hJ hKQ
 have FIb:=FI.out
 have y9:=KK.out.cell 0
 have f9:=KK.out.frozen 0
 by_cases hr:r≤10
 ·have hr1:=HR1.out
  obtain⟨wrr,rows,hlk⟩:=FI.out.lk
  have hcall:=ruF_any hr1 hr m wrr rows Bl wr HIZ.out HFA.out hlk
  have heg:=eg_ruF hr1 hr
  have y7:wr.cell? ⟨B7,r,none⟩=some (.func (.func (ruF r)) #[] #[]):=by
   rw[FI.out.ka.cell]
   exact ruArr_at hr1 hr
  have HC:=zh hcall
  clear hcall hlk
  have FIb:=zh FIb
  generalize ruF r=fq at *
  have hle:(r:Int)≤10:=by omega
  have hlt:(r:Int)<11:=by omega
  go_wp2_with fail
  refine HC.out.mono ?_
  rintro e wy ⟨by_,gf,lb,rfl,heg2,hseq⟩
  have HSQ:=zh (hseq 5)
  have BY:=zh by_
  clear hseq by_ HC heg y7
  go_wp2_with fail
  refine (wpIn_wide (n:=6)).1 ?_
  refine range_first (some 0) (by omega) (gf:=gf) (lb:=lb) rfl heg2 (f:=ruPlace m.pl r) (N:=wr.heap.size) HSQ.out BY.out.size 29 10 rfl (FdI G6 r (ruPlace m.pl r) wr) ?hIx ?assign ?body ?done ?stop
  case hIx =>
   rintro X Y ⟨p,h1,h2,h3⟩ hk
   have hg:=KG.out.lt
   have hs:=BY.out.size
   exact⟨p,h1,h2.trans (hk.mono fun j _ hj=>by constructor<;>omega),hk.blk h3 (by constructor<;>omega)⟩
  case assign =>
   intro l2 p Y K2 hK
   simp only[List.setIfInBounds_toArray,List.set_cons_zero,List.set_cons_succ] at hK ⊢
   gi_wp2_with fail
   exact hK
  case body =>
   rintro l2 k X hf hbN hsz hobj
   simp only[List.setIfInBounds_toArray,List.set_cons_zero,List.set_cons_succ,Nat.reduceSub]
   have BX:=zh (BY.out.trans hbN)
   have KX:=zh (KG.out.below BX.out KG.out.lt)
   have y9:X.cell? ⟨K,0,none⟩=some (.int .i64 (r:Int)):=(KK.out.below BX.out KK.out.lt).cell 0
   have g0:X.cell? ⟨G6,0,none⟩=some (.int .i64 0):=KX.out.cell 0
   have g1:X.cell? ⟨G6,1,none⟩=some (.int .i64 0):=KX.out.cell 1
   have e0:=KX.out.frozen 0
   have e1:=KX.out.frozen 1
   have HF:=zh hf
   have HP:=zh (put15 KX.out (.int .i64 (r:Int)) (.int .i64 (k:Int)))
   have HK:=zh (putK2 X G6 (.int .i64 (r:Int)) (.int .i64 (k:Int)))
   clear hf hbN hsz hobj
   gi_wp2_with fail
   have hg:=KG.out.lt
   have hs:=BY.out.size
   exact⟨rfl,HK.out.mono fun j _ hj=>by omega,k,HF.out,(Keep.of_all _ BX.out).trans (HK.out.mono fun j _ hj=>hj.2),HP.out⟩
  case done =>
   rintro D W hD hf hbN hdef
   have HB:=zh (BY.out.trans hbN)
   have y9:=(KK.out.below HB.out KK.out.lt).cell 0
   have FI:=zh (FI.out.on HB.out)
   have KG:=zh (KG.out.below HB.out KG.out.lt)
   have HGN:Hid (G6<W.heap.size):=KG.out.lt
   have MK:Hid (MarksAt w.heap.size (fun _=>False) (D :: Ds) W):=(MK.out.keep (Keep.of_all (fun _=>True) HB.out) fun _ _=>trivial).cons (Nat.le_trans (Nat.le_trans FIb.out.below.size BY.out.size) hD) id hdef fun h=>by have:=MK.out.lt h;have:=BY.out.size;omega
   have HNO:Hid (∀ q,1≤q→q<r+1→ruPlace m.pl q=none):=fun q h1 h2=>by
    by_cases e:q=r
    ·rw[e];exact hf
    exact HNO.out q h1 (by omega)
   clear hD hf hbN hdef
   dsimp only
   go_wp2_with fail
   have hal:Below W.heap.size W (W.alloc (.cells #[.int .i64 ((r:Int)+1)] 3)):=(Below.refl _ _).alloc (Nat.le_refl _) _
   refine HQ.out _ _ (Handed.intro (n - 1) (by have:=HNR.out;omega) (HJ.out _ _ _ ⟨W.heap.size,r+1,D :: Ds,_,_,_,_,_,_,_,_,_,_,_,_,_,_,_,_,_,_,_,_,_,_,_,_,_,_,_,_,rfl,by have:=HNR.out;omega,Nat.le_add_left ..,HGN.out,?_,FI.out.on hal,KG.out.below hal KG.out.lt,MK.out.keep (Keep.of_all (fun _=>True) hal) fun _ _=>trivial,HNO.out⟩))
   exact Blk.new W 3 #[.int .i64 ((r+1:Nat):Int)]
  rintro D W hD hf ⟨p,hp,hk,hb⟩ hdef
  have hbs:=FIb.out.kb.lt
  have hgs:=KG.out.lt
  have hg6:=HG6.out
  have hn6:G6≠w.heap.size+1:=by omega
  have KB:=zh (hk.blk FIb.out.kb ⟨hbs,fun e=>hn6 e.symm⟩)
  have BF:=zh (FIb.out.below.trans (hk.below FIb.out.below.size fun j hj=>by constructor<;>omega))
  have MK:Hid (MarksAt w.heap.size (fun _=>False) (D :: Ds) W):=(MK.out.keep hk fun E hE=>⟨MK.out.lt hE,MK.out.ne KG.out hE⟩).cons (Nat.le_trans (Nat.le_trans FIb.out.below.size BY.out.size) hD) id hdef fun h=>by have:=MK.out.lt h;have:=BY.out.size;omega
  have HFR:Hid (ruFirst m.pl=some (r,p)):=first_at ⟨HR1.out,hr⟩ hp HNO.out
  have hq:(((r:Nat):Int) != 0)=true:=by have:=HR1.out;simp;omega
  have KG:=zh hb
  clear hg6 hbs hgs hD hf hp hk hb hdef hlt hle
  dsimp only
  show Code.wpIn _ _ _ (Code.exit 0) _ _ _
  unfold mkMark
  gi_wp2_with fail
  go_wp2_with fail
  refine wp_region_noPanic ?_
  refine wp_region_K (S:=(fun W=>Blk W G6 32 #[.int .i64 (r:Int),.int .i64 (p:Int)])) 5 (by kernel_rfl) (Blk.drew KG.out) (fun hHeld=>?_)
  have KB:=zh KB.out.drew
  have BF:=zh BF.out.drew
  have MK:=zh (MK.out.keep ((Keep.refl (fun _=>True) _).drew) fun _ _=>trivial)
  generalize W.drew=wd at *
  have HPUT:=zh (put15 KB.out (.int .i64 (r:Int)) (.int .i64 (p:Int)))
  have hpk:=putK2 wd (w.heap.size+1) (.int .i64 (r:Int)) (.int .i64 (p:Int))
  have HMB:=zh (MK.out.keep hpk fun D hD=>MK.out.ne KB.out hD)
  have BF:=zh (BF.out.trans (hpk.below BF.out.size fun j hj=>by omega))
  clear hpk
  refine kv 0 (some 34) (.agg #[.int .i64 (r:Int),.int .i64 (p:Int)]) rfl rfl (fun w' hSw=>by have c0:=Blk.cell (w:=w') hSw 0;have c1:=Blk.cell (w:=w') hSw 1;go_simp) ?_
  try simp only[Act.put,zK]
  refine ka 1 (some 35) (.pointer (some ⟨G6,0,none⟩)) rfl rfl (fun w'=>by go_simp) ?_
  try simp only[Act.put,zK]
  refine kv 2 (some 36) (.int .i64 (r:Int)) rfl rfl (fun w' hSw=>by have c9:w'.cell? ⟨G6,0,none⟩=some (.int .i64 (r:Int)):=Blk.cell (w:=w') hSw 0;go_simp) ?_
  try simp only[Act.put,zK]
  refine ka 3 (some 37) (.bool true) rfl rfl (fun w'=>by go_simp) ?_
  try simp only[Act.put,zK]
  refine kr [4] ?_
  refine kc (o:={dst:=none,op:=Op.store 32 (Operand.tmp 2) (Operand.tmp 34),type:=0,pos:="rules.go:23",after:=#[⟨0,.data⟩,⟨0,.phase⟩,⟨1,.textOnly .lateStores⟩,⟨2,.textOnly .lateStores⟩,⟨3,.textOnly .lateStores⟩],guard:=none}) rfl (fun K hK=>?_) kn
  have y0:=KB.out.cell 0
  have y1:=KB.out.cell 1
  have f0:=KB.out.frozen 0
  have f1:=KB.out.frozen 1
  go_simp
  clear y0 y1 f0 f1
  refine hK.out _ _ ((putK2 _ _ _ _).blk hHeld hn6) (fun hHeld=>?_)
  clear hK K
  try simp only[Act.put,zK]
  refine kr [5] ?_
  refine kz rfl (fun K hK=>?_)
  go_simp
  refine hK.out _ _ ?_
  clear hK K
  try simp only[Act.put]
  refine wpAnyK_free _ _ _ _ (by kernel_rfl) ?_
  refine wa1 6 (o:={dst:=some 4,op:=Op.assign (Operand.const (Value.int IntKind.i64 0)),type:=33,pos:="rules.go:23",after:=#[⟨5,.chain⟩,⟨0,.phase⟩,⟨1,.phase⟩,⟨2,.phase⟩,⟨3,.phase⟩,⟨4,.phase⟩,⟨5,.phase⟩],guard:=none}) rfl (fun K hK=>?_)
  go_simp
  refine hK.out _ _ ?_
  clear hK K
  try simp only[Act.put]
  refine wad ?_ (by kernel_rfl) _
  refine NoPanic.normal ?_
  go_wp2_with fail
  rw[Exit.noGoto_ret]
  refine leaves_marks (D :: Ds) _ HMB.out fun w6 hk=>?_
  have p0:=(hk.blk HPUT.out (fun h=>HMB.out.ne HPUT.out h rfl)).cell 0
  have p1:=(hk.blk HPUT.out (fun h=>HMB.out.ne HPUT.out h rfl)).cell 1
  exact⟨.tuple #[.agg #[.int .i64 (r:Int),.int .i64 (p:Int)],.bool true,.int .i64 0],by simp[results,Tryz.results10,go_sem,p0,p1],by rw[HX.out,HE.out];rw[HFR.out];rfl,BF.out.trans (hk.below BF.out.size fun j hj hD=>by have:=(HMB.out.all j hD).1;omega)⟩
 obtain rfl:r=11:=by have:=HNR.out;omega
 have hle:decide (((11:Nat):Int)≤10)=false:=rfl
 have hn6:G6≠w.heap.size+1:=by have:=HG6.out;omega
 have KB:=zh FIb.kb
 have BF:=zh FIb.below
 have HFR:Hid (ruFirst m.pl=none):=first_none.2 fun q h1 h2=>HNO.out q h1 (by omega)
 clear FIb
 go_wp2_with fail
 refine wp_region_noPanic ?_
 refine wp_region_K (S:=(fun W=>Blk W G6 32 #[.int .i64 0,.int .i64 0])) 5 (by kernel_rfl) (Blk.drew KG.out) (fun hHeld=>?_)
 have KB:=zh KB.out.drew
 have BF:=zh BF.out.drew
 have MK:=zh (MK.out.keep ((Keep.refl (fun _=>True) _).drew) fun _ _=>trivial)
 generalize wr.drew=wd at *
 have HPUT:=zh (put15 KB.out (.int .i64 0) (.int .i64 0))
 have hpk:=putK2 wd (w.heap.size+1) (.int .i64 0) (.int .i64 0)
 have HMB:=zh (MK.out.keep hpk fun D hD=>MK.out.ne KB.out hD)
 have BF:=zh (BF.out.trans (hpk.below BF.out.size fun j hj=>by omega))
 clear hpk
 refine kv 0 (some 34) (.agg #[.int .i64 0,.int .i64 0]) rfl rfl (fun w' hSw=>by have c0:=Blk.cell (w:=w') hSw 0;have c1:=Blk.cell (w:=w') hSw 1;go_simp) ?_
 try simp only[Act.put,zK]
 refine ka 1 (some 35) (.pointer (some ⟨G6,0,none⟩)) rfl rfl (fun w'=>by go_simp) ?_
 try simp only[Act.put,zK]
 refine kv 2 (some 36) (.int .i64 0) rfl rfl (fun w' hSw=>by have c9:w'.cell? ⟨G6,0,none⟩=some (.int .i64 0):=Blk.cell (w:=w') hSw 0;go_simp) ?_
 try simp only[Act.put,zK]
 refine ka 3 (some 37) (.bool false) rfl rfl (fun w'=>by go_simp) ?_
 try simp only[Act.put,zK]
 refine kr [4] ?_
 refine kc (o:={dst:=none,op:=Op.store 32 (Operand.tmp 2) (Operand.tmp 34),type:=0,pos:="rules.go:23",after:=#[⟨0,.data⟩,⟨0,.phase⟩,⟨1,.textOnly .lateStores⟩,⟨2,.textOnly .lateStores⟩,⟨3,.textOnly .lateStores⟩],guard:=none}) rfl (fun K hK=>?_) kn
 have y0:=KB.out.cell 0
 have y1:=KB.out.cell 1
 have f0:=KB.out.frozen 0
 have f1:=KB.out.frozen 1
 go_simp
 clear y0 y1 f0 f1
 refine hK.out _ _ ((putK2 _ _ _ _).blk hHeld hn6) (fun hHeld=>?_)
 clear hK K
 try simp only[Act.put,zK]
 refine kr [5] ?_
 refine kz rfl (fun K hK=>?_)
 go_simp
 refine hK.out _ _ ?_
 clear hK K
 try simp only[Act.put]
 refine wpAnyK_free _ _ _ _ (by kernel_rfl) ?_
 refine wa1 6 (o:={dst:=some 4,op:=Op.assign (Operand.const (Value.int IntKind.i64 0)),type:=33,pos:="rules.go:23",after:=#[⟨5,.chain⟩,⟨0,.phase⟩,⟨1,.phase⟩,⟨2,.phase⟩,⟨3,.phase⟩,⟨4,.phase⟩,⟨5,.phase⟩],guard:=none}) rfl (fun K hK=>?_)
 go_simp
 refine hK.out _ _ ?_
 clear hK K
 try simp only[Act.put]
 refine wad ?_ (by kernel_rfl) _
 refine NoPanic.normal ?_
 go_wp2_with fail
 rw[Exit.noGoto_ret]
 refine leaves_marks (Ds) _ HMB.out fun w6 hk=>?_
 have p0:=(hk.blk HPUT.out (fun h=>HMB.out.ne HPUT.out h rfl)).cell 0
 have p1:=(hk.blk HPUT.out (fun h=>HMB.out.ne HPUT.out h rfl)).cell 1
 exact⟨.tuple #[.agg #[.int .i64 0,.int .i64 0],.bool false,.int .i64 0],by simp[results,Tryz.results10,go_sem,p0,p1],by rw[HX.out,HE.out];rw[HFR.out];rfl,BF.out.trans (hk.below BF.out.size fun j hj hD=>by have:=(HMB.out.all j hD).1;omega)⟩
end Go.Proofs.YtmkknbonmameoaaGreatDoor
namespace Go.Proofs.YtmkknbonmameoaaGreatDoor
open Go.RowKit Go.Shelf
theorem writers_out {H:Hist} (hI:InZ H) {x:Int} (hx:x<0∨x≥(H.ob.length:Int)):ruWriters H x=[]:=by
 unfold ruWriters
 rw[List.filter_eq_nil_iff]
 intro t _ h
 unfold ruWr at h
 rw[Bool.and_eq_true,List.any_eq_true] at h
 obtain⟨⟨e,he,h2⟩,_⟩:=h
 simp only[ruW,Bool.and_eq_true,decide_eq_true_eq] at h2
 have:=(hI.eo e he h2.1).1
 omega
set_option maxRecDepth 100000 in
set_option maxHeartbeats 4000000 in
theorem ruSound_any (m:HistM) (w:World) (hT:Tabs w) (ha:Askd w m):Calls Tryz.prog 11 #[.agg #[.slice m.tr.1.A m.tr.1.n m.tr.1.c,.slice m.se.1.A m.se.1.n m.se.1.c,.slice m.ob.1.A m.ob.1.n m.ob.1.c,.slice m.pr.1.A m.pr.1.n m.pr.1.c,.slice m.ev.1.A m.ev.1.n m.ev.1.c,.slice m.od.1.A m.od.1.n m.od.1.c,.slice m.ma.1.A m.ma.1.n m.ma.1.c,.slice m.wa.1.A m.wa.1.n m.wa.1.c]] w fun e w'=>e=.returned (.bool (okX m.pl))∧Below w.heap.size w w':=by
 obtain⟨k0,b0,hs0⟩:=ibox w #[.slice m.tr.1.A m.tr.1.n m.tr.1.c,.slice m.se.1.A m.se.1.n m.se.1.c,.slice m.ob.1.A m.ob.1.n m.ob.1.c,.slice m.pr.1.A m.pr.1.n m.pr.1.c,.slice m.ev.1.A m.ev.1.n m.ev.1.c,.slice m.od.1.A m.od.1.n m.od.1.c,.slice m.ma.1.A m.ma.1.n m.ma.1.c,.slice m.wa.1.A m.wa.1.n m.wa.1.c] 28
 have KH:Hid (Blk (w.alloc (.cells #[.slice m.tr.1.A m.tr.1.n m.tr.1.c,.slice m.se.1.A m.se.1.n m.se.1.c,.slice m.ob.1.A m.ob.1.n m.ob.1.c,.slice m.pr.1.A m.pr.1.n m.pr.1.c,.slice m.ev.1.A m.ev.1.n m.ev.1.c,.slice m.od.1.A m.od.1.n m.od.1.c,.slice m.ma.1.A m.ma.1.n m.ma.1.c,.slice m.wa.1.A m.wa.1.n m.wa.1.c] 28)) w.heap.size 28 m.cs):=k0
 have B0:=zh b0
 have HA:=zh ha
 have HTB:=zh hT
 clear k0 b0 hs0 hT ha
 go_enter Tryz.func11,Tryz.ntmps11
 go_upto_region 1 with fail
 generalize w.alloc (.cells #[.slice m.tr.1.A m.tr.1.n m.tr.1.c,.slice m.se.1.A m.se.1.n m.se.1.c,.slice m.ob.1.A m.ob.1.n m.ob.1.c,.slice m.pr.1.A m.pr.1.n m.pr.1.c,.slice m.ev.1.A m.ev.1.n m.ev.1.c,.slice m.od.1.A m.od.1.n m.od.1.c,.slice m.ma.1.A m.ma.1.n m.ma.1.c,.slice m.wa.1.A m.wa.1.n m.wa.1.c] 28)=W1 at *
 obtain⟨z0,z1,z2,z3,z4,z5,z6,z7⟩:=c8 KH.out
 go_wp2_with fail
 refine (ruFirst_any m W1 (HTB.out.on B0.out (Nat.le_refl _)) (HA.out.on B0.out)).mono ?_
 rintro e w2 ⟨rfl,b2⟩
 have B2:=zh (B0.out.trans (b2.mono B0.out.size))
 clear b2 z0 z1 z2 z3 z4 z5 z6 z7
 cases hw:rightW m.pl
 ·have e1:checkW m.pl=210:=by unfold checkW;rw[hw];rfl
  have e2:frX m.pl=none:=by unfold frX;rw[hw];rfl
  have e3:okX m.pl=false:=by
   cases h:okX m.pl
   ·rfl
   rw[(okX_iff.1 h).1] at hw;cases hw
  have E3:=zh e3
  rw[e1,e2]
  clear hw e1 e2 e3
  dsimp only [frR,frP,Option.isSome]
  go_wp2_with fail
  refine bodyPost_ret (v:=.bool false) (by simp[results,Tryz.results11,go_sem]) rfl ?_
  exact⟨by rw[E3.out];try rfl,B2.out.alloc B2.out.size _⟩
 have e1:checkW m.pl=0:=by unfold checkW;rw[hw];rfl
 have e2:frX m.pl=ruFirst m.pl:=by unfold frX;rw[hw];rfl
 have hr:rightB m.pl=true∧limB m.pl=true:=by unfold rightW at hw;rw[Bool.and_eq_true] at hw;exact hw.symm
 have e3:okX m.pl=(ruFirst m.pl).isNone:=by unfold okX ruSound;rw[hr.1,hr.2,Bool.true_and,Bool.true_and]
 have E3:=zh e3
 rw[e1,e2]
 clear hw e1 e2 e3 hr
 obtain⟨f,hf⟩:∃ f,ruFirst m.pl=f:=⟨_,rfl⟩
 rw[hf] at E3 ⊢
 clear hf
 cases f
 ·dsimp only [frR,frP,Option.isSome,Option.isNone]
  go_wp2_with fail
  refine bodyPost_ret (v:=.bool true) (by simp[results,Tryz.results11,go_sem]) rfl ?_
  exact⟨by rw[E3.out];try rfl,B2.out.alloc B2.out.size _⟩
 dsimp only [frR,frP,Option.isSome,Option.isNone]
 go_wp2_with fail
 refine bodyPost_ret (v:=.bool false) (by simp[results,Tryz.results11,go_sem]) rfl ?_
 exact⟨by rw[E3.out];try rfl,B2.out.alloc B2.out.size _⟩
set_option maxRecDepth 100000 in
set_option maxHeartbeats 4000000 in
theorem ruWriters_any (m:HistM) (x:Int) (w:World) (hT:Tabs w) (ha:Askd w m):Calls Tryz.prog 17 #[.agg #[.slice m.tr.1.A m.tr.1.n m.tr.1.c,.slice m.se.1.A m.se.1.n m.se.1.c,.slice m.ob.1.A m.ob.1.n m.ob.1.c,.slice m.pr.1.A m.pr.1.n m.pr.1.c,.slice m.ev.1.A m.ev.1.n m.ev.1.c,.slice m.od.1.A m.od.1.n m.od.1.c,.slice m.ma.1.A m.ma.1.n m.ma.1.c,.slice m.wa.1.A m.wa.1.n m.wa.1.c],.int .i64 x] w fun e w'=>∃ (A:Option Addr) (n c:Nat),e=.returned (.tuple #[.slice A n c,.int .i64 (checkW m.pl)])∧n=(wrX m.pl x).length∧Reads w' w'.heap.size 1 A n (ints (wrX m.pl x))∧Below w.heap.size w w':=by
 obtain⟨k0,b0,hs0⟩:=ibox w #[.slice m.tr.1.A m.tr.1.n m.tr.1.c,.slice m.se.1.A m.se.1.n m.se.1.c,.slice m.ob.1.A m.ob.1.n m.ob.1.c,.slice m.pr.1.A m.pr.1.n m.pr.1.c,.slice m.ev.1.A m.ev.1.n m.ev.1.c,.slice m.od.1.A m.od.1.n m.od.1.c,.slice m.ma.1.A m.ma.1.n m.ma.1.c,.slice m.wa.1.A m.wa.1.n m.wa.1.c] 28
 have KH:Hid (Blk (w.alloc (.cells #[.slice m.tr.1.A m.tr.1.n m.tr.1.c,.slice m.se.1.A m.se.1.n m.se.1.c,.slice m.ob.1.A m.ob.1.n m.ob.1.c,.slice m.pr.1.A m.pr.1.n m.pr.1.c,.slice m.ev.1.A m.ev.1.n m.ev.1.c,.slice m.od.1.A m.od.1.n m.od.1.c,.slice m.ma.1.A m.ma.1.n m.ma.1.c,.slice m.wa.1.A m.wa.1.n m.wa.1.c] 28)) w.heap.size 28 m.cs):=k0
 have B0:=zh b0
 have HA:=zh ha
 have HTB:=zh hT
 clear k0 b0 hs0 hT ha
 go_enter Tryz.func17,Tryz.ntmps17
 go_upto_region 1 with fail
 generalize w.alloc (.cells #[.slice m.tr.1.A m.tr.1.n m.tr.1.c,.slice m.se.1.A m.se.1.n m.se.1.c,.slice m.ob.1.A m.ob.1.n m.ob.1.c,.slice m.pr.1.A m.pr.1.n m.pr.1.c,.slice m.ev.1.A m.ev.1.n m.ev.1.c,.slice m.od.1.A m.od.1.n m.od.1.c,.slice m.ma.1.A m.ma.1.n m.ma.1.c,.slice m.wa.1.A m.wa.1.n m.wa.1.c] 28)=W1 at *
 obtain⟨z0,z1,z2,z3,z4,z5,z6,z7⟩:=c8 KH.out
 go_wp2_with fail
 refine (check11w_any m HA.out.mid W1 (HTB.out.on B0.out (Nat.le_refl _)) (HA.out.rd.on B0.out |>.more B0.out.size)).mono ?_
 rintro e w2 ⟨rfl,b2⟩
 have KH:=zh (KH.out.below b2 KH.out.lt)
 have B2:=zh (B0.out.trans (b2.mono B0.out.size))
 clear b2 z0 z1 z2 z3 z4 z5 z6 z7
 cases hw:rightW m.pl
 ·have e1:checkW m.pl=210:=by unfold checkW;rw[hw];rfl
  have e2:wrX m.pl x=[]:=by unfold wrX;rw[hw];rfl
  have E1:=zh e1
  have E2:=zh e2
  rw[e1]
  clear hw e1 e2
  go_wp2_with fail
  refine bodyPost_ret (v:=.tuple #[.slice none 0 0,.int .i64 210]) (by simp[results,Tryz.results17,go_sem]) rfl ?_
  exact⟨none,0,0,by rw[E1.out],by rw[E2.out];rfl,by rw[E2.out];exact .none_,B2.out⟩
 have e1:checkW m.pl=0:=by unfold checkW;rw[hw];rfl
 have e2:wrX m.pl x=ruWriters m.pl x:=by unfold wrX;rw[hw];rfl
 have HIZ:=zh (inZ hw)
 have HFA:=zh (HA.out.fair hw)
 have HOL:Hid (m.pl.ob.length=m.ob.1.n):=HA.out.rd.ob_len
 have E1:=zh e1
 have E2:=zh e2
 rw[e1]
 clear hw e1 e2
 obtain⟨z0,z1,z2,z3,z4,z5,z6,z7⟩:=c8 KH.out
 by_cases hx0:x<0
 ·have e3:=writers_out HIZ.out (.inl hx0)
  have E2:=zh (E2.out.trans e3)
  clear e3
  go_wp2_with fail
  refine bodyPost_ret (v:=.tuple #[.slice none 0 0,.int .i64 0]) (by simp[results,Tryz.results17,go_sem]) rfl ?_
  exact⟨none,0,0,by rw[E1.out],by rw[E2.out];rfl,by rw[E2.out];exact .none_,B2.out⟩
 by_cases hx1:x≥(m.ob.1.n:Int)
 ·have e3:=writers_out HIZ.out (.inr (by have:=HOL.out;omega:x≥(m.pl.ob.length:Int)))
  have E2:=zh (E2.out.trans e3)
  clear e3
  go_wp2_with fail
  refine bodyPost_ret (v:=.tuple #[.slice none 0 0,.int .i64 0]) (by simp[results,Tryz.results17,go_sem]) rfl ?_
  exact⟨none,0,0,by rw[E1.out],by rw[E2.out];rfl,by rw[E2.out];exact .none_,B2.out⟩
 obtain⟨nx,rfl⟩:∃ nx:Nat,x=(nx:Int):=⟨x.toNat,by omega⟩
 go_wp2_with fail
 refine (lookAt_any m w.heap.size w2 HIZ.out HFA.out B2.out.size (HA.out.rd.on B2.out)).mono ?_
 rintro r4 u1 ⟨Bl,wrr,rows,rfl,hlk,bb⟩
 have hl:=hlk u1 (Keep.refl _ _)
 obtain⟨rr,b,o,hrow,hA,hb,hc,hnw⟩:=hl.at_ (x:=nx) (by have:=HOL.out;omega)
 have HROW:=zh (hl.row nx rr hrow)
 have y8:=hl.blk.cell 8
 have hn2:(nx:Int)<wrr.n:=by omega
 have BF:=zh (B2.out.trans (bb.mono B2.out.size))
 clear hlk hl bb hrow hb z0 z1 z2 z3 z4 z5 z6 z7
 rw[hA] at y8
 go_wp2_with fail
 refine bodyPost_ret (v:=.tuple #[.slice rr.A rr.n rr.c,.int .i64 0]) (by simp[results,Tryz.results17,go_sem]) rfl ?_
 exact⟨rr.A,rr.n,rr.c,by rw[E1.out],by rw[E2.out];exact HROW.out.1,by rw[E2.out];exact HROW.out.2,BF.out⟩
attribute [local go_sem] Oper.semAt_some
theorem put3 {W:World} {g:Nat} {t1 t2 t3:TypeId} {a b c:Value} (h1:Blk W (g+1) t1 #[a]) (h2:Blk W (g+2) t2 #[b]) (h3:Blk W (g+3) t3 #[c]) (x y z:Value) :
 Blk (((W.setCell ⟨g+1,0,none⟩ x).setCell ⟨g+2,0,none⟩ y).setCell ⟨g+3,0,none⟩ z) (g+1) t1 #[x]∧Blk (((W.setCell ⟨g+1,0,none⟩ x).setCell ⟨g+2,0,none⟩ y).setCell ⟨g+3,0,none⟩ z) (g+2) t2 #[y]∧Blk (((W.setCell ⟨g+1,0,none⟩ x).setCell ⟨g+2,0,none⟩ y).setCell ⟨g+3,0,none⟩ z) (g+3) t3 #[z] ∧
 Keep (fun j=>j≠g+1∧j≠g+2∧j≠g+3) W (((W.setCell ⟨g+1,0,none⟩ x).setCell ⟨g+2,0,none⟩ y).setCell ⟨g+3,0,none⟩ z):=by
 have s1:=h1.set_ 0 x
 have k1:=fun (V:World)=>(Keep.refl (fun j=>j≠g+1) V).set (g:=g+1) (.inr fun h=>h rfl) 0 x
 have k2:=fun (V:World)=>(Keep.refl (fun j=>j≠g+2) V).set (g:=g+2) (.inr fun h=>h rfl) 0 y
 have k3:=fun (V:World)=>(Keep.refl (fun j=>j≠g+3) V).set (g:=g+3) (.inr fun h=>h rfl) 0 z
 have s2:=((k1 W).blk h2 (by omega)).set_ 0 y
 have s3:=((k2 _).blk ((k1 W).blk h3 (by omega)) (by omega)).set_ 0 z
 refine⟨(k3 _).blk ((k2 _).blk s1 (by omega)) (by omega),(k3 _).blk s2 (by omega),s3,?_⟩
 exact ((k1 W).mono fun j _ h=>h.1).trans (((k2 _).mono fun j _ h=>h.2.1).trans ((k3 _).mono fun j _ h=>h.2.2))
def PlaceZ (m:HistM) (r:Int) (w:World):Ending→World→Prop:=fun e w'=>e=.returned (.tuple #[.int .i64 (plNX (plX m.pl r)),.bool (plX m.pl r).isSome,.int .i64 (plXE m.pl r)])∧Below w.heap.size w w'
def PcI (w:World) (N:Nat) (f:Option Nat) (wx X:World):Prop:=∃ p:Nat,f=some p∧Keep (fun j=>j<N∧j≠w.heap.size+1∧j≠w.heap.size+2∧j≠w.heap.size+3) wx X∧Blk X (w.heap.size+1) 3 #[.int .i64 (p:Int)]∧Blk X (w.heap.size+2) 4 #[.bool true]∧Blk X (w.heap.size+3) 33 #[.int .i64 0]
set_option maxRecDepth 100000 in
set_option maxHeartbeats 32000000 in
theorem ruPlace_any (m:HistM) (r:Int) (w:World) (hT:Tabs w) (ha:Askd w m):Calls Tryz.prog 15 #[.agg #[.slice m.tr.1.A m.tr.1.n m.tr.1.c,.slice m.se.1.A m.se.1.n m.se.1.c,.slice m.ob.1.A m.ob.1.n m.ob.1.c,.slice m.pr.1.A m.pr.1.n m.pr.1.c,.slice m.ev.1.A m.ev.1.n m.ev.1.c,.slice m.od.1.A m.od.1.n m.od.1.c,.slice m.ma.1.A m.ma.1.n m.ma.1.c,.slice m.wa.1.A m.wa.1.n m.wa.1.c],.int .i64 r] w (PlaceZ m r w):=by
 obtain⟨k0,b0,hs0⟩:=ibox w #[.slice m.tr.1.A m.tr.1.n m.tr.1.c,.slice m.se.1.A m.se.1.n m.se.1.c,.slice m.ob.1.A m.ob.1.n m.ob.1.c,.slice m.pr.1.A m.pr.1.n m.pr.1.c,.slice m.ev.1.A m.ev.1.n m.ev.1.c,.slice m.od.1.A m.od.1.n m.od.1.c,.slice m.ma.1.A m.ma.1.n m.ma.1.c,.slice m.wa.1.A m.wa.1.n m.wa.1.c] 28
 obtain⟨k1,b1,hs1⟩:=ibox (w.alloc (.cells #[.slice m.tr.1.A m.tr.1.n m.tr.1.c,.slice m.se.1.A m.se.1.n m.se.1.c,.slice m.ob.1.A m.ob.1.n m.ob.1.c,.slice m.pr.1.A m.pr.1.n m.pr.1.c,.slice m.ev.1.A m.ev.1.n m.ev.1.c,.slice m.od.1.A m.od.1.n m.od.1.c,.slice m.ma.1.A m.ma.1.n m.ma.1.c,.slice m.wa.1.A m.wa.1.n m.wa.1.c] 28)) #[.int .i64 0] 3
 obtain⟨k2,b2,hs2⟩:=ibox ((w.alloc (.cells #[.slice m.tr.1.A m.tr.1.n m.tr.1.c,.slice m.se.1.A m.se.1.n m.se.1.c,.slice m.ob.1.A m.ob.1.n m.ob.1.c,.slice m.pr.1.A m.pr.1.n m.pr.1.c,.slice m.ev.1.A m.ev.1.n m.ev.1.c,.slice m.od.1.A m.od.1.n m.od.1.c,.slice m.ma.1.A m.ma.1.n m.ma.1.c,.slice m.wa.1.A m.wa.1.n m.wa.1.c] 28)).alloc (.cells #[.int .i64 0] 3)) #[.bool false] 4
 obtain⟨k3,b3,hs3⟩:=ibox (((w.alloc (.cells #[.slice m.tr.1.A m.tr.1.n m.tr.1.c,.slice m.se.1.A m.se.1.n m.se.1.c,.slice m.ob.1.A m.ob.1.n m.ob.1.c,.slice m.pr.1.A m.pr.1.n m.pr.1.c,.slice m.ev.1.A m.ev.1.n m.ev.1.c,.slice m.od.1.A m.od.1.n m.od.1.c,.slice m.ma.1.A m.ma.1.n m.ma.1.c,.slice m.wa.1.A m.wa.1.n m.wa.1.c] 28)).alloc (.cells #[.int .i64 0] 3)).alloc (.cells #[.bool false] 4)) #[.int .i64 0] 33
 have KH:Hid (Blk ((((w.alloc (.cells #[.slice m.tr.1.A m.tr.1.n m.tr.1.c,.slice m.se.1.A m.se.1.n m.se.1.c,.slice m.ob.1.A m.ob.1.n m.ob.1.c,.slice m.pr.1.A m.pr.1.n m.pr.1.c,.slice m.ev.1.A m.ev.1.n m.ev.1.c,.slice m.od.1.A m.od.1.n m.od.1.c,.slice m.ma.1.A m.ma.1.n m.ma.1.c,.slice m.wa.1.A m.wa.1.n m.wa.1.c] 28)).alloc (.cells #[.int .i64 0] 3)).alloc (.cells #[.bool false] 4)).alloc (.cells #[.int .i64 0] 33)) w.heap.size 28 m.cs):=((k0.alloc _).alloc _).alloc _
 have K1:Hid (Blk ((((w.alloc (.cells #[.slice m.tr.1.A m.tr.1.n m.tr.1.c,.slice m.se.1.A m.se.1.n m.se.1.c,.slice m.ob.1.A m.ob.1.n m.ob.1.c,.slice m.pr.1.A m.pr.1.n m.pr.1.c,.slice m.ev.1.A m.ev.1.n m.ev.1.c,.slice m.od.1.A m.od.1.n m.od.1.c,.slice m.ma.1.A m.ma.1.n m.ma.1.c,.slice m.wa.1.A m.wa.1.n m.wa.1.c] 28)).alloc (.cells #[.int .i64 0] 3)).alloc (.cells #[.bool false] 4)).alloc (.cells #[.int .i64 0] 33)) (w.heap.size+1) 3 #[.int .i64 0]):=by
  have h:=(k1.alloc (.cells #[.bool false] 4)).alloc (.cells #[.int .i64 0] 33)
  rwa [hs0] at h
 have K2:Hid (Blk ((((w.alloc (.cells #[.slice m.tr.1.A m.tr.1.n m.tr.1.c,.slice m.se.1.A m.se.1.n m.se.1.c,.slice m.ob.1.A m.ob.1.n m.ob.1.c,.slice m.pr.1.A m.pr.1.n m.pr.1.c,.slice m.ev.1.A m.ev.1.n m.ev.1.c,.slice m.od.1.A m.od.1.n m.od.1.c,.slice m.ma.1.A m.ma.1.n m.ma.1.c,.slice m.wa.1.A m.wa.1.n m.wa.1.c] 28)).alloc (.cells #[.int .i64 0] 3)).alloc (.cells #[.bool false] 4)).alloc (.cells #[.int .i64 0] 33)) (w.heap.size+2) 4 #[.bool false]):=by
  have h:=k2.alloc (.cells #[.int .i64 0] 33)
  rwa [hs1,hs0] at h
 have K3:Hid (Blk ((((w.alloc (.cells #[.slice m.tr.1.A m.tr.1.n m.tr.1.c,.slice m.se.1.A m.se.1.n m.se.1.c,.slice m.ob.1.A m.ob.1.n m.ob.1.c,.slice m.pr.1.A m.pr.1.n m.pr.1.c,.slice m.ev.1.A m.ev.1.n m.ev.1.c,.slice m.od.1.A m.od.1.n m.od.1.c,.slice m.ma.1.A m.ma.1.n m.ma.1.c,.slice m.wa.1.A m.wa.1.n m.wa.1.c] 28)).alloc (.cells #[.int .i64 0] 3)).alloc (.cells #[.bool false] 4)).alloc (.cells #[.int .i64 0] 33)) (w.heap.size+3) 33 #[.int .i64 0]):=by
  have h:=k3
  rwa [hs2,hs1,hs0] at h
 have B1:Hid (Below w.heap.size w ((((w.alloc (.cells #[.slice m.tr.1.A m.tr.1.n m.tr.1.c,.slice m.se.1.A m.se.1.n m.se.1.c,.slice m.ob.1.A m.ob.1.n m.ob.1.c,.slice m.pr.1.A m.pr.1.n m.pr.1.c,.slice m.ev.1.A m.ev.1.n m.ev.1.c,.slice m.od.1.A m.od.1.n m.od.1.c,.slice m.ma.1.A m.ma.1.n m.ma.1.c,.slice m.wa.1.A m.wa.1.n m.wa.1.c] 28)).alloc (.cells #[.int .i64 0] 3)).alloc (.cells #[.bool false] 4)).alloc (.cells #[.int .i64 0] 33))):=((b0.trans (b1.mono (by omega))).trans (b2.mono (by omega))).trans (b3.mono (by omega))
 have HA:=zh ha
 have HTB:=zh hT
 have HMID:=zh ha.mid
 clear k0 b0 hs0 k1 b1 hs1 k2 b2 hs2 k3 b3 hs3 hT ha
 refine (callsIn_wide (n:=6)).1 (callsIn_of_wp_marks Tryz.func15 rfl trivial ?_ rfl)
 simp only[Tryz.ntmps15,List.size_toArray,List.length_cons,List.length_nil,Nat.reduceAdd,Nat.reduceSub,Array.replicate_succ,Array.replicate_zero,List.push_toArray,List.append_toArray,List.nil_append,List.cons_append]
 refine wpIn_wide.2 ?_
 go_upto_region 1 with fail
 generalize ((((w.alloc (.cells #[.slice m.tr.1.A m.tr.1.n m.tr.1.c,.slice m.se.1.A m.se.1.n m.se.1.c,.slice m.ob.1.A m.ob.1.n m.ob.1.c,.slice m.pr.1.A m.pr.1.n m.pr.1.c,.slice m.ev.1.A m.ev.1.n m.ev.1.c,.slice m.od.1.A m.od.1.n m.od.1.c,.slice m.ma.1.A m.ma.1.n m.ma.1.c,.slice m.wa.1.A m.wa.1.n m.wa.1.c] 28)).alloc (.cells #[.int .i64 0] 3)).alloc (.cells #[.bool false] 4)).alloc (.cells #[.int .i64 0] 33))=W1 at *
 obtain⟨z0,z1,z2,z3,z4,z5,z6,z7⟩:=c8 KH.out
 go_wp2_with fail
 refine (check11w_any m HMID.out W1 (HTB.out.on B1.out (Nat.le_refl _)) (HA.out.rd.on B1.out |>.more B1.out.size)).mono ?_
 rintro e w2 ⟨rfl,b2⟩
 have KH:=zh (KH.out.below b2 KH.out.lt)
 have K1:=zh (K1.out.below b2 K1.out.lt)
 have K2:=zh (K2.out.below b2 K2.out.lt)
 have K3:=zh (K3.out.below b2 K3.out.lt)
 have B2:=zh (B1.out.trans (b2.mono B1.out.size))
 clear b2 B1 z0 z1 z2 z3 z4 z5 z6 z7
 cases hw:rightW m.pl
 ·have HE:Hid (checkW m.pl=210):=by show _=_;unfold checkW;rw[hw];rfl
  have HX:Hid (plX m.pl r=none):=by show _=_;unfold plX;rw[hw,if_neg (by simp)]
  have HY:Hid (plXE m.pl r=210):=by show _=_;unfold plXE;rw[hw];rfl
  rw[HE.out]
  clear hw
  have y0:w2.cell? ⟨w.heap.size+1,0,none⟩=some (.int .i64 0):=K1.out.cell 0
  have y1:w2.cell? ⟨w.heap.size+2,0,none⟩=some (.bool false):=K2.out.cell 0
  have y2:w2.cell? ⟨w.heap.size+3,0,none⟩=some (.int .i64 0):=K3.out.cell 0
  have f0:=K1.out.frozen 0
  have f1:=K2.out.frozen 0
  have f2:=K3.out.frozen 0
  have HPUT:=zh (put3 K1.out K2.out K3.out (.int .i64 0) (.bool false) (.int .i64 210))
  have BF:=zh (B2.out.trans (HPUT.out.2.2.2.below B2.out.size fun j hj=>by constructor<;>omega))
  go_wp2_with fail
  first | rw[Exit.noGoto_ret] | skip
  refine leaves_marks (B:=0) (C:=fun _=>False) ([]) _ (MarksAt.nil _ _ _) fun w6 hk=>?_
  have p0:=(hk.blk HPUT.out.1 (by simp)).cell 0
  have p1:=(hk.blk HPUT.out.2.1 (by simp)).cell 0
  have p2:=(hk.blk HPUT.out.2.2.1 (by simp)).cell 0
  exact⟨.tuple #[.int .i64 0,.bool false,.int .i64 210],by simp[results,Tryz.results15,go_sem,p0,p1,p2],by rw[HX.out,HY.out];rfl,BF.out.trans (hk.below BF.out.size fun _ _=>by simp)⟩
 have HE:Hid (checkW m.pl=0):=by show _=_;unfold checkW;rw[hw];rfl
 have HIZ:=zh (inZ hw)
 have HFA:=zh (HA.out.fair hw)
 rw[HE.out]
 by_cases hr:1≤r∧r≤10
 ·have HX:Hid (plX m.pl r=ruPlace m.pl r.toNat):=by show _=_;unfold plX;rw[hw,if_pos ⟨rfl,hr⟩]
  have HY:Hid (plXE m.pl r=0):=by show _=_;unfold plXE;rw[hw,if_pos rfl,if_pos hr]
  obtain⟨q,rfl⟩:∃ q:Nat,r=(q:Int):=⟨r.toNat,by omega⟩
  rw[Int.toNat_natCast] at HX
  have hq1:1≤q:=by omega
  have hq2:q≤10:=by omega
  have HIDX:Hid (∀ W:World,(Instr.index 74 (.agg ruArr) (.int .i64 (q:Int))).run Tryz.prog W=.ok (.func (.func (ruF q)) #[] #[]) W):=fun W=>ruIdx hq1 hq2 W
  have HCF:Hid (∀ (wr:SH) (rows:List SH) (Bl:Nat) (u:World),LookZ m wr rows Bl u.heap.size u→Calls Tryz.prog (ruF q) #[.pointer (some ⟨Bl,0,none⟩)] u (RuleIs q m.pl u)):=fun wr rows Bl u hl=>ruF_any hq1 hq2 m wr rows Bl u HIZ.out HFA.out hl
  have hge:¬(q:Int)<1:=by omega
  have hle:¬(q:Int) > 10:=by omega
  have heg:=eg_ruF hq1 hq2
  have HPQ:=zh hr
  clear hw hr hq1 hq2
  generalize ruF q=fq at *
  go_upto_region 6 with fail
  go_cut [25] from 20 to 25 (fun s25 wx=>∃ (gf:FuncId) (lb:Array Value) (N:Nat),s25=.func (.func gf) #[] lb∧(∀ args W,(callFunc gf args).run Tryz.prog W=.ok (.enter gf args) W)∧Hid (FirstSeq 5 Tryz.prog gf lb (ruPlace m.pl q) N wx)∧Hid (N≤wx.heap.size∧w.heap.size+3<N)∧Hid (Blk wx (w.heap.size+1) 3 #[.int .i64 0])∧Hid (Blk wx (w.heap.size+2) 4 #[.bool false])∧Hid (Blk wx (w.heap.size+3) 33 #[.int .i64 0])∧Hid (Below w.heap.size w wx))
  case first =>
   refine wp_region_noPanic ?_
   refine wp_region_K (S:=(fun W=>Blk W w.heap.size 28 m.cs)) 5 (by kernel_rfl) (Blk.drew KH.out) (fun hHeld=>?_)
   have KH:=zh KH.out.drew
   have K1:=zh K1.out.drew
   have K2:=zh K2.out.drew
   have K3:=zh K3.out.drew
   have B2:=zh B2.out.drew
   generalize w2.drew=wd at *
   refine ka 1 (some 21) (.int .i64 (q:Int)) rfl rfl (fun w'=>by go_simp) ?_
   try simp only[Act.put,zK]
   refine kr [0,3] ?_
   refine kc rfl (fun K hK=>?_) ?_
   ·go_simp
    refine (asks_any wd).mono ?_
    rintro r3 u0 ⟨rfl,bb⟩
    have KH:=zh (KH.out.below bb KH.out.lt)
    have K1:=zh (K1.out.below bb K1.out.lt)
    have K2:=zh (K2.out.below bb K2.out.lt)
    have K3:=zh (K3.out.below bb K3.out.lt)
    have B2:=zh (B2.out.trans (bb.mono B2.out.size))
    clear bb hHeld
    go_simp
    refine hK.out _ _ KH.out (fun hHeld=>?_)
    clear hK K
    try simp only[Act.put,zK]
    refine kv 2 (some 22) (.func (.func fq) #[] #[]) rfl rfl (fun w' hSw=>by have c9:=HIDX.out w';go_simp) ?_
    try simp only[Act.put,zK]
    refine kr [3] ?_
    refine kc rfl (fun K hK=>?_) kn
    obtain⟨z0,z1,z2,z3,z4,z5,z6,z7⟩:=c8 KH.out
    go_simp
    clear hHeld z0 z1 z2 z3 z4 z5 z6 z7
    refine hK.out _ _ KH.out (fun hHeld=>?_)
    clear hK K
    try simp only[Act.put,zK]
    refine kr [4] ?_
    refine kc rfl (fun K hK=>?_) kn
    go_simp
    refine (lookAt_any m w.heap.size u0 HIZ.out HFA.out B2.out.size (HA.out.rd.on B2.out)).mono ?_
    rintro r4 u1 ⟨Bl,wrr,rows,rfl,hlk,bb⟩
    have HL:=zh (hlk u1 (Keep.refl _ _))
    have KH:=zh (KH.out.below bb KH.out.lt)
    have K1:=zh (K1.out.below bb K1.out.lt)
    have K2:=zh (K2.out.below bb K2.out.lt)
    have K3:=zh (K3.out.below bb K3.out.lt)
    have B2:=zh (B2.out.trans (bb.mono B2.out.size))
    clear bb hlk hHeld
    go_simp
    refine hK.out _ _ KH.out (fun hHeld=>?_)
    clear hK K
    try simp only[Act.put,zK]
    refine kr [5] ?_
    refine kz rfl (fun K hK=>?_)
    go_simp
    clear hHeld
    refine (HCF.out _ _ _ _ HL.out).mono ?_
    rintro r5 u2 ⟨b5,gf,lb,rfl,heg2,hseq⟩
    have HN:Hid (u1.heap.size≤u2.heap.size∧w.heap.size+3<u1.heap.size):=⟨b5.size,K3.out.lt⟩
    have HSQ:=zh (hseq 5)
    have KH:=zh (KH.out.below b5 KH.out.lt)
    have K1:=zh (K1.out.below b5 K1.out.lt)
    have K2:=zh (K2.out.below b5 K2.out.lt)
    have K3:=zh (K3.out.below b5 K3.out.lt)
    have B2:=zh (B2.out.trans (b5.mono B2.out.size))
    clear b5 hseq heg
    go_simp
    refine hK.out _ _ ?_
    clear hK K
    try simp only[Act.put]
    refine kd (by kernel_rfl) ?_ _
    refine NoPanic.normal ?_
    go_wp2_with fail
    go_meet
    exact⟨gf,lb,_,rfl,heg2,HSQ.out,HN.out,K1.out,K2.out,K3.out,B2.out⟩
   refine kc rfl (fun K hK=>?_) ?_
   ·obtain⟨z0,z1,z2,z3,z4,z5,z6,z7⟩:=c8 KH.out
    go_simp
    clear hHeld z0 z1 z2 z3 z4 z5 z6 z7
    refine hK.out _ _ KH.out (fun hHeld=>?_)
    clear hK K
    try simp only[Act.put,zK]
    refine kr [0] ?_
    refine kc rfl (fun K hK=>?_) kn
    go_simp
    refine (asks_any wd).mono ?_
    rintro r3 u0 ⟨rfl,bb⟩
    have KH:=zh (KH.out.below bb KH.out.lt)
    have K1:=zh (K1.out.below bb K1.out.lt)
    have K2:=zh (K2.out.below bb K2.out.lt)
    have K3:=zh (K3.out.below bb K3.out.lt)
    have B2:=zh (B2.out.trans (bb.mono B2.out.size))
    clear bb hHeld
    go_simp
    refine hK.out _ _ KH.out (fun hHeld=>?_)
    clear hK K
    try simp only[Act.put,zK]
    refine kv 2 (some 22) (.func (.func fq) #[] #[]) rfl rfl (fun w' hSw=>by have c9:=HIDX.out w';go_simp) ?_
    try simp only[Act.put,zK]
    refine kr [4] ?_
    refine kc rfl (fun K hK=>?_) kn
    go_simp
    refine (lookAt_any m w.heap.size u0 HIZ.out HFA.out B2.out.size (HA.out.rd.on B2.out)).mono ?_
    rintro r4 u1 ⟨Bl,wrr,rows,rfl,hlk,bb⟩
    have HL:=zh (hlk u1 (Keep.refl _ _))
    have KH:=zh (KH.out.below bb KH.out.lt)
    have K1:=zh (K1.out.below bb K1.out.lt)
    have K2:=zh (K2.out.below bb K2.out.lt)
    have K3:=zh (K3.out.below bb K3.out.lt)
    have B2:=zh (B2.out.trans (bb.mono B2.out.size))
    clear bb hlk hHeld
    go_simp
    refine hK.out _ _ KH.out (fun hHeld=>?_)
    clear hK K
    try simp only[Act.put,zK]
    refine kr [5] ?_
    refine kz rfl (fun K hK=>?_)
    go_simp
    clear hHeld
    refine (HCF.out _ _ _ _ HL.out).mono ?_
    rintro r5 u2 ⟨b5,gf,lb,rfl,heg2,hseq⟩
    have HN:Hid (u1.heap.size≤u2.heap.size∧w.heap.size+3<u1.heap.size):=⟨b5.size,K3.out.lt⟩
    have HSQ:=zh (hseq 5)
    have KH:=zh (KH.out.below b5 KH.out.lt)
    have K1:=zh (K1.out.below b5 K1.out.lt)
    have K2:=zh (K2.out.below b5 K2.out.lt)
    have K3:=zh (K3.out.below b5 K3.out.lt)
    have B2:=zh (B2.out.trans (b5.mono B2.out.size))
    clear b5 hseq heg
    go_simp
    refine hK.out _ _ ?_
    clear hK K
    try simp only[Act.put]
    refine kd (by kernel_rfl) ?_ _
    refine NoPanic.normal ?_
    go_wp2_with fail
    go_meet
    exact⟨gf,lb,_,rfl,heg2,HSQ.out,HN.out,K1.out,K2.out,K3.out,B2.out⟩
   exact kn
  clear KH K1 K2 K3 B2 HCF HIDX heg
  obtain⟨gf,lb,N,rfl,heg,HSQ,HN,K1,K2,K3,B2⟩:=hcut
  go_wp2_with fail
  refine (wpIn_wide (n:=6)).1 ?_
  refine range_first none (by omega) (gf:=gf) (lb:=lb) rfl heg (f:=ruPlace m.pl q) (N:=N) HSQ.out HN.out.1 26 8 rfl (PcI w N (ruPlace m.pl q) wc) ?hIx ?assign ?body ?done ?stop
  case hIx =>
   rintro X Z ⟨p,h1,h2,h3,h4,h5⟩ hk
   have hn:=HN.out
   exact⟨p,h1,h2.trans (hk.mono fun j _ hj=>by constructor<;>omega),hk.blk h3 (by constructor<;>omega),hk.blk h4 (by constructor<;>omega),hk.blk h5 (by constructor<;>omega)⟩
  case assign =>
   intro l2 p Y K4 hK
   simp only[List.setIfInBounds_toArray,List.set_cons_zero,List.set_cons_succ] at hK ⊢
   gi_wp2_with fail
   exact hK
  case body =>
   rintro l2 k X hf hbN hsz hobj
   simp only[List.setIfInBounds_toArray,List.set_cons_zero,List.set_cons_succ]
   have hn:=HN.out
   have BX:=zh (Keep.of_below hbN)
   have K1:=zh (BX.out.blk K1.out (by omega))
   have K2:=zh (BX.out.blk K2.out (by omega))
   have K3:=zh (BX.out.blk K3.out (by omega))
   have y0:X.cell? ⟨w.heap.size+1,0,none⟩=some (.int .i64 0):=K1.out.cell 0
   have y1:X.cell? ⟨w.heap.size+2,0,none⟩=some (.bool false):=K2.out.cell 0
   have y2:X.cell? ⟨w.heap.size+3,0,none⟩=some (.int .i64 0):=K3.out.cell 0
   have f0:=K1.out.frozen 0
   have f1:=K2.out.frozen 0
   have f2:=K3.out.frozen 0
   have HF:=zh hf
   have HP:=zh (put3 K1.out K2.out K3.out (.int .i64 (k:Int)) (.bool true) (.int .i64 0))
   clear hf hbN hsz hobj hn
   gi_wp2_with fail
   have hn:=HN.out
   exact⟨rfl,HP.out.2.2.2.mono fun j _ hj=>by omega,k,HF.out,(BX.out.mono fun j _ hj=>hj.1).trans (HP.out.2.2.2.mono fun j _ hj=>hj.2),HP.out.1,HP.out.2.1,HP.out.2.2.1⟩
  case done =>
   rintro D W hD hf hbN hdef
   have hn:=HN.out
   have HK:=zh (Keep.of_below hbN)
   have K1:=zh (HK.out.blk K1.out (by omega))
   have K2:=zh (HK.out.blk K2.out (by omega))
   have K3:=zh (HK.out.blk K3.out (by omega))
   have MK:Hid (MarksAt w.heap.size (fun _=>False) [D] W):=(MarksAt.nil _ _ _).cons (by have:=B2.out.size;omega) id hdef (by simp)
   have B2:=zh (B2.out.trans (HK.out.below B2.out.size fun j hj=>by omega))
   have HX:=zh (HX.out.trans hf)
   clear hD hf hbN hdef hn
   dsimp only
   show Exit.inBlock _ _ _ {tmps:=_,defers:=[mkMark D]} _
   have y0:W.cell? ⟨w.heap.size+1,0,none⟩=some (.int .i64 0):=K1.out.cell 0
   have y1:W.cell? ⟨w.heap.size+2,0,none⟩=some (.bool false):=K2.out.cell 0
   have y2:W.cell? ⟨w.heap.size+3,0,none⟩=some (.int .i64 0):=K3.out.cell 0
   have f0:=K1.out.frozen 0
   have f1:=K2.out.frozen 0
   have f2:=K3.out.frozen 0
   have HPUT:=zh (put3 K1.out K2.out K3.out (.int .i64 0) (.bool false) (.int .i64 0))
   have BF:=zh (B2.out.trans (HPUT.out.2.2.2.below B2.out.size fun j hj=>by constructor<;>omega))
   have HMB:=zh (MK.out.keep HPUT.out.2.2.2 fun D hD=>⟨MK.out.ne K1.out hD,MK.out.ne K2.out hD,MK.out.ne K3.out hD⟩)
   go_wp2_with fail
   first | rw[Exit.noGoto_ret] | skip
   refine leaves_marks ([D]) _ (HMB.out) fun w6 hk=>?_
   have p0:=(hk.blk HPUT.out.1 (fun h=>HMB.out.ne HPUT.out.1 h rfl)).cell 0
   have p1:=(hk.blk HPUT.out.2.1 (fun h=>HMB.out.ne HPUT.out.2.1 h rfl)).cell 0
   have p2:=(hk.blk HPUT.out.2.2.1 (fun h=>HMB.out.ne HPUT.out.2.2.1 h rfl)).cell 0
   exact⟨.tuple #[.int .i64 0,.bool false,.int .i64 0],by simp[results,Tryz.results15,go_sem,p0,p1,p2],by rw[HX.out,HY.out];rfl,BF.out.trans (hk.below BF.out.size fun j hj hD=>by have:=(HMB.out.all j hD).1;omega)⟩
  rintro D W hD hf ⟨p,hp,hk,h1,h2,h3⟩ hdef
  have hn:=HN.out
  have MK:Hid (MarksAt w.heap.size (fun _=>False) [D] W):=(MarksAt.nil _ _ _).cons (by have:=B2.out.size;omega) id hdef (by simp)
  have BF:=zh (B2.out.trans (hk.below B2.out.size fun j hj=>by refine⟨?_,?_,?_,?_⟩<;>omega))
  have K1:=zh h1
  have K2:=zh h2
  have K3:=zh h3
  have HX:=zh (HX.out.trans hp)
  clear hD hf hp hk h1 h2 h3 hdef hn
  dsimp only
  show Code.wpIn _ _ _ Code.ret _ _ _
  unfold mkMark
  gi_wp2_with fail
  refine leaves_marks [D] _ MK.out fun w6 hk=>?_
  have p0:=(hk.blk K1.out fun h=>MK.out.ne K1.out h rfl).cell 0
  have p1:=(hk.blk K2.out fun h=>MK.out.ne K2.out h rfl).cell 0
  have p2:=(hk.blk K3.out fun h=>MK.out.ne K3.out h rfl).cell 0
  exact⟨.tuple #[.int .i64 (p:Int),.bool true,.int .i64 0],by simp[results,Tryz.results15,go_sem,p0,p1,p2],by rw[HX.out,HY.out];rfl,BF.out.trans (hk.below BF.out.size fun j hj hD=>by have:=(MK.out.all j hD).1;omega)⟩
 have HX:Hid (plX m.pl r=none):=by show _=_;unfold plX;rw[if_neg fun h=>hr h.2]
 have HY:Hid (plXE m.pl r=250):=by show _=_;unfold plXE;rw[hw,if_pos rfl,if_neg hr]
 clear hw
 by_cases h0:r<1
 ·clear hr
  have y0:w2.cell? ⟨w.heap.size+1,0,none⟩=some (.int .i64 0):=K1.out.cell 0
  have y1:w2.cell? ⟨w.heap.size+2,0,none⟩=some (.bool false):=K2.out.cell 0
  have y2:w2.cell? ⟨w.heap.size+3,0,none⟩=some (.int .i64 0):=K3.out.cell 0
  have f0:=K1.out.frozen 0
  have f1:=K2.out.frozen 0
  have f2:=K3.out.frozen 0
  have HPUT:=zh (put3 K1.out K2.out K3.out (.int .i64 0) (.bool false) (.int .i64 250))
  have BF:=zh (B2.out.trans (HPUT.out.2.2.2.below B2.out.size fun j hj=>by constructor<;>omega))
  go_wp2_with fail
  first | rw[Exit.noGoto_ret] | skip
  refine leaves_marks (B:=0) (C:=fun _=>False) ([]) _ (MarksAt.nil _ _ _) fun w6 hk=>?_
  have p0:=(hk.blk HPUT.out.1 (by simp)).cell 0
  have p1:=(hk.blk HPUT.out.2.1 (by simp)).cell 0
  have p2:=(hk.blk HPUT.out.2.2.1 (by simp)).cell 0
  exact⟨.tuple #[.int .i64 0,.bool false,.int .i64 250],by simp[results,Tryz.results15,go_sem,p0,p1,p2],by rw[HX.out,HY.out];rfl,BF.out.trans (hk.below BF.out.size fun _ _=>by simp)⟩
 have h1:r > 10:=by omega
 clear hr
 have y0:w2.cell? ⟨w.heap.size+1,0,none⟩=some (.int .i64 0):=K1.out.cell 0
 have y1:w2.cell? ⟨w.heap.size+2,0,none⟩=some (.bool false):=K2.out.cell 0
 have y2:w2.cell? ⟨w.heap.size+3,0,none⟩=some (.int .i64 0):=K3.out.cell 0
 have f0:=K1.out.frozen 0
 have f1:=K2.out.frozen 0
 have f2:=K3.out.frozen 0
 have HPUT:=zh (put3 K1.out K2.out K3.out (.int .i64 0) (.bool false) (.int .i64 250))
 have BF:=zh (B2.out.trans (HPUT.out.2.2.2.below B2.out.size fun j hj=>by constructor<;>omega))
 go_wp2_with fail
 first | rw[Exit.noGoto_ret] | skip
 refine leaves_marks (B:=0) (C:=fun _=>False) ([]) _ (MarksAt.nil _ _ _) fun w6 hk=>?_
 have p0:=(hk.blk HPUT.out.1 (by simp)).cell 0
 have p1:=(hk.blk HPUT.out.2.1 (by simp)).cell 0
 have p2:=(hk.blk HPUT.out.2.2.1 (by simp)).cell 0
 exact⟨.tuple #[.int .i64 0,.bool false,.int .i64 250],by simp[results,Tryz.results15,go_sem,p0,p1,p2],by rw[HX.out,HY.out];rfl,BF.out.trans (hk.below BF.out.size fun _ _=>by simp)⟩
end Go.Proofs.YtmkknbonmameoaaGreatDoor
