import Derived.Test.YtmkknbonmameoaaGreatDoorQ5
import Derived.Test.YtmkknbonmameoaaGreatDoorQ38
import Derived.Test.YtmkknbonmameoaaGreatDoorQ30
import Derived.Test.YtmkknbonmameoaaGreatDoorQ17
-- holds: YtmkknbonmameoaaGreatDoorHAr
namespace Go.Proofs.YtmkknbonmameoaaGreatDoor
open Go.RowKit Go.Shelf
def cutHM (h:HistM) (q:Nat):HistM:=⟨h.tr,h.se,h.ob,h.pr,(⟨h.ev.1.A,q,h.ev.1.c⟩,h.ev.2.take q),(⟨none,0,0⟩,[]),(⟨none,0,0⟩,[]),(⟨none,0,0⟩,[])⟩
theorem cutHM_pl (h:HistM) (q:Nat):(cutHM h q).pl=cutH h.pl q:=by
 unfold cutHM HistM.pl cutH
 simp only[List.map_take,List.map_nil]
theorem cut_small {H:Hist} (hS:Small H) (q:Nat):Small (cutH H q):=by
 refine⟨hS.tr,hS.se,hS.ob,hS.pr,?_,Nat.zero_le _,Nat.zero_le _,Nat.zero_le _,fun e he=>hS.sc e (List.mem_of_mem_take he),fun r hr=>(by cases hr),fun r hr=>(by cases hr),hS.tx⟩
 show (H.ev.take q).length≤200
 rw[List.length_take]
 have:=hS.ev
 omega
structure CutB (w:World) (Bx:Nat) (h:HistM) (q:Nat) (X Y:World):Prop where
 blk:Blk Y Bx 28 (cutHM h q).cs
 rd:HRd Y Y.heap.size (cutHM h q)
 below:Below w.heap.size w Y
theorem HBx.cut {w X:World} {Bx:Nat} {h:HistM} (c:HBx w X Bx h) (hB:w.heap.size≤Bx) (hw:Below w.heap.size w X) {q:Nat} (hq:q≤h.ev.1.n) :
 Blk (X.setCell ⟨Bx,4,none⟩ (.slice h.ev.1.A q h.ev.1.c)) Bx 28 (h.cs.setIfInBounds 4 (.slice h.ev.1.A q h.ev.1.c))∧Blk ((X.setCell ⟨Bx,4,none⟩ (.slice h.ev.1.A q h.ev.1.c)).setCell ⟨Bx,5,none⟩ (.slice none 0 0)) Bx 28 ((h.cs.setIfInBounds 4 (.slice h.ev.1.A q h.ev.1.c)).setIfInBounds 5 (.slice none 0 0))∧Blk (((X.setCell ⟨Bx,4,none⟩ (.slice h.ev.1.A q h.ev.1.c)).setCell ⟨Bx,5,none⟩ (.slice none 0 0)).setCell ⟨Bx,6,none⟩ (.slice none 0 0)) Bx 28 (((h.cs.setIfInBounds 4 (.slice h.ev.1.A q h.ev.1.c)).setIfInBounds 5 (.slice none 0 0)).setIfInBounds 6 (.slice none 0 0))∧CutB w Bx h q X ((((X.setCell ⟨Bx,4,none⟩ (.slice h.ev.1.A q h.ev.1.c)).setCell ⟨Bx,5,none⟩ (.slice none 0 0)).setCell ⟨Bx,6,none⟩ (.slice none 0 0)).setCell ⟨Bx,7,none⟩ (.slice none 0 0)):=by
 have k1:=c.blk.set_ 4 (.slice h.ev.1.A q h.ev.1.c)
 have k2:=k1.set_ 5 (.slice none 0 0)
 have k3:=k2.set_ 6 (.slice none 0 0)
 have k4:=k3.set_ 7 (.slice none 0 0)
 have o1:=c.own.keepT (KeepT.set c.blk 4 (.slice h.ev.1.A q h.ev.1.c)) (by decide) (by decide) (by decide) (by decide) (by decide) (by decide) (by decide)
 have o2:=o1.keepT (KeepT.set k1 5 (.slice none 0 0)) (by decide) (by decide) (by decide) (by decide) (by decide) (by decide) (by decide)
 have o3:=o2.keepT (KeepT.set k2 6 (.slice none 0 0)) (by decide) (by decide) (by decide) (by decide) (by decide) (by decide) (by decide)
 have o4:=o3.keepT (KeepT.set k3 7 (.slice none 0 0)) (by decide) (by decide) (by decide) (by decide) (by decide) (by decide) (by decide)
 have r:=o4.rd
 refine⟨k1,k2,k3,k4,⟨r.tr,r.se,r.ob,r.pr,reads_cutR evCs_len r.ev hq,Reads.none_,Reads.none_,Reads.none_,fun p hp=>r.sc p (List.mem_of_mem_take hp),fun p hp=>(by cases hp),fun p hp=>(by cases hp)⟩,?_⟩
 exact (((hw.setCell (p:=⟨Bx,4,none⟩) hB _).setCell (p:=⟨Bx,5,none⟩) hB _).setCell (p:=⟨Bx,6,none⟩) hB _).setCell (p:=⟨Bx,7,none⟩) hB _
theorem cut_q (at_:Int) (n:Nat):∃ q:Nat,q≤n∧(IntKind.u64.wrap at_).tmod ((n:Int)+1)=(q:Int):=by
 have h0:0≤IntKind.u64.wrap at_:=by rw[IntKind.wrap_u64];omega
 have h1:=Int.emod_nonneg (IntKind.u64.wrap at_) (show ((n:Int)+1)≠0 by omega)
 have h2:=Int.emod_lt_of_pos (IntKind.u64.wrap at_) (show (0:Int)<(n:Int)+1 by omega)
 refine⟨(IntKind.u64.wrap at_ % ((n:Int)+1)).toNat,by omega,?_⟩
 rw[Int.tmod_eq_emod_of_nonneg h0]
 omega
set_option maxRecDepth 100000 in
set_option maxHeartbeats 3000000 in
theorem rulesBegins_core {I:World→Prop} (C:RulesC I) (m:HistM) (at_:Int) (hIT:∀ W,I W→Tabs W) (w:World) (hI:I w) (ha:HArg w m):Calls Tryz.prog 7 #[.agg #[.slice m.tr.1.A m.tr.1.n m.tr.1.c,.slice m.se.1.A m.se.1.n m.se.1.c,.slice m.ob.1.A m.ob.1.n m.ob.1.c,.slice m.pr.1.A m.pr.1.n m.pr.1.c,.slice m.ev.1.A m.ev.1.n m.ev.1.c,.slice m.od.1.A m.od.1.n m.od.1.c,.slice m.ma.1.A m.ma.1.n m.ma.1.c,.slice m.wa.1.A m.wa.1.n m.wa.1.c],.int .i64 at_] w fun x w'=>x=.returned (.bool true)∧Below w.heap.size w w':=by
 have HIT:=zh hIT
 clear hIT
 obtain⟨kh,b0,hs0⟩:=ibox w #[.slice m.tr.1.A m.tr.1.n m.tr.1.c,.slice m.se.1.A m.se.1.n m.se.1.c,.slice m.ob.1.A m.ob.1.n m.ob.1.c,.slice m.pr.1.A m.pr.1.n m.pr.1.c,.slice m.ev.1.A m.ev.1.n m.ev.1.c,.slice m.od.1.A m.od.1.n m.od.1.c,.slice m.ma.1.A m.ma.1.n m.ma.1.c,.slice m.wa.1.A m.wa.1.n m.wa.1.c] 28
 obtain⟨W0,hW0⟩:∃ W0,W0=w.alloc (.cells #[.slice m.tr.1.A m.tr.1.n m.tr.1.c,.slice m.se.1.A m.se.1.n m.se.1.c,.slice m.ob.1.A m.ob.1.n m.ob.1.c,.slice m.pr.1.A m.pr.1.n m.pr.1.c,.slice m.ev.1.A m.ev.1.n m.ev.1.c,.slice m.od.1.A m.od.1.n m.od.1.c,.slice m.ma.1.A m.ma.1.n m.ma.1.c,.slice m.wa.1.A m.wa.1.n m.wa.1.c] 28):=⟨_,rfl⟩
 obtain⟨Bm,hBm⟩:∃ B,B=w.heap.size:=⟨_,rfl⟩
 rw[← hW0] at kh b0 hs0
 rw[← hBm] at kh
 have KH:Hid (Blk W0 Bm 28 m.cs):=kh
 have BW:=zh b0
 have HARG:=zh ha
 have HI:=zh hI
 have HS:=zh (F15.few_small m.pl)
 clear kh b0 hs0 hI ha
 go_enter Tryz.func7,Tryz.ntmps7
 go_upto_region 1 with fail
 rw[← hBm,← hW0]
 clear hBm hW0
 go_wp2_with fail
 refine (wakes15_any C W0 (C.on HI.out BW.out)).mono ?_
 rintro _ W1 ⟨rfl,bb⟩
 have KH:=zh (KH.out.below bb KH.out.lt)
 have BW:=zh (BW.out.trans (bb.mono BW.out.size))
 clear bb
 obtain⟨z0,z1,z2,z3,z4,z5,z6,z7⟩:=c8 KH.out
 go_wp2_with fail
 refine (F15.few15_any m W1 (HARG.out.on BW.out)).mono ?_
 rintro _ Y ⟨h,rfl,ho,hp,bb⟩
 have hbx:=HBx.new (w:=w) ho BW.out.size #[.slice h.tr.1.A h.tr.1.n h.tr.1.c,.slice h.se.1.A h.se.1.n h.se.1.c,.slice h.ob.1.A h.ob.1.n h.ob.1.c,.slice h.pr.1.A h.pr.1.n h.pr.1.c,.slice h.ev.1.A h.ev.1.n h.ev.1.c,.slice h.od.1.A h.od.1.n h.od.1.c,.slice h.ma.1.A h.ma.1.n h.ma.1.c,.slice h.wa.1.A h.wa.1.n h.wa.1.c] rfl
 have b2:Below Y.heap.size Y (Y.alloc (.cells #[.slice h.tr.1.A h.tr.1.n h.tr.1.c,.slice h.se.1.A h.se.1.n h.se.1.c,.slice h.ob.1.A h.ob.1.n h.ob.1.c,.slice h.pr.1.A h.pr.1.n h.pr.1.c,.slice h.ev.1.A h.ev.1.n h.ev.1.c,.slice h.od.1.A h.od.1.n h.od.1.c,.slice h.ma.1.A h.ma.1.n h.ma.1.c,.slice h.wa.1.A h.wa.1.n h.wa.1.c] 28)):=(Below.refl _ _).alloc (Nat.le_refl _) _
 have HBY:Hid (w.heap.size≤Y.heap.size):=Nat.le_trans BW.out.size bb.size
 have bb:=bb.trans (b2.mono bb.size)
 have KH:=zh (KH.out.below bb KH.out.lt)
 have BW:=zh (BW.out.trans (bb.mono BW.out.size))
 have HPh:=zh hp
 have HSh:Hid (Small h.pl):=by show Small h.pl;rw[hp];exact HS.out
 have Hh:=zh hbx
 clear z0 z1 z2 z3 z4 z5 z6 z7 ho hp bb b2 hbx
 go_upto_region 4 with fail
 generalize Y.alloc (.cells #[.slice h.tr.1.A h.tr.1.n h.tr.1.c,.slice h.se.1.A h.se.1.n h.se.1.c,.slice h.ob.1.A h.ob.1.n h.ob.1.c,.slice h.pr.1.A h.pr.1.n h.pr.1.c,.slice h.ev.1.A h.ev.1.n h.ev.1.c,.slice h.od.1.A h.od.1.n h.od.1.c,.slice h.ma.1.A h.ma.1.n h.ma.1.c,.slice h.wa.1.A h.wa.1.n h.wa.1.c] 28)=Xh at *
 generalize Y.heap.size=Bh at *
 obtain⟨z0,z1,z2,z3,z4,z5,z6,z7⟩:=c8 Hh.out.blk
 go_wp2_with fail
 refine (C.sound h Xh (C.on HI.out BW.out) (Hh.out.own.asked HSh.out)).mono ?_
 rintro _ X4 ⟨rfl,bb⟩
 clear z0 z1 z2 z3 z4 z5 z6 z7
 have Hh:=zh (Hh.out.on bb)
 have BW:=zh (BW.out.trans (bb.mono BW.out.size))
 clear bb
 cases hso:ruSound h.pl
 ·go_wp2_with fail
  go_ret
  exact⟨rfl,BW.out⟩
 have HSO:=zh hso
 have hsh:shapedB h.pl=true:=right_shaped (sound_iff.1 hso).1
 obtain⟨n,hn⟩:∃ n,h.ev.1.n=n:=⟨_,rfl⟩
 obtain⟨c,hc0⟩:∃ c,h.ev.1.c=c:=⟨_,rfl⟩
 obtain⟨q,hqn,hq⟩:=cut_q at_ n
 have hn6:n≤200:=by have h1:=HSh.out.ev;have h2:=Hh.out.rd.ev_len;omega
 have hnc:n≤c:=by have h1:=Hh.out.own.capsR.ev;omega
 obtain⟨n1,hn1⟩:∃ n1:Nat,n1=n+1:=⟨_,rfl⟩
 have hwr:IntKind.i64.wrap ((n:Int)+1)=(n1:Int):=by rw[IntWalk.i64_in _ (by omega)];omega
 have hu:IntKind.u64.wrap (n1:Int)=(n1:Int):=by rw[IntKind.wrap_u64];omega
 have hqm:(IntKind.u64.wrap at_).tmod (n1:Int)=(q:Int):=by rw[hn1];push_cast;exact hq
 have hq64:IntKind.i64.wrap (q:Int)=(q:Int):=IntWalk.i64_in _ (by omega)
 have hqw:wrap64 (q:Int)=(q:Int):=IntWalk.wrap64_in _ (by omega)
 have hn0:¬(n1:Int)=0:=by omega
 have hn0n:¬n1=0:=by omega
 have hn0b:((n1:Int)==0)=false:=by simp;omega
 have hcut:=fun W=>rcut_ev h.ev.1.A n c q (Nat.le_trans hqn hnc) W
 have HSHC:Hid (shapedB (cutH h.pl q)=true):=cut_shaped hsh q
 have HSMC:Hid (Small (cutH h.pl q)):=cut_small HSh.out q
 have HN:=zh hn
 have HC0:=zh hc0
 clear hso hsh hn hc0 hq hn1
 go_upto_region 6 with fail
 refine wp_region_noPanic ?_
 refine wp_region_K (S:=fun W=>Blk W Bh 28 h.cs) 13 (by kernel_rfl) (Blk.drew Hh.out.blk) (fun hHeld=>?_)
 have Hh:=zh (Hh.out.on (Below.refl _ _).drew)
 have BW:=zh BW.out.drew
 generalize X4.drew=wd at *
 refine ka 0 (some 21) (.pointer (some ⟨Bh,4,none⟩)) rfl rfl (fun w'=>by go_simp) ?_
 try simp only[Act.put,zK]
 refine kv 1 (some 22) (.slice h.ev.1.A n c) rfl rfl (fun w' hSw=>by have c9:w'.cell? ⟨Bh,4,none⟩=some (.slice h.ev.1.A n c):=(by rw[← HN.out,← HC0.out];exact Blk.cell (w:=w') hSw 4);go_simp) ?_
 try simp only[Act.put,zK]
 refine ka 2 (some 23) (.int .i64 at_) rfl rfl (fun w'=>by go_simp) ?_
 try simp only[Act.put,zK]
 refine ka 3 (some 24) (.int .u64 (IntKind.u64.wrap at_)) rfl rfl (fun w'=>by go_simp) ?_
 try simp only[Act.put,zK]
 refine ka 4 (some 25) (.pointer (some ⟨Bh,4,none⟩)) rfl rfl (fun w'=>by go_simp) ?_
 try simp only[Act.put,zK]
 refine kv 5 (some 26) (.slice h.ev.1.A n c) rfl rfl (fun w' hSw=>by have c9:w'.cell? ⟨Bh,4,none⟩=some (.slice h.ev.1.A n c):=(by rw[← HN.out,← HC0.out];exact Blk.cell (w:=w') hSw 4);go_simp) ?_
 try simp only[Act.put,zK]
 refine ka 6 (some 27) (.int .i64 (n:Int)) rfl rfl (fun w'=>by go_simp) ?_
 try simp only[Act.put,zK]
 refine ka 7 (some 28) (.int .i64 (n1:Int)) rfl rfl (fun w'=>by go_simp) ?_
 try simp only[Act.put,zK]
 refine ka 8 (some 29) (.int .u64 (n1:Int)) rfl rfl (fun w'=>by go_simp) ?_
 try simp only[Act.put,zK]
 refine ka 9 (some 30) (.int .u64 (q:Int)) rfl rfl (fun w'=>by go_simp) ?_
 try simp only[Act.put,zK]
 refine ka 10 (some 31) (.int .i64 (q:Int)) rfl rfl (fun w'=>by go_simp) ?_
 try simp only[Act.put,zK]
 refine ka 11 (some 32) (.slice h.ev.1.A q c) rfl rfl (fun w'=>by go_simp) ?_
 try simp only[Act.put,zK]
 refine ka 12 (some 33) (.pointer (some ⟨Bh,4,none⟩)) rfl rfl (fun w'=>by go_simp) ?_
 try simp only[Act.put,zK]
 refine kr [13] ?_
 refine kz (o:={dst:=none,op:=Op.store 23 (Operand.tmp 33) (Operand.tmp 32),type:=0,pos:="outright.go:64",after:=#[⟨12,.data⟩,⟨11,.data⟩,⟨0,.phase⟩,⟨1,.phase⟩,⟨2,.phase⟩,⟨3,.phase⟩,⟨4,.phase⟩,⟨5,.phase⟩,⟨6,.phase⟩,⟨7,.phase⟩,⟨8,.phase⟩,⟨9,.phase⟩,⟨10,.phase⟩,⟨11,.phase⟩],guard:=none}) rfl (fun K hK=>?_)
 have y4:wd.cell? ⟨Bh,4,none⟩=some (.slice h.ev.1.A n c):=by rw[← HN.out,← HC0.out];exact Hh.out.blk.cell 4
 have f4:=Hh.out.blk.frozen 4
 go_simp
 clear y4 f4 hHeld
 refine hK.out _ _ ?_
 clear hK K
 try simp only[Act.put]
 refine kd (by kernel_rfl) ?_ _
 refine NoPanic.normal ?_
 obtain⟨k1,k2,k3,kc⟩:=Hh.out.cut HBY.out BW.out (q:=q) (by rw[HN.out];exact hqn)
 rw[HC0.out] at k1 k2 k3 kc
 have y5:(wd.setCell ⟨Bh,4,none⟩ (.slice h.ev.1.A q c)).cell? ⟨Bh,5,none⟩=some (.slice h.od.1.A h.od.1.n h.od.1.c):=k1.cell 5
 have f5:=k1.frozen 5
 have y6:((wd.setCell ⟨Bh,4,none⟩ (.slice h.ev.1.A q c)).setCell ⟨Bh,5,none⟩ (.slice none 0 0)).cell? ⟨Bh,6,none⟩=some (.slice h.ma.1.A h.ma.1.n h.ma.1.c):=k2.cell 6
 have f6:=k2.frozen 6
 have y7:(((wd.setCell ⟨Bh,4,none⟩ (.slice h.ev.1.A q c)).setCell ⟨Bh,5,none⟩ (.slice none 0 0)).setCell ⟨Bh,6,none⟩ (.slice none 0 0)).cell? ⟨Bh,7,none⟩=some (.slice h.wa.1.A h.wa.1.n h.wa.1.c):=k3.cell 7
 have f7:=k3.frozen 7
 have KC:=zh kc
 clear k1 k2 k3 kc
 obtain⟨g,hg⟩:∃ g,cutHM h q=g:=⟨_,rfl⟩
 have z0:((((wd.setCell ⟨Bh,4,none⟩ (.slice h.ev.1.A q c)).setCell ⟨Bh,5,none⟩ (.slice none 0 0)).setCell ⟨Bh,6,none⟩ (.slice none 0 0)).setCell ⟨Bh,7,none⟩ (.slice none 0 0)).cell? ⟨Bh,0,none⟩=some (.slice g.tr.1.A g.tr.1.n g.tr.1.c):=by rw[← hg];exact KC.out.blk.cell 0
 have z1:((((wd.setCell ⟨Bh,4,none⟩ (.slice h.ev.1.A q c)).setCell ⟨Bh,5,none⟩ (.slice none 0 0)).setCell ⟨Bh,6,none⟩ (.slice none 0 0)).setCell ⟨Bh,7,none⟩ (.slice none 0 0)).cell? ⟨Bh,1,none⟩=some (.slice g.se.1.A g.se.1.n g.se.1.c):=by rw[← hg];exact KC.out.blk.cell 1
 have z2:((((wd.setCell ⟨Bh,4,none⟩ (.slice h.ev.1.A q c)).setCell ⟨Bh,5,none⟩ (.slice none 0 0)).setCell ⟨Bh,6,none⟩ (.slice none 0 0)).setCell ⟨Bh,7,none⟩ (.slice none 0 0)).cell? ⟨Bh,2,none⟩=some (.slice g.ob.1.A g.ob.1.n g.ob.1.c):=by rw[← hg];exact KC.out.blk.cell 2
 have z3:((((wd.setCell ⟨Bh,4,none⟩ (.slice h.ev.1.A q c)).setCell ⟨Bh,5,none⟩ (.slice none 0 0)).setCell ⟨Bh,6,none⟩ (.slice none 0 0)).setCell ⟨Bh,7,none⟩ (.slice none 0 0)).cell? ⟨Bh,3,none⟩=some (.slice g.pr.1.A g.pr.1.n g.pr.1.c):=by rw[← hg];exact KC.out.blk.cell 3
 have z4:((((wd.setCell ⟨Bh,4,none⟩ (.slice h.ev.1.A q c)).setCell ⟨Bh,5,none⟩ (.slice none 0 0)).setCell ⟨Bh,6,none⟩ (.slice none 0 0)).setCell ⟨Bh,7,none⟩ (.slice none 0 0)).cell? ⟨Bh,4,none⟩=some (.slice g.ev.1.A g.ev.1.n g.ev.1.c):=by rw[← hg];exact KC.out.blk.cell 4
 have z5:((((wd.setCell ⟨Bh,4,none⟩ (.slice h.ev.1.A q c)).setCell ⟨Bh,5,none⟩ (.slice none 0 0)).setCell ⟨Bh,6,none⟩ (.slice none 0 0)).setCell ⟨Bh,7,none⟩ (.slice none 0 0)).cell? ⟨Bh,5,none⟩=some (.slice g.od.1.A g.od.1.n g.od.1.c):=by rw[← hg];exact KC.out.blk.cell 5
 have z6:((((wd.setCell ⟨Bh,4,none⟩ (.slice h.ev.1.A q c)).setCell ⟨Bh,5,none⟩ (.slice none 0 0)).setCell ⟨Bh,6,none⟩ (.slice none 0 0)).setCell ⟨Bh,7,none⟩ (.slice none 0 0)).cell? ⟨Bh,6,none⟩=some (.slice g.ma.1.A g.ma.1.n g.ma.1.c):=by rw[← hg];exact KC.out.blk.cell 6
 have z7:((((wd.setCell ⟨Bh,4,none⟩ (.slice h.ev.1.A q c)).setCell ⟨Bh,5,none⟩ (.slice none 0 0)).setCell ⟨Bh,6,none⟩ (.slice none 0 0)).setCell ⟨Bh,7,none⟩ (.slice none 0 0)).cell? ⟨Bh,7,none⟩=some (.slice g.wa.1.A g.wa.1.n g.wa.1.c):=by rw[← hg];exact KC.out.blk.cell 7
 have HPG:Hid (g.pl=cutH h.pl q):=by show g.pl=_;rw[← hg];exact cutHM_pl h q
 have HRG:Hid (HRd ((((wd.setCell ⟨Bh,4,none⟩ (.slice h.ev.1.A q c)).setCell ⟨Bh,5,none⟩ (.slice none 0 0)).setCell ⟨Bh,6,none⟩ (.slice none 0 0)).setCell ⟨Bh,7,none⟩ (.slice none 0 0)) ((((wd.setCell ⟨Bh,4,none⟩ (.slice h.ev.1.A q c)).setCell ⟨Bh,5,none⟩ (.slice none 0 0)).setCell ⟨Bh,6,none⟩ (.slice none 0 0)).setCell ⟨Bh,7,none⟩ (.slice none 0 0)).heap.size g):=by show HRd _ _ g;rw[← hg];exact KC.out.rd
 have BW:=zh KC.out.below
 clear hg KC
 go_wp2_with fail
 clear y5 f5 y6 f6 y7 f7
 generalize ((((wd.setCell ⟨Bh,4,none⟩ (.slice h.ev.1.A q c)).setCell ⟨Bh,5,none⟩ (.slice none 0 0)).setCell ⟨Bh,6,none⟩ (.slice none 0 0)).setCell ⟨Bh,7,none⟩ (.slice none 0 0))=X7 at *
 refine (number11_any g (by rw[HPG.out];exact HSMC.out) X7 (HIT.out _ (C.on HI.out BW.out)) HRG.out).mono ?_
 rintro _ Y ⟨k,rfl,ho,hp,bb⟩
 rw[HPG.out,if_pos HSHC.out] at hp
 rw[show numE g.pl=0 from by unfold numE;rw[HPG.out,if_pos HSHC.out]]
 have hbx:=HBx.new (w:=w) ho BW.out.size #[.slice k.tr.1.A k.tr.1.n k.tr.1.c,.slice k.se.1.A k.se.1.n k.se.1.c,.slice k.ob.1.A k.ob.1.n k.ob.1.c,.slice k.pr.1.A k.pr.1.n k.pr.1.c,.slice k.ev.1.A k.ev.1.n k.ev.1.c,.slice k.od.1.A k.od.1.n k.od.1.c,.slice k.ma.1.A k.ma.1.n k.ma.1.c,.slice k.wa.1.A k.wa.1.n k.wa.1.c] rfl
 have b2:Below Y.heap.size Y (Y.alloc (.cells #[.slice k.tr.1.A k.tr.1.n k.tr.1.c,.slice k.se.1.A k.se.1.n k.se.1.c,.slice k.ob.1.A k.ob.1.n k.ob.1.c,.slice k.pr.1.A k.pr.1.n k.pr.1.c,.slice k.ev.1.A k.ev.1.n k.ev.1.c,.slice k.od.1.A k.od.1.n k.od.1.c,.slice k.ma.1.A k.ma.1.n k.ma.1.c,.slice k.wa.1.A k.wa.1.n k.wa.1.c] 28)):=(Below.refl _ _).alloc (Nat.le_refl _) _
 have bb:=bb.trans (b2.mono bb.size)
 have BW:=zh (BW.out.trans (bb.mono BW.out.size))
 have HSk:Hid (Small k.pl):=by show Small k.pl;rw[hp];exact num_small HSMC.out HSHC.out
 have HRK:Hid (rightB k.pl=true):=by show _=_;rw[hp];exact num_right HSHC.out
 have HFK:Hid (ruFirst k.pl=(ruPlace k.pl 8).map fun i=>(8,i)):=by show _=_;rw[hp];exact cut_first HSO.out q
 have HMK:Hid (∀ i:Nat,ruBrk k.pl 8 i=decide (2≤(ruWriters k.pl i).length)):=fun i=>by rw[hp];exact cut_missing h.pl q i
 have HLK:Hid (ruMany k.pl 8=k.pl.ob.length):=rfl
 have Hk:=zh hbx
 clear z0 z1 z2 z3 z4 z5 z6 z7 ho hp bb b2 hbx HRG HPG
 go_upto_region 9 with fail
 generalize Y.alloc (.cells #[.slice k.tr.1.A k.tr.1.n k.tr.1.c,.slice k.se.1.A k.se.1.n k.se.1.c,.slice k.ob.1.A k.ob.1.n k.ob.1.c,.slice k.pr.1.A k.pr.1.n k.pr.1.c,.slice k.ev.1.A k.ev.1.n k.ev.1.c,.slice k.od.1.A k.od.1.n k.od.1.c,.slice k.ma.1.A k.ma.1.n k.ma.1.c,.slice k.wa.1.A k.wa.1.n k.wa.1.c] 28)=Xk at *
 generalize Y.heap.size=Bk at *
 obtain⟨no,hno⟩:∃ n,k.ob.1.n=n:=⟨_,rfl⟩
 have hno6:no≤60:=by have h1:=HSk.out.ob;have h2:=Hk.out.rd.ob_len;omega
 have HOB:Hid (k.pl.ob.length=no):=by show _=_;rw[← hno];exact Hk.out.rd.ob_len
 have z2:Xk.cell? ⟨Bk,2,none⟩=some (.slice k.ob.1.A no k.ob.1.c):=by rw[← hno];exact Hk.out.blk.cell 2
 clear hno
 go_wp2_with fail
 clear z2
 go_loopw [47] (fun v wr=>∃ j:Nat,j≤no∧v=.int .i64 j∧Hid (∀ y:Nat,y<j→(ruWriters k.pl y).length<2)∧Hid (HBx w wr Bk k)∧Hid (Below w.heap.size w wr)) (fun v _=>no - (intOf v).toNat)
 case atStart=>exact⟨0,Nat.zero_le _,rfl,fun y h=>absurd h (by omega),Hk,BW⟩
 clear Hk BW
 obtain⟨j,hj,rfl,HX,Hk,BW⟩:=hrel
 by_cases hjn:j<no
 ·have hlt:(j:Int)<(no:Int):=by omega
  have HW:Hid (wrH k.pl (j:Int)=ruWriters k.pl (j:Int)∧hisE k.pl=0):=by show _∧_;unfold wrH hisE;rw[HRK.out];exact⟨rfl,rfl⟩
  obtain⟨z0,z1,z2,z3,z4,z5,z6,z7⟩:=c8 Hk.out.blk
  go_wp2_with fail
  refine (C.writers k (j:Int) wr (C.on HI.out BW.out) (Hk.out.own.asked HSk.out)).mono ?_
  rintro _ x1 ⟨A1,l1,c1,rfl,hl1,-,bb⟩
  rw[HW.out.1] at hl1
  rw[HW.out.2]
  clear z0 z1 z2 z3 z4 z5 z6 z7
  have Hk:=zh (Hk.out.on bb)
  have BW:=zh (BW.out.trans (bb.mono BW.out.size))
  clear bb
  by_cases h2:2≤l1
  ·have hgt:(l1:Int) > 1:=by omega
   have HFF:Hid (∃ i:Nat,frH k.pl=some (8,i)):=by
    have hb:ruBrk k.pl 8 j=true:=by rw[HMK.out];exact decide_eq_true (by omega)
    cases h8:ruPlace k.pl 8 with
    | none=>rw[place_none.1 h8 j (by rw[HLK.out,HOB.out];exact hjn)] at hb;cases hb
    | some i=>exact⟨i,by unfold frH;rw[HRK.out,if_pos rfl,HFK.out,h8];rfl⟩
   obtain⟨i8,hi8⟩:=HFF.out
   have HI8:=zh hi8
   clear h2 hi8 hl1
   obtain⟨z0,z1,z2,z3,z4,z5,z6,z7⟩:=c8 Hk.out.blk
   go_wp2_with fail
   refine (C.first k x1 (C.on HI.out BW.out) (Hk.out.own.asked HSk.out)).mono ?_
   rintro _ Y2 ⟨rfl,bb⟩
   rw[HI8.out,HW.out.2,show frR (some (8,i8))=8 from rfl,show frP (some (8,i8))=(i8:Int) from rfl,show (some (8,i8):Option (Nat × Nat)).isSome=true from rfl]
   clear z0 z1 z2 z3 z4 z5 z6 z7
   have b3:Below Y2.heap.size Y2 (Y2.alloc (.cells #[.int .i64 8,.int .i64 (i8:Int)] 32)):=(Below.refl _ _).alloc (Nat.le_refl _) _
   have BW:=zh (BW.out.trans ((bb.trans (b3.mono bb.size)).mono BW.out.size))
   clear bb b3
   go_wp2_with fail
   go_ret
   exact⟨rfl,BW.out⟩
  have hgt:¬(l1:Int) > 1:=by omega
  have HX2:Hid (∀ y:Nat,y<j+1→(ruWriters k.pl y).length<2):=fun y hy=>by
   rcases Nat.lt_or_ge y j with h | h
   ·exact HX.out y h
   rw[show y=j by omega];omega
  clear h2 hl1
  go_wp2_with fail
  go_roundw
  case rel=>exact⟨j+1,by omega,by go_num,HX2,Hk,BW⟩
  case measure=>simp[intOf];omega
 obtain rfl:no=j:=by omega
 have HSD:Hid (ruSound k.pl=true):=by
  have h8:ruPlace k.pl 8=none:=place_none.2 fun i hi=>by rw[HMK.out];exact decide_eq_false (by have:=HX.out i (by rw[HLK.out,HOB.out] at hi;exact hi);omega)
  show _=_
  unfold ruSound
  rw[HRK.out,HFK.out,h8]
  rfl
 obtain⟨z0,z1,z2,z3,z4,z5,z6,z7⟩:=c8 Hk.out.blk
 go_wp2_with fail
 refine (C.sound k wr (C.on HI.out BW.out) (Hk.out.own.asked HSk.out)).mono ?_
 rintro _ x1 ⟨rfl,bb⟩
 rw[HSD.out]
 clear z0 z1 z2 z3 z4 z5 z6 z7
 have BW:=zh (BW.out.trans (bb.mono BW.out.size))
 clear bb
 go_wp2_with fail
 go_ret
 exact⟨rfl,BW.out⟩
end Go.Proofs.YtmkknbonmameoaaGreatDoor
