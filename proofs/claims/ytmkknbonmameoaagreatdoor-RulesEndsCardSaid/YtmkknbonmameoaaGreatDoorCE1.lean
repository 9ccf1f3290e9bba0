import Derived.Test.YtmkknbonmameoaaGreatDoorQ5
import Derived.Test.YtmkknbonmameoaaGreatDoorQ38
import Derived.Test.YtmkknbonmameoaaGreatDoorQ29
import Derived.Test.YtmkknbonmameoaaGreatDoorQ33
import Derived.Test.YtmkknbonmameoaaGreatDoorQ17
-- holds: YtmkknbonmameoaaGreatDoorHAq
namespace Go.Proofs.YtmkknbonmameoaaGreatDoor
open Go.RowKit Go.Shelf
theorem com_small15 {H:Hist} (hS:Small H) (h1:H.ev.length≤70) (h2:H.tr.length≤12):Small (comP H):=by
 refine⟨hS.tr,hS.se,hS.ob,hS.pr,?_,hS.od,hS.ma,hS.wa,fun e he=>?_,hS.ot,hS.mt,hS.tx⟩
 ·show (H.ev++_).length≤200
  rw[List.length_append,List.length_map]
  have:=left_len H
  omega
 rcases List.mem_append.1 (show e∈H.ev++(leftL H).map abortE from he) with he | he
 ·exact hS.sc e he
 obtain⟨t,_,rfl⟩:=List.mem_map.1 he
 simp[abortE]
set_option maxRecDepth 100000 in
set_option maxHeartbeats 16000000 in
theorem rulesEnds_core {I:World→Prop} (C:RulesC I) (m:HistM) (hIT:∀ W,I W→Tabs W) (w:World) (hI:I w) (ha:HArg w m):Calls Tryz.prog 6 #[.agg #[.slice m.tr.1.A m.tr.1.n m.tr.1.c,.slice m.se.1.A m.se.1.n m.se.1.c,.slice m.ob.1.A m.ob.1.n m.ob.1.c,.slice m.pr.1.A m.pr.1.n m.pr.1.c,.slice m.ev.1.A m.ev.1.n m.ev.1.c,.slice m.od.1.A m.od.1.n m.od.1.c,.slice m.ma.1.A m.ma.1.n m.ma.1.c,.slice m.wa.1.A m.wa.1.n m.wa.1.c]] w fun x w'=>x=.returned (.bool true)∧Below w.heap.size w w':=by
 have HIT:=zh hIT
 clear hIT
 obtain⟨kh,b0,hs0⟩:=ibox w #[.slice m.tr.1.A m.tr.1.n m.tr.1.c,.slice m.se.1.A m.se.1.n m.se.1.c,.slice m.ob.1.A m.ob.1.n m.ob.1.c,.slice m.pr.1.A m.pr.1.n m.pr.1.c,.slice m.ev.1.A m.ev.1.n m.ev.1.c,.slice m.od.1.A m.od.1.n m.od.1.c,.slice m.ma.1.A m.ma.1.n m.ma.1.c,.slice m.wa.1.A m.wa.1.n m.wa.1.c] 28
 obtain⟨W0,hW0⟩:∃ W0,W0=w.alloc (.cells #[.slice m.tr.1.A m.tr.1.n m.tr.1.c,.slice m.se.1.A m.se.1.n m.se.1.c,.slice m.ob.1.A m.ob.1.n m.ob.1.c,.slice m.pr.1.A m.pr.1.n m.pr.1.c,.slice m.ev.1.A m.ev.1.n m.ev.1.c,.slice m.od.1.A m.od.1.n m.od.1.c,.slice m.ma.1.A m.ma.1.n m.ma.1.c,.slice m.wa.1.A m.wa.1.n m.wa.1.c] 28):=⟨_,rfl⟩
 obtain⟨Bm,hBm⟩:∃ B,B=w.heap.size:=⟨_,rfl⟩
 rw[← hW0] at kh b0 hs0
 rw[← hBm] at kh
 have KH:Hid (Blk W0 Bm 28 m.cs):=kh
 have BW:=zh b0
 have HARG:=zh ha
 have HI:=zh hI
 have HS:=zh (F15.few_small m.pl)
 clear kh b0 hs0 hI ha
 go_enter Tryz.func6,Tryz.ntmps6
 go_upto_region 1 with fail
 rw[← hBm,← hW0]
 clear hBm hW0
 go_wp2_with fail
 refine (wakes15_any C W0 (C.on HI.out BW.out)).mono ?_
 rintro _ W1 ⟨rfl,bb⟩
 have KH:=zh (KH.out.below bb KH.out.lt)
 have BW:=zh (BW.out.trans (bb.mono BW.out.size))
 clear bb
 obtain⟨z0,z1,z2,z3,z4,z5,z6,z7⟩:=c8 KH.out
 go_wp2_with fail
 refine (F15.few15_any m W1 (HARG.out.on BW.out)).mono ?_
 rintro _ Y ⟨h,rfl,ho,hp,bb⟩
 have hbx:=HBx.new (w:=w) ho BW.out.size #[.slice h.tr.1.A h.tr.1.n h.tr.1.c,.slice h.se.1.A h.se.1.n h.se.1.c,.slice h.ob.1.A h.ob.1.n h.ob.1.c,.slice h.pr.1.A h.pr.1.n h.pr.1.c,.slice h.ev.1.A h.ev.1.n h.ev.1.c,.slice h.od.1.A h.od.1.n h.od.1.c,.slice h.ma.1.A h.ma.1.n h.ma.1.c,.slice h.wa.1.A h.wa.1.n h.wa.1.c] rfl
 have b2:Below Y.heap.size Y (Y.alloc (.cells #[.slice h.tr.1.A h.tr.1.n h.tr.1.c,.slice h.se.1.A h.se.1.n h.se.1.c,.slice h.ob.1.A h.ob.1.n h.ob.1.c,.slice h.pr.1.A h.pr.1.n h.pr.1.c,.slice h.ev.1.A h.ev.1.n h.ev.1.c,.slice h.od.1.A h.od.1.n h.od.1.c,.slice h.ma.1.A h.ma.1.n h.ma.1.c,.slice h.wa.1.A h.wa.1.n h.wa.1.c] 28)):=(Below.refl _ _).alloc (Nat.le_refl _) _
 have bb:=bb.trans (b2.mono bb.size)
 have KH:=zh (KH.out.below bb KH.out.lt)
 have BW:=zh (BW.out.trans (bb.mono BW.out.size))
 have HPh:=zh hp
 have HSh:Hid (Small h.pl):=by show Small h.pl;rw[hp];exact HS.out
 have Hh:=zh hbx
 clear z0 z1 z2 z3 z4 z5 z6 z7 ho hp bb b2 hbx
 go_upto_region 4 with fail
 generalize Y.alloc (.cells #[.slice h.tr.1.A h.tr.1.n h.tr.1.c,.slice h.se.1.A h.se.1.n h.se.1.c,.slice h.ob.1.A h.ob.1.n h.ob.1.c,.slice h.pr.1.A h.pr.1.n h.pr.1.c,.slice h.ev.1.A h.ev.1.n h.ev.1.c,.slice h.od.1.A h.od.1.n h.od.1.c,.slice h.ma.1.A h.ma.1.n h.ma.1.c,.slice h.wa.1.A h.wa.1.n h.wa.1.c] 28)=Xh at *
 generalize Y.heap.size=Bh at *
 obtain⟨z0,z1,z2,z3,z4,z5,z6,z7⟩:=c8 Hh.out.blk
 go_wp2_with fail
 refine (C.sound h Xh (C.on HI.out BW.out) (Hh.out.own.asked HSh.out)).mono ?_
 rintro _ X4 ⟨rfl,bb⟩
 clear z0 z1 z2 z3 z4 z5 z6 z7
 have Hh:=zh (Hh.out.on bb)
 have BW:=zh (BW.out.trans (bb.mono BW.out.size))
 clear bb
 cases hso:ruSound h.pl
 ·go_wp2_with fail
  go_ret
  exact⟨rfl,BW.out⟩
 have hr:rightB h.pl=true:=(sound_iff.1 hso).1
 have HSO:=zh hso
 have HRT:=zh hr
 clear hso hr
 obtain⟨z0,z1,z2,z3,z4,z5,z6,z7⟩:=c8 Hh.out.blk
 go_wp2_with fail
 refine (complete_any h HSh.out X4 (HIT.out _ (C.on HI.out BW.out)) Hh.out.rd).mono ?_
 rintro _ Y ⟨c,rfl,ho,hp,bb⟩
 rw[if_pos HRT.out] at hp
 rw[show checkE h.pl=0 from by unfold checkE;rw[if_pos HRT.out]]
 have hbx:=HBx.new (w:=w) ho BW.out.size #[.slice c.tr.1.A c.tr.1.n c.tr.1.c,.slice c.se.1.A c.se.1.n c.se.1.c,.slice c.ob.1.A c.ob.1.n c.ob.1.c,.slice c.pr.1.A c.pr.1.n c.pr.1.c,.slice c.ev.1.A c.ev.1.n c.ev.1.c,.slice c.od.1.A c.od.1.n c.od.1.c,.slice c.ma.1.A c.ma.1.n c.ma.1.c,.slice c.wa.1.A c.wa.1.n c.wa.1.c] rfl
 have b2:Below Y.heap.size Y (Y.alloc (.cells #[.slice c.tr.1.A c.tr.1.n c.tr.1.c,.slice c.se.1.A c.se.1.n c.se.1.c,.slice c.ob.1.A c.ob.1.n c.ob.1.c,.slice c.pr.1.A c.pr.1.n c.pr.1.c,.slice c.ev.1.A c.ev.1.n c.ev.1.c,.slice c.od.1.A c.od.1.n c.od.1.c,.slice c.ma.1.A c.ma.1.n c.ma.1.c,.slice c.wa.1.A c.wa.1.n c.wa.1.c] 28)):=(Below.refl _ _).alloc (Nat.le_refl _) _
 have bb:=bb.trans (b2.mono bb.size)
 have Hh:=zh (Hh.out.on bb)
 have BW:=zh (BW.out.trans (bb.mono BW.out.size))
 have HPc:=zh hp
 have HSc:Hid (Small c.pl):=by show Small c.pl;rw[hp];exact com_small15 HSh.out (by rw[HPh.out];exact F15.few_ev m.pl) (by rw[HPh.out];exact F15.few_tr m.pl)
 have Hc:=zh hbx
 have HSO2:Hid (ruSound c.pl=true):=by show _=_;rw[hp];exact com_sound HSO.out
 clear z0 z1 z2 z3 z4 z5 z6 z7 ho hp bb b2 hbx
 go_upto_region 7 with fail
 generalize Y.alloc (.cells #[.slice c.tr.1.A c.tr.1.n c.tr.1.c,.slice c.se.1.A c.se.1.n c.se.1.c,.slice c.ob.1.A c.ob.1.n c.ob.1.c,.slice c.pr.1.A c.pr.1.n c.pr.1.c,.slice c.ev.1.A c.ev.1.n c.ev.1.c,.slice c.od.1.A c.od.1.n c.od.1.c,.slice c.ma.1.A c.ma.1.n c.ma.1.c,.slice c.wa.1.A c.wa.1.n c.wa.1.c] 28)=Xc at *
 generalize Y.heap.size=Bc at *
 obtain⟨z0,z1,z2,z3,z4,z5,z6,z7⟩:=c8 Hc.out.blk
 go_wp2_with fail
 refine (C.sound c Xc (C.on HI.out BW.out) (Hc.out.own.asked HSc.out)).mono ?_
 rintro _ X5 ⟨rfl,bb⟩
 rw[HSO2.out]
 clear z0 z1 z2 z3 z4 z5 z6 z7
 have Hh:=zh (Hh.out.on bb)
 have Hc:=zh (Hc.out.on bb)
 have BW:=zh (BW.out.trans (bb.mono BW.out.size))
 clear bb
 obtain⟨n,hn⟩:∃ n,h.ob.1.n=n:=⟨_,rfl⟩
 have hn6:n≤60:=by have h1:=HSh.out.ob;have h2:=Hh.out.rd.ob_len;omega
 have z2:X5.cell? ⟨Bh,2,none⟩=some (.slice h.ob.1.A n h.ob.1.c):=by rw[← hn];exact Hh.out.blk.cell 2
 clear hn
 go_wp2_with fail
 clear z2
 go_loopw [33] (fun v wr=>∃ k:Nat,k≤n∧v=.int .i64 k∧Hid (HBx w wr Bh h)∧Hid (HBx w wr Bc c)∧Hid (Below w.heap.size w wr)) (fun v _=>n - (intOf v).toNat)
 case atStart=>exact⟨0,Nat.zero_le _,rfl,Hh,Hc,BW⟩
 clear Hh Hc BW
 obtain⟨k,hk,rfl,Hh,Hc,BW⟩:=hrel
 by_cases hkn:k<n
 ·have hlt:(k:Int)<(n:Int):=by omega
  have HW:Hid (wrH h.pl (k:Int)=ruWriters h.pl (k:Int)∧wrH c.pl (k:Int)=ruWriters h.pl (k:Int)∧hisE h.pl=0∧hisE c.pl=0):=by
   have hc:rightB c.pl=true:=(sound_iff.1 HSO2.out).1
   show _∧_
   unfold wrH hisE
   rw[HRT.out,hc,if_pos rfl,if_pos rfl,HPc.out,com_writers]
   exact⟨rfl,rfl,rfl,rfl⟩
  obtain⟨z0,z1,z2,z3,z4,z5,z6,z7⟩:=c8 Hh.out.blk
  go_wp2_with fail
  refine (C.writers h (k:Int) wr (C.on HI.out BW.out) (Hh.out.own.asked HSh.out)).mono ?_
  rintro _ x1 ⟨A1,n1,c1,rfl,hn1,hr1,bb⟩
  rw[HW.out.1] at hn1 hr1
  rw[HW.out.2.2.1]
  clear z0 z1 z2 z3 z4 z5 z6 z7
  have Hh:=zh (Hh.out.on bb)
  have Hc:=zh (Hc.out.on bb)
  have BW:=zh (BW.out.trans (bb.mono BW.out.size))
  have HR1:=zh hr1
  have HN1:=zh hn1
  have h6:n1≤1000000:=by have h1:=writers_len h.pl (k:Int);have h2:=HSh.out.tr;omega
  clear bb hr1 hn1
  obtain⟨z0,z1,z2,z3,z4,z5,z6,z7⟩:=c8 Hc.out.blk
  go_wp2_with fail
  refine (C.writers c (k:Int) x1 (C.on HI.out BW.out) (Hc.out.own.asked HSc.out)).mono ?_
  rintro _ x2 ⟨A2,n2,c2,rfl,hn2,hr2,bb⟩
  rw[HW.out.2.1] at hn2 hr2
  rw[HW.out.2.2.2]
  obtain rfl:n1=n2:=HN1.out.trans hn2.symm
  clear z0 z1 z2 z3 z4 z5 z6 z7
  have Hh:=zh (Hh.out.on bb)
  have Hc:=zh (Hc.out.on bb)
  have BW:=zh (BW.out.trans (bb.mono BW.out.size))
  have HR1:=zh ((HR1.out.below bb).more bb.size)
  have HR2:=zh hr2
  clear bb hr2 hn2
  go_wp2_with fail
  refine (eqi11_any A1 A2 n1 n1 c1 c2 _ _ (by omega) (by omega) x2 HR1.out HR2.out).mono ?_
  rintro e9 x3 ⟨he9,bb⟩
  obtain rfl:e9=.returned (.bool true):=by rw[he9,decide_eq_true rfl]
  have Hh:=zh (Hh.out.on bb)
  have Hc:=zh (Hc.out.on bb)
  have BW:=zh (BW.out.trans (bb.mono BW.out.size))
  have HR1:=zh ((HR1.out.below bb).more bb.size)
  clear bb he9
  go_wp2_with fail
  refine (sorted_int11 A1 n1 c1 _ h6 (writers_up (H:=h.pl) (k:Int)) x3 HR1.out).mono ?_
  rintro _ x4 ⟨rfl,bb⟩
  have Hh:=zh (Hh.out.on bb)
  have Hc:=zh (Hc.out.on bb)
  have BW:=zh (BW.out.trans (bb.mono BW.out.size))
  clear bb
  go_wp2_with fail
  go_roundw
  case rel=>exact⟨k+1,by omega,by go_num,Hh,Hc,BW⟩
  case measure=>simp[intOf];omega
 obtain rfl:k=n:=by omega
 go_wp2_with fail
 go_ret
 exact⟨rfl,BW.out⟩
end Go.Proofs.YtmkknbonmameoaaGreatDoor
