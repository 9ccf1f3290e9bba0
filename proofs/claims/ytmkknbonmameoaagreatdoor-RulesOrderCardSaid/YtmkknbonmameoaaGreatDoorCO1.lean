import Derived.Test.YtmkknbonmameoaaGreatDoorQ5
import Derived.Test.YtmkknbonmameoaaGreatDoorQ38
import Derived.Test.YtmkknbonmameoaaGreatDoorQ23
import Derived.Test.YtmkknbonmameoaaGreatDoorQ17
-- holds: YtmkknbonmameoaaGreatDoorHAp
namespace Go.Proofs.YtmkknbonmameoaaGreatDoor
open Go.RowKit Go.Shelf
set_option maxRecDepth 100000 in
set_option maxHeartbeats 3000000 in
theorem rulesOrder_core {I:World→Prop} (C:RulesC I) (m:HistM) (hIT:∀ W,I W→Tabs W) (w:World) (hI:I w) (ha:HArg w m):Calls Tryz.prog 5 #[.agg #[.slice m.tr.1.A m.tr.1.n m.tr.1.c,.slice m.se.1.A m.se.1.n m.se.1.c,.slice m.ob.1.A m.ob.1.n m.ob.1.c,.slice m.pr.1.A m.pr.1.n m.pr.1.c,.slice m.ev.1.A m.ev.1.n m.ev.1.c,.slice m.od.1.A m.od.1.n m.od.1.c,.slice m.ma.1.A m.ma.1.n m.ma.1.c,.slice m.wa.1.A m.wa.1.n m.wa.1.c]] w fun x w'=>x=.returned (.bool true)∧Below w.heap.size w w':=by
 have HIT:=zh hIT
 clear hIT
 obtain⟨kh,b0,hs0⟩:=ibox w #[.slice m.tr.1.A m.tr.1.n m.tr.1.c,.slice m.se.1.A m.se.1.n m.se.1.c,.slice m.ob.1.A m.ob.1.n m.ob.1.c,.slice m.pr.1.A m.pr.1.n m.pr.1.c,.slice m.ev.1.A m.ev.1.n m.ev.1.c,.slice m.od.1.A m.od.1.n m.od.1.c,.slice m.ma.1.A m.ma.1.n m.ma.1.c,.slice m.wa.1.A m.wa.1.n m.wa.1.c] 28
 obtain⟨W0,hW0⟩:∃ W0,W0=w.alloc (.cells #[.slice m.tr.1.A m.tr.1.n m.tr.1.c,.slice m.se.1.A m.se.1.n m.se.1.c,.slice m.ob.1.A m.ob.1.n m.ob.1.c,.slice m.pr.1.A m.pr.1.n m.pr.1.c,.slice m.ev.1.A m.ev.1.n m.ev.1.c,.slice m.od.1.A m.od.1.n m.od.1.c,.slice m.ma.1.A m.ma.1.n m.ma.1.c,.slice m.wa.1.A m.wa.1.n m.wa.1.c] 28):=⟨_,rfl⟩
 obtain⟨Bm,hBm⟩:∃ B,B=w.heap.size:=⟨_,rfl⟩
 rw[← hW0] at kh b0 hs0
 rw[← hBm] at kh
 have KH:Hid (Blk W0 Bm 28 m.cs):=kh
 have BW:=zh b0
 have HARG:=zh ha
 have HI:=zh hI
 have HS:=zh (F15.few_small m.pl)
 clear kh b0 hs0 hI ha
 go_enter Tryz.func5,Tryz.ntmps5
 go_upto_region 1 with fail
 rw[← hBm,← hW0]
 clear hBm hW0
 go_wp2_with fail
 refine (wakes15_any C W0 (C.on HI.out BW.out)).mono ?_
 rintro _ W1 ⟨rfl,bb⟩
 have KH:=zh (KH.out.below bb KH.out.lt)
 have BW:=zh (BW.out.trans (bb.mono BW.out.size))
 clear bb
 obtain⟨z0,z1,z2,z3,z4,z5,z6,z7⟩:=c8 KH.out
 go_wp2_with fail
 refine (F15.few15_any m W1 (HARG.out.on BW.out)).mono ?_
 rintro _ Y ⟨h,rfl,ho,hp,bb⟩
 have hbx:=HBx.new (w:=w) ho BW.out.size #[.slice h.tr.1.A h.tr.1.n h.tr.1.c,.slice h.se.1.A h.se.1.n h.se.1.c,.slice h.ob.1.A h.ob.1.n h.ob.1.c,.slice h.pr.1.A h.pr.1.n h.pr.1.c,.slice h.ev.1.A h.ev.1.n h.ev.1.c,.slice h.od.1.A h.od.1.n h.od.1.c,.slice h.ma.1.A h.ma.1.n h.ma.1.c,.slice h.wa.1.A h.wa.1.n h.wa.1.c] rfl
 have b2:Below Y.heap.size Y (Y.alloc (.cells #[.slice h.tr.1.A h.tr.1.n h.tr.1.c,.slice h.se.1.A h.se.1.n h.se.1.c,.slice h.ob.1.A h.ob.1.n h.ob.1.c,.slice h.pr.1.A h.pr.1.n h.pr.1.c,.slice h.ev.1.A h.ev.1.n h.ev.1.c,.slice h.od.1.A h.od.1.n h.od.1.c,.slice h.ma.1.A h.ma.1.n h.ma.1.c,.slice h.wa.1.A h.wa.1.n h.wa.1.c] 28)):=(Below.refl _ _).alloc (Nat.le_refl _) _
 have bb:=bb.trans (b2.mono bb.size)
 have KH:=zh (KH.out.below bb KH.out.lt)
 have BW:=zh (BW.out.trans (bb.mono BW.out.size))
 have HPh:=zh hp
 have HSh:Hid (Small h.pl):=by show Small h.pl;rw[hp];exact HS.out
 have Hh:=zh hbx
 clear z0 z1 z2 z3 z4 z5 z6 z7 ho hp bb b2 hbx
 go_upto_region 4 with fail
 generalize Y.alloc (.cells #[.slice h.tr.1.A h.tr.1.n h.tr.1.c,.slice h.se.1.A h.se.1.n h.se.1.c,.slice h.ob.1.A h.ob.1.n h.ob.1.c,.slice h.pr.1.A h.pr.1.n h.pr.1.c,.slice h.ev.1.A h.ev.1.n h.ev.1.c,.slice h.od.1.A h.od.1.n h.od.1.c,.slice h.ma.1.A h.ma.1.n h.ma.1.c,.slice h.wa.1.A h.wa.1.n h.wa.1.c] 28)=Xh at *
 generalize Y.heap.size=Bh at *
 obtain⟨z0,z1,z2,z3,z4,z5,z6,z7⟩:=c8 Hh.out.blk
 go_wp2_with fail
 refine (C.first h Xh (C.on HI.out BW.out) (Hh.out.own.asked HSh.out)).mono ?_
 rintro _ Y ⟨rfl,bb⟩
 obtain⟨r0,hr0⟩:∃ r0,frR (frH h.pl)=r0:=⟨_,rfl⟩
 obtain⟨p0,hp0⟩:∃ p0,frP (frH h.pl)=p0:=⟨_,rfl⟩
 obtain⟨s0,hs0⟩:∃ s0,(frH h.pl).isSome=s0:=⟨_,rfl⟩
 obtain⟨e0,he0⟩:∃ e0,hisE h.pl=e0:=⟨_,rfl⟩
 rw[hr0,hp0,hs0,he0]
 clear z0 z1 z2 z3 z4 z5 z6 z7
 obtain⟨kb,b3,-⟩:=ibox Y #[.int .i64 r0,.int .i64 p0] 32
 have bb:=bb.trans (b3.mono bb.size)
 have Hh:=zh (Hh.out.on bb)
 have KH:=zh (KH.out.below bb KH.out.lt)
 have BW:=zh (BW.out.trans (bb.mono BW.out.size))
 have K4:=zh kb
 clear bb b3 kb
 go_upto_region 5 with fail
 generalize Y.alloc (.cells #[.int .i64 r0,.int .i64 p0] 32)=X4 at *
 generalize Y.heap.size=B4 at *
 cases hr:rightB h.pl
 ·obtain rfl:e0=210:=by rw[← he0];unfold hisE;rw[hr];rfl
  have HCE:Hid (checkE h.pl=210):=by show _=_;unfold checkE;rw[hr];rfl
  have HSO:Hid (ruSound h.pl=false):=by show _=_;unfold ruSound;rw[hr];rfl
  clear hr hr0 hp0 hs0 he0
  obtain⟨z0,z1,z2,z3,z4,z5,z6,z7⟩:=c8 Hh.out.blk
  go_wp2_with fail
  refine (check11_any h HSh.out X4 (HIT.out _ (C.on HI.out BW.out)) Hh.out.rd).mono ?_
  rintro _ X5 ⟨rfl,bb⟩
  rw[HCE.out]
  clear z0 z1 z2 z3 z4 z5 z6 z7
  have Hh:=zh (Hh.out.on bb)
  have BW:=zh (BW.out.trans (bb.mono BW.out.size))
  clear bb
  obtain⟨z0,z1,z2,z3,z4,z5,z6,z7⟩:=c8 Hh.out.blk
  go_wp2_with fail
  refine (C.sound h X5 (C.on HI.out BW.out) (Hh.out.own.asked HSh.out)).mono ?_
  rintro _ X6 ⟨rfl,bb⟩
  rw[HSO.out]
  clear z0 z1 z2 z3 z4 z5 z6 z7
  have Hh:=zh (Hh.out.on bb)
  have BW:=zh (BW.out.trans (bb.mono BW.out.size))
  clear bb
  go_wp2_with fail
  go_ret
  exact⟨rfl,BW.out⟩
 obtain rfl:e0=0:=by rw[← he0];unfold hisE;rw[hr];rfl
 have hf:frH h.pl=ruFirst h.pl:=by unfold frH;rw[hr];rfl
 rw[hf] at hr0 hp0 hs0
 have HSO:Hid (ruSound h.pl=!s0):=by show _=_;rw[← hs0];unfold ruSound;rw[hr];cases ruFirst h.pl<;>rfl
 have HPL:Hid (∀ k:Nat,1≤k∧k≤10→ruPlH h.pl (k:Int)=ruPlace h.pl k∧ruPlE h.pl (k:Int)=0):=fun k hk=>⟨by unfold ruPlH;rw[if_pos ⟨hr,by omega,by omega⟩,Int.toNat_natCast],by unfold ruPlE;rw[hr,if_pos rfl,if_pos ⟨by omega,by omega⟩]⟩
 clear hr he0 hf
 go_wp2_with fail
 cases hc:ruFirst h.pl with
 | none =>
  rw[hc] at hr0 hp0 hs0
  obtain rfl:r0=0:=hr0.symm
  obtain rfl:p0=0:=hp0.symm
  obtain rfl:s0=false:=hs0.symm
  have HNO:=zh (first_none.1 hc)
  clear hc hr0 hp0 hs0
  go_loopw [7] (fun v wr=>∃ k:Nat,(1≤k∧k≤11)∧v=.int .i64 k∧Hid (HBx w wr Bh h)∧Hid (Blk wr B4 32 #[.int .i64 0,.int .i64 0])∧Hid (Below w.heap.size w wr)) (fun v _=>11 - (intOf v).toNat)
  case atStart=>exact⟨1,by omega,rfl,Hh,K4,BW⟩
  clear Hh K4 BW
  obtain⟨k,hk,rfl,Hh,K4,BW⟩:=hrel
  by_cases hk10:k≤10
  ·have hle:(k:Int)≤10:=by omega
   have HQ:Hid (plN (ruPlH h.pl (k:Int))=0∧(ruPlH h.pl (k:Int)).isSome=false∧ruPlE h.pl (k:Int)=0):=by show _∧_;rw[(HPL.out k ⟨hk.1,hk10⟩).1,(HPL.out k ⟨hk.1,hk10⟩).2,HNO.out k hk.1 hk10];exact⟨rfl,rfl,rfl⟩
   obtain⟨z0,z1,z2,z3,z4,z5,z6,z7⟩:=c8 Hh.out.blk
   go_wp2_with fail
   refine (C.place h (k:Int) wr (C.on HI.out BW.out) (Hh.out.own.asked HSh.out)).mono ?_
   rintro _ x1 ⟨rfl,bb⟩
   rw[HQ.out.1,HQ.out.2.1,HQ.out.2.2]
   clear z0 z1 z2 z3 z4 z5 z6 z7
   have Hh:=zh (Hh.out.on bb)
   have K4:=zh (K4.out.below bb K4.out.lt)
   have BW:=zh (BW.out.trans (bb.mono BW.out.size))
   clear bb HQ
   go_wp2_with fail
   go_roundw
   case rel=>exact⟨k+1,by omega,by go_num,Hh,K4,BW⟩
   case measure=>simp[intOf];omega
  obtain rfl:k=11:=by omega
  simp only[show ((11:Nat):Int)=11 from rfl]
  obtain⟨z0,z1,z2,z3,z4,z5,z6,z7⟩:=c8 Hh.out.blk
  go_wp2_with fail
  refine (C.sound h wr (C.on HI.out BW.out) (Hh.out.own.asked HSh.out)).mono ?_
  rintro _ x1 ⟨rfl,bb⟩
  rw[HSO.out]
  clear z0 z1 z2 z3 z4 z5 z6 z7
  have Hh:=zh (Hh.out.on bb)
  have BW:=zh (BW.out.trans (bb.mono BW.out.size))
  clear bb
  go_wp2_with fail
  go_ret
  exact⟨rfl,BW.out⟩
 | some f =>
  obtain⟨r1,i1⟩:=f
  rw[hc] at hr0 hp0 hs0
  obtain rfl:r0=(r1:Int):=hr0.symm
  obtain rfl:p0=(i1:Int):=hp0.symm
  obtain rfl:s0=true:=hs0.symm
  have HFS:=zh (first_some hc)
  have hr10:=(first_some hc).1
  simp only at hr10
  clear hc hr0 hp0 hs0
  go_loopw [7] (fun v wr=>∃ k:Nat,(1≤k∧k≤11)∧v=.int .i64 k∧Hid (HBx w wr Bh h)∧Hid (Blk wr B4 32 #[.int .i64 (r1:Int),.int .i64 (i1:Int)])∧Hid (Below w.heap.size w wr)) (fun v _=>11 - (intOf v).toNat)
  case atStart=>exact⟨1,by omega,rfl,Hh,K4,BW⟩
  clear Hh K4 BW
  obtain⟨k,hk,rfl,Hh,K4,BW⟩:=hrel
  by_cases hk10:k≤10
  ·have hle:(k:Int)≤10:=by omega
   by_cases hkr:k<r1
   ·have HQ:Hid (plN (ruPlH h.pl (k:Int))=0∧(ruPlH h.pl (k:Int)).isSome=false∧ruPlE h.pl (k:Int)=0):=by show _∧_;rw[(HPL.out k ⟨hk.1,hk10⟩).1,(HPL.out k ⟨hk.1,hk10⟩).2,HFS.out.2.2 k hk.1 hkr];exact⟨rfl,rfl,rfl⟩
    obtain⟨z0,z1,z2,z3,z4,z5,z6,z7⟩:=c8 Hh.out.blk
    go_wp2_with fail
    refine (C.place h (k:Int) wr (C.on HI.out BW.out) (Hh.out.own.asked HSh.out)).mono ?_
    rintro _ x1 ⟨rfl,bb⟩
    rw[HQ.out.1,HQ.out.2.1,HQ.out.2.2]
    clear z0 z1 z2 z3 z4 z5 z6 z7
    have Hh:=zh (Hh.out.on bb)
    have K4:=zh (K4.out.below bb K4.out.lt)
    have BW:=zh (BW.out.trans (bb.mono BW.out.size))
    clear bb HQ
    have q0:x1.cell? ⟨B4,0,none⟩=some (.int .i64 (r1:Int)):=K4.out.cell 0
    have q1:x1.cell? ⟨B4,1,none⟩=some (.int .i64 (i1:Int)):=K4.out.cell 1
    have hlt:(k:Int)<(r1:Int):=by omega
    have qe:((k:Int)==(r1:Int))=false:=by simp;omega
    clear hkr
    go_wp2_with fail
    go_roundw
    case rel=>exact⟨k+1,by omega,by go_num,Hh,K4,BW⟩
    case measure=>simp[intOf];omega
   by_cases hke:k=r1
   ·subst hke
    have HQ:Hid (plN (ruPlH h.pl (k:Int))=(i1:Int)∧(ruPlH h.pl (k:Int)).isSome=true∧ruPlE h.pl (k:Int)=0):=by show _∧_;rw[(HPL.out k ⟨hk.1,hk10⟩).1,(HPL.out k ⟨hk.1,hk10⟩).2,HFS.out.2.1];exact⟨rfl,rfl,rfl⟩
    obtain⟨z0,z1,z2,z3,z4,z5,z6,z7⟩:=c8 Hh.out.blk
    go_wp2_with fail
    refine (C.place h (k:Int) wr (C.on HI.out BW.out) (Hh.out.own.asked HSh.out)).mono ?_
    rintro _ x1 ⟨rfl,bb⟩
    rw[HQ.out.1,HQ.out.2.1,HQ.out.2.2]
    clear z0 z1 z2 z3 z4 z5 z6 z7
    have Hh:=zh (Hh.out.on bb)
    have K4:=zh (K4.out.below bb K4.out.lt)
    have BW:=zh (BW.out.trans (bb.mono BW.out.size))
    clear bb HQ
    have q0:x1.cell? ⟨B4,0,none⟩=some (.int .i64 (k:Int)):=K4.out.cell 0
    have q1:x1.cell? ⟨B4,1,none⟩=some (.int .i64 (i1:Int)):=K4.out.cell 1
    have hlt:¬(k:Int)<(k:Int):=by omega
    have hii:((i1:Int) != (i1:Int))=false:=by simp
    have qe:((k:Int)==(k:Int))=true:=by simp
    go_wp2_with fail
    go_roundw
    case rel=>exact⟨k+1,by omega,by go_num,Hh,K4,BW⟩
    case measure=>simp[intOf];omega
   obtain⟨v0,hv0⟩:∃ v0,plN (ruPlH h.pl (k:Int))=v0:=⟨_,rfl⟩
   obtain⟨s1,hs1⟩:∃ s1,(ruPlH h.pl (k:Int)).isSome=s1:=⟨_,rfl⟩
   have HQ:=zh (And.intro hv0 (And.intro hs1 (HPL.out k ⟨hk.1,hk10⟩).2))
   clear hv0 hs1
   obtain⟨z0,z1,z2,z3,z4,z5,z6,z7⟩:=c8 Hh.out.blk
   go_wp2_with fail
   refine (C.place h (k:Int) wr (C.on HI.out BW.out) (Hh.out.own.asked HSh.out)).mono ?_
   rintro _ x1 ⟨rfl,bb⟩
   rw[HQ.out.1,HQ.out.2.1,HQ.out.2.2]
   clear z0 z1 z2 z3 z4 z5 z6 z7
   have Hh:=zh (Hh.out.on bb)
   have K4:=zh (K4.out.below bb K4.out.lt)
   have BW:=zh (BW.out.trans (bb.mono BW.out.size))
   clear bb HQ
   have q0:x1.cell? ⟨B4,0,none⟩=some (.int .i64 (r1:Int)):=K4.out.cell 0
   have q1:x1.cell? ⟨B4,1,none⟩=some (.int .i64 (i1:Int)):=K4.out.cell 1
   have hlt:¬(k:Int)<(r1:Int):=by omega
   have qe:((k:Int)==(r1:Int))=false:=by simp;omega
   clear hkr hke
   go_wp2_with fail
   go_roundw
   case rel=>exact⟨k+1,by omega,by go_num,Hh,K4,BW⟩
   case measure=>simp[intOf];omega
  obtain rfl:k=11:=by omega
  simp only[show ((11:Nat):Int)=11 from rfl]
  obtain⟨z0,z1,z2,z3,z4,z5,z6,z7⟩:=c8 Hh.out.blk
  go_wp2_with fail
  refine (C.sound h wr (C.on HI.out BW.out) (Hh.out.own.asked HSh.out)).mono ?_
  rintro _ x1 ⟨rfl,bb⟩
  rw[HSO.out]
  clear z0 z1 z2 z3 z4 z5 z6 z7
  have Hh:=zh (Hh.out.on bb)
  have BW:=zh (BW.out.trans (bb.mono BW.out.size))
  clear bb
  go_wp2_with fail
  go_ret
  exact⟨rfl,BW.out⟩
end Go.Proofs.YtmkknbonmameoaaGreatDoor
