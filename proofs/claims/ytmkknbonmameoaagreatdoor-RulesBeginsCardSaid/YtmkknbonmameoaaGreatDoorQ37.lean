import Derived.Test.YtmkknbonmameoaaGreatDoorQ5
import Derived.Test.YtmkknbonmameoaaGreatDoorQ32
import Derived.Test.YtmkknbonmameoaaGreatDoorQ17
-- holds: YtmkknbonmameoaaGreatDoorHAj
namespace Go.Proofs.YtmkknbonmameoaaGreatDoor.F15
open Go.RowKit Go.Shelf
theorem few_store {Bh g:Nat} {A0 A1 A2 A3:Option Addr} {n0 n1 n2 n3 c0 c1 c2 c3:Nat} {w X:World} {m:HistM} (c:C0 Bh w m X) (hg:Blk X g 28 zeroH) (hn:g≠Bh∧g≠Bh+1∧w.heap.size≤g) (hB:w.heap.size≤Bh)
 (nm:RG 9 1 w.heap.size X [(strs (cutL 12 m.tr.2),⟨A0,n0,c0⟩),(strs (cutL 8 m.se.2),⟨A1,n1,c1⟩),(strs (cutL 10 m.ob.2),⟨A2,n2,c2⟩),(strs (cutL 6 m.pr.2),⟨A3,n3,c3⟩)]) :
 FwI Bh g w m ⟨(⟨A0,n0,c0⟩,cutL 12 m.tr.2),(⟨A1,n1,c1⟩,cutL 8 m.se.2),(⟨A2,n2,c2⟩,cutL 10 m.ob.2),(⟨A3,n3,c3⟩,cutL 6 m.pr.2),(⟨none,0,0⟩,[]),(⟨none,0,0⟩,[]),(⟨none,0,0⟩,[]),(⟨none,0,0⟩,[])⟩
  ((((((((X.setCell ⟨g,0,none⟩ (.slice A0 n0 c0)).setCell ⟨g,1,none⟩ (.slice A1 n1 c1)).setCell ⟨g,2,none⟩ (.slice A2 n2 c2)).setCell ⟨g,3,none⟩ (.slice A3 n3 c3)).setCell ⟨g,4,none⟩ (.slice none 0 0)).setCell ⟨g,5,none⟩ (.slice none 0 0)).setCell ⟨g,6,none⟩ (.slice none 0 0)).setCell ⟨g,7,none⟩ (.slice none 0 0)) 0 0 0:=by
 obtain⟨h1,h2,h3⟩:=fill8 hg (.slice A0 n0 c0) (.slice A1 n1 c1) (.slice A2 n2 c2) (.slice A3 n3 c3) (.slice none 0 0) (.slice none 0 0) (.slice none 0 0) (.slice none 0 0)
 have kt:KeepT 28 X _:=h2 (fun j=>∀ cs,¬Blk X j 28 cs) (fun h=>h _ hg)
 have kg:=h2 (fun j=>j≠g) (fun h=>h rfl)
 exact⟨⟨h3 w c.bb hn.2.2,h1,Keep.blk kg c.kr (Ne.symm hn.2.1),⟨hn.1,hn.2.1,hn.2.2,hB⟩,nm.keepT kt (by decide),World.ownsRow_nil _ _ _ _,World.ownsRow_nil _ _ _ _,World.ownsRow_nil _ _ _ _,World.ownsRow_nil _ _ _ _,RG.nil,RG.nil⟩,
  ⟨rfl,rfl,rfl,rfl,rfl,rfl,rfl,rfl,Nat.zero_le _,Nat.zero_le _,Nat.zero_le _⟩,Keep.blk kg c.kh (Ne.symm hn.1)⟩
set_option maxRecDepth 100000 in
set_option maxHeartbeats 40000000 in
theorem few15_any (m:HistM) (w:World) (hm:HArg w m):Calls Tryz.prog 9 #[.agg #[.slice m.tr.1.A m.tr.1.n m.tr.1.c,.slice m.se.1.A m.se.1.n m.se.1.c,.slice m.ob.1.A m.ob.1.n m.ob.1.c,.slice m.pr.1.A m.pr.1.n m.pr.1.c,.slice m.ev.1.A m.ev.1.n m.ev.1.c,.slice m.od.1.A m.od.1.n m.od.1.c,.slice m.ma.1.A m.ma.1.n m.ma.1.c,.slice m.wa.1.A m.wa.1.n m.wa.1.c]] w (FewIs (fewP m.pl) w):=by
 obtain⟨i0,hi,hz0,hz1,hz2⟩:=info_parts ev_info
 obtain⟨j0,hj,hj0,hj1,hj2⟩:=info_parts od_info
 obtain⟨l0,hl,hl0,hl1,hl2⟩:=info_parts ma_info
 obtain⟨kh,kr,b0,hs0⟩:=itwo w #[.slice m.tr.1.A m.tr.1.n m.tr.1.c,.slice m.se.1.A m.se.1.n m.se.1.c,.slice m.ob.1.A m.ob.1.n m.ob.1.c,.slice m.pr.1.A m.pr.1.n m.pr.1.c,.slice m.ev.1.A m.ev.1.n m.ev.1.c,.slice m.od.1.A m.od.1.n m.od.1.c,.slice m.ma.1.A m.ma.1.n m.ma.1.c,.slice m.wa.1.A m.wa.1.n m.wa.1.c] #[.slice none 0 0,.slice none 0 0,.slice none 0 0,.slice none 0 0,.slice none 0 0,.slice none 0 0,.slice none 0 0,.slice none 0 0] 28 28
 obtain⟨W0,hW0⟩:∃ W0,W0=((w.alloc (.cells #[.slice m.tr.1.A m.tr.1.n m.tr.1.c,.slice m.se.1.A m.se.1.n m.se.1.c,.slice m.ob.1.A m.ob.1.n m.ob.1.c,.slice m.pr.1.A m.pr.1.n m.pr.1.c,.slice m.ev.1.A m.ev.1.n m.ev.1.c,.slice m.od.1.A m.od.1.n m.od.1.c,.slice m.ma.1.A m.ma.1.n m.ma.1.c,.slice m.wa.1.A m.wa.1.n m.wa.1.c] 28)).alloc (.cells #[.slice none 0 0,.slice none 0 0,.slice none 0 0,.slice none 0 0,.slice none 0 0,.slice none 0 0,.slice none 0 0,.slice none 0 0] 28)):=⟨_,rfl⟩
 rw[← hW0] at kh kr b0
 obtain⟨Bh,hBh⟩:∃ Bh,Bh=w.heap.size:=⟨_,rfl⟩
 have HBH:Hid (w.heap.size≤Bh):=by show _≤_;omega
 have C0:Hid (C0 Bh w m W0):=by rw[hBh];exact⟨b0,kh,kr⟩
 have HARG:=zh hm
 have HFIT:=zh hm.rd.fit
 clear kh kr b0 hs0 hm
 go_enter Tryz.func9,Tryz.ntmps9
 go_upto_region 1 with fail
 rw[← hBh,← hW0]
 clear hBh hW0
 go_cut [3] (fun s3 wx=>∃ (B3:Nat) (h:HistM),s3=.pointer (some ⟨B3,0,none⟩)∧Hid (FwI Bh B3 w m h wx 0 0 0))
 case first =>
  refine wp_region_noPanic ?_
  refine wp_region_K (S:=fun W=>Blk W Bh 28 m.cs) 14 (by kernel_rfl) C0.out.kh.drew (fun hHeld=>?_)
  have C0:=zh (C0.out.on (Below.refl _ _).drew)
  generalize W0.drew=wd at *
  have NM:Hid (RG 9 1 w.heap.size wd []):=RG.nil
  refine ka 0 (some 10) (.pointer (some ⟨Bh,0,none⟩)) rfl rfl (fun w'=>by go_simp) ?_
  try simp only[Act.put,zK]
  refine kv 1 (some 11) (.slice m.tr.1.A m.tr.1.n m.tr.1.c) rfl rfl (fun w' hSw=>by have c9:w'.cell? ⟨Bh,0,none⟩=some (.slice m.tr.1.A m.tr.1.n m.tr.1.c):=Blk.cell (w:=w') hSw 0;go_simp) ?_
  try simp only[Act.put,zK]
  refine ka 3 (some 13) (.pointer (some ⟨Bh,1,none⟩)) rfl rfl (fun w'=>by go_simp) ?_
  try simp only[Act.put,zK]
  refine kv 4 (some 14) (.slice m.se.1.A m.se.1.n m.se.1.c) rfl rfl (fun w' hSw=>by have c9:w'.cell? ⟨Bh,1,none⟩=some (.slice m.se.1.A m.se.1.n m.se.1.c):=Blk.cell (w:=w') hSw 1;go_simp) ?_
  try simp only[Act.put,zK]
  refine ka 6 (some 16) (.pointer (some ⟨Bh,2,none⟩)) rfl rfl (fun w'=>by go_simp) ?_
  try simp only[Act.put,zK]
  refine kv 7 (some 17) (.slice m.ob.1.A m.ob.1.n m.ob.1.c) rfl rfl (fun w' hSw=>by have c9:w'.cell? ⟨Bh,2,none⟩=some (.slice m.ob.1.A m.ob.1.n m.ob.1.c):=Blk.cell (w:=w') hSw 2;go_simp) ?_
  try simp only[Act.put,zK]
  refine ka 9 (some 19) (.pointer (some ⟨Bh,3,none⟩)) rfl rfl (fun w'=>by go_simp) ?_
  try simp only[Act.put,zK]
  refine kv 10 (some 20) (.slice m.pr.1.A m.pr.1.n m.pr.1.c) rfl rfl (fun w' hSw=>by have c9:w'.cell? ⟨Bh,3,none⟩=some (.slice m.pr.1.A m.pr.1.n m.pr.1.c):=Blk.cell (w:=w') hSw 3;go_simp) ?_
  try simp only[Act.put,zK]
  refine kr [2,13] ?_
  refine kc rfl (fun K hK=>?_) ?_
  ·go_simp
   refine (cut15_any m.tr.1.A m.tr.1.n m.tr.1.c 12 m.tr.2 (by omega) HARG.out.tr.1 HARG.out.z0 wd ((HARG.out.rd.tr.below C0.out.bb).more C0.out.bb.size)).mono ?_
   rintro e u0 ⟨A0,n0,c0,rfl,ho,hb⟩
   have NM:=zh (NM.out.add (hd:=⟨A0,n0,c0⟩) hb C0.out.bb.size ho)
   have C0:=zh (C0.out.on hb)
   clear ho hb hHeld
   go_simp
   refine hK.out _ _ C0.out.kh (fun hHeld=>?_)
   clear hK K
   try simp only[Act.put,zK]
   refine kr [5,13] ?_
   refine kc rfl (fun K hK=>?_) ?_
   ·go_simp
    refine (cut15_any m.se.1.A m.se.1.n m.se.1.c 8 m.se.2 (by omega) HARG.out.se.1 HARG.out.z1 u0 ((HARG.out.rd.se.below C0.out.bb).more C0.out.bb.size)).mono ?_
    rintro e u1 ⟨A1,n1,c1,rfl,ho,hb⟩
    have NM:=zh (NM.out.add (hd:=⟨A1,n1,c1⟩) hb C0.out.bb.size ho)
    have C0:=zh (C0.out.on hb)
    clear ho hb hHeld
    go_simp
    refine hK.out _ _ C0.out.kh (fun hHeld=>?_)
    clear hK K
    try simp only[Act.put,zK]
    refine kr [8,13] ?_
    refine kc rfl (fun K hK=>?_) ?_
    ·go_simp
     refine (cut15_any m.ob.1.A m.ob.1.n m.ob.1.c 10 m.ob.2 (by omega) HARG.out.ob.1 HARG.out.z2 u1 ((HARG.out.rd.ob.below C0.out.bb).more C0.out.bb.size)).mono ?_
     rintro e u2 ⟨A2,n2,c2,rfl,ho,hb⟩
     have NM:=zh (NM.out.add (hd:=⟨A2,n2,c2⟩) hb C0.out.bb.size ho)
     have C0:=zh (C0.out.on hb)
     clear ho hb hHeld
     go_simp
     refine hK.out _ _ C0.out.kh (fun hHeld=>?_)
     clear hK K
     try simp only[Act.put,zK]
     refine kr [11,13] ?_
     refine kc rfl (fun K hK=>?_) ?_
     ·go_simp
      refine (cut15_any m.pr.1.A m.pr.1.n m.pr.1.c 6 m.pr.2 (by omega) HARG.out.pr.1 HARG.out.z3 u2 ((HARG.out.rd.pr.below C0.out.bb).more C0.out.bb.size)).mono ?_
      rintro e u3 ⟨A3,n3,c3,rfl,ho,hb⟩
      have NM:=zh (NM.out.add (hd:=⟨A3,n3,c3⟩) hb C0.out.bb.size ho)
      have C0:=zh (C0.out.on hb)
      clear ho hb hHeld
      go_simp
      refine hK.out _ _ C0.out.kh (fun hHeld=>?_)
      clear hK K
      try simp only[Act.put,zK]
      refine ka 12 (some 22) (.agg #[.slice A0 n0 c0,.slice A1 n1 c1,.slice A2 n2 c2,.slice A3 n3 c3,.slice none 0 0,.slice none 0 0,.slice none 0 0,.slice none 0 0]) rfl rfl (fun w'=>by go_simp) ?_
      try simp only[Act.put,zK]
      refine kr [13] ?_
      refine kc rfl (fun K hK=>?_) kn
      go_simp
      refine hK.out _ _ (C0.out.kh.alloc _) (fun hHeld=>?_)
      clear hK K
      try simp only[Act.put,zK]
      have HGN:=zh C0.out.apart
      have hb:=(Below.refl _ u3).alloc (Nat.le_refl _) (.cells #[.slice none 0 0,.slice none 0 0,.slice none 0 0,.slice none 0 0,.slice none 0 0,.slice none 0 0,.slice none 0 0,.slice none 0 0] 28)
      have C0:=zh (C0.out.on hb)
      have NM:=zh (NM.out.on hb)
      have KG:Hid (Blk (u3.alloc (.cells #[.slice none 0 0,.slice none 0 0,.slice none 0 0,.slice none 0 0,.slice none 0 0,.slice none 0 0,.slice none 0 0,.slice none 0 0] 28)) u3.heap.size 28 zeroH):=Blk.new _ _ _
      clear hHeld hb
      generalize u3.alloc (.cells #[.slice none 0 0,.slice none 0 0,.slice none 0 0,.slice none 0 0,.slice none 0 0,.slice none 0 0,.slice none 0 0,.slice none 0 0] 28)=ua at *
      generalize u3.heap.size=g at *
      have hHeld:=C0.out.kh
      refine kr [14] ?_
      refine kz (o:={dst:=none,op:=Op.store 28 (Operand.tmp 3) (Operand.tmp 22),type:=0,pos:="law.go:40",after:=#[⟨13,.data⟩,⟨12,.data⟩,⟨11,.chain⟩,⟨0,.phase⟩,⟨1,.phase⟩,⟨2,.phase⟩,⟨3,.phase⟩,⟨4,.phase⟩,⟨5,.phase⟩,⟨6,.phase⟩,⟨7,.phase⟩,⟨8,.phase⟩,⟨9,.phase⟩,⟨10,.phase⟩,⟨11,.phase⟩,⟨12,.phase⟩,⟨13,.phase⟩],guard:=none}) rfl (fun K hK=>?_)
      obtain⟨⟨y0,y1,y2,y3,y4,y5,y6,y7⟩,f0,f1,f2,f3,f4,f5,f6,f7⟩:=cf8 KG.out
      go_simp
      clear hHeld y0 f0 y1 f1 y2 f2 y3 f3 y4 f4 y5 f5 y6 f6 y7 f7
      refine hK.out _ _ ?_
      clear hK K
      try simp only[Act.put]
      refine kd (by kernel_rfl) ?_ _
      refine NoPanic.normal ?_
      go_wp2_with fail
      go_meet
      exact⟨g,_,rfl,few_store C0.out KG.out HGN.out HBH.out NM.out⟩
     refine kc rfl (fun K hK=>?_) ?_
     ·go_simp
      refine hK.out _ _ (C0.out.kh.alloc _) (fun hHeld=>?_)
      clear hK K
      try simp only[Act.put,zK]
      have HGN:=zh C0.out.apart
      have hb:=(Below.refl _ u2).alloc (Nat.le_refl _) (.cells #[.slice none 0 0,.slice none 0 0,.slice none 0 0,.slice none 0 0,.slice none 0 0,.slice none 0 0,.slice none 0 0,.slice none 0 0] 28)
      have C0:=zh (C0.out.on hb)
      have NM:=zh (NM.out.on hb)
      have KG:Hid (Blk (u2.alloc (.cells #[.slice none 0 0,.slice none 0 0,.slice none 0 0,.slice none 0 0,.slice none 0 0,.slice none 0 0,.slice none 0 0,.slice none 0 0] 28)) u2.heap.size 28 zeroH):=Blk.new _ _ _
      clear hHeld hb
      generalize u2.alloc (.cells #[.slice none 0 0,.slice none 0 0,.slice none 0 0,.slice none 0 0,.slice none 0 0,.slice none 0 0,.slice none 0 0,.slice none 0 0] 28)=ua at *
      generalize u2.heap.size=g at *
      have hHeld:=C0.out.kh
      refine kr [11] ?_
      refine kc rfl (fun K hK=>?_) kn
      go_simp
      refine (cut15_any m.pr.1.A m.pr.1.n m.pr.1.c 6 m.pr.2 (by omega) HARG.out.pr.1 HARG.out.z3 ua ((HARG.out.rd.pr.below C0.out.bb).more C0.out.bb.size)).mono ?_
      rintro e u3 ⟨A3,n3,c3,rfl,ho,hb⟩
      have KG:=zh (KG.out.below hb KG.out.lt)
      have NM:=zh (NM.out.add (hd:=⟨A3,n3,c3⟩) hb C0.out.bb.size ho)
      have C0:=zh (C0.out.on hb)
      clear ho hb hHeld
      go_simp
      refine hK.out _ _ C0.out.kh (fun hHeld=>?_)
      clear hK K
      try simp only[Act.put,zK]
      refine ka 12 (some 22) (.agg #[.slice A0 n0 c0,.slice A1 n1 c1,.slice A2 n2 c2,.slice A3 n3 c3,.slice none 0 0,.slice none 0 0,.slice none 0 0,.slice none 0 0]) rfl rfl (fun w'=>by go_simp) ?_
      try simp only[Act.put,zK]
      refine kr [14] ?_
      refine kz (o:={dst:=none,op:=Op.store 28 (Operand.tmp 3) (Operand.tmp 22),type:=0,pos:="law.go:40",after:=#[⟨13,.data⟩,⟨12,.data⟩,⟨11,.chain⟩,⟨0,.phase⟩,⟨1,.phase⟩,⟨2,.phase⟩,⟨3,.phase⟩,⟨4,.phase⟩,⟨5,.phase⟩,⟨6,.phase⟩,⟨7,.phase⟩,⟨8,.phase⟩,⟨9,.phase⟩,⟨10,.phase⟩,⟨11,.phase⟩,⟨12,.phase⟩,⟨13,.phase⟩],guard:=none}) rfl (fun K hK=>?_)
      obtain⟨⟨y0,y1,y2,y3,y4,y5,y6,y7⟩,f0,f1,f2,f3,f4,f5,f6,f7⟩:=cf8 KG.out
      go_simp
      clear hHeld y0 f0 y1 f1 y2 f2 y3 f3 y4 f4 y5 f5 y6 f6 y7 f7
      refine hK.out _ _ ?_
      clear hK K
      try simp only[Act.put]
      refine kd (by kernel_rfl) ?_ _
      refine NoPanic.normal ?_
      go_wp2_with fail
      go_meet
      exact⟨g,_,rfl,few_store C0.out KG.out HGN.out HBH.out NM.out⟩
     exact kn
    refine kc rfl (fun K hK=>?_) ?_
    ·go_simp
     refine hK.out _ _ (C0.out.kh.alloc _) (fun hHeld=>?_)
     clear hK K
     try simp only[Act.put,zK]
     have HGN:=zh C0.out.apart
     have hb:=(Below.refl _ u1).alloc (Nat.le_refl _) (.cells #[.slice none 0 0,.slice none 0 0,.slice none 0 0,.slice none 0 0,.slice none 0 0,.slice none 0 0,.slice none 0 0,.slice none 0 0] 28)
     have C0:=zh (C0.out.on hb)
     have NM:=zh (NM.out.on hb)
     have KG:Hid (Blk (u1.alloc (.cells #[.slice none 0 0,.slice none 0 0,.slice none 0 0,.slice none 0 0,.slice none 0 0,.slice none 0 0,.slice none 0 0,.slice none 0 0] 28)) u1.heap.size 28 zeroH):=Blk.new _ _ _
     clear hHeld hb
     generalize u1.alloc (.cells #[.slice none 0 0,.slice none 0 0,.slice none 0 0,.slice none 0 0,.slice none 0 0,.slice none 0 0,.slice none 0 0,.slice none 0 0] 28)=ua at *
     generalize u1.heap.size=g at *
     have hHeld:=C0.out.kh
     refine kr [8] ?_
     refine kc rfl (fun K hK=>?_) kn
     go_simp
     refine (cut15_any m.ob.1.A m.ob.1.n m.ob.1.c 10 m.ob.2 (by omega) HARG.out.ob.1 HARG.out.z2 ua ((HARG.out.rd.ob.below C0.out.bb).more C0.out.bb.size)).mono ?_
     rintro e u2 ⟨A2,n2,c2,rfl,ho,hb⟩
     have KG:=zh (KG.out.below hb KG.out.lt)
     have NM:=zh (NM.out.add (hd:=⟨A2,n2,c2⟩) hb C0.out.bb.size ho)
     have C0:=zh (C0.out.on hb)
     clear ho hb hHeld
     go_simp
     refine hK.out _ _ C0.out.kh (fun hHeld=>?_)
     clear hK K
     try simp only[Act.put,zK]
     refine kr [11] ?_
     refine kc rfl (fun K hK=>?_) kn
     go_simp
     refine (cut15_any m.pr.1.A m.pr.1.n m.pr.1.c 6 m.pr.2 (by omega) HARG.out.pr.1 HARG.out.z3 u2 ((HARG.out.rd.pr.below C0.out.bb).more C0.out.bb.size)).mono ?_
     rintro e u3 ⟨A3,n3,c3,rfl,ho,hb⟩
     have KG:=zh (KG.out.below hb KG.out.lt)
     have NM:=zh (NM.out.add (hd:=⟨A3,n3,c3⟩) hb C0.out.bb.size ho)
     have C0:=zh (C0.out.on hb)
     clear ho hb hHeld
     go_simp
     refine hK.out _ _ C0.out.kh (fun hHeld=>?_)
     clear hK K
     try simp only[Act.put,zK]
     refine ka 12 (some 22) (.agg #[.slice A0 n0 c0,.slice A1 n1 c1,.slice A2 n2 c2,.slice A3 n3 c3,.slice none 0 0,.slice none 0 0,.slice none 0 0,.slice none 0 0]) rfl rfl (fun w'=>by go_simp) ?_
     try simp only[Act.put,zK]
     refine kr [14] ?_
     refine kz (o:={dst:=none,op:=Op.store 28 (Operand.tmp 3) (Operand.tmp 22),type:=0,pos:="law.go:40",after:=#[⟨13,.data⟩,⟨12,.data⟩,⟨11,.chain⟩,⟨0,.phase⟩,⟨1,.phase⟩,⟨2,.phase⟩,⟨3,.phase⟩,⟨4,.phase⟩,⟨5,.phase⟩,⟨6,.phase⟩,⟨7,.phase⟩,⟨8,.phase⟩,⟨9,.phase⟩,⟨10,.phase⟩,⟨11,.phase⟩,⟨12,.phase⟩,⟨13,.phase⟩],guard:=none}) rfl (fun K hK=>?_)
     obtain⟨⟨y0,y1,y2,y3,y4,y5,y6,y7⟩,f0,f1,f2,f3,f4,f5,f6,f7⟩:=cf8 KG.out
     go_simp
     clear hHeld y0 f0 y1 f1 y2 f2 y3 f3 y4 f4 y5 f5 y6 f6 y7 f7
     refine hK.out _ _ ?_
     clear hK K
     try simp only[Act.put]
     refine kd (by kernel_rfl) ?_ _
     refine NoPanic.normal ?_
     go_wp2_with fail
     go_meet
     exact⟨g,_,rfl,few_store C0.out KG.out HGN.out HBH.out NM.out⟩
    exact kn
   refine kc rfl (fun K hK=>?_) ?_
   ·go_simp
    refine hK.out _ _ (C0.out.kh.alloc _) (fun hHeld=>?_)
    clear hK K
    try simp only[Act.put,zK]
    have HGN:=zh C0.out.apart
    have hb:=(Below.refl _ u0).alloc (Nat.le_refl _) (.cells #[.slice none 0 0,.slice none 0 0,.slice none 0 0,.slice none 0 0,.slice none 0 0,.slice none 0 0,.slice none 0 0,.slice none 0 0] 28)
    have C0:=zh (C0.out.on hb)
    have NM:=zh (NM.out.on hb)
    have KG:Hid (Blk (u0.alloc (.cells #[.slice none 0 0,.slice none 0 0,.slice none 0 0,.slice none 0 0,.slice none 0 0,.slice none 0 0,.slice none 0 0,.slice none 0 0] 28)) u0.heap.size 28 zeroH):=Blk.new _ _ _
    clear hHeld hb
    generalize u0.alloc (.cells #[.slice none 0 0,.slice none 0 0,.slice none 0 0,.slice none 0 0,.slice none 0 0,.slice none 0 0,.slice none 0 0,.slice none 0 0] 28)=ua at *
    generalize u0.heap.size=g at *
    have hHeld:=C0.out.kh
    refine kr [5] ?_
    refine kc rfl (fun K hK=>?_) kn
    go_simp
    refine (cut15_any m.se.1.A m.se.1.n m.se.1.c 8 m.se.2 (by omega) HARG.out.se.1 HARG.out.z1 ua ((HARG.out.rd.se.below C0.out.bb).more C0.out.bb.size)).mono ?_
    rintro e u1 ⟨A1,n1,c1,rfl,ho,hb⟩
    have KG:=zh (KG.out.below hb KG.out.lt)
    have NM:=zh (NM.out.add (hd:=⟨A1,n1,c1⟩) hb C0.out.bb.size ho)
    have C0:=zh (C0.out.on hb)
    clear ho hb hHeld
    go_simp
    refine hK.out _ _ C0.out.kh (fun hHeld=>?_)
    clear hK K
    try simp only[Act.put,zK]
    refine kr [8] ?_
    refine kc rfl (fun K hK=>?_) kn
    go_simp
    refine (cut15_any m.ob.1.A m.ob.1.n m.ob.1.c 10 m.ob.2 (by omega) HARG.out.ob.1 HARG.out.z2 u1 ((HARG.out.rd.ob.below C0.out.bb).more C0.out.bb.size)).mono ?_
    rintro e u2 ⟨A2,n2,c2,rfl,ho,hb⟩
    have KG:=zh (KG.out.below hb KG.out.lt)
    have NM:=zh (NM.out.add (hd:=⟨A2,n2,c2⟩) hb C0.out.bb.size ho)
    have C0:=zh (C0.out.on hb)
    clear ho hb hHeld
    go_simp
    refine hK.out _ _ C0.out.kh (fun hHeld=>?_)
    clear hK K
    try simp only[Act.put,zK]
    refine kr [11] ?_
    refine kc rfl (fun K hK=>?_) kn
    go_simp
    refine (cut15_any m.pr.1.A m.pr.1.n m.pr.1.c 6 m.pr.2 (by omega) HARG.out.pr.1 HARG.out.z3 u2 ((HARG.out.rd.pr.below C0.out.bb).more C0.out.bb.size)).mono ?_
    rintro e u3 ⟨A3,n3,c3,rfl,ho,hb⟩
    have KG:=zh (KG.out.below hb KG.out.lt)
    have NM:=zh (NM.out.add (hd:=⟨A3,n3,c3⟩) hb C0.out.bb.size ho)
    have C0:=zh (C0.out.on hb)
    clear ho hb hHeld
    go_simp
    refine hK.out _ _ C0.out.kh (fun hHeld=>?_)
    clear hK K
    try simp only[Act.put,zK]
    refine ka 12 (some 22) (.agg #[.slice A0 n0 c0,.slice A1 n1 c1,.slice A2 n2 c2,.slice A3 n3 c3,.slice none 0 0,.slice none 0 0,.slice none 0 0,.slice none 0 0]) rfl rfl (fun w'=>by go_simp) ?_
    try simp only[Act.put,zK]
    refine kr [14] ?_
    refine kz (o:={dst:=none,op:=Op.store 28 (Operand.tmp 3) (Operand.tmp 22),type:=0,pos:="law.go:40",after:=#[⟨13,.data⟩,⟨12,.data⟩,⟨11,.chain⟩,⟨0,.phase⟩,⟨1,.phase⟩,⟨2,.phase⟩,⟨3,.phase⟩,⟨4,.phase⟩,⟨5,.phase⟩,⟨6,.phase⟩,⟨7,.phase⟩,⟨8,.phase⟩,⟨9,.phase⟩,⟨10,.phase⟩,⟨11,.phase⟩,⟨12,.phase⟩,⟨13,.phase⟩],guard:=none}) rfl (fun K hK=>?_)
    obtain⟨⟨y0,y1,y2,y3,y4,y5,y6,y7⟩,f0,f1,f2,f3,f4,f5,f6,f7⟩:=cf8 KG.out
    go_simp
    clear hHeld y0 f0 y1 f1 y2 f2 y3 f3 y4 f4 y5 f5 y6 f6 y7 f7
    refine hK.out _ _ ?_
    clear hK K
    try simp only[Act.put]
    refine kd (by kernel_rfl) ?_ _
    refine NoPanic.normal ?_
    go_wp2_with fail
    go_meet
    exact⟨g,_,rfl,few_store C0.out KG.out HGN.out HBH.out NM.out⟩
   exact kn
  refine kc rfl (fun K hK=>?_) ?_
  ·go_simp
   refine hK.out _ _ (C0.out.kh.alloc _) (fun hHeld=>?_)
   clear hK K
   try simp only[Act.put,zK]
   have HGN:=zh C0.out.apart
   have hb:=(Below.refl _ wd).alloc (Nat.le_refl _) (.cells #[.slice none 0 0,.slice none 0 0,.slice none 0 0,.slice none 0 0,.slice none 0 0,.slice none 0 0,.slice none 0 0,.slice none 0 0] 28)
   have C0:=zh (C0.out.on hb)
   have NM:=zh (NM.out.on hb)
   have KG:Hid (Blk (wd.alloc (.cells #[.slice none 0 0,.slice none 0 0,.slice none 0 0,.slice none 0 0,.slice none 0 0,.slice none 0 0,.slice none 0 0,.slice none 0 0] 28)) wd.heap.size 28 zeroH):=Blk.new _ _ _
   clear hHeld hb
   generalize wd.alloc (.cells #[.slice none 0 0,.slice none 0 0,.slice none 0 0,.slice none 0 0,.slice none 0 0,.slice none 0 0,.slice none 0 0,.slice none 0 0] 28)=ua at *
   generalize wd.heap.size=g at *
   have hHeld:=C0.out.kh
   refine kr [2] ?_
   refine kc rfl (fun K hK=>?_) kn
   go_simp
   refine (cut15_any m.tr.1.A m.tr.1.n m.tr.1.c 12 m.tr.2 (by omega) HARG.out.tr.1 HARG.out.z0 ua ((HARG.out.rd.tr.below C0.out.bb).more C0.out.bb.size)).mono ?_
   rintro e u0 ⟨A0,n0,c0,rfl,ho,hb⟩
   have KG:=zh (KG.out.below hb KG.out.lt)
   have NM:=zh (NM.out.add (hd:=⟨A0,n0,c0⟩) hb C0.out.bb.size ho)
   have C0:=zh (C0.out.on hb)
   clear ho hb hHeld
   go_simp
   refine hK.out _ _ C0.out.kh (fun hHeld=>?_)
   clear hK K
   try simp only[Act.put,zK]
   refine kr [5] ?_
   refine kc rfl (fun K hK=>?_) kn
   go_simp
   refine (cut15_any m.se.1.A m.se.1.n m.se.1.c 8 m.se.2 (by omega) HARG.out.se.1 HARG.out.z1 u0 ((HARG.out.rd.se.below C0.out.bb).more C0.out.bb.size)).mono ?_
   rintro e u1 ⟨A1,n1,c1,rfl,ho,hb⟩
   have KG:=zh (KG.out.below hb KG.out.lt)
   have NM:=zh (NM.out.add (hd:=⟨A1,n1,c1⟩) hb C0.out.bb.size ho)
   have C0:=zh (C0.out.on hb)
   clear ho hb hHeld
   go_simp
   refine hK.out _ _ C0.out.kh (fun hHeld=>?_)
   clear hK K
   try simp only[Act.put,zK]
   refine kr [8] ?_
   refine kc rfl (fun K hK=>?_) kn
   go_simp
   refine (cut15_any m.ob.1.A m.ob.1.n m.ob.1.c 10 m.ob.2 (by omega) HARG.out.ob.1 HARG.out.z2 u1 ((HARG.out.rd.ob.below C0.out.bb).more C0.out.bb.size)).mono ?_
   rintro e u2 ⟨A2,n2,c2,rfl,ho,hb⟩
   have KG:=zh (KG.out.below hb KG.out.lt)
   have NM:=zh (NM.out.add (hd:=⟨A2,n2,c2⟩) hb C0.out.bb.size ho)
   have C0:=zh (C0.out.on hb)
   clear ho hb hHeld
   go_simp
   refine hK.out _ _ C0.out.kh (fun hHeld=>?_)
   clear hK K
   try simp only[Act.put,zK]
   refine kr [11] ?_
   refine kc rfl (fun K hK=>?_) kn
   go_simp
   refine (cut15_any m.pr.1.A m.pr.1.n m.pr.1.c 6 m.pr.2 (by omega) HARG.out.pr.1 HARG.out.z3 u2 ((HARG.out.rd.pr.below C0.out.bb).more C0.out.bb.size)).mono ?_
   rintro e u3 ⟨A3,n3,c3,rfl,ho,hb⟩
   have KG:=zh (KG.out.below hb KG.out.lt)
   have NM:=zh (NM.out.add (hd:=⟨A3,n3,c3⟩) hb C0.out.bb.size ho)
   have C0:=zh (C0.out.on hb)
   clear ho hb hHeld
   go_simp
   refine hK.out _ _ C0.out.kh (fun hHeld=>?_)
   clear hK K
   try simp only[Act.put,zK]
   refine ka 12 (some 22) (.agg #[.slice A0 n0 c0,.slice A1 n1 c1,.slice A2 n2 c2,.slice A3 n3 c3,.slice none 0 0,.slice none 0 0,.slice none 0 0,.slice none 0 0]) rfl rfl (fun w'=>by go_simp) ?_
   try simp only[Act.put,zK]
   refine kr [14] ?_
   refine kz (o:={dst:=none,op:=Op.store 28 (Operand.tmp 3) (Operand.tmp 22),type:=0,pos:="law.go:40",after:=#[⟨13,.data⟩,⟨12,.data⟩,⟨11,.chain⟩,⟨0,.phase⟩,⟨1,.phase⟩,⟨2,.phase⟩,⟨3,.phase⟩,⟨4,.phase⟩,⟨5,.phase⟩,⟨6,.phase⟩,⟨7,.phase⟩,⟨8,.phase⟩,⟨9,.phase⟩,⟨10,.phase⟩,⟨11,.phase⟩,⟨12,.phase⟩,⟨13,.phase⟩],guard:=none}) rfl (fun K hK=>?_)
   obtain⟨⟨y0,y1,y2,y3,y4,y5,y6,y7⟩,f0,f1,f2,f3,f4,f5,f6,f7⟩:=cf8 KG.out
   go_simp
   clear hHeld y0 f0 y1 f1 y2 f2 y3 f3 y4 f4 y5 f5 y6 f6 y7 f7
   refine hK.out _ _ ?_
   clear hK K
   try simp only[Act.put]
   refine kd (by kernel_rfl) ?_ _
   refine NoPanic.normal ?_
   go_wp2_with fail
   go_meet
   exact⟨g,_,rfl,few_store C0.out KG.out HGN.out HBH.out NM.out⟩
  exact kn
 clear C0
 obtain⟨B3,h,rfl,HF⟩:=hcut
 have z4:wc.cell? ⟨Bh,4,none⟩=some (.slice m.ev.1.A m.ev.1.n m.ev.1.c):=HF.out.bh.cell 4
 have hmx:m.ev.1.n≤9223372036854775807:=Nat.le_trans HARG.out.ev.1 HARG.out.ev.2
 go_wp2_with fail
 clear z4
 go_loopw [26] (fun v wr=>∃ (i:Nat) (h:HistM),i≤m.ev.1.n∧v=.int .i64 i∧Hid (FwI Bh B3 w m h wr (min i 70) 0 0)) (fun v _=>m.ev.1.n - (intOf v).toNat)
 case atStart=>exact⟨0,h,Nat.zero_le _,rfl,HF⟩
 clear HF
 obtain⟨i,h,hi0,rfl,HF⟩:=hrel
 by_cases hin:i<m.ev.1.n
 ·have hlt:(i:Int)<(m.ev.1.n:Int):=by omega
  obtain⟨⟨e,hd⟩,hs⟩:∃ p,m.ev.2[i]?=some p:=⟨m.ev.2[i]'(by rw[HFIT.out.ev.1];exact hin),List.getElem?_eq_getElem _⟩
  obtain⟨b,o,hA,hbl,hc⟩:=row_cells evCs_len (by omega) (HARG.out.rd.ev.below HF.out.cp.below) hs
  rw[hA]
  have c0:wr.cell? ⟨b,o+i * 9,none⟩=some (.int .i64 e.kd):=hc 0 _ rfl
  have c1:wr.cell? ⟨b,o+i * 9+1,none⟩=some (.int .i64 e.t):=hc 1 _ rfl
  have c2:wr.cell? ⟨b,o+i * 9+2,none⟩=some (.int .i64 e.s):=hc 2 _ rfl
  have c3:wr.cell? ⟨b,o+i * 9+3,none⟩=some (.int .i64 e.lev):=hc 3 _ rfl
  have c4:wr.cell? ⟨b,o+i * 9+4,none⟩=some (.int .i64 e.o):=hc 4 _ rfl
  have c5:wr.cell? ⟨b,o+i * 9+5,none⟩=some (.int .i64 e.vt):=hc 5 _ rfl
  have c6:wr.cell? ⟨b,o+i * 9+6,none⟩=some (.int .i64 e.vk):=hc 6 _ rfl
  have c7:wr.cell? ⟨b,o+i * 9+7,none⟩=some (.int .i64 e.p):=hc 7 _ rfl
  have c8:wr.cell? ⟨b,o+i * 9+8,none⟩=some (.slice hd.A hd.n hd.c):=hc 8 _ rfl
  have HSI:=zh hs
  have HA:=zh hA
  clear hc hbl hs hA
  have hal:Below wr.heap.size wr (wr.alloc (.cells #[.int .i64 e.kd,.int .i64 e.t,.int .i64 e.s,.int .i64 e.lev,.int .i64 e.o,.int .i64 e.vt,.int .i64 e.vk,.int .i64 e.p,.slice hd.A hd.n hd.c] 60)):=(Below.refl _ _).alloc (Nat.le_refl _) _
  by_cases h80:i<70
  ·have h80i:(i:Int)<70:=by omega
   obtain⟨q,hq,hqn,hq41⟩:∃ q:Nat,min (hd.n:Int) 12=(q:Int)∧q≤hd.n∧q=min hd.n 12:=⟨min hd.n 12,by omega,by omega,rfl⟩
   have hsc:=HFIT.out.sc _ (List.mem_of_getElem? HSI.out)
   have HTK:Hid (e.scan.take q=(cutE e).scan):=by
    show _=e.scan.take 12
    have h9:e.scan.length=hd.n:=hsc.1
    rw[hq41]
    rcases Nat.le_total hd.n 12 with h1 | h1
    ·rw[Nat.min_eq_left h1,List.take_of_length_le (by omega),List.take_of_length_le (by omega)]
    rw[Nat.min_eq_right h1]
   have HBW:=zh (HF.out.cp.below.trans (hal.mono HF.out.cp.below.size))
   have HCL:=zh (clone_se hd.A q hd.c (e.scan.take q) (by omega) _ (((reads_cut_s seCs_len (HARG.out.rd.sc _ (List.mem_of_getElem? HSI.out)) hqn).below HBW.out).more HBW.out.size))
   have hcut:=fun W=>cut_se hd.A hd.n hd.c q (by have:=(HARG.out.sc _ (List.mem_of_getElem? HSI.out)).1;simp only at this;omega) W
   have HE:Hid (m.pl.ev[i]?=some e):=by show m.pl.ev[i]?=_;unfold HistM.pl;simp[HSI.out]
   have KE:Hid (Blk (wr.alloc (.cells #[.int .i64 e.kd,.int .i64 e.t,.int .i64 e.s,.int .i64 e.lev,.int .i64 e.o,.int .i64 e.vt,.int .i64 e.vk,.int .i64 e.p,.slice hd.A hd.n hd.c] 60)) wr.heap.size 60 #[.int .i64 e.kd,.int .i64 e.t,.int .i64 e.s,.int .i64 e.lev,.int .i64 e.o,.int .i64 e.vt,.int .i64 e.vk,.int .i64 e.p,.slice hd.A hd.n hd.c]):=Blk.new _ _ _
   have HAL:=zh hal
   clear hal hsc hq41
   go_wp2_with fail
   refine HCL.out.mono ?_
   rintro e5 w5 ⟨A5,c5,rfl,ho5,hb5⟩
   rw[HTK.out] at ho5
   clear c0 c1 c2 c3 c4 c6 c7 c8 HCL hcut
   generalize hW1:wr.alloc (.cells #[.int .i64 e.kd,.int .i64 e.t,.int .i64 e.s,.int .i64 e.lev,.int .i64 e.o,.int .i64 e.vt,.int .i64 e.vk,.int .i64 e.p,.slice hd.A hd.n hd.c] 60)=W1 at *
   have HHW:=zh hW1
   clear hW1
   have ke5:=KE.out.below hb5 KE.out.lt
   have y8:=ke5.cell 8
   have f8:=ke5.frozen 8
   have ke6:=ke5.set_ 8 (.slice A5 q c5)
   simp at ke6
   have hb6:Below wr.heap.size wr (w5.setCell ⟨wr.heap.size,8,none⟩ (.slice A5 q c5)):=(HAL.out.trans (hb5.mono HAL.out.size)).setCell (p:=⟨wr.heap.size,8,none⟩) (Nat.le_refl _) _
   have hs6:(w5.setCell ⟨wr.heap.size,8,none⟩ (.slice A5 q c5)).ownsRow wr.heap.size 64 3 (.slice A5 q c5) q ((cutE e).scan.flatMap seCs):=(KeepT.set ke5 8 _).own (own_mono ho5 HAL.out.size) (by decide)
   have z4:(w5.setCell ⟨wr.heap.size,8,none⟩ (.slice A5 q c5)).cell? ⟨B3,4,none⟩=some (.slice h.ev.1.A h.ev.1.n h.ev.1.c):=(HF.out.on hb6).cp.b3.cell 4
   have d0:(w5.setCell ⟨wr.heap.size,8,none⟩ (.slice A5 q c5)).cell? ⟨wr.heap.size,0,none⟩=some (.int .i64 e.kd):=ke6.cell 0
   have d1:(w5.setCell ⟨wr.heap.size,8,none⟩ (.slice A5 q c5)).cell? ⟨wr.heap.size,1,none⟩=some (.int .i64 e.t):=ke6.cell 1
   have d2:(w5.setCell ⟨wr.heap.size,8,none⟩ (.slice A5 q c5)).cell? ⟨wr.heap.size,2,none⟩=some (.int .i64 e.s):=ke6.cell 2
   have d3:(w5.setCell ⟨wr.heap.size,8,none⟩ (.slice A5 q c5)).cell? ⟨wr.heap.size,3,none⟩=some (.int .i64 e.lev):=ke6.cell 3
   have d4:(w5.setCell ⟨wr.heap.size,8,none⟩ (.slice A5 q c5)).cell? ⟨wr.heap.size,4,none⟩=some (.int .i64 e.o):=ke6.cell 4
   have d5:(w5.setCell ⟨wr.heap.size,8,none⟩ (.slice A5 q c5)).cell? ⟨wr.heap.size,5,none⟩=some (.int .i64 e.vt):=ke6.cell 5
   have d6:(w5.setCell ⟨wr.heap.size,8,none⟩ (.slice A5 q c5)).cell? ⟨wr.heap.size,6,none⟩=some (.int .i64 e.vk):=ke6.cell 6
   have d7:(w5.setCell ⟨wr.heap.size,8,none⟩ (.slice A5 q c5)).cell? ⟨wr.heap.size,7,none⟩=some (.int .i64 e.p):=ke6.cell 7
   have d8:(w5.setCell ⟨wr.heap.size,8,none⟩ (.slice A5 q c5)).cell? ⟨wr.heap.size,8,none⟩=some (.slice A5 q c5):=ke6.cell 8
   have hal7:Below (w5.setCell ⟨wr.heap.size,8,none⟩ (.slice A5 q c5)).heap.size (w5.setCell ⟨wr.heap.size,8,none⟩ (.slice A5 q c5)) ((w5.setCell ⟨wr.heap.size,8,none⟩ (.slice A5 q c5)).alloc (.cells #[.int .i64 e.kd,.int .i64 e.t,.int .i64 e.s,.int .i64 e.lev,.int .i64 e.o,.int .i64 e.vt,.int .i64 e.vk,.int .i64 e.p,.slice A5 q c5] 60)):=(Below.refl _ _).alloc (Nat.le_refl _) _
   have HB7:=zh (hb6.trans (hal7.mono hb6.size))
   have HS7:=zh (own_on hs6 hal7)
   have hsz5:(w5.setCell ⟨wr.heap.size,8,none⟩ (.slice A5 q c5)).heap.size=w5.heap.size:=by simp
   have sl:=(lit_of (w5.setCell ⟨wr.heap.size,8,none⟩ (.slice A5 q c5)) 60 9 (evCs (cutE e,⟨A5,q,c5⟩)) #[.int .i64 e.kd,.int .i64 e.t,.int .i64 e.s,.int .i64 e.lev,.int .i64 e.o,.int .i64 e.vt,.int .i64 e.vk,.int .i64 e.p,.slice A5 q c5] rfl rfl)
   rw[hsz5] at sl
   have SL:=zh sl
   clear sl hsz5
   have HF7:=zh (HF.out.on HB7.out)
   have hn4:h.ev.1.n≤70:=HF.out.st.n.1
   have HFi:Hid (FwI Bh B3 w m h wr i 0 0):=HF.out.to (by omega) rfl rfl
   clear ho5 hb5 ke5 ke6 hb6 hs6 hal7
   go_wp2_with (at_builtin;refine wpList_append_any _ rfl (.tmp 43) (.tmp 45) 23 rfl w.heap.size 60 i0 _ 9 88 Tryz.underlying23 hi hz0 hz1 hz2 rfl (by decide) _ _ _ rfl HF7.out.cp.ev _ (some ⟨w5.heap.size,0,none⟩) 1 _ (evCs (cutE e,⟨A5,q,c5⟩)) rfl SL.out (evCs_one _) (by unfold maxLen;omega) (by omega) HF7.out.cp.below.size ?_;intro v' w8 hown8 hgrow8 hat8;obtain⟨A8,c8,rfl,-,-⟩:=own_form2 hown8;obtain⟨hb8,hf8⟩:=HFi.out.ev HE.out HB7.out HS7.out h80 hown8 hgrow8;have y4:=hb8.cell 4;have f4:=hb8.frozen 4)
   have HF8:=zh (hf8.to (i2:=min (i+1) 70) (by omega) rfl rfl)
   clear hown8 hgrow8 hat8 hb8 hf8 y4 f4 SL HF7 HFi HF HB7 HS7 z4 y8 f8 d0 d1 d2 d3 d4 d5 d6 d7 d8
   go_wp2_with fail
   go_roundw
   case rel=>exact⟨i+1,_,hin,by go_num,HF8⟩
   case measure=>simp[intOf];omega
  have h80i:¬(i:Int)<70:=by omega
  have HF8:=zh ((HF.out.on hal).to (i2:=min (i+1) 70) (by omega) rfl rfl)
  clear hal HF
  go_wp2_with fail
  go_roundw
  case rel=>exact⟨i+1,_,hin,by go_num,HF8⟩
  case measure=>simp[intOf];omega
 have hie:i=m.ev.1.n:=by omega
 have HF:Hid (FwI Bh B3 w m h wr (min m.ev.1.n 70) 0 0):=by rw[← hie];exact HF.out
 rw[hie]
 clear hie hi0 hin
 generalize hIE:min m.ev.1.n 70=I at *
 have HIE:=zh hIE
 clear hIE
 have z5:wr.cell? ⟨Bh,5,none⟩=some (.slice m.od.1.A m.od.1.n m.od.1.c):=HF.out.bh.cell 5
 have hmo:m.od.1.n≤9223372036854775807:=Nat.le_trans HARG.out.od.1 HARG.out.od.2
 go_wp2_with fail
 rename World=>wev
 clear z5
 go_loopw [52] (fun v wr=>∃ (i:Nat) (h:HistM),i≤m.od.1.n∧v=.int .i64 i∧Hid (FwI Bh B3 w m h wr I (min i 14) 0)) (fun v _=>m.od.1.n - (intOf v).toNat)
 case atStart=>exact⟨0,h,Nat.zero_le _,rfl,HF⟩
 clear HF
 obtain⟨i,h,hi0,rfl,HF⟩:=hrel
 by_cases hin:i<m.od.1.n
 ·have hlt:(i:Int)<(m.od.1.n:Int):=by omega
  obtain⟨⟨e,hd⟩,hs⟩:∃ p,m.od.2[i]?=some p:=⟨m.od.2[i]'(by rw[HFIT.out.od.1];exact hin),List.getElem?_eq_getElem _⟩
  obtain⟨b,o,hA,hbl,hc⟩:=row_cells odCs_len (by omega) (HARG.out.rd.od.below HF.out.cp.below) hs
  rw[hA]
  have c0:wr.cell? ⟨b,o+i * 2,none⟩=some (.int .i64 e.o):=hc 0 _ rfl
  have c1:wr.cell? ⟨b,o+i * 2+1,none⟩=some (.slice hd.A hd.n hd.c):=hc 1 _ rfl
  have HSI:=zh hs
  have HA:=zh hA
  clear hc hbl hs hA
  have hal:Below wr.heap.size wr (wr.alloc (.cells #[.int .i64 e.o,.slice hd.A hd.n hd.c] 66)):=(Below.refl _ _).alloc (Nat.le_refl _) _
  by_cases h80:i<14
  ·have h80i:(i:Int)<14:=by omega
   obtain⟨q,hq,hqn,hq41⟩:∃ q:Nat,min (hd.n:Int) 14=(q:Int)∧q≤hd.n∧q=min hd.n 14:=⟨min hd.n 14,by omega,by omega,rfl⟩
   have hsc:=HFIT.out.ot _ (List.mem_of_getElem? HSI.out)
   have HTK:Hid (e.ts.take q=(cutO e).ts):=by
    show _=e.ts.take 14
    have h9:e.ts.length=hd.n:=hsc.1
    rw[hq41]
    rcases Nat.le_total hd.n 14 with h1 | h1
    ·rw[Nat.min_eq_left h1,List.take_of_length_le (by omega),List.take_of_length_le (by omega)]
    rw[Nat.min_eq_right h1]
   have HCL:=zh fun W (hW:Below w.heap.size w W)=>clone_in hd.A q hd.c (e.ts.take q) (by omega) W (((reads_cut (HARG.out.rd.ot _ (List.mem_of_getElem? HSI.out)) hqn).below hW).more hW.size)
   have hcut:=fun W=>cut_in hd.A hd.n hd.c q (by have:=(HARG.out.ot _ (List.mem_of_getElem? HSI.out)).1;simp only at this;omega) W
   have HE:Hid (m.pl.od[i]?=some e):=by show m.pl.od[i]?=_;unfold HistM.pl;simp[HSI.out]
   have KE:Hid (Blk (wr.alloc (.cells #[.int .i64 e.o,.slice hd.A hd.n hd.c] 66)) wr.heap.size 66 #[.int .i64 e.o,.slice hd.A hd.n hd.c]):=Blk.new _ _ _
   have HNE:Hid (∀ g,(Value.slice h.od.1.A h.od.1.n h.od.1.c).ownBlock=some g→g≠wr.heap.size):=fun g hg=>Nat.ne_of_lt (own_in_block HF.out.cp.od hg).2
   have HNB:Hid (wr.heap.size≠B3):=Ne.symm (Nat.ne_of_lt HF.out.cp.b3.lt)
   have HF1:Hid (FwI Bh B3 w m h _ I i 0):=(HF.out.on hal).to rfl (by omega) rfl
   clear hal hsc hq41 HF
   go_wp2_with fail
   clear c0 c1
   generalize wr.heap.size=BW at *
   refine wp_region_noPanic ?_
   refine wp_region_K (S:=fun W=>Blk W BW 66 #[.int .i64 e.o,.slice hd.A hd.n hd.c]∧W.cell? ⟨B3,5,none⟩=some (.slice h.od.1.A h.od.1.n h.od.1.c)) 16 (by kernel_rfl) ⟨KE.out.drew,Blk.cell (Blk.drew HF1.out.cp.b3) 5⟩ (fun hHeld=>?_)
   have HF1:=zh (HF1.out.on (Below.refl _ _).drew)
   have KE:=zh KE.out.drew
   generalize (wr.alloc (.cells #[.int .i64 e.o,.slice hd.A hd.n hd.c] 66)).drew=wd at *
   have HFw:=HF1
   refine ka 0 (some 59) (.pointer (some ⟨B3,5,none⟩)) rfl rfl (fun w'=>by go_simp) ?_
   try simp only[Act.put,zK]
   refine kv 1 (some 60) (.slice h.od.1.A h.od.1.n h.od.1.c) rfl rfl (fun w' hSw=>by have c9:w'.cell? ⟨B3,5,none⟩=some (.slice h.od.1.A h.od.1.n h.od.1.c):=hSw.2;go_simp) ?_
   try simp only[Act.put,zK]
   refine ka 2 (some 61) (.pointer (some ⟨BW,0,none⟩)) rfl rfl (fun w'=>by go_simp) ?_
   try simp only[Act.put,zK]
   refine kv 3 (some 62) (.int .i64 e.o) rfl rfl (fun w' hSw=>by have c9:w'.cell? ⟨BW,0,none⟩=some (.int .i64 e.o):=Blk.cell (w:=w') hSw.1 0;go_simp) ?_
   try simp only[Act.put,zK]
   refine ka 4 (some 63) (.pointer (some ⟨BW,1,none⟩)) rfl rfl (fun w'=>by go_simp) ?_
   try simp only[Act.put,zK]
   refine kv 5 (some 64) (.slice hd.A hd.n hd.c) rfl rfl (fun w' hSw=>by have c9:w'.cell? ⟨BW,1,none⟩=some (.slice hd.A hd.n hd.c):=Blk.cell (w:=w') hSw.1 1;go_simp) ?_
   try simp only[Act.put,zK]
   refine ka 6 (some 65) (.pointer (some ⟨BW,1,none⟩)) rfl rfl (fun w'=>by go_simp) ?_
   try simp only[Act.put,zK]
   refine kv 7 (some 66) (.slice hd.A hd.n hd.c) rfl rfl (fun w' hSw=>by have c9:w'.cell? ⟨BW,1,none⟩=some (.slice hd.A hd.n hd.c):=Blk.cell (w:=w') hSw.1 1;go_simp) ?_
   try simp only[Act.put,zK]
   refine ka 8 (some 67) (.int .i64 (hd.n:Int)) rfl rfl (fun w'=>by go_simp) ?_
   try simp only[Act.put,zK]
   refine ka 9 (some 68) (.int .i64 (q:Int)) rfl rfl (fun w'=>by go_simp) ?_
   try simp only[Act.put,zK]
   refine ka 10 (some 69) (.slice hd.A q hd.c) rfl rfl (fun w'=>by go_simp) ?_
   try simp only[Act.put,zK]
   refine kr [11] ?_
   refine kc rfl (fun K hK=>?_) kn
   go_simp
   refine (HCL.out _ HF1.out.cp.below).mono ?_
   rintro e5 w5 ⟨A5,c5,rfl,ho5,hb5⟩
   rw[HTK.out] at ho5
   have HF1:=zh (HF1.out.on hb5)
   have KE:=zh (KE.out.below hb5 KE.out.lt)
   have HB5:=zh hb5
   have HS5:=zh ho5
   clear ho5 hb5 hHeld
   go_simp
   refine hK.out _ _ ⟨KE.out,HF1.out.cp.b3.cell 5⟩ (fun hHeld=>?_)
   clear hK K
   try simp only[Act.put,zK]
   refine ka 12 (some 71) (.agg #[.int .i64 e.o,.slice A5 q c5]) rfl rfl (fun w'=>by go_simp) ?_
   try simp only[Act.put,zK]
   refine kr [13] ?_
   refine kc rfl (fun K hK=>?_) kn
   go_simp
   have hal6:=(Below.refl _ w5).alloc (Nat.le_refl _) (.cells #[.int .i64 e.o,.slice A5 q c5] 66)
   have HF1:=zh (HF1.out.on hal6)
   have KE:=zh (KE.out.below hal6 KE.out.lt)
   have HB5:=zh (HB5.out.trans (hal6.mono HB5.out.size))
   have HS5:=zh (own_on HS5.out hal6)
   have SL:=zh (lit_of w5 66 2 (odCs (cutO e,⟨A5,q,c5⟩)) #[.int .i64 e.o,.slice A5 q c5] rfl rfl)
   clear hal6 hHeld
   refine hK.out _ _ ⟨KE.out,HF1.out.cp.b3.cell 5⟩ (fun hHeld=>?_)
   clear hK K
   try simp only[Act.put,zK]
   generalize w5.alloc (.cells #[.int .i64 e.o,.slice A5 q c5] 66)=ua at *
   generalize w5.heap.size=XS at *
   refine kr [14] ?_
   refine kc (o:={dst:=some 73,op:=Op.call {callee:=Callee.builtin Builtin.append,args:=#[Operand.tmp 60,Operand.tmp 72],argTypes:=#[24,24]},type:=24,pos:="law.go:49",after:=#[⟨1,.data⟩,⟨13,.data⟩,⟨11,.chain⟩],guard:=none}) rfl (fun K hK=>?_) kn
   have OWN:=zh HF1.out.cp.od
   have hn3:h.od.1.n≤14:=HF1.out.st.n.2.1
   refine step_append_any _ rfl (.tmp 60) (.tmp 72) 24 rfl w.heap.size 66 j0 _ 2 32 Tryz.underlying24 hj hj0 hj1 hj2 rfl (by decide) (.slice h.od.1.A h.od.1.n h.od.1.c) h.od.1.n _ rfl OWN.out _ (some ⟨XS,0,none⟩) 1 _ (odCs (cutO e,⟨A5,q,c5⟩)) rfl SL.out (odCs_one _) (by unfold maxLen;omega) (by omega) HF1.out.cp.below.size ?_
   intro v' w6 hown6 hgrow6 hat6;obtain⟨A6,c6,rfl,-,-⟩:=own_form2 hown6
   obtain⟨hb6,hf6⟩:=HFw.out.od HE.out HB5.out HS5.out h80 hown6 hgrow6
   have KE6:=zh (Keep.blk ((Keep.refl (fun j=>(Value.slice h.od.1.A h.od.1.n h.od.1.c).ownBlock≠some j) _).grown hgrow6 fun g hg=>.inr fun h=>h hg) KE.out fun hg=>HNE.out _ hg rfl)
   have KB6:=zh hb6
   have HF6:=zh (hf6.to (j2:=min (i+1) 14) rfl (by omega) rfl)
   clear hown6 hgrow6 hat6 hb6 hf6 hHeld
   refine hK.out _ _ ⟨KE6.out,KB6.out.cell 5⟩ (fun hHeld=>?_)
   clear hK K
   try simp only[Act.put,zK]
   refine ka 15 (some 74) (.pointer (some ⟨B3,5,none⟩)) rfl rfl (fun w'=>by go_simp) ?_
   try simp only[Act.put,zK]
   refine kr [16] ?_
   refine kz (o:={dst:=none,op:=Op.store 24 (Operand.tmp 74) (Operand.tmp 73),type:=0,pos:="law.go:49",after:=#[⟨15,.data⟩,⟨14,.data⟩,⟨14,.chain⟩,⟨0,.phase⟩,⟨1,.phase⟩,⟨2,.phase⟩,⟨3,.phase⟩,⟨4,.phase⟩,⟨5,.phase⟩,⟨6,.phase⟩,⟨7,.phase⟩,⟨8,.phase⟩,⟨9,.phase⟩,⟨10,.phase⟩,⟨11,.phase⟩,⟨12,.phase⟩,⟨13,.phase⟩,⟨14,.phase⟩],guard:=none}) rfl (fun K hK=>?_)
   have y5:=KB6.out.cell 5
   have f5:=KB6.out.frozen 5
   go_simp
   clear KE6 KB6 OWN SL hn3 y5 f5 hHeld
   refine hK.out _ _ ?_
   clear hK K
   try simp only[Act.put]
   refine kd (by kernel_rfl) ?_ _
   refine NoPanic.normal ?_
   go_wp2_with fail
   go_roundw
   case rel=>exact⟨i+1,_,hin,by go_num,HF6⟩
   case measure=>simp[intOf];omega
  have h80i:¬(i:Int)<14:=by omega
  have HF8:=zh ((HF.out.on hal).to (j2:=min (i+1) 14) rfl (by omega) rfl)
  clear hal HF
  go_wp2_with fail
  go_roundw
  case rel=>exact⟨i+1,_,hin,by go_num,HF8⟩
  case measure=>simp[intOf];omega
 have hie:i=m.od.1.n:=by omega
 have HF:Hid (FwI Bh B3 w m h wr I (min m.od.1.n 14) 0):=by rw[← hie];exact HF.out
 rw[hie]
 clear hie hi0 hin
 generalize hIE:min m.od.1.n 14=J at *
 have HJE:=zh hIE
 clear hIE
 have z6:wr.cell? ⟨Bh,6,none⟩=some (.slice m.ma.1.A m.ma.1.n m.ma.1.c):=HF.out.bh.cell 6
 have hmm:m.ma.1.n≤9223372036854775807:=Nat.le_trans HARG.out.ma.1 HARG.out.ma.2
 go_wp2_with fail
 rename World=>wod
 clear z6
 go_loopw [79] (fun v wr=>∃ (i:Nat) (h:HistM),i≤m.ma.1.n∧v=.int .i64 i∧Hid (FwI Bh B3 w m h wr I J (min i 20))) (fun v _=>m.ma.1.n - (intOf v).toNat)
 case atStart=>exact⟨0,h,Nat.zero_le _,rfl,HF⟩
 clear HF
 obtain⟨i,h,hi0,rfl,HF⟩:=hrel
 by_cases hin:i<m.ma.1.n
 ·have hlt:(i:Int)<(m.ma.1.n:Int):=by omega
  obtain⟨⟨e,hd⟩,hs⟩:∃ p,m.ma.2[i]?=some p:=⟨m.ma.2[i]'(by rw[HFIT.out.ma.1];exact hin),List.getElem?_eq_getElem _⟩
  obtain⟨b,o,hA,hbl,hc⟩:=row_cells maCs_len (by omega) (HARG.out.rd.ma.below HF.out.cp.below) hs
  rw[hA]
  have c0:wr.cell? ⟨b,o+i * 4,none⟩=some (.int .i64 e.p):=hc 0 _ rfl
  have c1:wr.cell? ⟨b,o+i * 4+1,none⟩=some (.int .i64 e.o):=hc 1 _ rfl
  have c2:wr.cell? ⟨b,o+i * 4+2,none⟩=some (.bool e.fi):=hc 2 _ rfl
  have c3:wr.cell? ⟨b,o+i * 4+3,none⟩=some (.slice hd.A hd.n hd.c):=hc 3 _ rfl
  have HSI:=zh hs
  have HA:=zh hA
  clear hc hbl hs hA
  have hal:Below wr.heap.size wr (wr.alloc (.cells #[.int .i64 e.p,.int .i64 e.o,.bool e.fi,.slice hd.A hd.n hd.c] 69)):=(Below.refl _ _).alloc (Nat.le_refl _) _
  by_cases h80:i<20
  ·have h80i:(i:Int)<20:=by omega
   obtain⟨q,hq,hqn,hq41⟩:∃ q:Nat,min (hd.n:Int) 14=(q:Int)∧q≤hd.n∧q=min hd.n 14:=⟨min hd.n 14,by omega,by omega,rfl⟩
   have hsc:=HFIT.out.mt _ (List.mem_of_getElem? HSI.out)
   have HTK:Hid (e.ts.take q=(cutM e).ts):=by
    show _=e.ts.take 14
    have h9:e.ts.length=hd.n:=hsc.1
    rw[hq41]
    rcases Nat.le_total hd.n 14 with h1 | h1
    ·rw[Nat.min_eq_left h1,List.take_of_length_le (by omega),List.take_of_length_le (by omega)]
    rw[Nat.min_eq_right h1]
   have HBW:=zh (HF.out.cp.below.trans (hal.mono HF.out.cp.below.size))
   have HCL:=zh (clone_in hd.A q hd.c (e.ts.take q) (by omega) _ (((reads_cut (HARG.out.rd.mt _ (List.mem_of_getElem? HSI.out)) hqn).below HBW.out).more HBW.out.size))
   have hcut:=fun W=>cut_in hd.A hd.n hd.c q (by have:=(HARG.out.mt _ (List.mem_of_getElem? HSI.out)).1;simp only at this;omega) W
   have HE:Hid (m.pl.ma[i]?=some e):=by show m.pl.ma[i]?=_;unfold HistM.pl;simp[HSI.out]
   have KE:Hid (Blk (wr.alloc (.cells #[.int .i64 e.p,.int .i64 e.o,.bool e.fi,.slice hd.A hd.n hd.c] 69)) wr.heap.size 69 #[.int .i64 e.p,.int .i64 e.o,.bool e.fi,.slice hd.A hd.n hd.c]):=Blk.new _ _ _
   have HAL:=zh hal
   clear hal hsc hq41
   go_wp2_with fail
   refine HCL.out.mono ?_
   rintro e5 w5 ⟨A5,c5,rfl,ho5,hb5⟩
   rw[HTK.out] at ho5
   clear c0 c1 c2 c3 HCL hcut
   generalize hW1:wr.alloc (.cells #[.int .i64 e.p,.int .i64 e.o,.bool e.fi,.slice hd.A hd.n hd.c] 69)=W1 at *
   have HHW:=zh hW1
   clear hW1
   have ke5:=KE.out.below hb5 KE.out.lt
   have y8:=ke5.cell 3
   have f8:=ke5.frozen 3
   have ke6:=ke5.set_ 3 (.slice A5 q c5)
   simp at ke6
   have hb6:Below wr.heap.size wr (w5.setCell ⟨wr.heap.size,3,none⟩ (.slice A5 q c5)):=(HAL.out.trans (hb5.mono HAL.out.size)).setCell (p:=⟨wr.heap.size,3,none⟩) (Nat.le_refl _) _
   have hs6:(w5.setCell ⟨wr.heap.size,3,none⟩ (.slice A5 q c5)).ownsRow wr.heap.size 3 1 (.slice A5 q c5) q (ints (cutM e).ts):=(KeepT.set ke5 3 _).own (own_mono ho5 HAL.out.size) (by decide)
   have z4:(w5.setCell ⟨wr.heap.size,3,none⟩ (.slice A5 q c5)).cell? ⟨B3,6,none⟩=some (.slice h.ma.1.A h.ma.1.n h.ma.1.c):=(HF.out.on hb6).cp.b3.cell 6
   have d0:(w5.setCell ⟨wr.heap.size,3,none⟩ (.slice A5 q c5)).cell? ⟨wr.heap.size,0,none⟩=some (.int .i64 e.p):=ke6.cell 0
   have d1:(w5.setCell ⟨wr.heap.size,3,none⟩ (.slice A5 q c5)).cell? ⟨wr.heap.size,1,none⟩=some (.int .i64 e.o):=ke6.cell 1
   have d2:(w5.setCell ⟨wr.heap.size,3,none⟩ (.slice A5 q c5)).cell? ⟨wr.heap.size,2,none⟩=some (.bool e.fi):=ke6.cell 2
   have d3:(w5.setCell ⟨wr.heap.size,3,none⟩ (.slice A5 q c5)).cell? ⟨wr.heap.size,3,none⟩=some (.slice A5 q c5):=ke6.cell 3
   have hal7:Below (w5.setCell ⟨wr.heap.size,3,none⟩ (.slice A5 q c5)).heap.size (w5.setCell ⟨wr.heap.size,3,none⟩ (.slice A5 q c5)) ((w5.setCell ⟨wr.heap.size,3,none⟩ (.slice A5 q c5)).alloc (.cells #[.int .i64 e.p,.int .i64 e.o,.bool e.fi,.slice A5 q c5] 69)):=(Below.refl _ _).alloc (Nat.le_refl _) _
   have HB7:=zh (hb6.trans (hal7.mono hb6.size))
   have HS7:=zh (own_on hs6 hal7)
   have hsz5:(w5.setCell ⟨wr.heap.size,3,none⟩ (.slice A5 q c5)).heap.size=w5.heap.size:=by simp
   have sl:=(lit_of (w5.setCell ⟨wr.heap.size,3,none⟩ (.slice A5 q c5)) 69 4 (maCs (cutM e,⟨A5,q,c5⟩)) #[.int .i64 e.p,.int .i64 e.o,.bool e.fi,.slice A5 q c5] rfl rfl)
   rw[hsz5] at sl
   have SL:=zh sl
   clear sl hsz5
   have HF7:=zh (HF.out.on HB7.out)
   have hn4:h.ma.1.n≤20:=HF.out.st.n.2.2
   have HFi:Hid (FwI Bh B3 w m h wr I J i):=HF.out.to rfl rfl (by omega)
   clear ho5 hb5 ke5 ke6 hb6 hs6 hal7
   go_wp2_with (at_builtin;refine wpList_append_any _ rfl (.tmp 96) (.tmp 98) 25 rfl w.heap.size 69 l0 _ 4 48 Tryz.underlying25 hl hl0 hl1 hl2 rfl (by decide) _ _ _ rfl HF7.out.cp.ma _ (some ⟨w5.heap.size,0,none⟩) 1 _ (maCs (cutM e,⟨A5,q,c5⟩)) rfl SL.out (maCs_one _) (by unfold maxLen;omega) (by omega) HF7.out.cp.below.size ?_;intro v' w8 hown8 hgrow8 hat8;obtain⟨A8,c8,rfl,-,-⟩:=own_form2 hown8;obtain⟨hb8,hf8⟩:=HFi.out.ma HE.out HB7.out HS7.out h80 hown8 hgrow8;have y4:=hb8.cell 6;have f4:=hb8.frozen 6)
   have HF8:=zh (hf8.to (k2:=min (i+1) 20) rfl rfl (by omega))
   clear hown8 hgrow8 hat8 hb8 hf8 y4 f4 SL HF7 HFi HF HB7 HS7 z4 y8 f8 d0 d1 d2 d3
   go_wp2_with fail
   go_roundw
   case rel=>exact⟨i+1,_,hin,by go_num,HF8⟩
   case measure=>simp[intOf];omega
  have h80i:¬(i:Int)<20:=by omega
  have HF8:=zh ((HF.out.on hal).to (k2:=min (i+1) 20) rfl rfl (by omega))
  clear hal HF
  go_wp2_with fail
  go_roundw
  case rel=>exact⟨i+1,_,hin,by go_num,HF8⟩
  case measure=>simp[intOf];omega
 have hie:i=m.ma.1.n:=by omega
 have HF:Hid (FwI Bh B3 w m h wr I J (min m.ma.1.n 20)):=by rw[← hie];exact HF.out
 rw[hie]
 clear hie hi0 hin
 generalize hIE:min m.ma.1.n 20=K at *
 have HKE:=zh hIE
 clear hIE
 obtain⟨q,hq,hqn,hq41⟩:∃ q:Nat,min (m.wa.1.n:Int) 12=(q:Int)∧q≤m.wa.1.n∧q=min m.wa.1.n 12:=⟨min m.wa.1.n 12,by omega,by omega,rfl⟩
 have HTK:Hid (m.wa.2.take q=m.wa.2.take 12):=by
  show _=m.wa.2.take 12
  have h9:m.wa.2.length=m.wa.1.n:=HFIT.out.wa.1
  rw[hq41]
  rcases Nat.le_total m.wa.1.n 12 with h1 | h1
  ·rw[Nat.min_eq_left h1,List.take_of_length_le (by omega),List.take_of_length_le (by omega)]
  rw[Nat.min_eq_right h1]
 have HCL:=zh (clone_wa m.wa.1.A q m.wa.1.c (m.wa.2.take q) (by omega) _ (((reads_cut_s waCs_len HARG.out.rd.wa hqn).below HF.out.cp.below).more HF.out.cp.below.size))
 have hcut:=fun W=>cut_wa m.wa.1.A m.wa.1.n m.wa.1.c q (by have:=HARG.out.wa.1;omega) W
 have z7:wr.cell? ⟨Bh,7,none⟩=some (.slice m.wa.1.A m.wa.1.n m.wa.1.c):=HF.out.bh.cell 7
 clear hq41
 go_wp2_with fail
 refine HCL.out.mono ?_
 rintro e5 w5 ⟨A5,c5,rfl,ho5,hb5⟩
 clear z7 HCL hcut
 rw[HTK.out] at ho5
 obtain⟨hbw,hcw⟩:=HF.out.cp.set_wa hb5 ho5
 have y7:=hbw.cell 7
 have f7:=hbw.frozen 7
 have HPL:Hid ((setWa h A5 q c5 (m.wa.2.take 12)).pl=fewP m.pl):=HF.out.st.all (by rw[← HIE.out,← HFIT.out.ev.1];unfold HistM.pl;simp) (by rw[← HJE.out,← HFIT.out.od.1];unfold HistM.pl;simp) (by rw[← HKE.out,← HFIT.out.ma.1];unfold HistM.pl;simp) (hd:=⟨A5,q,c5⟩)
 have HD:Hid (HOwn w.heap.size (w5.setCell ⟨B3,7,none⟩ (.slice A5 q c5)) (setWa h A5 q c5 (m.wa.2.take 12))):=hcw.done
 have HB:=zh hcw.below
 have KR:=zh hcw.br
 have HNE:=zh hcw.ne
 have hb3:=hcw.b3
 clear hcw hbw ho5 hb5 HF
 have z0:(w5.setCell ⟨B3,7,none⟩ (.slice A5 q c5)).cell? ⟨B3,0,none⟩=some (.slice h.tr.1.A h.tr.1.n h.tr.1.c):=hb3.cell 0
 have z1:(w5.setCell ⟨B3,7,none⟩ (.slice A5 q c5)).cell? ⟨B3,1,none⟩=some (.slice h.se.1.A h.se.1.n h.se.1.c):=hb3.cell 1
 have z2:(w5.setCell ⟨B3,7,none⟩ (.slice A5 q c5)).cell? ⟨B3,2,none⟩=some (.slice h.ob.1.A h.ob.1.n h.ob.1.c):=hb3.cell 2
 have z3:(w5.setCell ⟨B3,7,none⟩ (.slice A5 q c5)).cell? ⟨B3,3,none⟩=some (.slice h.pr.1.A h.pr.1.n h.pr.1.c):=hb3.cell 3
 have z4:(w5.setCell ⟨B3,7,none⟩ (.slice A5 q c5)).cell? ⟨B3,4,none⟩=some (.slice h.ev.1.A h.ev.1.n h.ev.1.c):=hb3.cell 4
 have z5:(w5.setCell ⟨B3,7,none⟩ (.slice A5 q c5)).cell? ⟨B3,5,none⟩=some (.slice h.od.1.A h.od.1.n h.od.1.c):=hb3.cell 5
 have z6:(w5.setCell ⟨B3,7,none⟩ (.slice A5 q c5)).cell? ⟨B3,6,none⟩=some (.slice h.ma.1.A h.ma.1.n h.ma.1.c):=hb3.cell 6
 have z7:(w5.setCell ⟨B3,7,none⟩ (.slice A5 q c5)).cell? ⟨B3,7,none⟩=some (.slice A5 q c5):=hb3.cell 7
 have u0:(w5.setCell ⟨B3,7,none⟩ (.slice A5 q c5)).cell? ⟨Bh+1,0,none⟩=some (.slice none 0 0):=KR.out.cell 0
 have u1:(w5.setCell ⟨B3,7,none⟩ (.slice A5 q c5)).cell? ⟨Bh+1,1,none⟩=some (.slice none 0 0):=KR.out.cell 1
 have u2:(w5.setCell ⟨B3,7,none⟩ (.slice A5 q c5)).cell? ⟨Bh+1,2,none⟩=some (.slice none 0 0):=KR.out.cell 2
 have u3:(w5.setCell ⟨B3,7,none⟩ (.slice A5 q c5)).cell? ⟨Bh+1,3,none⟩=some (.slice none 0 0):=KR.out.cell 3
 have u4:(w5.setCell ⟨B3,7,none⟩ (.slice A5 q c5)).cell? ⟨Bh+1,4,none⟩=some (.slice none 0 0):=KR.out.cell 4
 have u5:(w5.setCell ⟨B3,7,none⟩ (.slice A5 q c5)).cell? ⟨Bh+1,5,none⟩=some (.slice none 0 0):=KR.out.cell 5
 have u6:(w5.setCell ⟨B3,7,none⟩ (.slice A5 q c5)).cell? ⟨Bh+1,6,none⟩=some (.slice none 0 0):=KR.out.cell 6
 have u7:(w5.setCell ⟨B3,7,none⟩ (.slice A5 q c5)).cell? ⟨Bh+1,7,none⟩=some (.slice none 0 0):=KR.out.cell 7
 have g0:=KR.out.frozen 0
 have g1:=KR.out.frozen 1
 have g2:=KR.out.frozen 2
 have g3:=KR.out.frozen 3
 have g4:=KR.out.frozen 4
 have g5:=KR.out.frozen 5
 have g6:=KR.out.frozen 6
 have g7:=KR.out.frozen 7
 clear hb3
 go_wp2_with fail
 clear y7 f7 z0 u0 g0 z1 u1 g1 z2 u2 g2 z3 u3 g3 z4 u4 g4 z5 u5 g5 z6 u6 g6 z7 u7 g7
 have FL:=zh (fill8 KR.out (.slice h.tr.1.A h.tr.1.n h.tr.1.c) (.slice h.se.1.A h.se.1.n h.se.1.c) (.slice h.ob.1.A h.ob.1.n h.ob.1.c) (.slice h.pr.1.A h.pr.1.n h.pr.1.c) (.slice h.ev.1.A h.ev.1.n h.ev.1.c) (.slice h.od.1.A h.od.1.n h.od.1.c) (.slice h.ma.1.A h.ma.1.n h.ma.1.c) (.slice A5 q c5))
 have HOF:=zh (HD.out.keepT (FL.out.2.1 (fun j=>∀ cs,¬Blk (w5.setCell ⟨B3,7,none⟩ (.slice A5 q c5)) j 28 cs) (fun h=>h _ KR.out)) (by decide) (by decide) (by decide) (by decide) (by decide) (by decide) (by decide))
 have HBF:=zh (FL.out.2.2 w HB.out (Nat.le_succ_of_le HNE.out.2.2.2))
 have kf:=FL.out.1
 clear FL HD HB KR
 generalize (((((((((w5.setCell ⟨B3,7,none⟩ (.slice A5 q c5)).setCell ⟨Bh+1,0,none⟩ (.slice h.tr.1.A h.tr.1.n h.tr.1.c)).setCell ⟨Bh+1,1,none⟩ (.slice h.se.1.A h.se.1.n h.se.1.c)).setCell ⟨Bh+1,2,none⟩ (.slice h.ob.1.A h.ob.1.n h.ob.1.c)).setCell ⟨Bh+1,3,none⟩ (.slice h.pr.1.A h.pr.1.n h.pr.1.c)).setCell ⟨Bh+1,4,none⟩ (.slice h.ev.1.A h.ev.1.n h.ev.1.c)).setCell ⟨Bh+1,5,none⟩ (.slice h.od.1.A h.od.1.n h.od.1.c)).setCell ⟨Bh+1,6,none⟩ (.slice h.ma.1.A h.ma.1.n h.ma.1.c)).setCell ⟨Bh+1,7,none⟩ (.slice A5 q c5))=wf at *
 obtain⟨r0,r1,r2,r3,r4,r5,r6,r7⟩:=c8 kf
 exact bodyPost_ret (v:=.agg #[.slice h.tr.1.A h.tr.1.n h.tr.1.c,.slice h.se.1.A h.se.1.n h.se.1.c,.slice h.ob.1.A h.ob.1.n h.ob.1.c,.slice h.pr.1.A h.pr.1.n h.pr.1.c,.slice h.ev.1.A h.ev.1.n h.ev.1.c,.slice h.od.1.A h.od.1.n h.od.1.c,.slice h.ma.1.A h.ma.1.n h.ma.1.c,.slice A5 q c5]) (by simp[results,Tryz.results9,go_sem,r0,r1,r2,r3,r4,r5,r6,r7]) rfl ⟨setWa h A5 q c5 (m.wa.2.take 12),rfl,HOF.out,HPL.out,HBF.out⟩
end Go.Proofs.YtmkknbonmameoaaGreatDoor.F15
