import Derived.Test.YtmkknbonmameoaaGreatDoorQ5
import Derived.Test.YtmkknbonmameoaaGreatDoorQ37
import Derived.Test.YtmkknbonmameoaaGreatDoorQ32
import Derived.Test.YtmkknbonmameoaaGreatDoorQ34
import Derived.Test.YtmkknbonmameoaaGreatDoorQ35
import Derived.Test.YtmkknbonmameoaaGreatDoorQ17
-- holds: YtmkknbonmameoaaGreatDoorHAl YtmkknbonmameoaaGreatDoorHAx YtmkknbonmameoaaGreatDoorHAm
namespace Go.Proofs.YtmkknbonmameoaaGreatDoor
open Go.RowKit Go.Shelf
def frH (H:Hist):Option (Nat × Nat):=if rightB H then ruFirst H else none
def hisE (H:Hist):Int:=if rightB H then 0 else 210
def ruPlH (H:Hist) (r:Int):Option Nat:=if rightB H=true∧1≤r∧r≤10 then ruPlace H r.toNat else none
def ruPlE (H:Hist) (r:Int):Int:=if rightB H then (if 1≤r∧r≤10 then 0 else 250) else 210
def plN (f:Option Nat):Int:=match f with
 | none=>0
 | some i=>i
def wrH (H:Hist) (x:Int):List Int:=if rightB H then ruWriters H x else []
structure Asked (w:World) (m:HistM):Prop where
 small:Small m.pl
 caps:CapsR m
 names:(m.tr.1.n≤m.tr.1.c)∧(m.se.1.n≤m.se.1.c)∧(m.ob.1.n≤m.ob.1.c)∧m.pr.1.n≤m.pr.1.c
 rd:HRd w w.heap.size m
theorem Asked.on {w X:World} {m:HistM} (a:Asked w m) (hb:Below w.heap.size w X):Asked X m:=⟨a.small,a.caps,a.names,a.rd.on_ hb⟩
structure RulesC (I:World→Prop):Prop where
 on:∀ {W X:World},I W→Below W.heap.size W X→I X
 first:∀ (m:HistM) (w:World),I w→Asked w m→Calls Tryz.prog 10 #[.agg #[.slice m.tr.1.A m.tr.1.n m.tr.1.c,.slice m.se.1.A m.se.1.n m.se.1.c,.slice m.ob.1.A m.ob.1.n m.ob.1.c,.slice m.pr.1.A m.pr.1.n m.pr.1.c,.slice m.ev.1.A m.ev.1.n m.ev.1.c,.slice m.od.1.A m.od.1.n m.od.1.c,.slice m.ma.1.A m.ma.1.n m.ma.1.c,.slice m.wa.1.A m.wa.1.n m.wa.1.c]] w fun e w'=>e=.returned (.tuple #[.agg #[.int .i64 (frR (frH m.pl)),.int .i64 (frP (frH m.pl))],.bool (frH m.pl).isSome,.int .i64 (hisE m.pl)])∧Below w.heap.size w w'
 place:∀ (m:HistM) (r:Int) (w:World),I w→Asked w m→Calls Tryz.prog 15 #[.agg #[.slice m.tr.1.A m.tr.1.n m.tr.1.c,.slice m.se.1.A m.se.1.n m.se.1.c,.slice m.ob.1.A m.ob.1.n m.ob.1.c,.slice m.pr.1.A m.pr.1.n m.pr.1.c,.slice m.ev.1.A m.ev.1.n m.ev.1.c,.slice m.od.1.A m.od.1.n m.od.1.c,.slice m.ma.1.A m.ma.1.n m.ma.1.c,.slice m.wa.1.A m.wa.1.n m.wa.1.c],.int .i64 r] w fun e w'=>e=.returned (.tuple #[.int .i64 (plN (ruPlH m.pl r)),.bool (ruPlH m.pl r).isSome,.int .i64 (ruPlE m.pl r)])∧Below w.heap.size w w'
 sound:∀ (m:HistM) (w:World),I w→Asked w m→Calls Tryz.prog 11 #[.agg #[.slice m.tr.1.A m.tr.1.n m.tr.1.c,.slice m.se.1.A m.se.1.n m.se.1.c,.slice m.ob.1.A m.ob.1.n m.ob.1.c,.slice m.pr.1.A m.pr.1.n m.pr.1.c,.slice m.ev.1.A m.ev.1.n m.ev.1.c,.slice m.od.1.A m.od.1.n m.od.1.c,.slice m.ma.1.A m.ma.1.n m.ma.1.c,.slice m.wa.1.A m.wa.1.n m.wa.1.c]] w fun e w'=>e=.returned (.bool (ruSound m.pl))∧Below w.heap.size w w'
 writers:∀ (m:HistM) (x:Int) (w:World),I w→Asked w m→Calls Tryz.prog 17 #[.agg #[.slice m.tr.1.A m.tr.1.n m.tr.1.c,.slice m.se.1.A m.se.1.n m.se.1.c,.slice m.ob.1.A m.ob.1.n m.ob.1.c,.slice m.pr.1.A m.pr.1.n m.pr.1.c,.slice m.ev.1.A m.ev.1.n m.ev.1.c,.slice m.od.1.A m.od.1.n m.od.1.c,.slice m.ma.1.A m.ma.1.n m.ma.1.c,.slice m.wa.1.A m.wa.1.n m.wa.1.c],.int .i64 x] w fun e w'=>∃ (A:Option Addr) (n c:Nat),e=.returned (.tuple #[.slice A n c,.int .i64 (hisE m.pl)])∧n=(wrH m.pl x).length∧Reads w' w'.heap.size 1 A n (ints (wrH m.pl x))∧Below w.heap.size w w'
theorem HOwn.capsR {B:Nat} {X:World} {h:HistM} (ho:HOwn B X h):CapsR h :=
 ⟨own_cap ho.ev,own_cap ho.od,own_cap ho.ma,own_cap ho.wa,fun p hp=>own_cap (ho.sc.at_mem (List.mem_map.2 ⟨p,hp,rfl⟩))⟩
theorem HOwn.asked {B:Nat} {X:World} {h:HistM} (ho:HOwn B X h) (hs:Small h.pl):Asked X h:=⟨hs,ho.capsR,ho.caps,ho.rd⟩
def e4S:EvP:=⟨3,0,0,0,0,0,1,0,[]⟩
def lateH:Hist:=⟨[tx],[sx],[ox],[],[e1S,e2S,e3S,e4S],[],[],[]⟩
def lateM (g:Nat) (A:Option Addr) (c:Nat):HistM:=⟨(⟨some ⟨g,0,none⟩,1,1⟩,[tx]),(⟨some ⟨g+1,0,none⟩,1,1⟩,[sx]),(⟨some ⟨g+2,0,none⟩,1,1⟩,[ox]),nilS,(⟨A,4,c⟩,evS++[(e4S,nilH)]),(⟨none,0,0⟩,[]),(⟨none,0,0⟩,[]),(⟨none,0,0⟩,[])⟩
theorem late_pl (g:Nat) (A:Option Addr) (c:Nat):(lateM g A c).pl=lateH:=rfl
theorem late_small:Small lateH:=lit_small (by decide +kernel)
theorem small_fr:frH smallH=none:=by decide +kernel
theorem late_fr:frH lateH=some (2,3):=by decide +kernel
theorem small_hisE:hisE smallH=0:=by decide +kernel
theorem late_hisE:hisE lateH=0:=by decide +kernel
theorem small_wr:wrH smallH 0=[0]:=by decide +kernel
theorem small_sound:ruSound smallH=true:=by decide +kernel
theorem late_own {B g:Nat} {X Y:World} {A:Option Addr} {c:Nat} (h:HOwn B X (smallM g)) (ho:Y.ownsRow B 60 9 (.slice A 4 c) 4 (evS.flatMap evCs++evCs (e4S,nilH))) (hg:X.grownBy Y (Value.slice (some ⟨g+3,0,none⟩) 3 3).ownBlock):HOwn B Y (lateM g A c):=by
 have kt:=KeepT.grown h.ev hg
 exact⟨h.nm.keepT kt (by decide),by show Y.ownsRow B _ 9 (.slice A 4 c) 4 ((evS++[(e4S,nilH)]).flatMap evCs);rw[List.flatMap_append];simpa using ho,World.ownsRow_nil _ _ _ _,World.ownsRow_nil _ _ _ _,World.ownsRow_nil _ _ _ _,rg_nils 4,RG.nil⟩
theorem Asked.askd {w:World} {m:HistM} (a:Asked w m):Askd w m:=⟨a.small.mid a.rd,a.caps,a.names,a.rd⟩
theorem RulesW.rulesC {I:World→Prop} (Q:RulesW I):RulesC I:=by
 refine⟨Q.on,fun m w hI a=>?_,fun m r w hI a=>?_,fun m w hI a=>?_,fun m x w hI a=>?_⟩
 ·have h:=Q.first m w hI a.askd
  have e1:frX m.pl=frH m.pl:=by unfold frX frH;rw[a.small.right]
  have e2:checkW m.pl=hisE m.pl:=by unfold checkW hisE;rw[a.small.right]
  rwa [e1,e2] at h
 ·have h:=Q.place m r w hI a.askd
  have e1:plX m.pl r=ruPlH m.pl r:=by unfold plX ruPlH;rw[a.small.right]
  have e2:plXE m.pl r=ruPlE m.pl r:=by unfold plXE ruPlE;rw[a.small.right]
  rwa [e1,e2] at h
 ·have h:=Q.sound m w hI a.askd
  have e1:okX m.pl=ruSound m.pl:=by unfold okX;rw[a.small.lim,Bool.true_and]
  rwa [e1] at h
 have h:=Q.writers m x w hI a.askd
 have e1:wrX m.pl x=wrH m.pl x:=by unfold wrX wrH;rw[a.small.right]
 have e2:checkW m.pl=hisE m.pl:=by unfold checkW hisE;rw[a.small.right]
 rwa [e1,e2] at h
set_option maxRecDepth 100000 in
set_option maxHeartbeats 8000000 in
theorem wakes15_any {I:World→Prop} (C:RulesC I) (w:World) (hI:I w):Calls Tryz.prog 8 #[] w fun e w'=>e=.returned (.bool true)∧Below w.heap.size w w':=by
 obtain⟨i0,hi,hz0,hz1,hz2⟩:=info_parts ev_info
 have HI:=zh hI
 clear hI
 go_enter Tryz.func8,Tryz.ntmps8
 go_wp2_with fail
 refine (small15_any w).mono ?_
 rintro _ Y ⟨g,rfl,ho,bb⟩
 have hbx:=HBx.new (w:=w) ho (Nat.le_refl _) #[.slice (some ⟨g,0,none⟩) 1 1,.slice (some ⟨g+1,0,none⟩) 1 1,.slice (some ⟨g+2,0,none⟩) 1 1,.slice none 0 0,.slice (some ⟨g+3,0,none⟩) 3 3,.slice none 0 0,.slice none 0 0,.slice none 0 0] rfl
 have b2:Below Y.heap.size Y (Y.alloc (.cells #[.slice (some ⟨g,0,none⟩) 1 1,.slice (some ⟨g+1,0,none⟩) 1 1,.slice (some ⟨g+2,0,none⟩) 1 1,.slice none 0 0,.slice (some ⟨g+3,0,none⟩) 3 3,.slice none 0 0,.slice none 0 0,.slice none 0 0] 28)):=(Below.refl _ _).alloc (Nat.le_refl _) _
 have BW:=zh (bb.trans (b2.mono bb.size))
 have H1:=zh hbx
 clear ho bb b2 hbx
 go_upto_region 2 with fail
 generalize Y.alloc (.cells #[.slice (some ⟨g,0,none⟩) 1 1,.slice (some ⟨g+1,0,none⟩) 1 1,.slice (some ⟨g+2,0,none⟩) 1 1,.slice none 0 0,.slice (some ⟨g+3,0,none⟩) 3 3,.slice none 0 0,.slice none 0 0,.slice none 0 0] 28)=X1 at *
 generalize Y.heap.size=B1 at *
 obtain⟨z0,z1,z2,z3,z4,z5,z6,z7⟩:=c8 H1.out.blk
 go_wp2_with fail
 refine (C.first (smallM g) X1 (C.on HI.out BW.out) (H1.out.own.asked small_small)).mono ?_
 rintro _ X2 ⟨rfl,bb⟩
 rw[small_pl,small_fr,small_hisE,show frR (none:Option (Nat × Nat))=0 from rfl,show frP (none:Option (Nat × Nat))=0 from rfl,show (none:Option (Nat × Nat)).isSome=false from rfl]
 clear z0 z1 z2 z3 z4 z5 z6 z7
 have b3:Below X2.heap.size X2 (X2.alloc (.cells #[.int .i64 0,.int .i64 0] 32)):=(Below.refl _ _).alloc (Nat.le_refl _) _
 have b4:=bb.trans (b3.mono bb.size)
 have H1:=zh (H1.out.on b4)
 have BW:=zh (BW.out.trans (b4.mono BW.out.size))
 clear bb b3 b4
 go_upto_region 3 with fail
 generalize X2.alloc (.cells #[.int .i64 0,.int .i64 0] 32)=X3 at *
 go_wp2_with fail
 refine (small15_any X3).mono ?_
 rintro _ Y2 ⟨k,rfl,ho,bb⟩
 have hbx:=HBx.new (w:=X3) ho (Nat.le_refl _) #[.slice (some ⟨k,0,none⟩) 1 1,.slice (some ⟨k+1,0,none⟩) 1 1,.slice (some ⟨k+2,0,none⟩) 1 1,.slice none 0 0,.slice (some ⟨k+3,0,none⟩) 3 3,.slice none 0 0,.slice none 0 0,.slice none 0 0] rfl
 have b2:Below Y2.heap.size Y2 (Y2.alloc (.cells #[.slice (some ⟨k,0,none⟩) 1 1,.slice (some ⟨k+1,0,none⟩) 1 1,.slice (some ⟨k+2,0,none⟩) 1 1,.slice none 0 0,.slice (some ⟨k+3,0,none⟩) 3 3,.slice none 0 0,.slice none 0 0,.slice none 0 0] 28)):=(Below.refl _ _).alloc (Nat.le_refl _) _
 have BX:=zh (bb.trans (b2.mono bb.size))
 have H5:=zh hbx
 have hB5:=bb.size
 clear ho bb b2 hbx
 go_upto_region 4 with fail
 generalize Y2.alloc (.cells #[.slice (some ⟨k,0,none⟩) 1 1,.slice (some ⟨k+1,0,none⟩) 1 1,.slice (some ⟨k+2,0,none⟩) 1 1,.slice none 0 0,.slice (some ⟨k+3,0,none⟩) 3 3,.slice none 0 0,.slice none 0 0,.slice none 0 0] 28)=X5 at *
 generalize Y2.heap.size=B5 at *
 have z4:X5.cell? ⟨B5,4,none⟩=some (.slice (some ⟨k+3,0,none⟩) 3 3):=H5.out.blk.cell 4
 have hal:Below X5.heap.size X5 (X5.alloc (.cells #[.int .i64 3,.int .i64 0,.int .i64 0,.int .i64 0,.int .i64 0,.int .i64 0,.int .i64 1,.int .i64 0,.slice none 0 0] 60)):=(Below.refl _ _).alloc (Nat.le_refl _) _
 have H6:=zh (H5.out.on hal)
 have BX6:=zh (BX.out.trans (hal.mono BX.out.size))
 have hs6:=BX6.out.size
 have SL:=zh (lit15 X5 60 9 (evCs (e4S,nilH)) #[.int .i64 3,.int .i64 0,.int .i64 0,.int .i64 0,.int .i64 0,.int .i64 0,.int .i64 1,.int .i64 0,.slice none 0 0] rfl rfl)
 clear hal
 have OE:Hid (World.ownsRow (X5.alloc (.cells #[.int .i64 3,.int .i64 0,.int .i64 0,.int .i64 0,.int .i64 0,.int .i64 0,.int .i64 1,.int .i64 0,.slice none 0 0] 60)) X3.heap.size 60 9 (.slice (some ⟨k+3,0,none⟩) 3 3) 3 (evS.flatMap evCs)):=H6.out.own.ev
 go_wp2_with (at_builtin;refine wpList_append_any _ rfl (.tmp 20) (.tmp 23) 23 rfl X3.heap.size 60 i0 _ 9 88 Tryz.underlying23 hi hz0 hz1 hz2 rfl (by decide) _ _ _ rfl OE.out _ (some ⟨X5.heap.size,0,none⟩) 1 _ (evCs (e4S,nilH)) rfl SL.out (evCs_one _) (by unfold maxLen;decide) (by decide) hs6 ?_;intro v6 w6 hown6 hgrow6 _;obtain⟨A6,c6,rfl,-,-⟩:=own_form2 hown6;have KT:=KeepT.grown H6.out.own.ev hgrow6;have KB:=KT.blk H6.out.blk (by decide);have y4:=KB.cell 4;have f4:=KB.frozen 4;have KL:Blk (w6.setCell ⟨B5,4,none⟩ (.slice A6 4 c6)) B5 28 (lateM k A6 c6).cs:=KB.set_ 4 _;have z0:(w6.setCell ⟨B5,4,none⟩ (.slice A6 4 c6)).cell? ⟨B5,0,none⟩=some (.slice (some ⟨k,0,none⟩) 1 1):=KL.cell 0;have z1:(w6.setCell ⟨B5,4,none⟩ (.slice A6 4 c6)).cell? ⟨B5,1,none⟩=some (.slice (some ⟨k+1,0,none⟩) 1 1):=KL.cell 1;have z2:(w6.setCell ⟨B5,4,none⟩ (.slice A6 4 c6)).cell? ⟨B5,2,none⟩=some (.slice (some ⟨k+2,0,none⟩) 1 1):=KL.cell 2;have z3:(w6.setCell ⟨B5,4,none⟩ (.slice A6 4 c6)).cell? ⟨B5,3,none⟩=some (.slice none 0 0):=KL.cell 3;have z4:(w6.setCell ⟨B5,4,none⟩ (.slice A6 4 c6)).cell? ⟨B5,4,none⟩=some (.slice A6 4 c6):=KL.cell 4;have z5:(w6.setCell ⟨B5,4,none⟩ (.slice A6 4 c6)).cell? ⟨B5,5,none⟩=some (.slice none 0 0):=KL.cell 5;have z6:(w6.setCell ⟨B5,4,none⟩ (.slice A6 4 c6)).cell? ⟨B5,6,none⟩=some (.slice none 0 0):=KL.cell 6;have z7:(w6.setCell ⟨B5,4,none⟩ (.slice A6 4 c6)).cell? ⟨B5,7,none⟩=some (.slice none 0 0):=KL.cell 7)
 have HL:=zh ((late_own H6.out.own hown6 hgrow6).keepT (KeepT.set KB 4 (.slice A6 4 c6)) (by decide) (by decide) (by decide) (by decide) (by decide) (by decide) (by decide))
 have BX7:Hid (Below X3.heap.size X3 (w6.setCell ⟨B5,4,none⟩ (.slice A6 4 c6))):=(BX6.out.grown hgrow6 BX6.out.size (fun j hj=>(own_in_block H6.out.own.ev hj).1)).setCell (p:=⟨B5,4,none⟩) hB5 _
 have KL:=zh KL
 have H1:=zh (H1.out.on BX7.out)
 have BW:=zh (BW.out.trans (BX7.out.mono BW.out.size))
 clear hown6 hgrow6 KT KB H6 BX6 hs6 SL H5 BX OE
 clear y4 f4
 generalize w6.setCell ⟨B5,4,none⟩ (.slice A6 4 c6)=X7 at *
 refine (C.first (lateM k A6 c6) X7 (C.on HI.out BW.out) (HL.out.asked late_small)).mono ?_
 rintro _ X8 ⟨rfl,bb⟩
 rw[late_pl,late_fr,late_hisE,show frR (some (2,3))=2 from rfl,show frP (some (2,3))=3 from rfl,show (some (2,3):Option (Nat × Nat)).isSome=true from rfl]
 clear z0 z1 z2 z3 z4 z5 z6 z7
 obtain⟨kb,b3,hs3⟩:=ibox X8 #[.int .i64 2,.int .i64 3] 32
 have b4:=bb.trans (b3.mono bb.size)
 have H1:=zh (H1.out.on b4)
 have BW:=zh (BW.out.trans (b4.mono BW.out.size))
 have KQ:=zh kb
 clear bb b3 b4 hs3 kb BX7 HL KL
 go_upto_region 6 with fail
 generalize X8.alloc (.cells #[.int .i64 2,.int .i64 3] 32)=X9 at *
 generalize X8.heap.size=B9 at *
 obtain⟨z0,z1,z2,z3,z4,z5,z6,z7⟩:=c8 H1.out.blk
 go_wp2_with fail
 refine (C.writers (smallM g) 0 X9 (C.on HI.out BW.out) (H1.out.own.asked small_small)).mono ?_
 rintro _ Xa ⟨A9,n9,c9,rfl,hn9,hr9,bb⟩
 rw[small_pl,small_wr] at hn9 hr9
 rw[small_pl,small_hisE]
 obtain rfl:n9=1:=hn9
 clear z0 z1 z2 z3 z4 z5 z6 z7
 have H1:=zh (H1.out.on bb)
 have BW:=zh (BW.out.trans (bb.mono BW.out.size))
 have KQ:=zh (KQ.out.below bb KQ.out.lt)
 have HR9:=zh hr9
 clear bb hr9
 go_upto_region 7 with fail
 have q0:Xa.cell? ⟨B9,0,none⟩=some (.int .i64 2):=KQ.out.cell 0
 have q1:Xa.cell? ⟨B9,1,none⟩=some (.int .i64 3):=KQ.out.cell 1
 obtain⟨z0,z1,z2,z3,z4,z5,z6,z7⟩:=c8 H1.out.blk
 go_wp2_with fail
 refine (C.sound (smallM g) Xa (C.on HI.out BW.out) (H1.out.own.asked small_small)).mono ?_
 rintro _ Xb ⟨rfl,bb⟩
 rw[small_pl,small_sound]
 clear z0 z1 z2 z3 z4 z5 z6 z7 q0 q1
 have HRb:=zh ((HR9.out.below bb).more bb.size)
 have BW:=zh (BW.out.trans (bb.mono BW.out.size))
 clear bb HR9
 have hal:Below Xb.heap.size Xb (Xb.alloc (.cells #[.int .i64 0] 3)):=(Below.refl _ _).alloc (Nat.le_refl _) _
 have HE:=zh (eqi11_any A9 (some ⟨Xb.heap.size,0,none⟩) 1 1 c9 1 [0] [0] (by decide) (by decide) _ ((HRb.out.below hal).more hal.size) (lit15 Xb 3 1 (ints [0]) #[.int .i64 0] rfl rfl))
 have BW:=zh (BW.out.trans (hal.mono BW.out.size))
 clear hal
 go_wp2_with fail
 refine HE.out.mono ?_
 rintro _ Xc ⟨rfl,bb⟩
 have BW:=zh (BW.out.trans (bb.mono BW.out.size))
 clear bb HE
 go_wp2_with fail
 go_ret
 exact⟨rfl,BW.out⟩
end Go.Proofs.YtmkknbonmameoaaGreatDoor
