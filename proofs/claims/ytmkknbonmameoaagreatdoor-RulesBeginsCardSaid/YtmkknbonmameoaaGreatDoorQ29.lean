import Derived.Test.YtmkknbonmameoaaGreatDoorQ5
import Derived.Test.YtmkknbonmameoaaGreatDoorQ28
import Derived.Test.YtmkknbonmameoaaGreatDoorQ17
-- holds: YtmkknbonmameoaaGreatDoorHIy YtmkknbonmameoaaGreatDoorHIz YtmkknbonmameoaaGreatDoorHIza YtmkknbonmameoaaGreatDoorHIzb
namespace Go.Proofs.YtmkknbonmameoaaGreatDoor
open Go.RowKit Go.Shelf
theorem lit_of (w:World) (t:TypeId) (s:Nat) (xs:List Value) (cs:Array Value) (h:cs=xs.toArray) (hl:xs.length=1 * s):Reads (w.alloc (.cells cs t)) (w.alloc (.cells cs t)).heap.size s (some ⟨w.heap.size,0,none⟩) 1 xs:=by
 subst h
 exact⟨hl,fun _=>⟨_,rfl,by simp,fun j u hu=>by
  rw[Go.WideShapes.add_plain,Nat.zero_add,(Blk.new w t xs.toArray).cell,List.getElem?_toArray];exact hu⟩⟩
def emptyH:Hist:=⟨[],[],[],[],[],[],[],[]⟩
def emptyM:HistM:=⟨nilS,nilS,nilS,nilS,(⟨none,0,0⟩,[]),(⟨none,0,0⟩,[]),(⟨none,0,0⟩,[]),(⟨none,0,0⟩,[])⟩
theorem own_empty (B:Nat) (X:World):HOwn B X emptyM:=⟨nil_names _,World.ownsRow_nil _ _ _ _,World.ownsRow_nil _ _ _ _,World.ownsRow_nil _ _ _ _,World.ownsRow_nil _ _ _ _,RG.nil,RG.nil⟩
def addEv (h:HistM) (A:Option Addr) (c:Nat) (e:EvP):HistM:={h with ev:=(⟨A,h.ev.1.n+1,c⟩,h.ev.2++[(e,⟨none,0,0⟩)])}
theorem add_pl (h:HistM) (A:Option Addr) (c:Nat) (e:EvP):(addEv h A c e).pl={h.pl with ev:=h.pl.ev++[e]}:=by
 unfold addEv HistM.pl
 simp
theorem HOwn.addE {B:Nat} {X Y:World} {h:HistM} (ho:HOwn B X h) {A:Option Addr} {c:Nat} {e:EvP} (he:e.scan=[]) (hB:B≤X.heap.size)
 (hown:Y.ownsRow B 60 9 (.slice A (h.ev.1.n+1) c) (h.ev.1.n+1) (h.ev.2.flatMap evCs++evCs (e,⟨none,0,0⟩))) (hg:X.grownBy Y (Value.slice h.ev.1.A h.ev.1.n h.ev.1.c).ownBlock):HOwn B Y (addEv h A c e):=by
 have k1:KeepT 60 X Y:=KeepT.grown ho.ev hg
 have hs:X.heap.size≤Y.heap.size:=by
  have:=(Below.refl X.heap.size X).size
  exact hg.size
 refine⟨ho.nm.keepT k1 (by decide),?_,k1.own ho.od (by decide),k1.own ho.ma (by decide),k1.own ho.wa (by decide),?_,ho.it.keepT k1 (by decide)⟩
 ·show Y.ownsRow B _ 9 _ _ ((h.ev.2++[((e,⟨none,0,0⟩):EvP × SH)]).flatMap evCs)
  rw[List.flatMap_append,List.flatMap_cons,List.flatMap_nil,List.append_nil]
  exact hown
 show RG _ 3 B Y ((h.ev.2++[((e,⟨none,0,0⟩):EvP × SH)]).map fun p=>(p.1.scan.flatMap seCs,p.2))
 rw[List.map_append]
 have:=(ho.sc.keepT k1 (by decide)).add (Below.refl Y.heap.size Y) (Nat.le_trans hB hs) (hd:=⟨none,0,0⟩) (xs:=[]) (World.ownsRow_nil _ _ _ _)
 rw[← show e.scan.flatMap seCs=[] by rw[he];rfl] at this
 exact this
structure CmI (w:World) (B6:Nat) (q:List Int) (A2:Option Addr) (c2:Nat) (H:Hist) (k:Nat) (X:World) (h:HistM):Prop where
 own:HOwn w.heap.size X h
 b6:Blk X B6 28 h.cs
 br:Blk X (w.heap.size+1) 28 zeroH
 row:X.ownsRow w.heap.size 3 1 (.slice A2 q.length c2) q.length (ints q)
 below:Below w.heap.size w X
 ne:w.heap.size+1<B6
 pl:h.pl={H with ev:=H.ev++(q.take k).map abortE}
 n:h.ev.1.n=H.ev.length+k
section
variable {w X Y : World} {B6 : Nat} {q : List Int} {A2 : Option Addr} {c2 : Nat} {H : Hist} {k : Nat} {h : HistM}
theorem CmI.on (c:CmI w B6 q A2 c2 H k X h) (hb:Below X.heap.size X Y):CmI w B6 q A2 c2 H k Y h :=
 ⟨c.own.on hb,c.b6.below hb c.b6.lt,c.br.below hb c.br.lt,own_on c.row hb,c.below.trans (hb.mono c.below.size),c.ne,c.pl,c.n⟩
theorem CmI.add (c:CmI w B6 q A2 c2 H k X h) {u:Int} (hu:q[k]?=some u) {A:Option Addr} {c':Nat}
 (hown:Y.ownsRow w.heap.size 60 9 (.slice A (h.ev.1.n+1) c') (h.ev.1.n+1) (h.ev.2.flatMap evCs++evCs (abortE u,⟨none,0,0⟩))) (hg:X.grownBy Y (Value.slice h.ev.1.A h.ev.1.n h.ev.1.c).ownBlock) :
 Blk Y B6 28 h.cs∧CmI w B6 q A2 c2 H (k+1) (Y.setCell ⟨B6,4,none⟩ (.slice A (h.ev.1.n+1) c')) (addEv h A c' (abortE u)):=by
 have k1:KeepT 60 X Y:=KeepT.grown c.own.ev hg
 have b6:=k1.blk c.b6 (by decide)
 have k2:KeepT 28 Y (Y.setCell ⟨B6,4,none⟩ (.slice A (h.ev.1.n+1) c')):=box_turn b6 4 _
 refine⟨b6,(own_step (c.own.addE rfl c.below.size hown hg) b6 4 _).1,b6.set_ 4 _,(k1.blk c.br (by decide)).far (p:=⟨B6,4,none⟩) (by show w.heap.size+1≠B6;have:=c.ne;omega) _,k2.own (k1.own c.row (by decide)) (by decide),?_,c.ne,?_,?_⟩
 ·exact (c.below.grown hg c.below.size fun g hg2=>(own_in_block c.own.ev hg2).1).setCell (p:=⟨B6,4,none⟩) (by show w.heap.size≤B6;have:=c.ne;omega) _
 ·rw[add_pl,c.pl,List.take_add_one,hu]
  simp
 show h.ev.1.n+1=_
 rw[c.n]
 omega
end
def ComIs (H:Hist) (w:World):Ending→World→Prop:=fun e w'=>∃ n:HistM,e=.returned (.tuple #[.agg #[.slice n.tr.1.A n.tr.1.n n.tr.1.c,.slice n.se.1.A n.se.1.n n.se.1.c,.slice n.ob.1.A n.ob.1.n n.ob.1.c,.slice n.pr.1.A n.pr.1.n n.pr.1.c,.slice n.ev.1.A n.ev.1.n n.ev.1.c,.slice n.od.1.A n.od.1.n n.od.1.c,.slice n.ma.1.A n.ma.1.n n.ma.1.c,.slice n.wa.1.A n.wa.1.n n.wa.1.c],.int .i64 (checkE H)])∧HOwn w.heap.size w' n∧n.pl=(if rightB H=true then comP H else emptyH)∧Below w.heap.size w w'
set_option maxRecDepth 100000 in
set_option maxHeartbeats 8000000 in
theorem complete_any (m:HistM) (hS:Small m.pl) (w:World) (hT:Tabs w) (hm:HRd w w.heap.size m):Calls Tryz.prog 21 #[.agg #[.slice m.tr.1.A m.tr.1.n m.tr.1.c,.slice m.se.1.A m.se.1.n m.se.1.c,.slice m.ob.1.A m.ob.1.n m.ob.1.c,.slice m.pr.1.A m.pr.1.n m.pr.1.c,.slice m.ev.1.A m.ev.1.n m.ev.1.c,.slice m.od.1.A m.od.1.n m.od.1.c,.slice m.ma.1.A m.ma.1.n m.ma.1.c,.slice m.wa.1.A m.wa.1.n m.wa.1.c]] w (ComIs m.pl w):=by
 obtain⟨i0,hi,hz0,hz1,hz2⟩:=info_parts ev_info
 obtain⟨kh,kr,b0,hs0⟩:=itwo w #[.slice m.tr.1.A m.tr.1.n m.tr.1.c,.slice m.se.1.A m.se.1.n m.se.1.c,.slice m.ob.1.A m.ob.1.n m.ob.1.c,.slice m.pr.1.A m.pr.1.n m.pr.1.c,.slice m.ev.1.A m.ev.1.n m.ev.1.c,.slice m.od.1.A m.od.1.n m.od.1.c,.slice m.ma.1.A m.ma.1.n m.ma.1.c,.slice m.wa.1.A m.wa.1.n m.wa.1.c] #[.slice none 0 0,.slice none 0 0,.slice none 0 0,.slice none 0 0,.slice none 0 0,.slice none 0 0,.slice none 0 0,.slice none 0 0] 28 28
 have HC:=zh (check11_any m hS _ (hT.on b0 (Nat.le_refl _)) ((hm.on b0).more b0.size))
 have KH:=zh kh
 have KR:=zh kr
 have B0:=zh b0
 have HFIT:=zh hm.fit
 have HRDS:Hid (∀ W,Below w.heap.size w W→HRd W W.heap.size m):=fun W hW=>(hm.on hW).more hW.size
 clear kh kr b0 hs0 hm
 go_enter Tryz.func21,Tryz.ntmps21
 go_wp2_with fail
 refine HC.out.mono ?_
 rintro e w1 ⟨rfl,b1⟩
 have KH:=zh (KH.out.below b1 KH.out.lt)
 have KR:=zh (KR.out.below b1 KR.out.lt)
 have BW:=zh (B0.out.trans (b1.mono B0.out.size))
 clear b1 HC B0
 cases hx:rightB m.pl
 ·have HX:=zh (checkE_no hx)
  have HR:=zh hx
  rw[checkE_no hx]
  clear hx
  have HOE:=zh (own_empty w.heap.size w1)
  obtain⟨y0,y1,y2,y3,y4,y5,y6,y7⟩:=c8 KR.out
  have f0:=KR.out.frozen 0
  have f1:=KR.out.frozen 1
  have f2:=KR.out.frozen 2
  have f3:=KR.out.frozen 3
  have f4:=KR.out.frozen 4
  have f5:=KR.out.frozen 5
  have f6:=KR.out.frozen 6
  have f7:=KR.out.frozen 7
  go_wp2_with fail
  clear y0 f0 y1 f1 y2 f2 y3 f3 y4 f4 y5 f5 y6 f6 y7 f7
  have HF0:=zh (own_step (HOE.out) (KR.out) 0 (.slice none 0 0))
  have HF1:=zh (own_step (HF0.out.1) (HF0.out.2) 1 (.slice none 0 0))
  have HF2:=zh (own_step (HF1.out.1) (HF1.out.2) 2 (.slice none 0 0))
  have HF3:=zh (own_step (HF2.out.1) (HF2.out.2) 3 (.slice none 0 0))
  have HF4:=zh (own_step (HF3.out.1) (HF3.out.2) 4 (.slice none 0 0))
  have HF5:=zh (own_step (HF4.out.1) (HF4.out.2) 5 (.slice none 0 0))
  have HF6:=zh (own_step (HF5.out.1) (HF5.out.2) 6 (.slice none 0 0))
  have HF7:=zh (own_step (HF6.out.1) (HF6.out.2) 7 (.slice none 0 0))
  have HBF:=zh ((((((((((((((((BW.out).setCell (p:=⟨w.heap.size+1,0,none⟩) (Nat.le_succ _) (.slice none 0 0))).setCell (p:=⟨w.heap.size+1,1,none⟩) (Nat.le_succ _) (.slice none 0 0))).setCell (p:=⟨w.heap.size+1,2,none⟩) (Nat.le_succ _) (.slice none 0 0))).setCell (p:=⟨w.heap.size+1,3,none⟩) (Nat.le_succ _) (.slice none 0 0))).setCell (p:=⟨w.heap.size+1,4,none⟩) (Nat.le_succ _) (.slice none 0 0))).setCell (p:=⟨w.heap.size+1,5,none⟩) (Nat.le_succ _) (.slice none 0 0))).setCell (p:=⟨w.heap.size+1,6,none⟩) (Nat.le_succ _) (.slice none 0 0))).setCell (p:=⟨w.heap.size+1,7,none⟩) (Nat.le_succ _) (.slice none 0 0))
  have kf:=HF7.out.2
  simp at kf
  have HOF:=zh HF7.out.1
  clear HF0 HF1 HF2 HF3 HF4 HF5 HF6 HF7
  generalize ((((((((w1.setCell ⟨w.heap.size+1,0,none⟩ (.slice none 0 0)).setCell ⟨w.heap.size+1,1,none⟩ (.slice none 0 0)).setCell ⟨w.heap.size+1,2,none⟩ (.slice none 0 0)).setCell ⟨w.heap.size+1,3,none⟩ (.slice none 0 0)).setCell ⟨w.heap.size+1,4,none⟩ (.slice none 0 0)).setCell ⟨w.heap.size+1,5,none⟩ (.slice none 0 0)).setCell ⟨w.heap.size+1,6,none⟩ (.slice none 0 0)).setCell ⟨w.heap.size+1,7,none⟩ (.slice none 0 0))=wf at *
  obtain⟨r0,r1,r2,r3,r4,r5,r6,r7⟩:=c8 kf
  exact bodyPost_ret (v:=.tuple #[.agg #[.slice none 0 0,.slice none 0 0,.slice none 0 0,.slice none 0 0,.slice none 0 0,.slice none 0 0,.slice none 0 0,.slice none 0 0],.int .i64 210]) (by simp[results,Tryz.results21,go_sem,r0,r1,r2,r3,r4,r5,r6,r7]) rfl ⟨emptyM,by rw[HX.out];rfl,HOF.out,by rw[HR.out];rfl,HBF.out⟩
 have HX:=zh (checkE_ok hx)
 have HR:=zh hx
 rw[checkE_ok hx]
 clear hx
 obtain⟨z0,z1,z2,z3,z4,z5,z6,z7⟩:=c8 KH.out
 go_wp2_with fail
 refine (open_any m hS (right_shaped HR.out) w1 (HRDS.out w1 BW.out)).mono ?_
 rintro e w2 ⟨A2,c2,rfl,ho2,b2⟩
 clear z0 z1 z2 z3 z4 z5 z6 z7
 have KH:=zh (KH.out.below b2 KH.out.lt)
 have KR:=zh (KR.out.below b2 KR.out.lt)
 have ROW:=zh (own_mono ho2 BW.out.size)
 have BW:=zh (BW.out.trans (b2.mono BW.out.size))
 clear ho2 b2
 have HLEN:Hid (m.pl.ev.length=m.ev.1.n):=by show m.pl.ev.length=_;rw[← HFIT.out.ev.1];unfold HistM.pl;simp
 have hev:m.ev.1.n≤200:=by have:=hS.ev;have:=HLEN.out;omega
 have hln:(leftL m.pl).length≤60:=by have:=left_len m.pl;have:=hS.tr;omega
 have HQ:Hid (comP m.pl={m.pl with ev:=m.pl.ev++(leftL m.pl).map abortE}):=rfl
 generalize leftL m.pl=q at *
 obtain⟨ln,hlq⟩:∃ ln,q.length=ln:=⟨_,rfl⟩
 rw[hlq] at ROW hln ⊢
 have HLQ:=zh hlq
 clear hlq
 obtain⟨z0,z1,z2,z3,z4,z5,z6,z7⟩:=c8 KH.out
 go_wp2_with fail
 refine (copied_any m hS w2 (HRDS.out w2 BW.out)).mono ?_
 rintro e w3 ⟨n,rfl,hon,hpl,b3⟩
 clear z0 z1 z2 z3 z4 z5 z6 z7
 obtain⟨k6,b6,hs6⟩:=ibox w3 #[.slice n.tr.1.A n.tr.1.n n.tr.1.c,.slice n.se.1.A n.se.1.n n.se.1.c,.slice n.ob.1.A n.ob.1.n n.ob.1.c,.slice n.pr.1.A n.pr.1.n n.pr.1.c,.slice n.ev.1.A n.ev.1.n n.ev.1.c,.slice n.od.1.A n.od.1.n n.od.1.c,.slice n.ma.1.A n.ma.1.n n.ma.1.c,.slice n.wa.1.A n.wa.1.n n.wa.1.c] 28
 have b36:=b3.trans (b6.mono b3.size)
 have HCM:Hid (CmI w w3.heap.size q A2 c2 m.pl 0 (w3.alloc (.cells #[.slice n.tr.1.A n.tr.1.n n.tr.1.c,.slice n.se.1.A n.se.1.n n.se.1.c,.slice n.ob.1.A n.ob.1.n n.ob.1.c,.slice n.pr.1.A n.pr.1.n n.pr.1.c,.slice n.ev.1.A n.ev.1.n n.ev.1.c,.slice n.od.1.A n.od.1.n n.od.1.c,.slice n.ma.1.A n.ma.1.n n.ma.1.c,.slice n.wa.1.A n.wa.1.n n.wa.1.c] 28)) n):=by
  refine⟨(hon.on b6).mono BW.out.size,k6,KR.out.below b36 KR.out.lt,?_,BW.out.trans (b36.mono BW.out.size),?_,?_,?_⟩
  ·rw[HLQ.out];exact own_on ROW.out b36
  ·have:=KR.out.lt;have:=b3.size;omega
  ·rw[hpl];simp
  rw[Nat.add_zero,HLEN.out,← HFIT.out.ev.1,← hon.rd.fit.ev.1]
  have:=congrArg (fun H=>H.ev.length) hpl
  unfold HistM.pl at this
  simpa using this
 clear hon hpl b3 k6 b6 hs6 b36 KH KR ROW BW
 go_wp2_with fail
 generalize w3.alloc (.cells #[.slice n.tr.1.A n.tr.1.n n.tr.1.c,.slice n.se.1.A n.se.1.n n.se.1.c,.slice n.ob.1.A n.ob.1.n n.ob.1.c,.slice n.pr.1.A n.pr.1.n n.pr.1.c,.slice n.ev.1.A n.ev.1.n n.ev.1.c,.slice n.od.1.A n.od.1.n n.od.1.c,.slice n.ma.1.A n.ma.1.n n.ma.1.c,.slice n.wa.1.A n.wa.1.n n.wa.1.c] 28)=W3 at *
 generalize w3.heap.size=B6 at *
 go_loopw [29] (fun v wr=>∃ (k:Nat) (h:HistM),k≤ln∧v=.int .i64 k∧Hid (CmI w B6 q A2 c2 m.pl k wr h)) (fun v _=>ln - (intOf v).toNat)
 case atStart=>exact⟨0,n,Nat.zero_le _,rfl,HCM⟩
 clear HCM
 obtain⟨k,h,hk,rfl,HCM⟩:=hrel
 by_cases hkl:k<ln
 ·have hkl2:(k:Int)<(ln:Int):=by omega
  obtain⟨u,hu⟩:∃ u,q[k]?=some u:=⟨q[k]'(by rw[HLQ.out];exact hkl),List.getElem?_eq_getElem _⟩
  obtain⟨b,o,rfl,hbl,g0⟩:=int_at (Reads.of_own HCM.out.row) hu
  have z4:wr.cell? ⟨B6,4,none⟩=some (.slice h.ev.1.A h.ev.1.n h.ev.1.c):=HCM.out.b6.cell 4
  have hal:Below wr.heap.size wr (wr.alloc (.cells #[.int .i64 6,.int .i64 u,.int .i64 0,.int .i64 0,.int .i64 0,.int .i64 0,.int .i64 0,.int .i64 0,.slice none 0 0] 60)):=(Below.refl _ _).alloc (Nat.le_refl _) _
  have HC2:=zh (HCM.out.on hal)
  have SL:=zh (lit_of wr 60 9 (evCs (abortE u,⟨none,0,0⟩)) #[.int .i64 6,.int .i64 u,.int .i64 0,.int .i64 0,.int .i64 0,.int .i64 0,.int .i64 0,.int .i64 0,.slice none 0 0] rfl rfl)
  have HU:=zh hu
  have hn4:h.ev.1.n≤1000:=by have:=HCM.out.n;have:=HLEN.out;omega
  clear hal hu hbl
  go_wp2_with (at_builtin;refine wpList_append_any _ rfl (.tmp 34) (.tmp 37) 23 rfl w.heap.size 60 i0 _ 9 88 Tryz.underlying23 hi hz0 hz1 hz2 rfl (by decide) _ _ _ rfl HC2.out.own.ev _ (some ⟨wr.heap.size,0,none⟩) 1 _ (evCs (abortE u,⟨none,0,0⟩)) rfl SL.out (evCs_one _) (by unfold maxLen;omega) (by omega) HC2.out.below.size ?_;intro v' w6 hown6 hgrow6 hat6;obtain⟨A6,c6,rfl,-,-⟩:=own_form2 hown6;obtain⟨hb6,hc6⟩:=HC2.out.add HU.out hown6 hgrow6;have y4:=hb6.cell 4;have f4:=hb6.frozen 4)
  have HC6:=zh hc6
  clear hown6 hgrow6 hat6 hb6 hc6 y4 f4 SL HC2
  go_wp2_with fail
  go_roundw
  case rel=>exact⟨k+1,_,hkl,by go_num,HC6⟩
  case measure=>simp[intOf];omega
 obtain rfl:k=ln:=by omega
 have KR:=zh HCM.out.br
 have KB:=zh HCM.out.b6
 have BW:=zh HCM.out.below
 have HOE:=zh HCM.out.own
 have HP:Hid (h.pl=comP m.pl):=by show h.pl=_;rw[HQ.out,HCM.out.pl,List.take_of_length_le (Nat.le_of_eq HLQ.out)]
 obtain⟨z0,z1,z2,z3,z4,z5,z6,z7⟩:=c8 KB.out
 obtain⟨y0,y1,y2,y3,y4,y5,y6,y7⟩:=c8 KR.out
 have f0:=KR.out.frozen 0
 have f1:=KR.out.frozen 1
 have f2:=KR.out.frozen 2
 have f3:=KR.out.frozen 3
 have f4:=KR.out.frozen 4
 have f5:=KR.out.frozen 5
 have f6:=KR.out.frozen 6
 have f7:=KR.out.frozen 7
 clear HCM
 go_wp2_with fail
 clear z0 y0 f0 z1 y1 f1 z2 y2 f2 z3 y3 f3 z4 y4 f4 z5 y5 f5 z6 y6 f6 z7 y7 f7
 have HF0:=zh (own_step (HOE.out) (KR.out) 0 (.slice h.tr.1.A h.tr.1.n h.tr.1.c))
 have HF1:=zh (own_step (HF0.out.1) (HF0.out.2) 1 (.slice h.se.1.A h.se.1.n h.se.1.c))
 have HF2:=zh (own_step (HF1.out.1) (HF1.out.2) 2 (.slice h.ob.1.A h.ob.1.n h.ob.1.c))
 have HF3:=zh (own_step (HF2.out.1) (HF2.out.2) 3 (.slice h.pr.1.A h.pr.1.n h.pr.1.c))
 have HF4:=zh (own_step (HF3.out.1) (HF3.out.2) 4 (.slice h.ev.1.A h.ev.1.n h.ev.1.c))
 have HF5:=zh (own_step (HF4.out.1) (HF4.out.2) 5 (.slice h.od.1.A h.od.1.n h.od.1.c))
 have HF6:=zh (own_step (HF5.out.1) (HF5.out.2) 6 (.slice h.ma.1.A h.ma.1.n h.ma.1.c))
 have HF7:=zh (own_step (HF6.out.1) (HF6.out.2) 7 (.slice h.wa.1.A h.wa.1.n h.wa.1.c))
 have HBF:=zh ((((((((((((((((BW.out).setCell (p:=⟨w.heap.size+1,0,none⟩) (Nat.le_succ _) (.slice h.tr.1.A h.tr.1.n h.tr.1.c))).setCell (p:=⟨w.heap.size+1,1,none⟩) (Nat.le_succ _) (.slice h.se.1.A h.se.1.n h.se.1.c))).setCell (p:=⟨w.heap.size+1,2,none⟩) (Nat.le_succ _) (.slice h.ob.1.A h.ob.1.n h.ob.1.c))).setCell (p:=⟨w.heap.size+1,3,none⟩) (Nat.le_succ _) (.slice h.pr.1.A h.pr.1.n h.pr.1.c))).setCell (p:=⟨w.heap.size+1,4,none⟩) (Nat.le_succ _) (.slice h.ev.1.A h.ev.1.n h.ev.1.c))).setCell (p:=⟨w.heap.size+1,5,none⟩) (Nat.le_succ _) (.slice h.od.1.A h.od.1.n h.od.1.c))).setCell (p:=⟨w.heap.size+1,6,none⟩) (Nat.le_succ _) (.slice h.ma.1.A h.ma.1.n h.ma.1.c))).setCell (p:=⟨w.heap.size+1,7,none⟩) (Nat.le_succ _) (.slice h.wa.1.A h.wa.1.n h.wa.1.c))
 have kf:=HF7.out.2
 simp[zeroH] at kf
 have HOF:=zh HF7.out.1
 clear HF0 HF1 HF2 HF3 HF4 HF5 HF6 HF7
 generalize ((((((((wr.setCell ⟨w.heap.size+1,0,none⟩ (.slice h.tr.1.A h.tr.1.n h.tr.1.c)).setCell ⟨w.heap.size+1,1,none⟩ (.slice h.se.1.A h.se.1.n h.se.1.c)).setCell ⟨w.heap.size+1,2,none⟩ (.slice h.ob.1.A h.ob.1.n h.ob.1.c)).setCell ⟨w.heap.size+1,3,none⟩ (.slice h.pr.1.A h.pr.1.n h.pr.1.c)).setCell ⟨w.heap.size+1,4,none⟩ (.slice h.ev.1.A h.ev.1.n h.ev.1.c)).setCell ⟨w.heap.size+1,5,none⟩ (.slice h.od.1.A h.od.1.n h.od.1.c)).setCell ⟨w.heap.size+1,6,none⟩ (.slice h.ma.1.A h.ma.1.n h.ma.1.c)).setCell ⟨w.heap.size+1,7,none⟩ (.slice h.wa.1.A h.wa.1.n h.wa.1.c))=wf at *
 obtain⟨r0,r1,r2,r3,r4,r5,r6,r7⟩:=c8 kf
 exact bodyPost_ret (v:=.tuple #[.agg #[.slice h.tr.1.A h.tr.1.n h.tr.1.c,.slice h.se.1.A h.se.1.n h.se.1.c,.slice h.ob.1.A h.ob.1.n h.ob.1.c,.slice h.pr.1.A h.pr.1.n h.pr.1.c,.slice h.ev.1.A h.ev.1.n h.ev.1.c,.slice h.od.1.A h.od.1.n h.od.1.c,.slice h.ma.1.A h.ma.1.n h.ma.1.c,.slice h.wa.1.A h.wa.1.n h.wa.1.c],.int .i64 0]) (by simp[results,Tryz.results21,go_sem,r0,r1,r2,r3,r4,r5,r6,r7]) rfl ⟨h,by rw[HX.out],HOF.out,by rw[HR.out,if_pos rfl];exact HP.out,HBF.out⟩
def z0:Nat→Int→Int:=fun _ _=>0
section
variable {f : Nat → Int → Int}
theorem reV_z {t k:Int}:reV z0 (reV f t k) k=reV z0 t k:=by unfold reV z0;split<;>rfl
theorem reS_z (s:SeenP):reS z0 (reS f s)=reS z0 s:=by
 unfold reS
 simp only[reV_z]
 rfl
theorem reE_z (e:EvP):reE z0 (reE f e)=reE z0 e:=by
 by_cases h1:e.kd=1
 ·rw[reE_one h1,reE_one (by simpa using h1),reE_one h1];rfl
 by_cases h2:e.kd=2∨e.kd=3
 ·rw[reE_two h2,reE_two (by simpa using h2),reE_two h2]
  simp only[reV_z]
  rfl
 by_cases h4:e.kd=4
 ·rw[reE_four h4,reE_four (by simpa using h4),reE_four h4]
  simp only[List.map_map]
  congr 1
  refine List.map_congr_left fun s _=>reS_z s
 rw[reE_end (f:=f) ⟨h1,h2,h4⟩,reE_end (f:=z0) (e:=e) ⟨h1,h2,h4⟩]
 exact reE_end ⟨h1,h2,h4⟩
theorem reH_z (H:Hist):reH z0 (reH f H)=reH z0 H:=by
 unfold reH
 simp only[List.map_map]
 congr 1
 ·exact List.map_congr_left fun e _=>reE_z e
 ·exact List.map_congr_left fun r _=>by show reO z0 (reO f r)=reO z0 r;unfold reO;rw[List.map_map];rfl
 exact List.map_congr_left fun r _=>by show reM z0 (reM f r)=reM z0 r;unfold reM;rw[List.map_map];rfl
end
theorem list_len {α β:Type} {z:α→α} {g:α→List β} (hl:∀ a b,z a=z b→(g a).length=(g b).length):∀ {l l':List α},l.map z=l'.map z→(l.flatMap g).length=(l'.flatMap g).length
 | [],[],_=>rfl
 | a :: l,b :: l',h=>by
  rw[List.map_cons,List.map_cons,List.cons.injEq] at h
  rw[List.flatMap_cons,List.flatMap_cons,List.length_append,List.length_append,hl a b h.1,list_len hl h.2]
 | [],_ :: _,h=>by simp at h
 | _ :: _,[],h=>by simp at h
theorem list_inj {α β:Type} {z:α→α} {g:α→List β} (hg:∀ a b,z a=z b→g a=g b→a=b) (hl:∀ a b,z a=z b→(g a).length=(g b).length):∀ {l l':List α},l.map z=l'.map z→l.flatMap g=l'.flatMap g→l=l'
 | [],[],_,_=>rfl
 | a :: l,b :: l',h,e=>by
  rw[List.map_cons,List.map_cons,List.cons.injEq] at h
  rw[List.flatMap_cons,List.flatMap_cons] at e
  obtain⟨e1,e2⟩:=List.append_inj e (hl a b h.1)
  rw[hg a b h.1 e1,list_inj hg hl h.2 e2]
 | [],_ :: _,h,_=>by simp at h
 | _ :: _,[],h,_=>by simp at h
theorem reV_inj {a b k:Int} (h:reV z0 a k=reV z0 b k) (hr:refsV a k=refsV b k):a=b:=by
 unfold reV at h
 unfold refsV at hr
 split at h
 ·exact h
 rename_i hk
 rw[if_neg hk,if_neg hk] at hr
 simpa using hr
theorem lenV {a b k:Int}:(refsV a k).length=(refsV b k).length:=by unfold refsV;split<;>rfl
theorem reS_len (a b:SeenP) (h:reS z0 a=reS z0 b):(refsS a).length=(refsS b).length:=by
 have hk:a.k=b.k:=(by rw[h]:(reS z0 a).k=(reS z0 b).k)
 unfold refsS
 rw[List.length_cons,List.length_cons,hk,lenV (a:=a.t) (b:=b.t)]
theorem reS_inj (a b:SeenP) (h:reS z0 a=reS z0 b) (hr:refsS a=refsS b):a=b:=by
 have hk:a.k=b.k:=(by rw[h]:(reS z0 a).k=(reS z0 b).k)
 have ht:reV z0 a.t a.k=reV z0 b.t b.k:=(by rw[h]:(reS z0 a).t=(reS z0 b).t)
 unfold refsS at hr
 rw[List.cons.injEq] at hr
 obtain⟨h1,h2⟩:=hr
 obtain⟨ao,at',ak⟩:=a
 obtain⟨bo,bt,bk⟩:=b
 simp only at hk ht h1 h2
 subst hk
 have h3:=reV_inj ht h2
 simp only[Prod.mk.injEq,true_and] at h1
 rw[h1,h3]
theorem reE_len (a b:EvP) (h:reE z0 a=reE z0 b):(refsE a).length=(refsE b).length:=by
 have hk:a.kd=b.kd:=by have:=congrArg EvP.kd h;rwa [reE_kd,reE_kd] at this
 have hv:a.vk=b.vk:=by have:=congrArg EvP.vk h;rwa [reE_vk,reE_vk] at this
 unfold refsE refsK
 rw[List.length_cons,List.length_cons,hk,hv]
 by_cases h1:b.kd=1
 ·rw[if_pos h1,if_pos h1];rfl
 by_cases h2:b.kd=2∨b.kd=3
 ·rw[if_neg h1,if_neg h1,if_pos h2,if_pos h2,List.length_cons,List.length_cons,lenV (a:=a.vt) (b:=b.vt)]
 by_cases h4:b.kd=4
 ·rw[if_neg h1,if_neg h1,if_neg h2,if_neg h2,if_pos h4,if_pos h4,List.length_cons,List.length_cons]
  have hs:=congrArg EvP.scan h
  rw[reE_four h4,reE_four (hk.trans h4)] at hs
  rw[list_len reS_len hs]
 rw[if_neg h1,if_neg h1,if_neg h2,if_neg h2,if_neg h4,if_neg h4]
theorem reE_inj (a b:EvP) (h:reE z0 a=reE z0 b) (hr:refsE a=refsE b):a=b:=by
 have hk:a.kd=b.kd:=by have:=congrArg EvP.kd h;rwa [reE_kd,reE_kd] at this
 have hv:a.vk=b.vk:=by have:=congrArg EvP.vk h;rwa [reE_vk,reE_vk] at this
 unfold refsE refsK at hr
 rw[List.cons.injEq] at hr
 obtain⟨ht,hr⟩:=hr
 simp only[Prod.mk.injEq,true_and] at ht
 obtain⟨akd,at',ase,alev,ao,avt,avk,ap,ascan⟩:=a
 obtain⟨bkd,bt,bse,blev,bo,bvt,bvk,bp,bscan⟩:=b
 simp only at hk hv ht hr
 subst hk;subst hv;subst ht
 by_cases h1:akd=1
 ·rw[if_pos h1,if_pos h1] at hr
  rw[reE_one (by simpa using h1),reE_one (by simpa using h1)] at h
  simp only[EvP.mk.injEq,true_and] at h
  simp only[List.cons.injEq,Prod.mk.injEq,true_and,and_true] at hr
  rw[hr,h.2.1,h.2.2.1,h.2.2.2.1,h.2.2.2.2.1,h.2.2.2.2.2]
 by_cases h2:akd=2∨akd=3
 ·rw[if_neg h1,if_neg h1,if_pos h2,if_pos h2] at hr
  rw[reE_two (by simpa using h2),reE_two (by simpa using h2)] at h
  simp only[EvP.mk.injEq,true_and] at h
  simp only[List.cons.injEq,Prod.mk.injEq,true_and] at hr
  obtain⟨q1,q2,_,q3,q4,q5⟩:=h
  rw[hr.1,q1,q2,reV_inj q3 hr.2,q4,q5]
 by_cases h4:akd=4
 ·rw[if_neg h1,if_neg h1,if_neg h2,if_neg h2,if_pos h4,if_pos h4] at hr
  rw[reE_four (by simpa using h4),reE_four (by simpa using h4)] at h
  simp only[EvP.mk.injEq,true_and] at h
  simp only[List.cons.injEq,Prod.mk.injEq,true_and] at hr
  obtain⟨q1,q2,q3,q4,_,q5⟩:=h
  rw[hr.1,q1,q2,q3,q4,list_inj reS_inj reS_len q5 hr.2]
 rw[reE_end ⟨by simpa using h1,by simpa using h2,by simpa using h4⟩,reE_end ⟨by simpa using h1,by simpa using h2,by simpa using h4⟩] at h
 simp only[EvP.mk.injEq,true_and] at h
 obtain⟨q1,q2,q3,q4,q5,q6⟩:=h
 rw[q1,q2,q3,q4,q5,q6]
theorem ts_inj {a b:List Int} (h:refsT a=refsT b):a=b:=by
 unfold refsT at h
 exact (List.map_inj_right fun x y e=>by simpa using e).1 h
theorem ts_len {a b:List Int} (h:a.map (z0 0)=b.map (z0 0)):(refsT a).length=(refsT b).length:=by
 have:=congrArg List.length h
 unfold refsT
 simpa using this
theorem reO_len (a b:OrdP) (h:reO z0 a=reO z0 b):(refsO a).length=(refsO b).length:=by
 unfold refsO
 rw[List.length_cons,List.length_cons,ts_len (congrArg (fun x:OrdP=>x.ts) h)]
theorem reO_inj (a b:OrdP) (_h:reO z0 a=reO z0 b) (hr:refsO a=refsO b):a=b:=by
 unfold refsO at hr
 rw[List.cons.injEq] at hr
 obtain⟨ao,at'⟩:=a
 obtain⟨bo,bt⟩:=b
 simp only[Prod.mk.injEq,true_and] at hr
 rw[hr.1,ts_inj hr.2]
theorem reM_len (a b:MatP) (h:reM z0 a=reM z0 b):(refsM a).length=(refsM b).length:=by
 unfold refsM
 rw[List.length_cons,List.length_cons,List.length_cons,List.length_cons,ts_len (congrArg (fun x:MatP=>x.ts) h)]
theorem reM_inj (a b:MatP) (h:reM z0 a=reM z0 b) (hr:refsM a=refsM b):a=b:=by
 have hf:a.fi=b.fi:=(by rw[h]:(reM z0 a).fi=(reM z0 b).fi)
 unfold refsM at hr
 rw[List.cons.injEq,List.cons.injEq] at hr
 obtain⟨ap,ao,af,at'⟩:=a
 obtain⟨bp,bo,bf,bt⟩:=b
 simp only[Prod.mk.injEq,true_and] at hr hf
 rw[hr.1,hr.2.1,hf,ts_inj hr.2.2]
theorem reW_inj (a b:WantP) (h:reW z0 a=reW z0 b) (hr:refsW a=refsW b):a=b:=by
 have hf:a.b=b.b:=(by rw[h]:(reW z0 a).b=(reW z0 b).b)
 unfold refsW at hr
 obtain⟨ao,at'⟩:=a
 obtain⟨bo,bt⟩:=b
 simp only[List.cons.injEq,Prod.mk.injEq,true_and,and_true] at hr hf
 rw[hr,hf]
theorem reH_inj {A B:Hist} (h:reH z0 A=reH z0 B) (hr:refs A=refs B):A=B:=by
 obtain⟨a1,a2,a3,a4,aev,aod,ama,awa⟩:=A
 obtain⟨b1,b2,b3,b4,bev,bod,bma,bwa⟩:=B
 unfold reH at h
 simp only[Hist.mk.injEq] at h
 obtain⟨e1,e2,e3,e4,h1,h2,h3,h4⟩:=h
 unfold refs at hr
 simp only at hr
 obtain⟨r1,hr⟩:=List.append_inj hr (list_len reE_len h1)
 obtain⟨r2,hr⟩:=List.append_inj hr (list_len reO_len h2)
 obtain⟨r3,r4⟩:=List.append_inj hr (list_len reM_len h3)
 rw[e1,e2,e3,e4,list_inj reE_inj reE_len h1 r1,list_inj reO_inj reO_len h2 r2,list_inj reM_inj reM_len h3 r3,list_inj reW_inj (fun _ _ _=>rfl) h4 r4]
section
variable {α β γ : Type} {f : Nat → α → List β} {g : α → List γ}
theorem flatI_get:∀ {l:List α} {i k:Nat} {y:β},(flatI f i l)[k]?=some y→∃ q x j,l[q]?=some x∧(f (i+q) x)[j]?=some y∧k=(flatI f i (l.take q)).length+j
 | [],_,_,_,h=>by simp[flatI] at h
 | x :: l,i,k,y,h=>by
  unfold flatI at h
  rcases Nat.lt_or_ge k (f i x).length with hk | hk
  ·rw[List.getElem?_append_left hk] at h
   exact⟨0,x,k,rfl,h,by simp[flatI]⟩
  rw[List.getElem?_append_right hk] at h
  obtain⟨q,x',j,h1,h2,h3⟩:=flatI_get h
  refine⟨q+1,x',j,by simpa using h1,by rwa [show i+(q+1)=i+1+q by omega],?_⟩
  rw[List.take_succ_cons]
  unfold flatI
  rw[List.length_append]
  omega
theorem flatI_len (hl:∀ i x,(f i x).length=(g x).length):∀ {l:List α} {i:Nat},(flatI f i l).length=(l.flatMap g).length
 | [],_=>rfl
 | x :: l,i=>by
  unfold flatI
  rw[List.flatMap_cons,List.length_append,List.length_append,hl,flatI_len hl]
theorem flatI_set {x x':α} (he:∀ i,f i x'=f i x):∀ {l:List α} {i q:Nat},l[q]?=some x→flatI f i (l.set q x')=flatI f i l
 | [],_,_,h=>by simp at h
 | y :: l,i,0,h=>by
  simp only[List.getElem?_cons_zero,Option.some.injEq] at h
  subst h
  rw[List.set_cons_zero]
  unfold flatI
  rw[he]
 | y :: l,i,q+1,h=>by
  simp only[List.getElem?_cons_succ] at h
  rw[List.set_cons_succ]
  unfold flatI
  rw[flatI_set he h]
theorem flat_set {x x':α} {j:Nat} {v:γ} (hs:g x'=(g x).set j v) (hj:j<(g x).length):∀ {l:List α} {q:Nat},l[q]?=some x→(l.set q x').flatMap g=(l.flatMap g).set (((l.take q).flatMap g).length+j) v
 | [],_,h=>by simp at h
 | y :: l,0,h=>by
  simp only[List.getElem?_cons_zero,Option.some.injEq] at h
  subst h
  rw[List.set_cons_zero,List.flatMap_cons,List.flatMap_cons,hs]
  simp[List.set_append_left _ _ hj]
 | y :: l,q+1,h=>by
  simp only[List.getElem?_cons_succ] at h
  rw[List.set_cons_succ,List.flatMap_cons,List.flatMap_cons,List.take_succ_cons,List.flatMap_cons,List.length_append,Nat.add_assoc,List.set_append_right _ _ (by omega),Nat.add_sub_cancel_left,flat_set hs hj h]
theorem map_set_eq {z:α→β} {x x':α} (he:z x'=z x) {l:List α} {q:Nat} (h:l[q]?=some x):(l.set q x').map z=l.map z:=map_set_same h he
end
theorem lenPV {h:SH} {j:Nat} {t k:Int}:(plV h j k).length=(refsV t k).length:=by unfold plV refsV;split<;>rfl
theorem lenPS {h:SH} (i:Nat) (s:SeenP):(plS h i s).length=(refsS s).length:=by unfold plS refsS;rw[List.length_cons,List.length_cons,lenPV]
theorem lenPE {h:SH} (i:Nat) (p:EvP × SH):(plE h i p).length=(refsE p.1).length:=by
 unfold plE refsE plK refsK
 rw[List.length_cons,List.length_cons]
 by_cases h1:p.1.kd=1
 ·rw[if_pos h1,if_pos h1];rfl
 by_cases h2:p.1.kd=2∨p.1.kd=3
 ·rw[if_neg h1,if_neg h1,if_pos h2,if_pos h2,List.length_cons,List.length_cons,lenPV]
 by_cases h4:p.1.kd=4
 ·rw[if_neg h1,if_neg h1,if_neg h2,if_neg h2,if_pos h4,if_pos h4,List.length_cons,List.length_cons,flatI_len lenPS]
 rw[if_neg h1,if_neg h1,if_neg h2,if_neg h2,if_neg h4,if_neg h4];rfl
theorem lenPT {h:SH} (ts:List Int):(plT h ts).length=(refsT ts).length:=by
 unfold plT refsT
 rw[flatI_len (f:=fun j (_:Int)=>[((0:Nat),h.ad j)]) (g:=fun t:Int=>[((0:Nat),t)]) (fun _ _=>rfl),← map_flat]
theorem lenPO {h:SH} (i:Nat) (p:OrdP × SH):(plO h i p).length=(refsO p.1).length:=by unfold plO refsO;rw[List.length_cons,List.length_cons,lenPT]
theorem lenPM {h:SH} (i:Nat) (p:MatP × SH):(plM h i p).length=(refsM p.1).length:=by unfold plM refsM;rw[List.length_cons,List.length_cons,List.length_cons,List.length_cons,lenPT]
theorem lenPW {h:SH} (i:Nat) (p:WantP):(plW h i p).length=(refsW p).length:=rfl
section
variable {γ : Type} {a b : List γ} {n k : Nat} {v y : γ}
theorem app_get (h:(a++b)[k]?=some y):(k<a.length∧a[k]?=some y)∨∃ k',k=a.length+k'∧b[k']?=some y:=by
 rcases Nat.lt_or_ge k a.length with hk | hk
 ·rw[List.getElem?_append_left hk] at h
  exact .inl ⟨hk,h⟩
 rw[List.getElem?_append_right hk] at h
 exact .inr ⟨k - a.length,by omega,h⟩
theorem set_app (h:a.length=n):(a++b).set (n+k) v=a++b.set k v:=by
 subst h
 rw[List.set_append_right _ _ (by omega),Nat.add_sub_cancel_left]
theorem set_app_l (h:k<a.length):(a++b).set k v=a.set k v++b:=List.set_append_left _ _ h
theorem fm_same {α β:Type} {enc:α→List β} {l:List α} {q:Nat} {x x':α} (hq:l[q]?=some x) (he:enc x'=enc x):(l.set q x').flatMap enc=l.flatMap enc:=by
 rw[List.flatMap_def,List.flatMap_def,map_set_eq he hq]
end
def EvP.withS (e:EvP) (l:List SeenP):EvP:=⟨e.kd,e.t,e.s,e.lev,e.o,e.vt,e.vk,e.p,l⟩
def OrdP.withT (e:OrdP) (l:List Int):OrdP:=⟨e.o,l⟩
def MatP.withT (e:MatP) (l:List Int):MatP:=⟨e.p,e.o,e.fi,l⟩
theorem plV_at {h:SH} {c:Nat} {k:Int} {j s:Nat} {a:Addr} (hj:(plV h c k)[j]?=some (s,a)):k≠0∧j=0∧s=0∧a=h.ad c:=by
 unfold plV at hj
 by_cases hk:k=0
 ·rw[if_pos hk] at hj;simp at hj
 rw[if_neg hk] at hj
 cases j with
 | zero=>simp at hj;exact⟨hk,rfl,hj.1.symm,hj.2.symm⟩
 | succ j=>simp at hj
theorem plS_at {h:SH} {q j s:Nat} {sn:SeenP} {a:Addr} (hj:(plS h q sn)[j]?=some (s,a)) (v:Int) :
 ∃ (c:Nat) (sn':SeenP),c<3∧a=h.ad (q * 3+c)∧(seCs sn).set c (.int .i64 v)=seCs sn'∧refsS sn'=(refsS sn).set j (s,v)∧j<(refsS sn).length∧reS z0 sn'=reS z0 sn∧∀ i,plS h i sn'=plS h i sn:=by
 obtain⟨so,st,sk⟩:=sn
 unfold plS at hj
 cases j with
 | zero =>
  simp only[List.getElem?_cons_zero,Option.some.injEq,Prod.mk.injEq] at hj
  obtain⟨rfl,rfl⟩:=hj
  exact⟨0,⟨v,st,sk⟩,by omega,rfl,rfl,rfl,by simp[refsS],rfl,fun _=>rfl⟩
 | succ j =>
  simp only[List.getElem?_cons_succ] at hj
  obtain⟨hk,rfl,rfl,rfl⟩:=plV_at hj
  have h1:∀ t,refsV t sk=[(0,t)]:=fun t=>by unfold refsV;rw[if_neg hk]
  refine⟨1,⟨so,v,sk⟩,by omega,rfl,rfl,?_,by simp[refsS,h1],?_,fun _=>rfl⟩
  ·unfold refsS;simp only[h1];rfl
  unfold reS reV;simp only[if_neg hk];rfl
theorem refsE_four {e:EvP} (h:e.kd=4):refsE e=(0,e.t) :: (3,e.p) :: e.scan.flatMap refsS:=by
 unfold refsE refsK
 rw[if_neg (by omega),if_neg (by omega),if_pos h]
theorem plE_four {hd:SH} {i:Nat} {p:EvP × SH} (h:p.1.kd=4):plE hd i p=(0,hd.ad (i * 9+1)) :: (3,hd.ad (i * 9+7)) :: flatI (plS p.2) 0 p.1.scan:=by
 unfold plE plK
 rw[if_neg (by omega),if_neg (by omega),if_pos h]
theorem plE_at {hd:SH} {i:Nat} {p:EvP × SH} {j s:Nat} {a:Addr} (h:(plE hd i p)[j]?=some (s,a)) (v:Int) :
 (∃ (c:Nat) (e':EvP),c<9∧a=hd.ad (i * 9+c)∧(evCs p).set c (.int .i64 v)=evCs (e',p.2)∧e'.scan=p.1.scan∧refsE e'=(refsE p.1).set j (s,v)∧reE z0 e'=reE z0 p.1∧∀ hd i,plE hd i (e',p.2)=plE hd i p) ∨
 ∃ (q c:Nat) (sn sn':SeenP),c<3∧p.1.scan[q]?=some sn∧a=p.2.ad (q * 3+c)∧(seCs sn).set c (.int .i64 v)=seCs sn'∧refsE (p.1.withS (p.1.scan.set q sn'))=(refsE p.1).set j (s,v)∧reE z0 (p.1.withS (p.1.scan.set q sn'))=reE z0 p.1∧∀ hd i,plE hd i ((p.1.withS (p.1.scan.set q sn')),p.2)=plE hd i p:=by
 obtain⟨⟨kd,t,se,lev,o,vt,vk,pr,scan⟩,hs⟩:=p
 unfold plE at h
 cases j with
 | zero =>
  simp only[List.getElem?_cons_zero,Option.some.injEq,Prod.mk.injEq] at h
  obtain⟨rfl,rfl⟩:=h
  exact .inl ⟨1,⟨kd,v,se,lev,o,vt,vk,pr,scan⟩,by omega,rfl,rfl,rfl,rfl,rfl,fun _ _=>rfl⟩
 | succ j =>
  simp only[List.getElem?_cons_succ] at h
  unfold plK at h
  simp only at h
  by_cases h1:kd=1
  ·rw[if_pos h1] at h
   cases j with
   | succ j=>simp at h
   | zero =>
    simp only[List.getElem?_cons_zero,Option.some.injEq,Prod.mk.injEq] at h
    obtain⟨rfl,rfl⟩:=h
    refine .inl ⟨2,⟨kd,t,v,lev,o,vt,vk,pr,scan⟩,by omega,rfl,rfl,rfl,?_,?_,fun _ _=>rfl⟩
    ·unfold refsE refsK;simp only[if_pos h1];rfl
    rw[reE_one (by exact h1),reE_one (by exact h1)];rfl
  by_cases h2:kd=2∨kd=3
  ·rw[if_neg h1,if_pos h2] at h
   cases j with
   | zero =>
    simp only[List.getElem?_cons_zero,Option.some.injEq,Prod.mk.injEq] at h
    obtain⟨rfl,rfl⟩:=h
    refine .inl ⟨4,⟨kd,t,se,lev,v,vt,vk,pr,scan⟩,by omega,rfl,rfl,rfl,?_,?_,fun _ _=>rfl⟩
    ·unfold refsE refsK;simp only[if_neg h1,if_pos h2];rfl
    rw[reE_two (by exact h2),reE_two (by exact h2)];rfl
   | succ j =>
    simp only[List.getElem?_cons_succ] at h
    obtain⟨hk,rfl,rfl,rfl⟩:=plV_at h
    have h3:∀ t,refsV t vk=[(0,t)]:=fun t=>by unfold refsV;rw[if_neg hk]
    refine .inl ⟨5,⟨kd,t,se,lev,o,v,vk,pr,scan⟩,by omega,rfl,rfl,rfl,?_,?_,fun _ _=>rfl⟩
    ·unfold refsE refsK;simp only[if_neg h1,if_pos h2,h3];rfl
    rw[reE_two (by exact h2),reE_two (by exact h2)]
    unfold reV
    simp only[if_neg hk]
    rfl
  by_cases h4:kd=4
  ·rw[if_neg h1,if_neg h2,if_pos h4] at h
   cases j with
   | zero =>
    simp only[List.getElem?_cons_zero,Option.some.injEq,Prod.mk.injEq] at h
    obtain⟨rfl,rfl⟩:=h
    refine .inl ⟨7,⟨kd,t,se,lev,o,vt,vk,v,scan⟩,by omega,rfl,rfl,rfl,?_,?_,fun _ _=>rfl⟩
    ·unfold refsE refsK;simp only[if_neg h1,if_neg h2,if_pos h4];rfl
    rw[reE_four (by exact h4),reE_four (by exact h4)];rfl
   | succ j =>
    simp only[List.getElem?_cons_succ] at h
    obtain⟨q,sn,j2,hq,hj2,rfl⟩:=flatI_get h
    obtain⟨c,sn',hc,ha,hcs,hr,hjl,hz,hp⟩:=plS_at hj2 v
    rw[Nat.zero_add] at ha
    refine .inr ⟨q,c,sn,sn',hc,hq,ha,hcs,?_,?_,fun hd2 i2=>?_⟩
    ·rw[refsE_four (by exact h4),refsE_four (by exact h4)]
     simp only[EvP.withS,List.set_cons_succ]
     rw[flat_set hr hjl hq,flatI_len lenPS]
    ·rw[reE_four (by exact h4),reE_four (by exact h4)]
     simp only[EvP.withS]
     rw[map_set_eq hz hq]
    rw[plE_four (by exact h4),plE_four (by exact h4)]
    simp only[EvP.withS]
    rw[flatI_set (f:=plS hs) hp hq]
  rw[if_neg h1,if_neg h2,if_neg h4] at h
  simp at h
theorem plTs_at {h:SH} {ts:List Int} {j s:Nat} {a:Addr} (hj:(plT h ts)[j]?=some (s,a)) (v:Int) :
 s=0∧j<ts.length∧a=h.ad j∧refsT (ts.set j v)=(refsT ts).set j (s,v)∧plT h (ts.set j v)=plT h ts:=by
 unfold plT at hj
 obtain⟨q,t,j2,hq,hj2,hk⟩:=flatI_get hj
 have hl:(flatI (fun j (_:Int)=>[((0:Nat),h.ad j)]) 0 (ts.take q)).length=q:=by
  rw[flatI_len (f:=fun j (_:Int)=>[((0:Nat),h.ad j)]) (g:=fun t:Int=>[((0:Nat),t)]) (fun _ _=>rfl),← map_flat,List.length_map,List.length_take]
  have:=(List.getElem?_eq_some_iff.1 hq).1
  omega
 cases j2 with
 | succ j2=>simp at hj2
 | zero =>
  simp only[List.getElem?_cons_zero,Option.some.injEq,Prod.mk.injEq] at hj2
  rw[hl] at hk
  obtain rfl:j=q:=hk
  obtain⟨rfl,rfl⟩:=hj2
  refine⟨rfl,(List.getElem?_eq_some_iff.1 hq).1,by rw[Nat.zero_add],?_,?_⟩
  ·unfold refsT;rw[List.map_set]
  unfold plT
  exact flatI_set (f:=fun j (_:Int)=>[((0:Nat),h.ad j)]) (fun _=>rfl) hq
theorem ints_set2 (ts:List Int) (j:Nat) (v:Int):(ints ts).set j (.int .i64 v)=ints (ts.set j v):=by unfold ints;rw[List.map_set]
theorem plO_at {hd:SH} {i:Nat} {p:OrdP × SH} {j s:Nat} {a:Addr} (h:(plO hd i p)[j]?=some (s,a)) (v:Int) :
 (∃ (c:Nat) (e':OrdP),c<2∧a=hd.ad (i * 2+c)∧(odCs p).set c (.int .i64 v)=odCs (e',p.2)∧e'.ts=p.1.ts∧refsO e'=(refsO p.1).set j (s,v)∧reO z0 e'=reO z0 p.1∧∀ hd i,plO hd i (e',p.2)=plO hd i p) ∨
 ∃ q,q<p.1.ts.length∧a=p.2.ad q∧refsO (p.1.withT (p.1.ts.set q v))=(refsO p.1).set j (s,v)∧reO z0 (p.1.withT (p.1.ts.set q v))=reO z0 p.1∧∀ hd i,plO hd i ((p.1.withT (p.1.ts.set q v)),p.2)=plO hd i p:=by
 obtain⟨⟨o,ts⟩,hs⟩:=p
 unfold plO at h
 cases j with
 | zero =>
  simp only[List.getElem?_cons_zero,Option.some.injEq,Prod.mk.injEq] at h
  obtain⟨rfl,rfl⟩:=h
  exact .inl ⟨0,⟨v,ts⟩,by omega,rfl,rfl,rfl,rfl,rfl,fun _ _=>rfl⟩
 | succ j =>
  simp only[List.getElem?_cons_succ] at h
  obtain⟨rfl,hl,rfl,h1,h2⟩:=plTs_at h v
  refine .inr ⟨j,hl,rfl,?_,?_,fun _ _=>?_⟩
  ·unfold refsO;simp only[OrdP.withT,h1];rfl
  ·unfold reO;simp only[OrdP.withT];rw[map_set_same (f:=z0 0) (x:=v) (List.getElem?_eq_getElem hl) rfl]
  unfold plO;simp only[OrdP.withT,h2]
theorem plM_at {hd:SH} {i:Nat} {p:MatP × SH} {j s:Nat} {a:Addr} (h:(plM hd i p)[j]?=some (s,a)) (v:Int) :
 (∃ (c:Nat) (e':MatP),c<4∧a=hd.ad (i * 4+c)∧(maCs p).set c (.int .i64 v)=maCs (e',p.2)∧e'.ts=p.1.ts∧refsM e'=(refsM p.1).set j (s,v)∧reM z0 e'=reM z0 p.1∧∀ hd i,plM hd i (e',p.2)=plM hd i p) ∨
 ∃ q,q<p.1.ts.length∧a=p.2.ad q∧refsM (p.1.withT (p.1.ts.set q v))=(refsM p.1).set j (s,v)∧reM z0 (p.1.withT (p.1.ts.set q v))=reM z0 p.1∧∀ hd i,plM hd i ((p.1.withT (p.1.ts.set q v)),p.2)=plM hd i p:=by
 obtain⟨⟨pr,o,fi,ts⟩,hs⟩:=p
 unfold plM at h
 cases j with
 | zero =>
  simp only[List.getElem?_cons_zero,Option.some.injEq,Prod.mk.injEq] at h
  obtain⟨rfl,rfl⟩:=h
  exact .inl ⟨0,⟨v,o,fi,ts⟩,by omega,rfl,rfl,rfl,rfl,rfl,fun _ _=>rfl⟩
 | succ j =>
  cases j with
  | zero =>
   simp only[List.getElem?_cons_zero,List.getElem?_cons_succ,Option.some.injEq,Prod.mk.injEq] at h
   obtain⟨rfl,rfl⟩:=h
   exact .inl ⟨1,⟨pr,v,fi,ts⟩,by omega,rfl,rfl,rfl,rfl,rfl,fun _ _=>rfl⟩
  | succ j =>
   simp only[List.getElem?_cons_succ] at h
   obtain⟨rfl,hl,rfl,h1,h2⟩:=plTs_at h v
   refine .inr ⟨j,hl,rfl,?_,?_,fun _ _=>?_⟩
   ·unfold refsM;simp only[MatP.withT,h1];rfl
   ·unfold reM;simp only[MatP.withT];rw[map_set_same (f:=z0 0) (x:=v) (List.getElem?_eq_getElem hl) rfl]
   unfold plM;simp only[MatP.withT,h2]
theorem plW_at {hd:SH} {i:Nat} {p:WantP} {j s:Nat} {a:Addr} (h:(plW hd i p)[j]?=some (s,a)) (v:Int) :
 ∃ (c:Nat) (e':WantP),c<2∧a=hd.ad (i * 2+c)∧(waCs p).set c (.int .i64 v)=waCs e'∧refsW e'=(refsW p).set j (s,v)∧reW z0 e'=reW z0 p∧∀ hd i,plW hd i e'=plW hd i p:=by
 obtain⟨se,b⟩:=p
 unfold plW at h
 cases j with
 | succ j=>simp at h
 | zero =>
  simp only[List.getElem?_cons_zero,Option.some.injEq,Prod.mk.injEq] at h
  obtain⟨rfl,rfl⟩:=h
  exact⟨0,⟨v,b⟩,by omega,rfl,rfl,rfl,rfl,fun _ _=>rfl⟩
structure PutP (B:Nat) (Y:World) (h h':HistM) (k s:Nat) (v:Int):Prop where
 own:HOwn B Y h'
 cs:h'.cs=h.cs
 nm:h'.tr=h.tr∧h'.se=h.se∧h'.ob=h.ob∧h'.pr=h.pr
 pl:plcs h'=plcs h
 rf:refs h'.pl=(refs h.pl).set k (s,v)
 sk:reH z0 h'.pl=reH z0 h.pl
 hd:h'.ev.2.map (·.2)=h.ev.2.map (·.2)∧h'.od.2.map (·.2)=h.od.2.map (·.2)∧h'.ma.2.map (·.2)=h.ma.2.map (·.2)
def rEv (h:HistM):List (Nat × Int):=h.ev.2.flatMap fun p=>refsE p.1
def rOd (h:HistM):List (Nat × Int):=h.od.2.flatMap fun p=>refsO p.1
def rMa (h:HistM):List (Nat × Int):=h.ma.2.flatMap fun p=>refsM p.1
def rWa (h:HistM):List (Nat × Int):=h.wa.2.flatMap refsW
theorem refs_parts (h:HistM):refs h.pl=rEv h++(rOd h++(rMa h++rWa h)):=by
 unfold refs HistM.pl rEv rOd rMa rWa
 simp only[List.flatMap_map]
theorem sk_parts {h h':HistM} (hn:h'.tr=h.tr∧h'.se=h.se∧h'.ob=h.ob∧h'.pr=h.pr) (h1:h'.ev.2.map (fun p=>reE z0 p.1)=h.ev.2.map fun p=>reE z0 p.1) (h2:h'.od.2.map (fun p=>reO z0 p.1)=h.od.2.map fun p=>reO z0 p.1)
 (h3:h'.ma.2.map (fun p=>reM z0 p.1)=h.ma.2.map fun p=>reM z0 p.1) (h4:h'.wa.2.map (reW z0)=h.wa.2.map (reW z0)):reH z0 h'.pl=reH z0 h.pl:=by
 unfold reH HistM.pl
 simp only[List.map_map,hn.1,hn.2.1,hn.2.2.1,hn.2.2.2]
 rw[h4]
 have e1:List.map (reE z0 ∘ fun x=>x.1) h'.ev.2=List.map (reE z0 ∘ fun x=>x.1) h.ev.2:=h1
 have e2:List.map (reO z0 ∘ fun x=>x.1) h'.od.2=List.map (reO z0 ∘ fun x=>x.1) h.od.2:=h2
 have e3:List.map (reM z0 ∘ fun x=>x.1) h'.ma.2=List.map (reM z0 ∘ fun x=>x.1) h.ma.2:=h3
 rw[e1,e2,e3]
section
variable {B k s : Nat} {X : World} {h : HistM} {a : Addr}
theorem ad_own {w:World} {base sz:Nat} {t:TypeId} {hd:SH} {xs:List Value} (hr:w.ownsRow base t sz (.slice hd.A hd.n hd.c) hd.n xs) (hn:0<hd.n):∃ g,hd.A=some ⟨g,0,none⟩∧∀ j,hd.ad j=⟨g,j,none⟩:=by
 obtain⟨g,hg⟩:=own_pos hr hn
 exact⟨g,hg,fun j=>by rw[SH.ad_is hg,Nat.zero_add]⟩
theorem keep_own {t:TypeId} {base sz n c g:Nat} {xs:List Value} (hr:X.ownsRow base t sz (.slice (some ⟨g,0,none⟩) n c) n xs) (j:Nat) (u:Value):KeepT t X (X.setCell ⟨g,j,none⟩ u):=by
 obtain⟨_,_,cur,hb⟩:=own_in hr (g:=g) rfl
 exact box_turn hb j u
def rowT (t:TypeId):Bool:=Nat.beq t 60 || (Nat.beq t 66 || (Nat.beq t 69 || (Nat.beq t 72 || (Nat.beq t 64 || Nat.beq t 3))))
def ABlk (B:Nat) (X:World) (a:Addr):Prop:=∃ (g j:Nat) (t:TypeId) (cs:Array Value),a=⟨g,j,none⟩∧B≤g∧Blk X g t cs∧rowT t=true
theorem ablk {t:TypeId} {sz n c g:Nat} {xs:List Value} (hr:X.ownsRow B t sz (.slice (some ⟨g,0,none⟩) n c) n xs) (ht:rowT t=true) (j:Nat):ABlk B X ⟨g,j,none⟩:=by
 obtain⟨h1,_,cur,hb⟩:=own_in hr (g:=g) rfl
 exact⟨g,j,t,cur,rfl,h1,hb,ht⟩
theorem put_ev (ho:HOwn B X h) (hk:(flatI (plE h.ev.1) 0 h.ev.2)[k]?=some (s,a)) (v:Int):ABlk B X a∧∃ h',PutP B (X.setCell a (.int .i64 v)) h h' k s v:=by
 have hkl:=(List.getElem?_eq_some_iff.1 hk).1
 rw[flatI_len (g:=fun p:EvP × SH=>refsE p.1) lenPE] at hkl
 obtain⟨q,p,j,hq,hj,hkj⟩:=flatI_get hk
 rw[flatI_len (g:=fun p:EvP × SH=>refsE p.1) lenPE] at hkj
 have hql:=(List.getElem?_eq_some_iff.1 hq).1
 have hjl:j<(refsE p.1).length:=by rw[← lenPE (h:=h.ev.1) (0+q) p];exact (List.getElem?_eq_some_iff.1 hj).1
 obtain⟨g,hA,had⟩:=ad_own ho.ev (by have:=own_long evCs_len (by omega) ho.ev;omega)
 have hA':h.ev.1=⟨some ⟨g,0,none⟩,h.ev.1.n,h.ev.1.c⟩:=by rw[← hA]
 rcases plE_at hj v with ⟨c,e',hc,ha,hcs,hsc,hr,hz,hp⟩ | ⟨q2,c,sn,sn',hc,hq2,ha,hcs,hr,hz,hp⟩
 ·rw[Nat.zero_add,had] at ha
  subst ha
  have hev:=ho.ev
  rw[hA] at hev
  have k2:=keep_own hev (q * 9+c) (.int .i64 v)
  have st:=(hev.stored (q * 9+c) (.int .i64 v)).1
  rw[fm_set evCs_len hq hc hcs] at st
  refine⟨ablk hev rfl _,{h with ev:=(h.ev.1,h.ev.2.set q (e',p.2))},⟨ho.nm.keepT k2 (by decide),by rw[hA];exact st,k2.own ho.od (by decide),k2.own ho.ma (by decide),k2.own ho.wa (by decide),?_,ho.it.keepT k2 (by decide)⟩,rfl,⟨rfl,rfl,rfl,rfl⟩,?_,?_,?_,⟨map_set_eq (z:=(·.2)) (x:=p) (x':=(e',p.2)) rfl hq,rfl,rfl⟩⟩
  ·have:=ho.sc.keepT k2 (t:=64) (by decide)
   rw[← map_set_eq (z:=fun p:EvP × SH=>(p.1.scan.flatMap seCs,p.2)) (x':=(e',p.2)) (by simp only;rw[hsc]) hq] at this
   exact this
  ·unfold plcs
   rw[flatI_set (f:=plE h.ev.1) (x':=(e',p.2)) (hp h.ev.1) hq]
  ·have e:(h.ev.2.set q (e',p.2)).flatMap (fun p=>refsE p.1)=(rEv h).set k (s,v):=by
    rw[hkj]
    exact flat_set (g:=fun p:EvP × SH=>refsE p.1) (x':=(e',p.2)) hr hjl hq
   rw[refs_parts,refs_parts,set_app_l (show k<(rEv h).length from hkl),← e]
   rfl
  exact sk_parts ⟨rfl,rfl,rfl,rfl⟩ (map_set_eq (z:=fun p:EvP × SH=>reE z0 p.1) (x':=(e',p.2)) hz hq) rfl rfl rfl
 have hsq:(h.ev.2.map fun p=>(p.1.scan.flatMap seCs,p.2))[q]?=some (p.1.scan.flatMap seCs,p.2):=by rw[List.getElem?_map,hq];rfl
 have hso:=ho.sc.own q _ hsq
 obtain⟨g2,hA2,had2⟩:=ad_own hso (by have:=own_long seCs_len (by omega) hso;have:=(List.getElem?_eq_some_iff.1 hq2).1;omega)
 rw[had2] at ha
 subst ha
 have hso2:=hso
 rw[hA2] at hso2
 have k2:=keep_own hso2 (q2 * 3+c) (.int .i64 v)
 have hse:p.2=⟨some ⟨g2,0,none⟩,p.2.n,p.2.c⟩:=by rw[← hA2]
 have hsq2:=hsq
 rw[hse] at hsq2
 have st:=ho.sc.store hsq2 (q2 * 3+c) (.int .i64 v)
 rw[fm_set seCs_len hq2 hc hcs,← hse] at st
 refine⟨ablk hso2 rfl _,{h with ev:=(h.ev.1,h.ev.2.set q (p.1.withS (p.1.scan.set q2 sn'),p.2))},⟨ho.nm.keepT k2 (by decide),?_,k2.own ho.od (by decide),k2.own ho.ma (by decide),k2.own ho.wa (by decide),?_,ho.it.keepT k2 (by decide)⟩,rfl,⟨rfl,rfl,rfl,rfl⟩,?_,?_,?_,⟨map_set_eq (z:=(·.2)) (x:=p) (x':=(p.1.withS (p.1.scan.set q2 sn'),p.2)) rfl hq,rfl,rfl⟩⟩
 ·show World.ownsRow _ _ _ _ _ _ ((h.ev.2.set q (p.1.withS (p.1.scan.set q2 sn'),p.2)).flatMap evCs)
  rw[fm_same (enc:=evCs) (x':=(p.1.withS (p.1.scan.set q2 sn'),p.2)) hq rfl]
  exact k2.own ho.ev (by decide)
 ·show RG _ _ _ _ ((h.ev.2.set q (p.1.withS (p.1.scan.set q2 sn'),p.2)).map fun p=>(p.1.scan.flatMap seCs,p.2))
  rw[List.map_set]
  exact st
 ·unfold plcs
  rw[flatI_set (f:=plE h.ev.1) (x':=(p.1.withS (p.1.scan.set q2 sn'),p.2)) (hp h.ev.1) hq]
 ·have e:(h.ev.2.set q (p.1.withS (p.1.scan.set q2 sn'),p.2)).flatMap (fun p=>refsE p.1)=(rEv h).set k (s,v):=by
   rw[hkj]
   exact flat_set (g:=fun p:EvP × SH=>refsE p.1) (x':=(p.1.withS (p.1.scan.set q2 sn'),p.2)) hr hjl hq
  rw[refs_parts,refs_parts,set_app_l (show k<(rEv h).length from hkl),← e]
  rfl
 exact sk_parts ⟨rfl,rfl,rfl,rfl⟩ (map_set_eq (z:=fun p:EvP × SH=>reE z0 p.1) (x':=(p.1.withS (p.1.scan.set q2 sn'),p.2)) hz hq) rfl rfl rfl
theorem put_od (ho:HOwn B X h) (hk:(flatI (plO h.od.1) 0 h.od.2)[k]?=some (s,a)) (v:Int):ABlk B X a∧∃ h',PutP B (X.setCell a (.int .i64 v)) h h' ((rEv h).length+k) s v:=by
 have hkl:=(List.getElem?_eq_some_iff.1 hk).1
 rw[flatI_len (g:=fun p:OrdP × SH=>refsO p.1) lenPO] at hkl
 obtain⟨q,p,j,hq,hj,hkj⟩:=flatI_get hk
 rw[flatI_len (g:=fun p:OrdP × SH=>refsO p.1) lenPO] at hkj
 have hql:=(List.getElem?_eq_some_iff.1 hq).1
 have hjl:j<(refsO p.1).length:=by rw[← lenPO (h:=h.od.1) (0+q) p];exact (List.getElem?_eq_some_iff.1 hj).1
 obtain⟨g,hA,had⟩:=ad_own ho.od (by have:=own_long odCs_len (by omega) ho.od;omega)
 rcases plO_at hj v with ⟨c,e',hc,ha,hcs,hsc,hr,hz,hp⟩ | ⟨q2,hq2,ha,hr,hz,hp⟩
 ·rw[Nat.zero_add,had] at ha
  subst ha
  have hev:=ho.od
  rw[hA] at hev
  have k2:=keep_own hev (q * 2+c) (.int .i64 v)
  have st:=(hev.stored (q * 2+c) (.int .i64 v)).1
  rw[fm_set odCs_len hq hc hcs] at st
  refine⟨ablk hev rfl _,{h with od:=(h.od.1,h.od.2.set q (e',p.2))},⟨ho.nm.keepT k2 (by decide),k2.own ho.ev (by decide),by rw[hA];exact st,k2.own ho.ma (by decide),k2.own ho.wa (by decide),ho.sc.keepT k2 (by decide),?_⟩,rfl,⟨rfl,rfl,rfl,rfl⟩,?_,?_,?_,⟨rfl,map_set_eq (z:=(·.2)) (x:=p) (x':=(e',p.2)) rfl hq,rfl⟩⟩
  ·have:=ho.it.keepT k2 (t:=3) (by decide)
   rw[← map_set_eq (z:=fun p:OrdP × SH=>(ints p.1.ts,p.2)) (x':=(e',p.2)) (by simp only;rw[hsc]) hq] at this
   exact this
  ·unfold plcs
   rw[flatI_set (f:=plO h.od.1) (x':=(e',p.2)) (hp h.od.1) hq]
  ·have e:(h.od.2.set q (e',p.2)).flatMap (fun p=>refsO p.1)=(rOd h).set k (s,v):=by
    rw[hkj]
    exact flat_set (g:=fun p:OrdP × SH=>refsO p.1) (x':=(e',p.2)) hr hjl hq
   rw[refs_parts,refs_parts,set_app rfl,set_app_l (show k<(rOd h).length from hkl),← e]
   rfl
  exact sk_parts ⟨rfl,rfl,rfl,rfl⟩ rfl (map_set_eq (z:=fun p:OrdP × SH=>reO z0 p.1) (x':=(e',p.2)) hz hq) rfl rfl
 have hsq:((h.od.2.map fun p=>(ints p.1.ts,p.2))++h.ma.2.map fun p=>(ints p.1.ts,p.2))[q]?=some (ints p.1.ts,p.2):=by rw[List.getElem?_append_left (by simpa using hql),List.getElem?_map,hq];rfl
 have hso:=ho.it.own q _ hsq
 obtain⟨g2,hA2,had2⟩:=ad_own hso (by have:=hso.1;unfold ints at this;simp at this;show 0<p.2.n;omega)
 rw[had2] at ha
 subst ha
 have hso2:=hso
 rw[hA2] at hso2
 have k2:=keep_own hso2 q2 (.int .i64 v)
 have hse:p.2=⟨some ⟨g2,0,none⟩,p.2.n,p.2.c⟩:=by rw[← hA2]
 have hsq2:=hsq
 rw[hse] at hsq2
 have st:=ho.it.store hsq2 q2 (.int .i64 v)
 rw[ints_set2,← hse] at st
 refine⟨ablk hso2 rfl _,{h with od:=(h.od.1,h.od.2.set q (p.1.withT (p.1.ts.set q2 v),p.2))},⟨ho.nm.keepT k2 (by decide),k2.own ho.ev (by decide),?_,k2.own ho.ma (by decide),k2.own ho.wa (by decide),ho.sc.keepT k2 (by decide),?_⟩,rfl,⟨rfl,rfl,rfl,rfl⟩,?_,?_,?_,⟨rfl,map_set_eq (z:=(·.2)) (x:=p) (x':=(p.1.withT (p.1.ts.set q2 v),p.2)) rfl hq,rfl⟩⟩
 ·show World.ownsRow _ _ _ _ _ _ ((h.od.2.set q (p.1.withT (p.1.ts.set q2 v),p.2)).flatMap odCs)
  rw[fm_same (enc:=odCs) (x':=(p.1.withT (p.1.ts.set q2 v),p.2)) hq rfl]
  exact k2.own ho.od (by decide)
 ·show RG _ _ _ _ (((h.od.2.set q (p.1.withT (p.1.ts.set q2 v),p.2)).map fun p=>(ints p.1.ts,p.2))++_)
  rw[List.map_set,← set_app_l (by simpa using hql)]
  exact st
 ·unfold plcs
  rw[flatI_set (f:=plO h.od.1) (x':=(p.1.withT (p.1.ts.set q2 v),p.2)) (hp h.od.1) hq]
 ·have e:(h.od.2.set q (p.1.withT (p.1.ts.set q2 v),p.2)).flatMap (fun p=>refsO p.1)=(rOd h).set k (s,v):=by
   rw[hkj]
   exact flat_set (g:=fun p:OrdP × SH=>refsO p.1) (x':=(p.1.withT (p.1.ts.set q2 v),p.2)) hr hjl hq
  rw[refs_parts,refs_parts,set_app rfl,set_app_l (show k<(rOd h).length from hkl),← e]
  rfl
 exact sk_parts ⟨rfl,rfl,rfl,rfl⟩ rfl (map_set_eq (z:=fun p:OrdP × SH=>reO z0 p.1) (x':=(p.1.withT (p.1.ts.set q2 v),p.2)) hz hq) rfl rfl
theorem put_ma (ho:HOwn B X h) (hk:(flatI (plM h.ma.1) 0 h.ma.2)[k]?=some (s,a)) (v:Int):ABlk B X a∧∃ h',PutP B (X.setCell a (.int .i64 v)) h h' ((rEv h).length+((rOd h).length+k)) s v:=by
 have hkl:=(List.getElem?_eq_some_iff.1 hk).1
 rw[flatI_len (g:=fun p:MatP × SH=>refsM p.1) lenPM] at hkl
 obtain⟨q,p,j,hq,hj,hkj⟩:=flatI_get hk
 rw[flatI_len (g:=fun p:MatP × SH=>refsM p.1) lenPM] at hkj
 have hql:=(List.getElem?_eq_some_iff.1 hq).1
 have hjl:j<(refsM p.1).length:=by rw[← lenPM (h:=h.ma.1) (0+q) p];exact (List.getElem?_eq_some_iff.1 hj).1
 obtain⟨g,hA,had⟩:=ad_own ho.ma (by have:=own_long maCs_len (by omega) ho.ma;omega)
 rcases plM_at hj v with ⟨c,e',hc,ha,hcs,hsc,hr,hz,hp⟩ | ⟨q2,hq2,ha,hr,hz,hp⟩
 ·rw[Nat.zero_add,had] at ha
  subst ha
  have hev:=ho.ma
  rw[hA] at hev
  have k2:=keep_own hev (q * 4+c) (.int .i64 v)
  have st:=(hev.stored (q * 4+c) (.int .i64 v)).1
  rw[fm_set maCs_len hq hc hcs] at st
  refine⟨ablk hev rfl _,{h with ma:=(h.ma.1,h.ma.2.set q (e',p.2))},⟨ho.nm.keepT k2 (by decide),k2.own ho.ev (by decide),k2.own ho.od (by decide),by rw[hA];exact st,k2.own ho.wa (by decide),ho.sc.keepT k2 (by decide),?_⟩,rfl,⟨rfl,rfl,rfl,rfl⟩,?_,?_,?_,⟨rfl,rfl,map_set_eq (z:=(·.2)) (x:=p) (x':=(e',p.2)) rfl hq⟩⟩
  ·have:=ho.it.keepT k2 (t:=3) (by decide)
   rw[← map_set_eq (z:=fun p:MatP × SH=>(ints p.1.ts,p.2)) (x':=(e',p.2)) (by simp only;rw[hsc]) hq] at this
   exact this
  ·unfold plcs
   rw[flatI_set (f:=plM h.ma.1) (x':=(e',p.2)) (hp h.ma.1) hq]
  ·have e:(h.ma.2.set q (e',p.2)).flatMap (fun p=>refsM p.1)=(rMa h).set k (s,v):=by
    rw[hkj]
    exact flat_set (g:=fun p:MatP × SH=>refsM p.1) (x':=(e',p.2)) hr hjl hq
   rw[refs_parts,refs_parts,set_app rfl,set_app rfl,set_app_l (show k<(rMa h).length from hkl),← e]
   rfl
  exact sk_parts ⟨rfl,rfl,rfl,rfl⟩ rfl rfl (map_set_eq (z:=fun p:MatP × SH=>reM z0 p.1) (x':=(e',p.2)) hz hq) rfl
 have hol:(h.od.2.map fun p=>(ints p.1.ts,p.2)).length=h.od.2.length:=List.length_map _
 have hsq:((h.od.2.map fun p=>(ints p.1.ts,p.2))++h.ma.2.map fun p=>(ints p.1.ts,p.2))[h.od.2.length+q]?=some (ints p.1.ts,p.2):=by rw[List.getElem?_append_right (by rw[hol];omega),hol,Nat.add_sub_cancel_left,List.getElem?_map,hq];rfl
 have hso:=ho.it.own _ _ hsq
 obtain⟨g2,hA2,had2⟩:=ad_own hso (by have:=hso.1;unfold ints at this;simp at this;show 0<p.2.n;omega)
 rw[had2] at ha
 subst ha
 have hso2:=hso
 rw[hA2] at hso2
 have k2:=keep_own hso2 q2 (.int .i64 v)
 have hse:p.2=⟨some ⟨g2,0,none⟩,p.2.n,p.2.c⟩:=by rw[← hA2]
 have hsq2:=hsq
 rw[hse] at hsq2
 have st:=ho.it.store hsq2 q2 (.int .i64 v)
 rw[ints_set2,← hse,set_app hol] at st
 refine⟨ablk hso2 rfl _,{h with ma:=(h.ma.1,h.ma.2.set q (p.1.withT (p.1.ts.set q2 v),p.2))},⟨ho.nm.keepT k2 (by decide),k2.own ho.ev (by decide),k2.own ho.od (by decide),?_,k2.own ho.wa (by decide),ho.sc.keepT k2 (by decide),?_⟩,rfl,⟨rfl,rfl,rfl,rfl⟩,?_,?_,?_,⟨rfl,rfl,map_set_eq (z:=(·.2)) (x:=p) (x':=(p.1.withT (p.1.ts.set q2 v),p.2)) rfl hq⟩⟩
 ·show World.ownsRow _ _ _ _ _ _ ((h.ma.2.set q (p.1.withT (p.1.ts.set q2 v),p.2)).flatMap maCs)
  rw[fm_same (enc:=maCs) (x':=(p.1.withT (p.1.ts.set q2 v),p.2)) hq rfl]
  exact k2.own ho.ma (by decide)
 ·show RG _ _ _ _ (_++(h.ma.2.set q (p.1.withT (p.1.ts.set q2 v),p.2)).map fun p=>(ints p.1.ts,p.2))
  rw[List.map_set]
  exact st
 ·unfold plcs
  rw[flatI_set (f:=plM h.ma.1) (x':=(p.1.withT (p.1.ts.set q2 v),p.2)) (hp h.ma.1) hq]
 ·have e:(h.ma.2.set q (p.1.withT (p.1.ts.set q2 v),p.2)).flatMap (fun p=>refsM p.1)=(rMa h).set k (s,v):=by
   rw[hkj]
   exact flat_set (g:=fun p:MatP × SH=>refsM p.1) (x':=(p.1.withT (p.1.ts.set q2 v),p.2)) hr hjl hq
  rw[refs_parts,refs_parts,set_app rfl,set_app rfl,set_app_l (show k<(rMa h).length from hkl),← e]
  rfl
 exact sk_parts ⟨rfl,rfl,rfl,rfl⟩ rfl rfl (map_set_eq (z:=fun p:MatP × SH=>reM z0 p.1) (x':=(p.1.withT (p.1.ts.set q2 v),p.2)) hz hq) rfl
theorem put_wa (ho:HOwn B X h) (hk:(flatI (plW h.wa.1) 0 h.wa.2)[k]?=some (s,a)) (v:Int):ABlk B X a∧∃ h',PutP B (X.setCell a (.int .i64 v)) h h' ((rEv h).length+((rOd h).length+((rMa h).length+k))) s v:=by
 obtain⟨q,p,j,hq,hj,hkj⟩:=flatI_get hk
 rw[flatI_len (g:=refsW) lenPW] at hkj
 have hql:=(List.getElem?_eq_some_iff.1 hq).1
 have hjl:j<(refsW p).length:=(List.getElem?_eq_some_iff.1 hj).1
 obtain⟨g,hA,had⟩:=ad_own ho.wa (by have:=own_long waCs_len (by omega) ho.wa;omega)
 obtain⟨c,e',hc,ha,hcs,hr,hz,hp⟩:=plW_at hj v
 rw[Nat.zero_add,had] at ha
 subst ha
 have hev:=ho.wa
 rw[hA] at hev
 have k2:=keep_own hev (q * 2+c) (.int .i64 v)
 have st:=(hev.stored (q * 2+c) (.int .i64 v)).1
 rw[fm_set waCs_len hq hc hcs] at st
 refine⟨ablk hev rfl _,{h with wa:=(h.wa.1,h.wa.2.set q e')},⟨ho.nm.keepT k2 (by decide),k2.own ho.ev (by decide),k2.own ho.od (by decide),k2.own ho.ma (by decide),by rw[hA];exact st,ho.sc.keepT k2 (by decide),ho.it.keepT k2 (by decide)⟩,rfl,⟨rfl,rfl,rfl,rfl⟩,?_,?_,?_,⟨rfl,rfl,rfl⟩⟩
 ·unfold plcs
  rw[flatI_set (f:=plW h.wa.1) (x':=e') (hp h.wa.1) hq]
 ·have e:(h.wa.2.set q e').flatMap refsW=(rWa h).set k (s,v):=by
   rw[hkj]
   exact flat_set (g:=refsW) (x':=e') hr hjl hq
  rw[refs_parts,refs_parts,set_app rfl,set_app rfl,set_app rfl,← e]
  rfl
 exact sk_parts ⟨rfl,rfl,rfl,rfl⟩ rfl rfl rfl (map_set_eq hz hq)
theorem put_place (ho:HOwn B X h) (hk:(plcs h)[k]?=some (s,a)) (v:Int):ABlk B X a∧∃ h',PutP B (X.setCell a (.int .i64 v)) h h' k s v:=by
 unfold plcs at hk
 rcases app_get hk with ⟨_,hk1⟩ | ⟨k1,rfl,hk1⟩
 ·exact put_ev ho hk1 v
 rw[flatI_len (g:=fun p:EvP × SH=>refsE p.1) lenPE]
 rcases app_get hk1 with ⟨_,hk2⟩ | ⟨k2,rfl,hk2⟩
 ·exact put_od ho hk2 v
 rw[flatI_len (g:=fun p:OrdP × SH=>refsO p.1) lenPO]
 rcases app_get hk2 with ⟨_,hk3⟩ | ⟨k3,rfl,hk3⟩
 ·exact put_ma ho hk3 v
 rw[flatI_len (g:=fun p:MatP × SH=>refsM p.1) lenPM]
 exact put_wa ho hk3 v
end
end Go.Proofs.YtmkknbonmameoaaGreatDoor
